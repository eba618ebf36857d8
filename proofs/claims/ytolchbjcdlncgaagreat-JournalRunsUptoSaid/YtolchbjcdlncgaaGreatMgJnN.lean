/- Texts joined: JnN. -/
import Derived.Test.YtolchbjcdlncgaaGreatMgDgW
import Derived.Test.YtolchbjcdlncgaaGreatMgJnL
/- The journal: the iterator of Records hands over every record. -/
namespace Go.Proofs.YtolchbjcdlncgaaGreat.Dg
open Go.RowKit Go.Shelf
variable {w w' : World} {base a g gj torn B : Nat} {v row u : Value} {rs : List (List UInt8)} {d : Dst} {l : List UInt8}
attribute [local go_sem] Oper.semAt_some
/-- append of bytes to nil, at a step of a region inside a fence. -/
theorem stepIn_copy {n : Nat} {ops : Array Oper} {o : Oper} {ac : Act} {K : Act → World → Prop} {Q : Exit → Act → World → Prop} {E : Prop} {v' : Value} (hgd : o.guard = none) (x : Operand)
    (ho : o.op = .call { callee := .builtin .append, args := #[.const (.slice none 0 0), x], argTypes := #[27, 27] }) (y : Value) (hy : ac.eval x = y)
    (hr : (Builtin.append_ #[27, 27] o.type #[.slice none 0 0, y]).run Tryz.prog w = .ok v' w') (k : K (ac.put o.dst v') w') :
    if Region.wanted o (yielded ops ac.tmps) = true then Oper.wpIn Fence.wide n Tryz.prog o ac w K Q else E := by
  have hw : Region.wanted o (yielded ops ac.tmps) = true := by simp [Region.wanted, hgd]
  rw [if_pos hw]
  refine ⟨fun _ _ => trivial, ?_⟩
  have h0 : ac.eval (.const (.slice none 0 0)) = .slice none 0 0 := rfl
  rw [show Fence.wide.round = none from rfl, Oper.semAt_none]
  unfold execOp
  simp only [ho, resolve, invoke, builtin, Sem.run_bind, Sem.run_pure, Result.andThen_ok, List.map_toArray, List.map_cons, List.map_nil, h0, hy, hr]
  exact k
/-- Bytes, copied. -/
theorem copy_bs (h : Bs w B u l) (hl : l.length ≤ 100000000000000) :
    ∃ A c w', (Builtin.append_ #[27, 27] 27 #[.slice none 0 0, u]).run Tryz.prog w = .ok (.slice A l.length c) w' ∧ Ob w' w.heap.size (.slice A l.length c) l ∧ Ab w w' := by
  obtain ⟨v', w', hr, ho, hg, -⟩ := app_bytes (ty := 27) (Ob.nil w w.heap.size) (src_bs Tryz.underlying27 h) (by simp; omega) (Nat.le_refl _)
  rw [List.nil_append] at ho
  obtain ⟨A, c, rfl, -, -⟩ := ho.len_cap
  exact ⟨A, c, w', hr, ho, grown_ab (Ab.refl w) hg (fun k hk => by cases hk)⟩
set_option maxRecDepth 100000 in
set_option maxHeartbeats 2000000 in
theorem hands_any (w wT : World) (hT : Below w.heap.size w wT) (b : Nat) (A : Option Addr) (c : Nat) (n₀ : Nat) (hn : n₀ = w.heap.size) (hb : Bk w b 100 #[.slice A rs.length c]) (ps : List Pr) (hr : Rl 104 w B (.slice A rs.length c) ps) (hl : ps.length = rs.length) (hs : ∀ p ∈ ps, p.bytes.length ≤ 100000000000000) :
    Hands Tryz.prog 61 #[.pointer (some ⟨b, 0, none⟩)] (fun x : Pr => #[.int .i64 (x.at_ : Int), x.val]) (fun pre x W => x.at_ = (ps.getD pre.length ⟨0, .slice none 0 0, []⟩).at_ ∧ x.bytes = (ps.getD pre.length ⟨0, .slice none 0 0, []⟩).bytes ∧ pre.length < ps.length ∧ Bs W W.heap.size x.val x.bytes) (fun xs => xs.length = ps.length) n₀ wT := by
  intro l J W hWT hJ hY h0
  have hW : Below w.heap.size w W := hT.trans (Below.mono hWT hT.size)
  subst hn
  refine (callsIn_wide (n := 2)).1 ?_
  refine callsIn_of_wp Tryz.func61 rfl trivial ?_ rfl
  simp only [Tryz.ntmps61, List.size_toArray, List.length_cons, List.length_nil, Nat.reduceAdd, Nat.reduceSub, Array.replicate_succ, Array.replicate_zero, List.push_toArray, List.append_toArray, List.nil_append, List.cons_append]
  have c0 : W.cell? ⟨b, 0, none⟩ = some (.slice A rs.length c) := (hW.cell (p := ⟨b, 0, none⟩) hb.lt).trans (hb.cell rfl)
  obtain ⟨N, hN⟩ : ∃ N, rs.length = N := ⟨_, rfl⟩
  rw [hN] at c0 hr hl
  have HN := Lib.hid hN
  have HS := Lib.hid hs
  have HR := Lib.hid (And.intro hr (And.intro hl hW))
  have hNb : N ≤ 9223372036854775807 := by
    obtain ⟨A', c', hv, h1, h2⟩ := hr.row.len_cap
    unfold maxLen at h2
    omega
  have HJ := Lib.hid (And.intro hJ hY)
  clear hr hl hJ hY hN hs
  gi_wp2
  gi_loopw [7] (fun i wr => ∃ k : Nat, k ≤ N ∧ i = .int .i64 (k : Int) ∧ Hid (Below w.heap.size W wr ∧ ∃ xs, xs.length = k ∧ J xs wr)) (fun i _ => N - (intOf i).toNat)
  case atStart => exact ⟨0, Nat.zero_le _, rfl, Lib.hid ⟨Below.refl _ _, [], rfl, h0⟩⟩
  case round =>
    obtain ⟨k, hk, rfl, HI⟩ := hrel
    by_cases hlt : k < N
    · obtain ⟨hbl, xs, hxl, hjx⟩ := HI.out
      have HLT := Lib.hid hlt
      have hlp : k < ps.length := by rw [HR.out.2.1]; exact hlt
      have hww : Below w.heap.size w wr := HR.out.2.2.trans hbl
      obtain ⟨gb, off, cap, hv, -, hgl, -, -, -, hcl⟩ := HR.out.1.row.form (by rw [HR.out.2.1]; omega)
      injection hv with hva hvn hvc
      subst hva; subst hvc
      clear hvn
      obtain ⟨g1, g2⟩ := prV_get ps k hlp
      have k1 := (hww.cell (p := ⟨gb, off + k * 2, none⟩) hgl).trans (hcl _ _ g1)
      have k2 := (hww.cell (p := ⟨gb, off + (k * 2 + 1), none⟩) hgl).trans (hcl _ _ g2)
      rw [← Nat.add_assoc] at k2
      have hob := (HR.out.1.own ps[k] (List.getElem_mem hlp))
      obtain ⟨Au, cu, hu, hu1, hu2⟩ := hob.len_cap
      obtain ⟨m, hm⟩ : ∃ m, ps[k].bytes.length = m := ⟨_, rfl⟩
      obtain ⟨p, hp⟩ : ∃ p, ps[k].at_ = p := ⟨_, rfl⟩
      rw [hm] at hu hu1
      rw [hu] at k2
      rw [hp] at k1
      have hi0 : (0 : Int) ≤ (k : Int) := by omega
      have hi1 : (k : Int) < (N : Int) := by omega
      have hob4 := hob.bs.more (B' := w.heap.size) (Nat.le_refl _)
      have hbs4 : Bs (wr.alloc (.cells #[.int .i64 (p : Int), .slice Au m cu] 104)).drew w.heap.size (.slice Au m cu) ps[k].bytes := by
        rw [← hu]
        exact hob4.keep fun bb o hlt => (World.cell?_of_block (a := ⟨bb, o, none⟩) (Below.heap_alloc wr _ bb (Nat.lt_of_lt_of_le hlt hww.size))).trans (hww.cell (p := ⟨bb, o, none⟩) hlt)
      obtain ⟨A7, c7, w7, hcp, ho7, ha7⟩ := copy_bs hbs4 (HS.out _ (List.getElem_mem hlp))
      rw [hm] at hcp ho7
      have hb4 := Bk.made wr 104 #[.int .i64 (p : Int), .slice Au m cu]
      have x0 : (wr.alloc (.cells #[.int .i64 (p : Int), .slice Au m cu] 104)).cell? ⟨wr.heap.size, 0, none⟩ = some (.int .i64 (p : Int)) := hb4.cell rfl
      have x1 : (wr.alloc (.cells #[.int .i64 (p : Int), .slice Au m cu] 104)).cell? ⟨wr.heap.size, 1, none⟩ = some (.slice Au m cu) := hb4.cell rfl
      have y0 := (ha7.cells wr.heap.size 0 hb4.lt).trans x0
      have hab7 : Ab wr w7 := ((Ab.refl wr).alloc (.cells #[.int .i64 (p : Int), .slice Au m cu] 104)).drew.trans ha7
      have hj7 := HJ.out.1 xs wr w7 hjx hab7
      have hb7 : Below w.heap.size W w7 := hbl.trans (Below.mono hab7 hww.size)
      obtain ⟨fn, tm, asg, bd, hy, hRR⟩ := HJ.out.2 xs ⟨p, .slice A7 m c7, ps[k].bytes⟩ w7 hj7 hb7 ⟨by rw [hxl, List.getD_eq_getElem?_getD, List.getElem?_eq_getElem hlp]; exact hp.symm, by rw [hxl, List.getD_eq_getElem?_getD, List.getElem?_eq_getElem hlp]; rfl, by rw [hxl]; exact hlp, ho7.bs⟩
      dsimp only at hy
      have H7 := Lib.hid (And.intro hcp (And.intro hRR (And.intro hb7 hxl)))
      clear hbl hjx hww hcl g1 g2 hob hu hob4 hbs4 hcp ho7 ha7 hb4 hab7 hj7 hb7 hRR hxl
      gi_wp2
      generalize wr.alloc (.cells #[.int .i64 (p : Int), .slice Au m cu] 104) = w4 at *
      refine wpIn_region_any (by kernel_rfl) ?_
      change wpAnyIn _ _ _ _ _ _ _ _ _ (World.drew _)
      refine wpAnyIn_take (i := 0) (v := .func (.yield l) #[] #[]) rfl rfl (by kernel_rfl) (by kernel_rfl) (by kernel_rfl) (fun _ _ _ h => h) ⟨Or.inl ⟨by rfl, fun w => by go_simp⟩, fun _ => rfl⟩ ?_
      refine wpAnyIn_take (i := 1) (v := .pointer (some ⟨wr.heap.size, 0, none⟩)) rfl rfl (by kernel_rfl) (by kernel_rfl) (by kernel_rfl) (fun _ _ _ h => h) ⟨Or.inl ⟨by rfl, fun w => by go_simp⟩, fun _ => rfl⟩ ?_
      refine wpAnyIn_take (i := 3) (v := .pointer (some ⟨wr.heap.size, 1, none⟩)) rfl rfl (by kernel_rfl) (by kernel_rfl) (by kernel_rfl) (fun _ _ _ h => h) ⟨Or.inl ⟨by rfl, fun w => by go_simp⟩, fun _ => rfl⟩ ?_
      refine wpAnyIn_ready (rs := [2, 4]) (by kernel_rfl) (by simp) (AllReadyIn.cons rfl (fun K hK => ?_) (AllReadyIn.cons rfl (fun K hK => ?_) AllReadyIn.nil))
      · go_simp
        refine hK _ _ ?_
        clear hK K
        refine wpAnyIn_ready (rs := [4]) (by kernel_rfl) (by simp) (AllReadyIn.cons rfl (fun K hK => ?_) AllReadyIn.nil)
        go_simp
        refine hK _ _ ?_
        clear hK K
        refine wpAnyIn_ready (rs := [5]) (by kernel_rfl) (by simp) (AllReadyIn.cons rfl (fun K hK => ?_) AllReadyIn.nil)
        refine stepIn_copy rfl (.tmp 15) rfl (.slice Au m cu) rfl H7.out.1 ?_
        refine hK _ _ ?_
        clear hK K
        refine wpAnyIn_ready (rs := [6]) (by kernel_rfl) (by simp) (AllReadyIn.cons rfl (fun K hK => ?_) AllReadyIn.nil)
        go_simp
        refine H7.out.2.1.mono ?_
        rintro e w8 ⟨rfl, hj8, hb8⟩
        refine hK _ _ ?_
        clear hK K
        have H8 := Lib.hid (And.intro hj8 (H7.out.2.2.1.trans hb8))
        clear hj8 hb8
        refine wpAnyIn_ready (rs := [7]) (by kernel_rfl) (by simp) (AllReadyIn.cons rfl (fun K hK => ?_) AllReadyIn.nil)
        go_simp
        refine hK _ _ ?_
        clear hK K
        refine wpAnyIn_done (by kernel_rfl) ?_ _
        gi_wp2
        go_roundw
        case rel => exact ⟨k + 1, HLT.out, by go_num, Lib.hid ⟨H8.out.2, _, by rw [List.length_append, H7.out.2.2.2]; rfl, H8.out.1⟩⟩
        case measure => have h9 := HLT.out; clear k1 k2 x0 x1 y0 hi0 hi1; simp [intOf]; omega
      · go_simp
        refine hK _ _ ?_
        clear hK K
        refine wpAnyIn_ready (rs := [2, 5]) (by kernel_rfl) (by simp) (AllReadyIn.cons rfl (fun K hK => ?_) (AllReadyIn.cons rfl (fun K hK => ?_) AllReadyIn.nil))
        · go_simp
          refine hK _ _ ?_
          clear hK K
          refine wpAnyIn_ready (rs := [5]) (by kernel_rfl) (by simp) (AllReadyIn.cons rfl (fun K hK => ?_) AllReadyIn.nil)
          refine stepIn_copy rfl (.tmp 15) rfl (.slice Au m cu) rfl H7.out.1 ?_
          refine hK _ _ ?_
          clear hK K
          refine wpAnyIn_ready (rs := [6]) (by kernel_rfl) (by simp) (AllReadyIn.cons rfl (fun K hK => ?_) AllReadyIn.nil)
          go_simp
          refine H7.out.2.1.mono ?_
          rintro e w8 ⟨rfl, hj8, hb8⟩
          refine hK _ _ ?_
          clear hK K
          have H8 := Lib.hid (And.intro hj8 (H7.out.2.2.1.trans hb8))
          clear hj8 hb8
          refine wpAnyIn_ready (rs := [7]) (by kernel_rfl) (by simp) (AllReadyIn.cons rfl (fun K hK => ?_) AllReadyIn.nil)
          go_simp
          refine hK _ _ ?_
          clear hK K
          refine wpAnyIn_done (by kernel_rfl) ?_ _
          gi_wp2
          go_roundw
          case rel => exact ⟨k + 1, HLT.out, by go_num, Lib.hid ⟨H8.out.2, _, by rw [List.length_append, H7.out.2.2.2]; rfl, H8.out.1⟩⟩
          case measure => have h9 := HLT.out; clear k1 k2 x0 x1 y0 hi0 hi1; simp [intOf]; omega
        · refine stepIn_copy rfl (.tmp 15) rfl (.slice Au m cu) rfl H7.out.1 ?_
          refine hK _ _ ?_
          clear hK K
          refine wpAnyIn_ready (rs := [2]) (by kernel_rfl) (by simp) (AllReadyIn.cons rfl (fun K hK => ?_) AllReadyIn.nil)
          go_simp
          refine hK _ _ ?_
          clear hK K
          refine wpAnyIn_ready (rs := [6]) (by kernel_rfl) (by simp) (AllReadyIn.cons rfl (fun K hK => ?_) AllReadyIn.nil)
          go_simp
          refine H7.out.2.1.mono ?_
          rintro e w8 ⟨rfl, hj8, hb8⟩
          refine hK _ _ ?_
          clear hK K
          have H8 := Lib.hid (And.intro hj8 (H7.out.2.2.1.trans hb8))
          clear hj8 hb8
          refine wpAnyIn_ready (rs := [7]) (by kernel_rfl) (by simp) (AllReadyIn.cons rfl (fun K hK => ?_) AllReadyIn.nil)
          go_simp
          refine hK _ _ ?_
          clear hK K
          refine wpAnyIn_done (by kernel_rfl) ?_ _
          gi_wp2
          go_roundw
          case rel => exact ⟨k + 1, HLT.out, by go_num, Lib.hid ⟨H8.out.2, _, by rw [List.length_append, H7.out.2.2.2]; rfl, H8.out.1⟩⟩
          case measure => have h9 := HLT.out; clear k1 k2 x0 x1 y0 hi0 hi1; simp [intOf]; omega
    · have hkn : k = N := by omega
      subst hkn
      have HI2 := HI
      clear HI
      gi_wp2
      go_end0
      obtain ⟨hbl, xs, hxl, hjx⟩ := HI2.out
      exact ⟨⟨_, rfl⟩, xs, by rw [hxl, HR.out.2.1], hjx⟩
end Go.Proofs.YtolchbjcdlncgaaGreat.Dg

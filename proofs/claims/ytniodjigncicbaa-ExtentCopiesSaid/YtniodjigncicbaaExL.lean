/- The program's map: the runs, gone through. -/
import Derived.Test.YtniodjigncicbaaExK
import Derived.Test.YtniodjigncicbaaRxA
namespace Go.Proofs.Ytniodjigncicbaa.Dg
open Go.RowKit Go.Shelf
variable {w w' : World} {base a s : Nat} {v : Value} {ps : List Pr} {l : List UInt8}
attribute [local go_sem] Oper.semAt_some
theorem Mv.cell {S : Nat → Prop} (h : Mv S w w') {k : Nat} (hk : k < w.heap.size) (hn : ¬ S k) (o : Nat) : w'.cell? ⟨k, o, none⟩ = w.cell? ⟨k, o, none⟩ := World.cell?_of_block (a := ⟨k, o, none⟩) (h.block k hk hn)
theorem each_any (w : World) (h : Rl 218 w base v ps) :
    Calls Try.prog 116 #[v] w fun e w' => e = .returned (.func (.func 140) #[] #[.pointer (some ⟨w.heap.size, 0, none⟩)]) ∧ w' = w.alloc (.cells #[v] 107) := by
  obtain ⟨A, c, rfl, -, -⟩ := h.row.len_cap
  go_enter Try.func116, Try.ntmps116
  go_wp2
  go_ret
  exact ⟨rfl, rfl⟩
set_option maxRecDepth 100000 in
set_option maxHeartbeats 2000000 in
theorem each_hands (w : World) (b B : Nat) (S : Nat → Prop) (hb : Bk w b 107 #[v]) (hr : Rl 218 w B v ps) (hS2 : ∀ k, v.ownBlock = some k → ¬ S k) (hlen : ps.length ≤ 1000000000) :
    HandsX Try.prog 140 #[.pointer (some ⟨b, 0, none⟩)] (fun x : Pr => #[.int .i64 (x.at_ : Int), x.val]) (fun pre x _ => ps[pre.length]? = some x) (fun xs => xs = ps) S (fun _ _ => False) w := by
  intro l J Jx W hW hl hlt hJ hJx hY h0
  refine (callsIn_wide (n := 2)).1 ?_
  refine callsIn_of_wp Try.func140 rfl trivial ?_ rfl
  simp only [Try.ntmps140, List.size_toArray, List.length_cons, List.length_nil, Nat.reduceAdd, Nat.reduceSub, Array.replicate_succ, Array.replicate_zero, List.push_toArray, List.append_toArray, List.nil_append, List.cons_append]
  obtain ⟨A, c, rfl, hc1, hc2⟩ := hr.row.len_cap
  have c0 : W.cell? ⟨b, 0, none⟩ = some (.slice A ps.length c) := (hW.cells b 0 hb.lt).trans (hb.cell rfl)
  obtain ⟨N, hN⟩ : ∃ N, ps.length = N := ⟨_, rfl⟩
  rw [hN] at c0 hlen
  have HN := Lib.hid hN
  have HR := Lib.hid (And.intro hr (And.intro hW (And.intro hl hS2)))
  have HJ := Lib.hid (And.intro hJ hY)
  clear hr hJ hY hN hS2 hl hb hc1 hc2
  gi_wp2
  gi_loopw [7] (fun i wr => ∃ k : Nat, k ≤ N ∧ i = .int .i64 (k : Int) ∧ Hid (Mv (fun k => S k ∨ k = l) W wr ∧ J (ps.take k) wr)) (fun i _ => N - (intOf i).toNat)
  case atStart => exact ⟨0, Nat.zero_le _, rfl, Lib.hid ⟨Mv.refl _ _, h0⟩⟩
  case round =>
    obtain ⟨k, hk, rfl, HI⟩ := hrel
    by_cases hltk : k < N
    · have HLT := Lib.hid hltk
      have hlp : k < ps.length := by rw [HN.out]; exact hltk
      obtain ⟨-, gb, off, Au, cu, rfl, hbg, hgl, -, -, hu, -, -, k1, k2⟩ := HR.out.1.get k hlp
      have hns : ¬ (S gb ∨ gb = l) := fun e => by
        rcases e with e | e
        · exact HR.out.2.2.2 gb rfl e
        · have := HR.out.2.2.1; omega
      have hgW : gb < W.heap.size := Nat.lt_of_lt_of_le hgl HR.out.2.1.size
      replace k1 := (HI.out.1.cell hgW hns (off + k * 2)).trans ((HR.out.2.1.cells gb _ hgl).trans k1)
      replace k2 := (HI.out.1.cell hgW hns (off + k * 2 + 1)).trans ((HR.out.2.1.cells gb _ hgl).trans k2)
      have hpk : ps[(ps.take k).length]? = some ps[k] := by rw [List.length_take, Nat.min_eq_left (by omega), List.getElem?_eq_getElem hlp]
      have hnx : ps.take k ++ [ps[k]] = ps.take (k + 1) := by rw [List.take_succ_eq_append_getElem hlp]
      have hj4 := HJ.out.1.alloc (.cells #[.int .i64 (ps[k].at_ : Int), .slice Au ps[k].bytes.length cu] 218) HI.out.2
      obtain ⟨fn, tm, asg, bd, hy, hRR⟩ := HJ.out.2 (ps.take k) ps[k] (wr.alloc (.cells #[.int .i64 (ps[k].at_ : Int), .slice Au ps[k].bytes.length cu] 218)) hj4 hpk
      rw [hnx] at hRR
      try dsimp only at hy
      rw [hu] at hy
      obtain ⟨m, hm⟩ : ∃ m, ps[k].bytes.length = m := ⟨_, rfl⟩
      obtain ⟨p, hp⟩ : ∃ p, ps[k].at_ = p := ⟨_, rfl⟩
      rw [hm, hp] at hy hRR
      rw [hm] at k2
      rw [hp] at k1
      have hb4 := Bk.made wr 218 #[.int .i64 (p : Int), .slice Au m cu]
      have x0 : (wr.alloc (.cells #[.int .i64 (p : Int), .slice Au m cu] 218)).cell? ⟨wr.heap.size, 0, none⟩ = some (.int .i64 (p : Int)) := hb4.cell rfl
      have x1 : (wr.alloc (.cells #[.int .i64 (p : Int), .slice Au m cu] 218)).cell? ⟨wr.heap.size, 1, none⟩ = some (.slice Au m cu) := hb4.cell rfl
      have hi0 : (0 : Int) ≤ (k : Int) := by omega
      have hi1 : (k : Int) < (N : Int) := by omega
      have H7 := Lib.hid (And.intro hRR (HI.out.1.alloc (.cells #[.int .i64 (p : Int), .slice Au m cu] 218)))
      clear hRR hj4 hb4 hu hm hp hpk hnx hns hgW hbg hgl hltk
      gi_wp2
      refine H7.out.1.mono ?_
      rintro e w8 ⟨hm8, ⟨rfl, hj8⟩ | ⟨rfl, hj8⟩⟩
      · have H8 := Lib.hid (And.intro (H7.out.2.trans (hm8.mono (fun _ _ e => by rcases e with e | e | e; exact .inl e; exact .inr e; exact e.elim))) hj8)
        clear hm8 hj8
        gi_wp2
        go_roundw
        case rel => exact ⟨k + 1, HLT.out, by go_num, H8⟩
        case measure => have h9 := HLT.out; simp [intOf]; omega
      · have H8 := Lib.hid hj8
        clear hm8 hj8
        gi_wp2
        exact bodyPost_ret (results_none rfl _ _ _) rfl ⟨⟨_, rfl⟩, .inr H8.out⟩
    · have hkn : k = N := by omega
      subst hkn
      have HI2 := HI
      clear HI
      gi_wp2
      go_end0
      refine ⟨⟨_, rfl⟩, .inl ⟨ps.take k, List.take_of_length_le (by rw [HN.out]; exact Nat.le_refl _), HI2.out.2⟩⟩
end Go.Proofs.Ytniodjigncicbaa.Dg

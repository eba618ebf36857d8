/- Texts joined: RjC. -/
import Derived.Test.YtolchbjcdlncgaaGreatMgRjB
/- The reference's journal: Read, Trim. -/
namespace Go.Proofs.YtolchbjcdlncgaaGreat.Dg
open Go.RowKit
variable {w w' : World} {base a g2 gk torn B : Nat} {v2 u : Value} {rs : List (List UInt8)} {r : Dst} {l : List UInt8}
attribute [local go_sem ↓] Go.wp_at_zero Go.wp_at_succ
/-- The disk's bytes are the records' frames. -/
structure Rt (w : World) (base gk g2 : Nat) (v2 : Value) (r : Dst) (torn : Nat) (rs : List (List UInt8)) : Prop where
  rj : Rj w base gk g2 v2 r torn
  bytes : r.bytes = framesL rs
  small : AllSmall rs
theorem Rt.ab (h : Rt w base gk g2 v2 r torn rs) (hb : Ab w w') : Rt w' base gk g2 v2 r torn rs := ⟨h.rj.ab hb, h.bytes, h.small⟩
theorem Rt.recs (h : Rt w base gk g2 v2 r torn rs) : recsOf r.bytes = rs := by rw [h.bytes, recs_whole rs h.small]
theorem Rt.fin (h : Rt w base gk g2 v2 r torn rs) : r.fin = r.base + sizeL rs := by unfold Dst.fin; rw [h.bytes, framesL_length]
theorem Rt.len (h : Rt w base gk g2 v2 r torn rs) : 8 * rs.length ≤ 67108864 := by
  have h1 := h.rj.rk.ok.room
  have h2 := h.rj.rk.ok.size2
  have h3 := sizeL_ge rs
  have h4 : r.bytes.length = sizeL rs := by rw [h.bytes, framesL_length]
  omega
theorem Rt.records (h : Rt w base gk g2 v2 r torn rs) :
    Calls Tryz.prog 35 #[.pointer (some ⟨gk, 0, none⟩)] w fun e w' =>
      ∃ A c, e = .returned (.tuple #[.slice A rs.length c, .int .i64 (r.fin : Int)]) ∧ Told 81 w' w.heap.size (.slice A rs.length c) r.base rs ∧ Ab w w' :=
  (rrecords_any w h.rj).mono fun e w' ⟨A, n, c, y, hn, hy, he, ht, ha⟩ => by
    rw [h.recs] at hn hy ht
    subst hn
    rw [← h.fin] at hy
    subst hy
    exact ⟨A, c, he, ht, ha⟩
set_option maxRecDepth 100000 in
set_option maxHeartbeats 2000000 in
theorem RRead_any (w : World) (h : Rt w base gk g2 v2 r torn rs) (y : Int) :
    Calls Tryz.prog 33 #[.pointer (some ⟨gk, 0, none⟩), .int .i64 y] w (JReadPost w r.base rs y) := by
  have HR := Lib.hid h
  have hlen := h.len
  clear h
  go_enter Tryz.func33, Tryz.ntmps33
  go_wp2_with fail
  refine HR.out.records.mono ?_
  rintro e w2 ⟨A, c, rfl, ⟨ps, hrl, hpl, htt⟩, ha2⟩
  obtain ⟨N, hN⟩ : ∃ N, rs.length = N := ⟨_, rfl⟩
  rw [hN] at hrl hpl hlen ⊢
  have HN := Lib.hid hN
  have H2 := Lib.hid (And.intro hrl (And.intro hpl (And.intro htt ha2)))
  clear hrl hpl htt ha2 hN
  go_wp2_with fail
  go_loopw [17] (fun i wr => ∃ k : Nat, k ≤ N ∧ i = .int .i64 (k : Int) ∧ Hid (Ab w2 wr ∧ ∀ j, j < k → ((plc r.base rs j : Nat) : Int) ≠ y)) (fun i _ => N - (intOf i).toNat)
  case atStart => exact ⟨0, Nat.zero_le _, rfl, Lib.hid ⟨Ab.refl w2, fun j hj => absurd hj (Nat.not_lt_zero _)⟩⟩
  case round =>
    obtain ⟨k, hk, rfl, HI⟩ := hrel
    by_cases hkN : k < N
    · have HLT := Lib.hid hkN
      have hlp : k < ps.length := by rw [H2.out.2.1]; exact hkN
      obtain ⟨gb, off, cap, hv, -, hgl, -, -, -, hcl⟩ := H2.out.1.row.form (by rw [H2.out.2.1]; omega)
      injection hv with hva hvn hvc
      subst hva; subst hvc
      clear hvn
      obtain ⟨g1, g2'⟩ := prV_get ps k hlp
      have k1 := (HI.out.1.cells gb _ hgl).trans (hcl _ _ g1)
      have k2 := (HI.out.1.cells gb _ hgl).trans (hcl _ _ g2')
      rw [← Nat.add_assoc] at k2
      obtain ⟨hat, hby⟩ := H2.out.2.2.1 k hlp
      have hob := (H2.out.1.own ps[k] (List.getElem_mem hlp)).ab HI.out.1
      obtain ⟨Au, cu, hu, hu1, hu2⟩ := hob.len_cap
      rw [hby] at hob hu hu1
      obtain ⟨m, hm⟩ : ∃ m, (rs.getD k []).length = m := ⟨_, rfl⟩
      obtain ⟨p, hp⟩ : ∃ p, ((plc r.base rs k : Nat) : Int) = p := ⟨_, rfl⟩
      rw [hm] at hu hu1
      rw [hu] at k2 hob
      rw [hat, hp] at k1
      have hi0 : (0 : Int) ≤ (k : Int) := by omega
      have hi1 : (k : Int) < (N : Int) := by omega
      have HP := Lib.hid hp
      have H3 := Lib.hid (And.intro hob hm)
      clear hob hm hp hat hby g1 g2' hcl hu
      by_cases hpy : p = y
      · have HPY := Lib.hid hpy
        have hb1 : (p == y) = true := by rw [hpy]; simp
        clear hpy
        go_wp2_with fail
        go_ret2
        exact ⟨H2.out.2.2.2.trans (HI.out.1.trans ((Ab.refl wr).alloc _)), .inl ⟨k, by rw [HN.out]; exact HLT.out, by rw [HP.out]; exact HPY.out.symm, Au, m, cu, H3.out.2.symm, rfl, (H3.out.1.lower (b' := w.heap.size) (Nat.le_refl _)).ab ((Ab.refl wr).alloc _)⟩⟩
      · have HPY := Lib.hid hpy
        have hb1 : (p == y) = false := by rw [beq_eq_false_iff_ne]; exact hpy
        have ha4 : Ab w2 (wr.alloc (.cells #[.int .i64 p, .slice Au m cu] 81)) := HI.out.1.trans ((Ab.refl wr).alloc _)
        have H4 := Lib.hid ha4
        clear ha4
        go_wp2_with fail
        go_roundw
        case rel => exact ⟨k + 1, HLT.out, by go_num, Lib.hid ⟨H4.out, fun j hj => by
          rcases Nat.lt_or_ge j k with h | h
          · exact HI.out.2 j h
          · have : j = k := by omega
            subst this
            rw [HP.out]; exact HPY.out⟩⟩
        case measure => have := HLT.out; simp [intOf]; omega
    · have hkn : k = N := by omega
      subst hkn
      have HI2 := HI
      clear HI
      go_wp2_with fail
      go_ret2
      exact ⟨H2.out.2.2.2.trans HI2.out.1, .inr ⟨fun j hj => HI2.out.2 j (by rw [← HN.out]; exact hj), rfl⟩⟩
def RTrimPost (w : World) (base gk g2 : Nat) (v2 : Value) (r : Dst) (torn : Nat) (rs : List (List UInt8)) (y : Int) (e : Ending) (w' : World) : Prop :=
  (∃ k, k ≤ rs.length ∧ y = ((plc r.base rs k : Nat) : Int) ∧ e = .returned (.int .i64 (r.sync.trimE y : Int)) ∧ ∃ v3, Rt w' base gk g2 v3 (r.sync.trim y) torn (trimRs r.sync rs y k) ∧ Turn g2 v2 v3 w w') ∨
  ((∀ k, k ≤ rs.length → ((plc r.base rs k : Nat) : Int) ≠ y) ∧ e = .returned (.int .i64 2) ∧ Ab w w')
set_option maxRecDepth 100000 in
set_option maxHeartbeats 2000000 in
theorem RTrim_any (w : World) (h : Rt w base gk g2 v2 r torn rs) (y : Int) (hbase : base ≤ w.heap.size) :
    Calls Tryz.prog 36 #[.pointer (some ⟨gk, 0, none⟩), .int .i64 y] w (RTrimPost w base gk g2 v2 r torn rs y) := by
  have HR := Lib.hid h
  have HB := Lib.hid hbase
  clear h hbase
  go_enter Tryz.func36, Tryz.ntmps36
  go_wp2_with fail
  refine (RRead_any w HR.out y).mono ?_
  rintro e w4 ⟨ha4, hor⟩
  have h4 := HR.out.ab ha4
  have q4 := h4.rj.ptr
  have HR4 := Lib.hid h4
  have H4 := Lib.hid ha4
  clear h4
  rcases hor with ⟨k, hk, hy, A, n, c, -, rfl, -⟩ | ⟨hn, rfl⟩
  · have HK := Lib.hid (show k ≤ rs.length ∧ y = ((plc r.base rs k : Nat) : Int) from ⟨Nat.le_of_lt hk, hy⟩)
    clear hk hy ha4
    go_wp2_with fail
    · skip
      refine (rsync_any w4 HR4.out.rj.rk).mono ?_
      rintro e w5 ⟨rfl, hr5, ht5⟩
      have hj5 := HR4.out.rj.turn hr5 ht5
      have q5 := hj5.ptr
      have htr := rtrim_any w5 hr5 y (Nat.le_trans HB.out (Nat.le_trans H4.out.size ht5.1.size))
      have H5 := Lib.hid (And.intro hj5 ht5)
      have HTR := Lib.hid htr
      clear hr5 ht5 hj5 htr q4
      go_wp2_with fail
      refine HTR.out.mono ?_
      rintro e w6 ⟨rfl, v6, hr6, ht6⟩
      obtain ⟨k', hk', hb', hrr', hby'⟩ := trim_holds (d := r.sync) (rs := rs) (by rw [(sync_base r).2.1]; exact HR4.out.bytes) k HK.out.1 (y := y) (by rw [(sync_base r).1]; exact HK.out.2)
      have hj6 := H5.out.1.turn hr6 ht6
      have H6 := Lib.hid (show Rt w6 base gk g2 v6 (r.sync.trim y) torn (trimRs r.sync rs y k) from ⟨hj6, by rw [hrr']; exact hby', by rw [hrr']; exact HR4.out.small.drop k'⟩)
      have HT6 := Lib.hid ((Turn.after H4.out H5.out.2).trans ht6)
      clear hr6 ht6 hj6 hb' hrr' hby' hk' q5
      go_wp2_with fail
      go_ret
      exact .inl ⟨k, HK.out.1, HK.out.2, rfl, v6, H6.out, HT6.out⟩
  · have hre := rend_at HR4.out.rj.rk 0
    have HFN := Lib.hid HR4.out.fin
    obtain ⟨f, hf⟩ : ∃ f, r.fin = f := ⟨_, rfl⟩
    rw [hf] at hre HFN
    have HE := Lib.hid (show Calls Tryz.prog 42 #[.pointer (some ⟨g2, 0, none⟩)] w4 fun e w' => e = .returned (.int .i64 (f : Int)) ∧ ∃ m, w' = w4.drewN m from hre)
    have HN := Lib.hid hn
    have HR0 := Lib.hid HR4.out
    have H0 := Lib.hid H4.out
    clear hre hn hf HR4 H4 ha4
    by_cases hyf : y = (f : Int)
    · obtain ⟨k, hkl⟩ : ∃ k, k = rs.length := ⟨_, rfl⟩
      have HK := Lib.hid (show k ≤ rs.length ∧ y = ((plc r.base rs k : Nat) : Int) from ⟨Nat.le_of_eq hkl, by rw [hyf, HFN.out, plc_len _ _ _ (Nat.le_of_eq hkl.symm)]⟩)
      have hyb : (y != (f : Int)) = false := by rw [hyf]; simp
      clear hkl hyf
      go_wp2_with fail
      refine HE.out.mono ?_
      rintro e w5 ⟨rfl, m, rfl⟩
      have HR4 := Lib.hid (HR0.out.ab ((Ab.refl w4).drewN m))
      have H4 := Lib.hid (H0.out.drewN m)
      have q4 := HR4.out.rj.ptr
      generalize w4.drewN m = w4 at *
      go_wp2_with fail
      refine (rsync_any w4 HR4.out.rj.rk).mono ?_
      rintro e w5 ⟨rfl, hr5, ht5⟩
      have hj5 := HR4.out.rj.turn hr5 ht5
      have q5 := hj5.ptr
      have htr := rtrim_any w5 hr5 y (Nat.le_trans HB.out (Nat.le_trans H4.out.size ht5.1.size))
      have H5 := Lib.hid (And.intro hj5 ht5)
      have HTR := Lib.hid htr
      clear hr5 ht5 hj5 htr q4
      go_wp2_with fail
      refine HTR.out.mono ?_
      rintro e w6 ⟨rfl, v6, hr6, ht6⟩
      obtain ⟨k', hk', hb', hrr', hby'⟩ := trim_holds (d := r.sync) (rs := rs) (by rw [(sync_base r).2.1]; exact HR4.out.bytes) k HK.out.1 (y := y) (by rw [(sync_base r).1]; exact HK.out.2)
      have hj6 := H5.out.1.turn hr6 ht6
      have H6 := Lib.hid (show Rt w6 base gk g2 v6 (r.sync.trim y) torn (trimRs r.sync rs y k) from ⟨hj6, by rw [hrr']; exact hby', by rw [hrr']; exact HR4.out.small.drop k'⟩)
      have HT6 := Lib.hid ((Turn.after H4.out H5.out.2).trans ht6)
      clear hr6 ht6 hj6 hb' hrr' hby' hk' q5
      go_wp2_with fail
      go_ret
      exact .inl ⟨k, HK.out.1, HK.out.2, rfl, v6, H6.out, HT6.out⟩
    · have hyb : (y != (f : Int)) = true := by rw [bne_iff_ne]; exact hyf
      go_wp2_with fail
      refine HE.out.mono ?_
      rintro e w5 ⟨rfl, m, rfl⟩
      go_wp2_with fail
      go_ret
      refine .inr ⟨fun k hk e => ?_, rfl, H0.out.drewN m⟩
      rcases Nat.lt_or_ge k rs.length with h | h
      · exact HN.out k h e
      · rw [plc_len _ _ _ h] at e
        exact hyf (by rw [← e, HFN.out])
end Go.Proofs.YtolchbjcdlncgaaGreat.Dg

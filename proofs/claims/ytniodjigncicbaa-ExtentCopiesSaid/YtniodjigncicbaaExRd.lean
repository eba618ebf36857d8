/- The reference's object: Zero and Truncate. -/
import Derived.Test.YtniodjigncicbaaExRc
namespace Go.Proofs.Ytniodjigncicbaa.Dg
open Go.RowKit
variable {w w' : World} {base b s : Nat} {v u vd vh : Value} {c : Cel} {l : List UInt8}
attribute [local go_sem ↓] Go.wp_at_zero Go.wp_at_succ
set_option maxRecDepth 100000 in
set_option maxHeartbeats 4000000 in
theorem rzero_any (w : World) (h : Rf w base b vd vh c s) (at_ m : Int) (hm9 : m ≤ 9223372036854775807) (hbase : base ≤ w.heap.size) :
    Calls Try.prog 61 #[.pointer (some ⟨b, 0, none⟩), .int .i64 at_, .int .i64 m] w (RP w base b vd vh (exE at_ m) (if exE at_ m ≠ 0 ∨ m = 0 then c else hoC c at_.toNat (at_ + m).toNat) (if exE at_ m ≠ 0 ∨ m = 0 then s else max s (at_ + m).toNat)) := by
  have HC := Lib.hid (fits_any w at_ m)
  have HE := Lib.hid h
  by_cases hbad : exE at_ m ≠ 0 ∨ m = 0
  · rw [if_pos hbad, if_pos hbad]
    obtain ⟨E, hE⟩ : ∃ E, exE at_ m = E := ⟨_, rfl⟩
    rw [hE] at HC hbad ⊢
    clear hE h
    by_cases hx : E = 0
    · have hn0 : m = 0 := by rcases hbad with h | h; exact absurd hx h; exact h
      subst hx
      subst hn0
      clear hbad
      go_enter Try.func61, Try.ntmps61
      go_wp2_with (go_at_call 113; (with_reducible refine HC.out.mono ?_); rintro e w2 ⟨rfl, rfl⟩)
      go_ret
      exact ⟨rfl, _, _, HE.out, RfT.refl _ _ _ _⟩
    · clear hbad
      go_enter Try.func61, Try.ntmps61
      go_wp2_with (go_at_call 113; (with_reducible refine HC.out.mono ?_); rintro e w2 ⟨rfl, rfl⟩)
      go_ret
      exact ⟨rfl, _, _, HE.out, RfT.refl _ _ _ _⟩
  · rw [if_neg hbad, if_neg hbad]
    have he0 : exE at_ m = 0 := by
      rcases Int.decEq (exE at_ m) 0 with h | h
      · exact absurd (.inl h) hbad
      · exact h
    have hne : ¬ m = 0 := fun h => hbad (.inr h)
    have hrange : 0 ≤ at_ ∧ 0 ≤ m ∧ at_ + m ≤ 4096 := by
      unfold exE at he0
      split at he0
      · cases he0
      · split at he0
        · cases he0
        · omega
    obtain ⟨t, rfl⟩ : ∃ t : Nat, at_ = (t : Int) := ⟨at_.toNat, by omega⟩
    obtain ⟨n, rfl⟩ : ∃ n : Nat, m = (n : Int) := ⟨m.toNat, by omega⟩
    obtain ⟨e, he⟩ : ∃ e : Nat, t + n = e := ⟨_, rfl⟩
    have e1 : (t : Int) + (n : Int) = (e : Int) := by omega
    rw [he0] at HC ⊢
    rw [e1, Int.toNat_natCast, Int.toNat_natCast]
    have e2 : IntKind.i64.wrap (e : Int) = (e : Int) := IntWalk.i64_in _ (by omega)
    have hn0 : ¬ (n : Int) = 0 := by omega
    have HN := Lib.hid (show e ≤ 4096 ∧ t < e by omega)
    have HB := Lib.hid hbase
    clear hbad he0 hrange h hne hm9
    go_enter Try.func61, Try.ntmps61
    go_wp2_with (first | (go_at_call 113; (with_reducible refine HC.out.mono ?_); rintro e w2 ⟨rfl, rfl⟩) | (go_at_call 114; (with_reducible refine (grow_any w HE.out e HN.out.1 HB.out).mono ?_); rintro e9 w2 ⟨rfl, v1, v2, hr2, ht2⟩; have H2 := Lib.hid (And.intro hr2 ht2); clear hr2 ht2))
    obtain ⟨g, o, c1, g2, o2, c2, rfl, rfl, ng, ng2, ngg, -, -, -, -⟩ := H2.out.1.slices (by have := HN.out; omega)
    have H2' : Hid (Rf w2 base b (.slice (some ⟨g, o, none⟩) (max s e) c1) (.slice (some ⟨g2, o2, none⟩) (max s e) c2) (hoC c t t) (max s e)) := Lib.hid (by rw [hoC_nil]; exact H2.out.1)
    have HX := Lib.hid (And.intro ng (And.intro ng2 ngg))
    have HT2 := Lib.hid H2.out.2
    have hms : e ≤ max s e := Nat.le_max_right s e
    obtain ⟨M, hM⟩ : ∃ M, max s e = M := ⟨_, rfl⟩
    rw [hM] at H2' HT2 hms ⊢
    have HMM := Lib.hid hM
    clear H2 ng ng2 ngg HE hM
    go_loopw [8] (fun i wr => ∃ j : Nat, t ≤ j ∧ j ≤ e ∧ i = .int .i64 (j : Int) ∧ Hid (Rf wr base b (.slice (some ⟨g, o, none⟩) M c1) (.slice (some ⟨g2, o2, none⟩) M c2) (hoC c t j) M ∧ Mv (RfO b (.slice (some ⟨g, o, none⟩) M c1) (.slice (some ⟨g2, o2, none⟩) M c2)) w2 wr)) (fun i _ => e - (intOf i).toNat)
    case atStart => exact ⟨t, Nat.le_refl _, Nat.le_of_lt HN.out.2, rfl, Lib.hid ⟨H2'.out, Mv.refl _ _⟩⟩
    case round =>
      obtain ⟨k, htk, hke, rfl, HJ⟩ := hrel
      by_cases hlt : k < e
      · have i0 : (k : Int) < (e : Int) := by omega
        have s2 : IntKind.i64.wrap (k : Int) = (k : Int) := IntWalk.i64_in _ (by have := HN.out; omega)
        have hkM : k < M := by omega
        have i3 : (0 : Int) ≤ (k : Int) := by omega
        have i4 : (k : Int) < (M : Int) := by omega
        have hS : ∀ wx : World, Bk wx b 70 #[.slice (some ⟨g, o, none⟩) M c1, .slice (some ⟨g2, o2, none⟩) M c2] → wx.cell? ⟨b, 0, none⟩ = some (.slice (some ⟨g, o, none⟩) M c1) ∧ wx.cell? ⟨b, 1, none⟩ = some (.slice (some ⟨g2, o2, none⟩) M c2) := fun wx hx => ⟨hx.cell rfl, hx.cell rfl⟩
        have q0 := (hS wr HJ.out.1.blk).1
        have q1 := (hS wr HJ.out.1.blk).2
        obtain ⟨_, _, _, _, _, _, e1', e2', -, -, -, fr, fr2, x1, x2⟩ := HJ.out.1.slices (by omega)
        injection e1' with e1' _ _
        injection e1' with e1'
        injection e1' with e1' e1o _
        injection e2' with e2' _ _
        injection e2' with e2'
        injection e2' with e2' e2o _
        subst e1' e1o e2' e2o
        have y1 := x1 k hkM
        have y2 := x2 k hkM
        clear x1 x2
        have hp := HJ.out.1.put k hkM none
        rw [hoC_step c t k htk] at hp
        have n1 := HX.out.1
        have n2 := HX.out.2.1
        have n3 := HX.out.2.2
        have n4 : ¬ g2 = g := fun e => n3 e.symm
        have y3 : (wr.setCell ⟨g, o + k, none⟩ (u8v 0)).cell? ⟨g2, o2 + k, none⟩ = some (.bool (hoC c t k k).isSome) := (World.cell?_of_block (a := ⟨g2, o2 + k, none⟩) (Below.heap_setCell _ _ _ g2 n4)).trans y2
        have HS := Lib.hid hS
        have HP := Lib.hid hp
        have HLT := Lib.hid (show t ≤ k + 1 ∧ k + 1 ≤ e ∧ e ≤ 4096 by have := HN.out; omega)
        have hn4 : (e : Int) ≤ 4096 := by have := HLT.out.2; omega
        clear hp hS hkM hms htk hke
        go_wp2_with fail
        go_region_held3 (fun wx => wx.cell? ⟨b, 0, none⟩ = some (.slice (some ⟨g, o, none⟩) M c1) ∧ wx.cell? ⟨b, 1, none⟩ = some (.slice (some ⟨g2, o2, none⟩) M c2)) (exact HS.out _ (by repeat (first | exact HJ.out.1.blk | refine Bk.drew ?_ | refine Bk.far ?_ (fun e => n1 e.symm) _ | refine Bk.far ?_ (fun e => n2 e.symm) _))) (fail)
        go_wp2_with fail
        go_roundw
        case rel => exact ⟨k + 1, HLT.out.1, HLT.out.2.1, by have := HLT.out; go_num, Lib.hid ⟨HP.out.1.ab (Ab.refl _).drew, HJ.out.2.trans HP.out.2.drew⟩⟩
        case measure => have := HLT.out; simp [intOf]; omega
      · have hjn : k = e := by omega
        subst hjn
        have i0 : ¬ (k : Int) < (k : Int) := by omega
        go_wp2_with fail
        go_ret
        exact ⟨rfl, _, _, HMM.out ▸ HJ.out.1, HT2.out.trans ⟨HJ.out.2, fun k hk => .inl hk⟩⟩
theorem Og.short {e : TypeId} {cp : Nat} {n : Nat} {A : Option Addr} {xs : List Value} (h : Og e 1 w base (.slice A n cp) n xs) (k : Nat) (hk : k ≤ n) : Og e 1 w base (.slice A k cp) k (xs.take k) := by
  have h1 := h.1
  refine ⟨by rw [List.length_take]; omega, ?_⟩
  rcases h.2 with ⟨hv, h0⟩ | ⟨g', cap', pre, post, hv, hb, hg, hn, hs, hm⟩
  · injection hv with ha hn' hc'
    subst ha; subst hc'
    have : k = 0 := by omega
    subst this
    exact .inl ⟨rfl, rfl⟩
  · injection hv with ha hn' hc'
    subst ha; subst hc'
    refine .inr ⟨g', cp, pre, xs.drop k ++ post, rfl, hb, ?_, by omega, ?_, hm⟩
    · rw [hg]
      congr 3
      rw [← List.append_assoc, List.append_assoc pre (xs.take k), List.take_append_drop]
    · simp at hs ⊢; omega
theorem exE_swap (n : Int) : exE n 0 = exE 0 n := by
  unfold exE
  repeat' split
  all_goals first | rfl | (exfalso; omega)
theorem Rf.short {A A2 : Option Addr} {cp cp2 M n : Nat} (h : Rf w base b (.slice A M cp) (.slice A2 M cp2) c M) (hn : n ≤ M) (hc : Upto c s) (hw : Bk w' b 70 #[.slice A n cp, .slice A2 n cp2]) (hm : Mv (fun k => k = b) w w') :
    Rf w' base b (.slice A n cp) (.slice A2 n cp2) (hoC c n s) n := by
  have ha : ∀ p, p < n → c p = hoC c n s p := fun p hp => by unfold hoC; rw [if_neg (by omega)]
  have hd := (h.dat.mvb hm h.blk (fun _ e => e) (by decide)).short n hn
  have hh := (h.has.mvb hm h.blk (fun _ e => e) (by decide)).short n hn
  refine ⟨hw, ?_, ?_, h.le, hc.cut n, Nat.le_trans hn h.max⟩
  · rw [← datR_ext ha, show datR c n = (datR c M).take n by unfold datR; rw [← List.map_take, List.take_range, Nat.min_eq_left hn], List.map_take]
    exact hd
  · unfold bV at hh ⊢
    rw [← hasR_ext ha, show hasR c n = (hasR c M).take n by unfold hasR; rw [← List.map_take, List.take_range, Nat.min_eq_left hn], List.map_take]
    exact hh
theorem RfT.short {A A2 : Option Addr} {cp cp2 M n : Nat} (hm : Mv (fun k => k = b) w w') : RfT b (.slice A M cp) (.slice A2 M cp2) (.slice A n cp) (.slice A2 n cp2) w w' :=
  ⟨hm.mono fun k _ e => .inl e, fun k hk => .inl (by
    rcases hk with h | h | h
    · exact .inl h
    · exact .inr (.inl (by rw [← h]; cases A <;> rfl))
    · exact .inr (.inr (by rw [← h]; cases A2 <;> rfl)))⟩
set_option maxRecDepth 100000 in
set_option maxHeartbeats 4000000 in
theorem rtrunc_any (w : World) (h : Rf w base b vd vh c s) (m : Int) (hbase : base ≤ w.heap.size) :
    Calls Try.prog 63 #[.pointer (some ⟨b, 0, none⟩), .int .i64 m] w (RP w base b vd vh (exE m 0) (if exE m 0 ≠ 0 then c else hoC c m.toNat s) (if exE m 0 ≠ 0 then s else m.toNat)) := by
  rw [exE_swap]
  have HC := Lib.hid (fits_any w 0 m)
  have HE := Lib.hid h
  by_cases hbad : exE 0 m ≠ 0
  · rw [if_pos hbad, if_pos hbad]
    obtain ⟨E, hE⟩ : ∃ E, exE 0 m = E := ⟨_, rfl⟩
    rw [hE] at HC hbad ⊢
    clear hE h
    go_enter Try.func63, Try.ntmps63
    go_wp2_with (go_at_call 113; (with_reducible refine HC.out.mono ?_); rintro e w2 ⟨rfl, rfl⟩)
    go_ret
    exact ⟨rfl, _, _, HE.out, RfT.refl _ _ _ _⟩
  · rw [if_neg hbad, if_neg hbad]
    have he0 : exE 0 m = 0 := by
      rcases Int.decEq (exE 0 m) 0 with h | h
      · exact absurd h hbad
      · exact h
    have hrange : 0 ≤ m ∧ m ≤ 4096 := by
      unfold exE at he0
      split at he0
      · cases he0
      · split at he0
        · cases he0
        · omega
    obtain ⟨n, rfl⟩ : ∃ n : Nat, m = (n : Int) := ⟨m.toNat, by omega⟩
    rw [he0] at HC ⊢
    rw [Int.toNat_natCast]
    have HN := Lib.hid (show n ≤ 4096 by omega)
    have HB := Lib.hid hbase
    have HU := Lib.hid h.up
    clear hbad he0 hrange h
    go_enter Try.func63, Try.ntmps63
    go_wp2_with (first | (go_at_call 113; (with_reducible refine HC.out.mono ?_); rintro e w2 ⟨rfl, rfl⟩) | (go_at_call 114; (with_reducible refine (grow_any w HE.out n HN.out HB.out).mono ?_); rintro e9 w2 ⟨rfl, v1, v2, hr2, ht2⟩; have H2 := Lib.hid (And.intro hr2 ht2); clear hr2 ht2))
    obtain ⟨A1, c1, rfl, hc1, hc1m⟩ := H2.out.1.dat.len_cap
    obtain ⟨A2, c2, rfl, hc2, hc2m⟩ := H2.out.1.has.len_cap
    have hms : n ≤ max s n := Nat.le_max_right s n
    obtain ⟨M, hM⟩ : ∃ M, max s n = M := ⟨_, rfl⟩
    rw [hM] at H2 hms hc1 hc2
    have q0 : w2.cell? ⟨b, 0, none⟩ = some (.slice A1 M c1) := H2.out.1.blk.cell rfl
    have q1 : w2.cell? ⟨b, 1, none⟩ = some (.slice A2 M c2) := H2.out.1.blk.cell rfl
    have fz := H2.out.1.blk.free
    have HHS := Lib.hid (And.intro hms (And.intro hc1 hc2))
    have hs1 := fun wx => run_slice_head A1 M c1 n (n : Int) rfl (by have := HHS.out; omega) wx
    clear hM HE
    go_region
    have hm9 : Mv (fun k => k = b) w2 (((w2.setCell ⟨b, 0, none⟩ (.slice A1 n c1)).setCell ⟨b, 1, none⟩ (.slice A2 n c2)).drew) := (Mv.set (S := fun k => k = b) (Mv.set (S := fun k => k = b) (Mv.refl _ _) (p := ⟨b, 0, none⟩) rfl _) (p := ⟨b, 1, none⟩) rfl _).drew
    have hb9 : Bk (((w2.setCell ⟨b, 0, none⟩ (.slice A1 n c1)).setCell ⟨b, 1, none⟩ (.slice A2 n c2)).drew) b 70 #[.slice A1 n c1, .slice A2 n c2] := ((H2.out.1.blk.store 0 _).store 1 _).drew
    have H9 := Lib.hid (And.intro (H2.out.1.short HHS.out.1 HU.out hb9 hm9) (H2.out.2.trans (RfT.short (n := n) hm9)))
    clear hm9 hb9
    go_wp2_with fail
    go_ret
    exact ⟨rfl, _, _, H9.out.1, H9.out.2⟩
end Go.Proofs.Ytniodjigncicbaa.Dg

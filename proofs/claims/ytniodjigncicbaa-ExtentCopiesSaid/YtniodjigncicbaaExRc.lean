/- The reference's object: Write and Zero. -/
import Derived.Test.YtniodjigncicbaaExRb
namespace Go.Proofs.Ytniodjigncicbaa.Dg
open Go.RowKit
variable {w w' : World} {base b s : Nat} {v u vd vh : Value} {c : Cel} {l : List UInt8}
attribute [local go_sem ↓] Go.wp_at_zero Go.wp_at_succ
/-- What a change of the reference's object leaves. -/
def RP (w : World) (base b : Nat) (vd vh : Value) (n : Int) (c : Cel) (s : Nat) (e : Ending) (w' : World) : Prop :=
  e = .returned (.int .i64 n) ∧ ∃ vd' vh', Rf w' base b vd' vh' c s ∧ RfT b vd vh vd' vh' w w'
theorem Rf.slices (h : Rf w base b vd vh c s) (hs : s ≠ 0) : ∃ g o cp g2 o2 cp2, vd = .slice (some ⟨g, o, none⟩) s cp ∧ vh = .slice (some ⟨g2, o2, none⟩) s cp2 ∧ g ≠ b ∧ g2 ≠ b ∧ g ≠ g2 ∧ (∀ i, w.frozen? ⟨g, i, none⟩ = false) ∧ (∀ i, w.frozen? ⟨g2, i, none⟩ = false) ∧
      (∀ k, k < s → w.cell? ⟨g, o + k, none⟩ = some (u8v ((c k).getD 0))) ∧ ∀ k, k < s → w.cell? ⟨g2, o2 + k, none⟩ = some (.bool (c k).isSome) := by
  obtain ⟨g, o, cp, rfl, _, _, _, _, f1, x1⟩ := h.dat.form hs
  obtain ⟨g2, o2, cp2, rfl, _, _, _, _, f2, x2⟩ := h.has.form hs
  refine ⟨g, o, cp, g2, o2, cp2, rfl, rfl, ?_, ?_, ?_, f1, f2, fun k hk => x1 k _ ?_, fun k hk => x2 k _ ?_⟩
  rotate_left 3
  · rw [List.getElem?_map]; simp [datR, hk]
  · unfold bV; rw [List.getElem?_map, hasR_get _ _ _ hk]; rfl
  · rintro rfl; exact absurd (h.dat.type rfl h.blk) (by decide)
  · rintro rfl; exact absurd (h.has.type rfl h.blk) (by decide)
  · rintro rfl
    obtain ⟨cs, hcs⟩ := h.dat.block (k := g) rfl
    exact absurd (h.has.type rfl hcs) (by decide)
theorem Rf.put {g o cp g2 o2 cp2 : Nat} (h : Rf w base b (.slice (some ⟨g, o, none⟩) s cp) (.slice (some ⟨g2, o2, none⟩) s cp2) c s) (k : Nat) (hk : k < s) (x : Option UInt8) :
    Rf ((w.setCell ⟨g, o + k, none⟩ (u8v (x.getD 0))).setCell ⟨g2, o2 + k, none⟩ (.bool x.isSome)) base b (.slice (some ⟨g, o, none⟩) s cp) (.slice (some ⟨g2, o2, none⟩) s cp2) (fun p => if p = k then x else c p) s ∧
      Mv (RfO b (.slice (some ⟨g, o, none⟩) s cp) (.slice (some ⟨g2, o2, none⟩) s cp2)) w ((w.setCell ⟨g, o + k, none⟩ (u8v (x.getD 0))).setCell ⟨g2, o2 + k, none⟩ (.bool x.isSome)) := by
  obtain ⟨g', o', cp', g2', o2', cp2', e1, e2, n1, n2, n3, -, -, -, -⟩ := h.slices (by omega)
  injection e1 with e1
  injection e1 with e1
  injection e1 with e1
  injection e2 with e2
  injection e2 with e2
  injection e2 with e2
  subst e1
  subst e2
  have hm1 : Mv (fun i => i = g) w (w.setCell ⟨g, o + k, none⟩ (u8v (x.getD 0))) := Mv.set (S := fun i => i = g) (Mv.refl _ _) (p := ⟨g, o + k, none⟩) rfl _
  have hm2 : Mv (fun i => i = g2) (w.setCell ⟨g, o + k, none⟩ (u8v (x.getD 0))) ((w.setCell ⟨g, o + k, none⟩ (u8v (x.getD 0))).setCell ⟨g2, o2 + k, none⟩ (.bool x.isSome)) := Mv.set (S := fun i => i = g2) (Mv.refl _ _) (p := ⟨g2, o2 + k, none⟩) rfl _
  have hd : Og 5 1 (w.setCell ⟨g, o + k, none⟩ (u8v (x.getD 0))) base (.slice (some ⟨g, o, none⟩) s cp) s ((datR (fun p => if p = k then x else c p) s).map u8v) := by
    rw [← datR_set, List.map_set]
    exact h.dat.setc k hk _
  have hh0 : Og 4 1 (w.setCell ⟨g, o + k, none⟩ (u8v (x.getD 0))) base (.slice (some ⟨g2, o2, none⟩) s cp2) s (bV (hasR c s)) := h.has.mv hm1 (fun k hk e => by
    injection hk with hk
    exact n3 (e.symm.trans hk.symm))
  have hh : Og 4 1 ((w.setCell ⟨g, o + k, none⟩ (u8v (x.getD 0))).setCell ⟨g2, o2 + k, none⟩ (.bool x.isSome)) base (.slice (some ⟨g2, o2, none⟩) s cp2) s (bV (hasR (fun p => if p = k then x else c p) s)) := by
    unfold bV
    rw [← hasR_set, List.map_set]
    exact hh0.setc k hk _
  refine ⟨⟨hm2.bk (hm1.bk h.blk (fun e => n1 e.symm)) (fun e => n2 e.symm), hd.mv hm2 (fun k hk e => by
    injection hk with hk
    exact n3 (hk.trans e)), hh, h.le, fun p hp => ?_, h.max⟩, (hm1.mono fun i _ e => .inr (.inl (by rw [e]; rfl))).trans (hm2.mono fun i _ e => .inr (.inr (by rw [e]; rfl)))⟩
  show (if p = k then x else c p) = none
  rw [if_neg (by omega)]
  exact h.up p hp
theorem bs_mv {B : Nat} {S : Nat → Prop} (h : Bs w B u l) (hm : Mv S w w') (hs : ∀ k, S k → B ≤ k) (hB : B ≤ w.heap.size) : Bs w' B u l := h.keep fun b o hlt => by
  have := hm.block b (by omega) (fun e => by have := hs b e; omega)
  unfold World.cell?
  rw [this]
set_option maxRecDepth 100000 in
set_option maxHeartbeats 4000000 in
theorem rwrite_any {u : Value} {B : Nat} (w : World) (h : Rf w base b vd vh c s) (at_ : Int) (hu : Bs w B u l) (hB : B ≤ base) (hbase : base ≤ w.heap.size) :
    Calls Try.prog 59 #[.pointer (some ⟨b, 0, none⟩), .int .i64 at_, u] w (RP w base b vd vh (exE at_ l.length) (if exE at_ l.length ≠ 0 ∨ l = [] then c else wrC c at_.toNat l) (if exE at_ l.length ≠ 0 ∨ l = [] then s else max s (at_.toNat + l.length))) := by
  have hll := hu.len
  have HC := Lib.hid (fun wx => fits_any wx at_ (l.length : Int))
  have HE := Lib.hid h
  have HU := Lib.hid hu
  obtain ⟨A, cp, rfl, hc1, hc2, -⟩ := id hu
  by_cases hbad : exE at_ l.length ≠ 0 ∨ l = []
  · rw [if_pos hbad, if_pos hbad]
    by_cases hl0 : l = []
    · subst hl0
      have HC0 := Lib.hid (fits_any w at_ 0)
      have hE : exE at_ ((([] : List UInt8).length : Nat) : Int) = exE at_ 0 := rfl
      rw [hE]
      clear hbad hE HC hu h
      obtain ⟨E, hE⟩ : ∃ E, exE at_ 0 = E := ⟨_, rfl⟩
      rw [hE] at HC0 ⊢
      by_cases hx : E = 0
      · subst hx
        clear hE
        go_enter Try.func59, Try.ntmps59
        go_wp2_with (go_at_call 113; (with_reducible refine HC0.out.mono ?_); rintro e w2 ⟨rfl, rfl⟩)
        go_ret
        exact ⟨rfl, _, _, HE.out, RfT.refl _ _ _ _⟩
      · clear hE
        go_enter Try.func59, Try.ntmps59
        go_wp2_with (go_at_call 113; (with_reducible refine HC0.out.mono ?_); rintro e w2 ⟨rfl, rfl⟩)
        go_ret
        exact ⟨rfl, _, _, HE.out, RfT.refl _ _ _ _⟩
    · have hx : exE at_ l.length ≠ 0 := by rcases hbad with h | h; exact h; exact absurd h hl0
      obtain ⟨E, hE⟩ : ∃ E, exE at_ l.length = E := ⟨_, rfl⟩
      rw [hE] at HC hx ⊢
      have HC0 := Lib.hid (HC.out w)
      clear hbad hE hl0 HC hu h
      go_enter Try.func59, Try.ntmps59
      go_wp2_with (go_at_call 113; (with_reducible refine HC0.out.mono ?_); rintro e w2 ⟨rfl, rfl⟩)
      go_ret
      exact ⟨rfl, _, _, HE.out, RfT.refl _ _ _ _⟩
  · rw [if_neg hbad, if_neg hbad]
    have he0 : exE at_ l.length = 0 := by
      rcases Int.decEq (exE at_ l.length) 0 with h | h
      · exact absurd (.inl h) hbad
      · exact h
    have hne : l ≠ [] := fun h => hbad (.inr h)
    have hl1 : l.length ≠ 0 := fun h => hne (List.eq_nil_of_length_eq_zero h)
    have hrange : 0 ≤ at_ ∧ at_ + (l.length : Int) ≤ 4096 := by
      unfold exE at he0
      split at he0
      · cases he0
      · split at he0
        · cases he0
        · omega
    obtain ⟨t, rfl⟩ : ∃ t : Nat, at_ = (t : Int) := ⟨at_.toNat, by omega⟩
    obtain ⟨n, hn⟩ : ∃ n, l.length = n := ⟨_, rfl⟩
    obtain ⟨e, he⟩ : ∃ e : Nat, t + n = e := ⟨_, rfl⟩
    rw [he0] at HC ⊢
    rw [hn] at hc1 HC hrange hl1 ⊢
    rw [Int.toNat_natCast, he]
    have e1 : (t : Int) + (n : Int) = (e : Int) := by omega
    have e2 : IntKind.i64.wrap (e : Int) = (e : Int) := IntWalk.i64_in _ (by omega)
    have hn0 : ¬ (n : Int) = 0 := by omega
    have HC0 := Lib.hid (HC.out w)
    have HN := Lib.hid (show e ≤ 4096 ∧ t + n = e by omega)
    have HB := Lib.hid (And.intro hB hbase)
    clear HC hbad he0 hrange h hne
    go_enter Try.func59, Try.ntmps59
    go_wp2_with (first | (go_at_call 113; (with_reducible refine HC0.out.mono ?_); rintro e w2 ⟨rfl, rfl⟩) | (go_at_call 114; (with_reducible refine (grow_any w HE.out e HN.out.1 HB.out.2).mono ?_); rintro e9 w2 ⟨rfl, v1, v2, hr2, ht2⟩; have H2 := Lib.hid (And.intro hr2 ht2); clear hr2 ht2))
    obtain ⟨g, o, c1, g2, o2, c2, rfl, rfl, ng, ng2, ngg, fr, fr2, -, -⟩ := H2.out.1.slices (by omega)
    have H2' : Hid (Rf w2 base b (.slice (some ⟨g, o, none⟩) (max s e) c1) (.slice (some ⟨g2, o2, none⟩) (max s e) c2) (wrC c t (l.take 0)) (max s e)) := Lib.hid (by rw [List.take_zero, wrC_nil]; exact H2.out.1)
    have HX := Lib.hid (And.intro fr (And.intro fr2 (And.intro ng (And.intro ng2 ngg))))
    have HT2 := Lib.hid H2.out.2
    have HB2 := Lib.hid (bs_mv HU.out H2.out.2.1 (fun k hk => by have := (HE.out.ge hk).1; have := HB.out.1; omega) (Nat.le_trans HB.out.1 HB.out.2))
    have hms : e ≤ max s e := Nat.le_max_right s e
    obtain ⟨M, hM⟩ : ∃ M, max s e = M := ⟨_, rfl⟩
    rw [hM] at H2' HT2 hms ⊢
    have HMM := Lib.hid hM
    clear H2 fr fr2 ng ng2 ngg HE hM
    go_loopw [8, 9, 28] (fun _ _ i wr => ∃ j : Nat, j ≤ n ∧ i = .int .i64 (j : Int) ∧ Hid (Rf wr base b (.slice (some ⟨g, o, none⟩) M c1) (.slice (some ⟨g2, o2, none⟩) M c2) (wrC c t (l.take j)) M ∧ Mv (RfO b (.slice (some ⟨g, o, none⟩) M c1) (.slice (some ⟨g2, o2, none⟩) M c2)) w2 wr)) (fun _ _ i _ => n - (intOf i).toNat)
    case atStart => exact ⟨0, Nat.zero_le _, rfl, Lib.hid ⟨H2'.out, Mv.refl _ _⟩⟩
    case round =>
      obtain ⟨j, hj, rfl, HJ⟩ := hrel
      by_cases hlt : j < n
      · obtain ⟨Au, cu, hv, -, -, hcells⟩ := bs_mv HB2.out HJ.out.2 (fun k hk => by have := (H2'.out.ge hk).1; have := HB.out.1; omega) (Nat.le_trans HB.out.1 (Nat.le_trans HB.out.2 HT2.out.1.size))
        injection hv with ha hb hc
        subst ha
        subst hc
        obtain ⟨gu, ou, rfl, hgu, hcu⟩ := hcells (fun e => by rw [e] at hn; simp at hn; omega)
        have u0 := hcu j (by omega)
        have i1 : (0 : Int) ≤ (j : Int) := by omega
        have i2 : (j : Int) < (n : Int) := by omega
        obtain ⟨k, hk⟩ : ∃ k : Nat, t + j = k := ⟨_, rfl⟩
        have s1 : (t : Int) + (j : Int) = (k : Int) := by omega
        have s2 : IntKind.i64.wrap (k : Int) = (k : Int) := IntWalk.i64_in _ (by have := HN.out; omega)
        have hkM : k < M := by have := HN.out; omega
        have i3 : (0 : Int) ≤ (k : Int) := by omega
        have i4 : (k : Int) < (M : Int) := by omega
        have hS : ∀ wx : World, Bk wx b 70 #[.slice (some ⟨g, o, none⟩) M c1, .slice (some ⟨g2, o2, none⟩) M c2] → wx.cell? ⟨b, 0, none⟩ = some (.slice (some ⟨g, o, none⟩) M c1) ∧ wx.cell? ⟨b, 1, none⟩ = some (.slice (some ⟨g2, o2, none⟩) M c2) := fun wx hx => ⟨hx.cell rfl, hx.cell rfl⟩
        have q0 := (hS wr HJ.out.1.blk).1
        have q1 := (hS wr HJ.out.1.blk).2
        obtain ⟨_, _, _, _, _, _, e1', e2', -, -, -, fr, fr2, x1, x2⟩ := HJ.out.1.slices (by omega)
        injection e1' with e1' _ _
        injection e1' with e1'
        injection e1' with e1' e1o _
        injection e2' with e2' _ _
        injection e2' with e2'
        injection e2' with e2' e2o _
        subst e1' e1o e2' e2o
        have y1 := x1 k hkM
        have y2 := x2 k hkM
        clear x1 x2
        have hp := HJ.out.1.put k hkM (some (l.getD j 0))
        rw [← hk, wrC_step c t l j (by omega), hk] at hp
        rw [Option.getD_some] at hp
        generalize l.getD j 0 = x at hp u0
        have n1 := HX.out.2.2.1
        have n2 := HX.out.2.2.2.1
        have n3 := HX.out.2.2.2.2
        have n4 : ¬ g2 = g := fun e => n3 e.symm
        have y3 : (wr.setCell ⟨g, o + k, none⟩ (u8v x)).cell? ⟨g2, o2 + k, none⟩ = some (.bool (wrC c t (l.take j) k).isSome) := (World.cell?_of_block (a := ⟨g2, o2 + k, none⟩) (Below.heap_setCell _ _ _ g2 n4)).trans y2
        have y4 := (World.cell?_of_block (a := ⟨g2, o2 + k, none⟩) (Below.heap_setCell wr.drew ⟨g, o + k, none⟩ (u8v x) g2 n4)).trans y2
        have HS := Lib.hid hS
        have HP := Lib.hid hp
        have HK := Lib.hid (And.intro hkM hk)
        have HM := Lib.hid hms
        have HLT := Lib.hid (show j + 1 ≤ n ∧ n ≤ 4096 by have := HN.out; omega)
        clear hp hS hcells hcu hkM hk hms hll hc1 hc2 hu hj
        go_wp2_with fail
        go_region_held3 (fun wx => wx.cell? ⟨b, 0, none⟩ = some (.slice (some ⟨g, o, none⟩) M c1) ∧ wx.cell? ⟨b, 1, none⟩ = some (.slice (some ⟨g2, o2, none⟩) M c2)) (exact HS.out _ (by repeat (first | exact HJ.out.1.blk | refine Bk.drew ?_ | refine Bk.far ?_ (fun e => n1 e.symm) _ | refine Bk.far ?_ (fun e => n2 e.symm) _))) (fail)
        have hn4 : (n : Int) ≤ 4096 := by have := HLT.out.2; omega
        go_wp2_with fail
        go_roundw
        case rel => exact ⟨j + 1, HLT.out.1, by have := HLT.out; go_num, Lib.hid ⟨HP.out.1.ab (Ab.refl _).drew, HJ.out.2.trans HP.out.2.drew⟩⟩
        case measure => have := HLT.out; simp [intOf]; omega
      · have hjn : j = n := by omega
        subst hjn
        go_wp2_with fail
        go_ret
        refine ⟨rfl, _, _, ?_, HT2.out.trans ⟨HJ.out.2, fun k hk => .inl hk⟩⟩
        have := HJ.out.1
        rw [List.take_of_length_le (Nat.le_of_eq hn)] at this
        exact HMM.out ▸ this
end Go.Proofs.Ytniodjigncicbaa.Dg

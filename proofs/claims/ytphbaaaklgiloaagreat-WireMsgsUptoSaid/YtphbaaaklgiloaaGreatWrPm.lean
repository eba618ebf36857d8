/- wire: the coder's functions that a message reaches besides, writing. Made by wip/gen_wire2.py. -/
import Derived.Test.YtphbaaaklgiloaaGreatWrP
namespace Go.Proofs.YtphbaaaklgiloaaGreat.Dg
open Go.RowKit
attribute [local go_sem ↓] Go.wp_at_zero Go.wp_at_succ
variable {w w' : World} {base cb : Nat} {v : Value} {l : List UInt8}
set_option maxRecDepth 100000 in
set_option maxHeartbeats 400000000 in
theorem list_string_s : Wrl 135 136 .text := by
  intro b o m w cb base v l h hc hl
  obtain ⟨hb, A, n, c, ms, h1, h2, h3, h4, h5, rfl⟩ := h
  have hcell : w.cell? ⟨b, o, none⟩ = some (.slice A n c) := h1
  have hr := hc.reads
  have hle := hc.le
  have hlt := hc.lt
  have hlm : l.length + (4 + ms.flatten.length) ≤ 900000000000 := by rw [List.length_append, lowL_length] at hl; omega
  have hn9 : n ≤ 9223372036854775807 := by omega
  have HC := Lib.hid hc
  have HI := Lib.hid h5
  have HM := Lib.hid (And.intro h4 hlm)
  have HCL := Lib.hid hcell
  clear hc h5 h4 hl hlm h1
  go_enter Tryz.func135, Tryz.ntmps135
  go_wp2_with fail
  refine (put_any n (by omega) 4 (by omega) w HC.out (by have := HM.out.2; omega)).mono ?_
  rintro e w2 ⟨rfl, v2, hc2, hf2⟩
  have hcell2 : w2.cell? ⟨b, o, none⟩ = some (.slice A n c) := (World.cell?_of_block (a := ⟨b, o, none⟩) (hf2.below hle b hb (by omega))).trans hcell
  have H2 := Lib.hid (And.intro hc2 hf2)
  clear hc2 hf2 HC hr hcell
  go_wp2_with fail
  go_loopw [46] (fun i wr => ∃ j : Nat, j ≤ n ∧ i = .int .i64 (j : Int) ∧ ∃ v', Cw wr cb base v' (l ++ lowL n 4 ++ (ms.take j).flatten) ∧ Fw cb base w wr) (fun i _ => n - (intOf i).toNat)
  case atStart => exact ⟨0, Nat.zero_le _, rfl, v2, by simpa using H2.out.1, H2.out.2⟩
  case round =>
    obtain ⟨j, hj, rfl, v3, hc3, hf3⟩ := hrel
    have hcell3 : wr.cell? ⟨b, o, none⟩ = some (.slice A n c) := (World.cell?_of_block (a := ⟨b, o, none⟩) (hf3.below hle b hb (by omega))).trans HCL.out
    have H3 := Lib.hid (And.intro hc3 hf3)
    by_cases hlt2 : j < n
    · obtain ⟨b', o', rfl, hb', hits⟩ := HI.out (by omega)
      have hit0 : At wr base .text b' (o' + j * Sch.sz .text) (ms.getD j []) := At.keep ⟨hb', hits j hlt2⟩ (hf3.old hle (by omega))
      have hit : At wr base .text b' (o' + j) (ms.getD j []) := by simpa [Sch.sz] using hit0
      have hle2 := flat_take_le ms j (by rw [HM.out.1]; exact hlt2)
      have HS := Lib.hid (And.intro (flat_take ms j (by rw [HM.out.1]; exact hlt2)) hit)
      have HL := Lib.hid (show (l ++ lowL n 4 ++ (ms.take j).flatten).length + (ms.getD j []).length ≤ 900000000000 by
        rw [List.length_append, List.length_append, lowL_length]; have := HM.out.2; omega)
      have hj0 : (0 : Int) ≤ (j : Int) := by omega
      have hj1 : (j : Int) < (n : Int) := by omega
      clear hc3 hf3 hits hit hit0 hle2
      go_wp2_with fail
      refine (text_s b' (o' + j) (ms.getD j []) wr cb base v3 _ HS.out.2 H3.out.1 HL.out).mono ?_
      rintro e w4 ⟨rfl, v4, hc4, hf4⟩
      have H4 := Lib.hid (And.intro hc4 hf4)
      clear hc4 hf4
      go_wp2_with fail
      go_roundw
      case rel => exact ⟨j + 1, by omega, by go_num, v4, by rw [HS.out.1, ← List.append_assoc]; exact H4.out.1, H3.out.2.trans H4.out.2⟩
      case measure => simp [intOf]; omega
    · clear hc3 hf3
      go_wp2_with fail
      go_end0
      have : j = n := by omega
      subst this
      exact ⟨rfl, v3, by rw [← List.append_assoc]; have e : ms.take j = ms := List.take_of_length_le (by rw [HM.out.1]; exact Nat.le_refl _); rw [← e]; exact H3.out.1, H3.out.2⟩
set_option maxRecDepth 100000 in
set_option maxHeartbeats 400000000 in
theorem texts_s : Wrs 60 (.list .text) := by
  intro b o m w cb base v l h hc hl
  have hb := h.1
  have hle := hc.le
  have hlt := hc.lt
  obtain ⟨m0, h0, rfl⟩ : ∃ m0, At w base (.list .text) b o m0 ∧ m0 = m := ⟨m, h, rfl⟩
  replace h0 : At w base (.list .text) b (o) m0 := h0
  have HL := Lib.hid hl
  have HA := Lib.hid (⟨h0, trivial⟩ : At w base (.list .text) b (o) m0 ∧ True)
  have HC := Lib.hid (And.intro hc (Fw.refl cb base w))
  clear hc hl h0 h
  go_enter Tryz.func60, Tryz.ntmps60
  go_wp2_with fail
  refine (list_string_s b (o) m0 w cb base _ (l) (HA.out.1.keep (HC.out.2.old hle (by omega))) HC.out.1 (by have := HL.out; first | omega | (simp only [List.length_append] at this ⊢; omega))).mono ?_
  rintro e w2 ⟨rfl, v2, hc, hf⟩
  have H2 := Lib.hid (show Cw w2 cb base v2 (l ++ m0) ∧ Fw cb base w w2 from ⟨by first | exact hc | simpa only [List.append_assoc] using hc, HC.out.2.trans hf⟩)
  clear hc hf
  go_wp2_with fail
  go_end0
  exact ⟨rfl, _, by first | exact H2.out.1 | simpa only [List.append_assoc] using H2.out.1, H2.out.2⟩
set_option maxRecDepth 100000 in
set_option maxHeartbeats 400000000 in
theorem node_s : Wrs 64 (.pair .num .num) := by
  intro b o m w cb base v l h hc hl
  have hb := h.1
  have hle := hc.le
  have hlt := hc.lt
  obtain ⟨m0, m1, h0, h1, rfl⟩ := h.fst
  replace h0 : At w base .num b (o) m0 := h0
  replace h1 : At w base .num b (o + 1) m1 := h1
  have HL := Lib.hid hl
  have HA := Lib.hid (⟨h0, h1, trivial⟩ : At w base .num b (o) m0 ∧ At w base .num b (o + 1) m1 ∧ True)
  have HC := Lib.hid (And.intro hc (Fw.refl cb base w))
  clear hc hl h0 h1 h 
  go_enter Tryz.func64, Tryz.ntmps64
  go_wp2_with fail
  obtain ⟨n0, g0, e0⟩ := (HA.out.1.keep (HC.out.2.old hle (by omega))).num
  obtain ⟨n1, g1, e1⟩ := (HA.out.2.1.keep (HC.out.2.old hle (by omega))).num
  have HG := Lib.hid (at2 (base := base) hb g0 g1)
  have HE := Lib.hid (show numsL [n0, n1] = m0 ++ m1 by rw [e0, e1]; simp [numsL])
  have HX := Lib.hid (show (l).length + 800 ≤ 1000000000000 by have := HL.out; simp only [List.length_append] at this ⊢; omega)
  clear g0 e0 g1 e1
  go_region_held3 (fun _ => True) (trivial) ((go_at_call 65; refine (numbers_new [(b, o), (b, o + 1)] [n0, n1] w rfl (by simp) HG.out HC.out.1 HX.out).mono ?_; rintro e w2 ⟨rfl, v2, hc, hf⟩))
  rw [HE.out] at hc
  have H2 := Lib.hid (show Cw w2 cb base v2 (l ++ m0 ++ m1) ∧ Fw cb base w w2 from ⟨by first | exact hc | simpa only [List.append_assoc] using hc, HC.out.2.trans hf⟩)
  clear hc hf HG HE HX
  go_wp2_with fail
  go_end0
  exact ⟨rfl, _, by first | exact H2.out.1 | simpa only [List.append_assoc] using H2.out.1, H2.out.2⟩
set_option maxRecDepth 100000 in
set_option maxHeartbeats 400000000 in
theorem slot_s : Wrs 68 (.pair .num (.pair .num .data)) := by
  intro b o m w cb base v l h hc hl
  have hb := h.1
  have hle := hc.le
  have hlt := hc.lt
  obtain ⟨m0, r0, h0, k0, rfl⟩ := h.fst
  obtain ⟨m1, m2, h1, h2, rfl⟩ := k0.fst
  replace h0 : At w base .num b (o) m0 := h0
  replace h1 : At w base .num b (o + 1) m1 := h1
  replace h2 : At w base .data b (o + 2) m2 := h2
  have HL := Lib.hid hl
  have HA := Lib.hid (⟨h0, h1, h2, trivial⟩ : At w base .num b (o) m0 ∧ At w base .num b (o + 1) m1 ∧ At w base .data b (o + 2) m2 ∧ True)
  have HC := Lib.hid (And.intro hc (Fw.refl cb base w))
  clear hc hl h0 h1 h2 h k0
  go_enter Tryz.func68, Tryz.ntmps68
  go_wp2_with fail
  obtain ⟨n0, g0, e0⟩ := (HA.out.1.keep (HC.out.2.old hle (by omega))).num
  obtain ⟨n1, g1, e1⟩ := (HA.out.2.1.keep (HC.out.2.old hle (by omega))).num
  have HG := Lib.hid (at2 (base := base) hb g0 g1)
  have HE := Lib.hid (show numsL [n0, n1] = m0 ++ m1 by rw [e0, e1]; simp [numsL])
  have HX := Lib.hid (show (l).length + 800 ≤ 1000000000000 by have := HL.out; simp only [List.length_append] at this ⊢; omega)
  clear g0 e0 g1 e1
  go_region_held3 (fun _ => True) (trivial) ((go_at_call 65; refine (numbers_new [(b, o), (b, o + 1)] [n0, n1] w rfl (by simp) HG.out HC.out.1 HX.out).mono ?_; rintro e w2 ⟨rfl, v2, hc, hf⟩))
  rw [HE.out] at hc
  have H2 := Lib.hid (show Cw w2 cb base v2 (l ++ m0 ++ m1) ∧ Fw cb base w w2 from ⟨by first | exact hc | simpa only [List.append_assoc] using hc, HC.out.2.trans hf⟩)
  clear hc hf HG HE HX
  go_wp2_with fail
  refine (data_s b (o + 2) m2 w2 cb base _ (l ++ m0 ++ m1) (HA.out.2.2.1.keep (H2.out.2.old hle (by omega))) H2.out.1 (by have := HL.out; first | omega | (simp only [List.length_append] at this ⊢; omega))).mono ?_
  rintro e w3 ⟨rfl, v3, hc, hf⟩
  have H3 := Lib.hid (show Cw w3 cb base v3 (l ++ m0 ++ m1 ++ m2) ∧ Fw cb base w w3 from ⟨by first | exact hc | simpa only [List.append_assoc] using hc, H2.out.2.trans hf⟩)
  clear hc hf
  go_wp2_with fail
  go_end0
  exact ⟨rfl, _, by first | exact H3.out.1 | simpa only [List.append_assoc] using H3.out.1, H3.out.2⟩
set_option maxRecDepth 100000 in
set_option maxHeartbeats 400000000 in
theorem info_s : Wrs 72 (.pair .num (.pair (.pair .num .num) (.pair (.pair .num .num) .num))) := by
  intro b o m w cb base v l h hc hl
  have hb := h.1
  have hle := hc.le
  have hlt := hc.lt
  obtain ⟨m0, r0, h0, k0, rfl⟩ := h.fst
  obtain ⟨m1, r1, h1, k1, rfl⟩ := k0.fst
  obtain ⟨m2, m3, h2, h3, rfl⟩ := k1.fst
  replace h0 : At w base .num b (o) m0 := h0
  replace h1 : At w base (.pair .num .num) b (o + 1) m1 := h1
  replace h2 : At w base (.pair .num .num) b (o + 3) m2 := h2
  replace h3 : At w base .num b (o + 5) m3 := h3
  have HL := Lib.hid hl
  have HA := Lib.hid (⟨h0, h1, h2, h3, trivial⟩ : At w base .num b (o) m0 ∧ At w base (.pair .num .num) b (o + 1) m1 ∧ At w base (.pair .num .num) b (o + 3) m2 ∧ At w base .num b (o + 5) m3 ∧ True)
  have HC := Lib.hid (And.intro hc (Fw.refl cb base w))
  clear hc hl h0 h1 h2 h3 h k0 k1
  go_enter Tryz.func72, Tryz.ntmps72
  go_wp2_with fail
  refine (number_s b (o) m0 w cb base _ (l) (HA.out.1.keep (HC.out.2.old hle (by omega))) HC.out.1 (by have := HL.out; first | omega | (simp only [List.length_append] at this ⊢; omega))).mono ?_
  rintro e w2 ⟨rfl, v2, hc, hf⟩
  have H2 := Lib.hid (show Cw w2 cb base v2 (l ++ m0) ∧ Fw cb base w w2 from ⟨by first | exact hc | simpa only [List.append_assoc] using hc, HC.out.2.trans hf⟩)
  clear hc hf
  go_wp2_with fail
  refine (version_s b (o + 1) m1 w2 cb base _ (l ++ m0) (HA.out.2.1.keep (H2.out.2.old hle (by omega))) H2.out.1 (by have := HL.out; first | omega | (simp only [List.length_append] at this ⊢; omega))).mono ?_
  rintro e w3 ⟨rfl, v3, hc, hf⟩
  have H3 := Lib.hid (show Cw w3 cb base v3 (l ++ m0 ++ m1) ∧ Fw cb base w w3 from ⟨by first | exact hc | simpa only [List.append_assoc] using hc, H2.out.2.trans hf⟩)
  clear hc hf
  go_wp2_with fail
  refine (version_s b (o + 3) m2 w3 cb base _ (l ++ m0 ++ m1) (HA.out.2.2.1.keep (H3.out.2.old hle (by omega))) H3.out.1 (by have := HL.out; first | omega | (simp only [List.length_append] at this ⊢; omega))).mono ?_
  rintro e w4 ⟨rfl, v4, hc, hf⟩
  have H4 := Lib.hid (show Cw w4 cb base v4 (l ++ m0 ++ m1 ++ m2) ∧ Fw cb base w w4 from ⟨by first | exact hc | simpa only [List.append_assoc] using hc, H3.out.2.trans hf⟩)
  clear hc hf
  go_wp2_with fail
  refine (number_s b (o + 5) m3 w4 cb base _ (l ++ m0 ++ m1 ++ m2) (HA.out.2.2.2.1.keep (H4.out.2.old hle (by omega))) H4.out.1 (by have := HL.out; first | omega | (simp only [List.length_append] at this ⊢; omega))).mono ?_
  rintro e w5 ⟨rfl, v5, hc, hf⟩
  have H5 := Lib.hid (show Cw w5 cb base v5 (l ++ m0 ++ m1 ++ m2 ++ m3) ∧ Fw cb base w w5 from ⟨by first | exact hc | simpa only [List.append_assoc] using hc, H4.out.2.trans hf⟩)
  clear hc hf
  go_wp2_with fail
  go_end0
  exact ⟨rfl, _, by first | exact H5.out.1 | simpa only [List.append_assoc] using H5.out.1, H5.out.2⟩
set_option maxRecDepth 100000 in
set_option maxHeartbeats 400000000 in
theorem object_s : Wrs 74 (.pair .text (.pair (.pair .num .num) .data)) := by
  intro b o m w cb base v l h hc hl
  have hb := h.1
  have hle := hc.le
  have hlt := hc.lt
  obtain ⟨m0, r0, h0, k0, rfl⟩ := h.fst
  obtain ⟨m1, m2, h1, h2, rfl⟩ := k0.fst
  replace h0 : At w base .text b (o) m0 := h0
  replace h1 : At w base (.pair .num .num) b (o + 1) m1 := h1
  replace h2 : At w base .data b (o + 3) m2 := h2
  have HL := Lib.hid hl
  have HA := Lib.hid (⟨h0, h1, h2, trivial⟩ : At w base .text b (o) m0 ∧ At w base (.pair .num .num) b (o + 1) m1 ∧ At w base .data b (o + 3) m2 ∧ True)
  have HC := Lib.hid (And.intro hc (Fw.refl cb base w))
  clear hc hl h0 h1 h2 h k0
  go_enter Tryz.func74, Tryz.ntmps74
  go_wp2_with fail
  refine (text_s b (o) m0 w cb base _ (l) (HA.out.1.keep (HC.out.2.old hle (by omega))) HC.out.1 (by have := HL.out; first | omega | (simp only [List.length_append] at this ⊢; omega))).mono ?_
  rintro e w2 ⟨rfl, v2, hc, hf⟩
  have H2 := Lib.hid (show Cw w2 cb base v2 (l ++ m0) ∧ Fw cb base w w2 from ⟨by first | exact hc | simpa only [List.append_assoc] using hc, HC.out.2.trans hf⟩)
  clear hc hf
  go_wp2_with fail
  refine (version_s b (o + 1) m1 w2 cb base _ (l ++ m0) (HA.out.2.1.keep (H2.out.2.old hle (by omega))) H2.out.1 (by have := HL.out; first | omega | (simp only [List.length_append] at this ⊢; omega))).mono ?_
  rintro e w3 ⟨rfl, v3, hc, hf⟩
  have H3 := Lib.hid (show Cw w3 cb base v3 (l ++ m0 ++ m1) ∧ Fw cb base w w3 from ⟨by first | exact hc | simpa only [List.append_assoc] using hc, H2.out.2.trans hf⟩)
  clear hc hf
  go_wp2_with fail
  refine (data_s b (o + 3) m2 w3 cb base _ (l ++ m0 ++ m1) (HA.out.2.2.1.keep (H3.out.2.old hle (by omega))) H3.out.1 (by have := HL.out; first | omega | (simp only [List.length_append] at this ⊢; omega))).mono ?_
  rintro e w4 ⟨rfl, v4, hc, hf⟩
  have H4 := Lib.hid (show Cw w4 cb base v4 (l ++ m0 ++ m1 ++ m2) ∧ Fw cb base w w4 from ⟨by first | exact hc | simpa only [List.append_assoc] using hc, H3.out.2.trans hf⟩)
  clear hc hf
  go_wp2_with fail
  go_end0
  exact ⟨rfl, _, by first | exact H4.out.1 | simpa only [List.append_assoc] using H4.out.1, H4.out.2⟩
set_option maxRecDepth 100000 in
set_option maxHeartbeats 400000000 in
theorem op_s : Wrs 75 (.pair .num (.pair .text (.pair .data (.pair .num .num)))) := by
  intro b o m w cb base v l h hc hl
  have hb := h.1
  have hle := hc.le
  have hlt := hc.lt
  obtain ⟨m0, r0, h0, k0, rfl⟩ := h.fst
  obtain ⟨m1, r1, h1, k1, rfl⟩ := k0.fst
  obtain ⟨m2, m3, h2, h3, rfl⟩ := k1.fst
  replace h0 : At w base .num b (o) m0 := h0
  replace h1 : At w base .text b (o + 1) m1 := h1
  replace h2 : At w base .data b (o + 2) m2 := h2
  replace h3 : At w base (.pair .num .num) b (o + 3) m3 := h3
  have HL := Lib.hid hl
  have HA := Lib.hid (⟨h0, h1, h2, h3, trivial⟩ : At w base .num b (o) m0 ∧ At w base .text b (o + 1) m1 ∧ At w base .data b (o + 2) m2 ∧ At w base (.pair .num .num) b (o + 3) m3 ∧ True)
  have HC := Lib.hid (And.intro hc (Fw.refl cb base w))
  clear hc hl h0 h1 h2 h3 h k0 k1
  go_enter Tryz.func75, Tryz.ntmps75
  go_wp2_with fail
  refine (number_s b (o) m0 w cb base _ (l) (HA.out.1.keep (HC.out.2.old hle (by omega))) HC.out.1 (by have := HL.out; first | omega | (simp only [List.length_append] at this ⊢; omega))).mono ?_
  rintro e w2 ⟨rfl, v2, hc, hf⟩
  have H2 := Lib.hid (show Cw w2 cb base v2 (l ++ m0) ∧ Fw cb base w w2 from ⟨by first | exact hc | simpa only [List.append_assoc] using hc, HC.out.2.trans hf⟩)
  clear hc hf
  go_wp2_with fail
  refine (text_s b (o + 1) m1 w2 cb base _ (l ++ m0) (HA.out.2.1.keep (H2.out.2.old hle (by omega))) H2.out.1 (by have := HL.out; first | omega | (simp only [List.length_append] at this ⊢; omega))).mono ?_
  rintro e w3 ⟨rfl, v3, hc, hf⟩
  have H3 := Lib.hid (show Cw w3 cb base v3 (l ++ m0 ++ m1) ∧ Fw cb base w w3 from ⟨by first | exact hc | simpa only [List.append_assoc] using hc, H2.out.2.trans hf⟩)
  clear hc hf
  go_wp2_with fail
  refine (data_s b (o + 2) m2 w3 cb base _ (l ++ m0 ++ m1) (HA.out.2.2.1.keep (H3.out.2.old hle (by omega))) H3.out.1 (by have := HL.out; first | omega | (simp only [List.length_append] at this ⊢; omega))).mono ?_
  rintro e w4 ⟨rfl, v4, hc, hf⟩
  have H4 := Lib.hid (show Cw w4 cb base v4 (l ++ m0 ++ m1 ++ m2) ∧ Fw cb base w w4 from ⟨by first | exact hc | simpa only [List.append_assoc] using hc, H3.out.2.trans hf⟩)
  clear hc hf
  go_wp2_with fail
  refine (version_s b (o + 3) m3 w4 cb base _ (l ++ m0 ++ m1 ++ m2) (HA.out.2.2.2.1.keep (H4.out.2.old hle (by omega))) H4.out.1 (by have := HL.out; first | omega | (simp only [List.length_append] at this ⊢; omega))).mono ?_
  rintro e w5 ⟨rfl, v5, hc, hf⟩
  have H5 := Lib.hid (show Cw w5 cb base v5 (l ++ m0 ++ m1 ++ m2 ++ m3) ∧ Fw cb base w w5 from ⟨by first | exact hc | simpa only [List.append_assoc] using hc, H4.out.2.trans hf⟩)
  clear hc hf
  go_wp2_with fail
  go_end0
  exact ⟨rfl, _, by first | exact H5.out.1 | simpa only [List.append_assoc] using H5.out.1, H5.out.2⟩
set_option maxRecDepth 100000 in
set_option maxHeartbeats 400000000 in
theorem list_slot_s : Wrl 67 68 (.pair .num (.pair .num .data)) := by
  intro b o m w cb base v l h hc hl
  obtain ⟨hb, A, n, c, ms, h1, h2, h3, h4, h5, rfl⟩ := h
  have hcell : w.cell? ⟨b, o, none⟩ = some (.slice A n c) := h1
  have hr := hc.reads
  have hle := hc.le
  have hlt := hc.lt
  have hlm : l.length + (4 + ms.flatten.length) ≤ 900000000000 := by rw [List.length_append, lowL_length] at hl; omega
  have hn9 : n ≤ 9223372036854775807 := by omega
  have HC := Lib.hid hc
  have HI := Lib.hid h5
  have HM := Lib.hid (And.intro h4 hlm)
  have HCL := Lib.hid hcell
  clear hc h5 h4 hl hlm h1
  go_enter Tryz.func67, Tryz.ntmps67
  go_wp2_with fail
  refine (put_any n (by omega) 4 (by omega) w HC.out (by have := HM.out.2; omega)).mono ?_
  rintro e w2 ⟨rfl, v2, hc2, hf2⟩
  have hcell2 : w2.cell? ⟨b, o, none⟩ = some (.slice A n c) := (World.cell?_of_block (a := ⟨b, o, none⟩) (hf2.below hle b hb (by omega))).trans hcell
  have H2 := Lib.hid (And.intro hc2 hf2)
  clear hc2 hf2 HC hr hcell
  go_wp2_with fail
  go_loopw [46] (fun i wr => ∃ j : Nat, j ≤ n ∧ i = .int .i64 (j : Int) ∧ ∃ v', Cw wr cb base v' (l ++ lowL n 4 ++ (ms.take j).flatten) ∧ Fw cb base w wr) (fun i _ => n - (intOf i).toNat)
  case atStart => exact ⟨0, Nat.zero_le _, rfl, v2, by simpa using H2.out.1, H2.out.2⟩
  case round =>
    obtain ⟨j, hj, rfl, v3, hc3, hf3⟩ := hrel
    have hcell3 : wr.cell? ⟨b, o, none⟩ = some (.slice A n c) := (World.cell?_of_block (a := ⟨b, o, none⟩) (hf3.below hle b hb (by omega))).trans HCL.out
    have H3 := Lib.hid (And.intro hc3 hf3)
    by_cases hlt2 : j < n
    · obtain ⟨b', o', rfl, hb', hits⟩ := HI.out (by omega)
      have hit0 : At wr base (.pair .num (.pair .num .data)) b' (o' + j * Sch.sz (.pair .num (.pair .num .data))) (ms.getD j []) := At.keep ⟨hb', hits j hlt2⟩ (hf3.old hle (by omega))
      have hit : At wr base (.pair .num (.pair .num .data)) b' (o' + j * 3) (ms.getD j []) := by simpa [Sch.sz] using hit0
      have hle2 := flat_take_le ms j (by rw [HM.out.1]; exact hlt2)
      have HS := Lib.hid (And.intro (flat_take ms j (by rw [HM.out.1]; exact hlt2)) hit)
      have HL := Lib.hid (show (l ++ lowL n 4 ++ (ms.take j).flatten).length + (ms.getD j []).length ≤ 900000000000 by
        rw [List.length_append, List.length_append, lowL_length]; have := HM.out.2; omega)
      have hj0 : (0 : Int) ≤ (j : Int) := by omega
      have hj1 : (j : Int) < (n : Int) := by omega
      clear hc3 hf3 hits hit hit0 hle2
      go_wp2_with fail
      refine (slot_s b' (o' + j * 3) (ms.getD j []) wr cb base v3 _ HS.out.2 H3.out.1 HL.out).mono ?_
      rintro e w4 ⟨rfl, v4, hc4, hf4⟩
      have H4 := Lib.hid (And.intro hc4 hf4)
      clear hc4 hf4
      go_wp2_with fail
      go_roundw
      case rel => exact ⟨j + 1, by omega, by go_num, v4, by rw [HS.out.1, ← List.append_assoc]; exact H4.out.1, H3.out.2.trans H4.out.2⟩
      case measure => simp [intOf]; omega
    · clear hc3 hf3
      go_wp2_with fail
      go_end0
      have : j = n := by omega
      subst this
      exact ⟨rfl, v3, by rw [← List.append_assoc]; have e : ms.take j = ms := List.take_of_length_le (by rw [HM.out.1]; exact Nat.le_refl _); rw [← e]; exact H3.out.1, H3.out.2⟩
set_option maxRecDepth 100000 in
set_option maxHeartbeats 400000000 in
theorem list_inc_s : Wrl 69 40 (.pair .num (.list (.pair .num (.pair .num (.pair .num (.pair (.pair .num (.pair .num (.pair .num .num))) (.pair .num (.pair .num (.pair (.list .num) (.list .num)))))))))) := by
  intro b o m w cb base v l h hc hl
  obtain ⟨hb, A, n, c, ms, h1, h2, h3, h4, h5, rfl⟩ := h
  have hcell : w.cell? ⟨b, o, none⟩ = some (.slice A n c) := h1
  have hr := hc.reads
  have hle := hc.le
  have hlt := hc.lt
  have hlm : l.length + (4 + ms.flatten.length) ≤ 900000000000 := by rw [List.length_append, lowL_length] at hl; omega
  have hn9 : n ≤ 9223372036854775807 := by omega
  have HC := Lib.hid hc
  have HI := Lib.hid h5
  have HM := Lib.hid (And.intro h4 hlm)
  have HCL := Lib.hid hcell
  clear hc h5 h4 hl hlm h1
  go_enter Tryz.func69, Tryz.ntmps69
  go_wp2_with fail
  refine (put_any n (by omega) 4 (by omega) w HC.out (by have := HM.out.2; omega)).mono ?_
  rintro e w2 ⟨rfl, v2, hc2, hf2⟩
  have hcell2 : w2.cell? ⟨b, o, none⟩ = some (.slice A n c) := (World.cell?_of_block (a := ⟨b, o, none⟩) (hf2.below hle b hb (by omega))).trans hcell
  have H2 := Lib.hid (And.intro hc2 hf2)
  clear hc2 hf2 HC hr hcell
  go_wp2_with fail
  go_loopw [46] (fun i wr => ∃ j : Nat, j ≤ n ∧ i = .int .i64 (j : Int) ∧ ∃ v', Cw wr cb base v' (l ++ lowL n 4 ++ (ms.take j).flatten) ∧ Fw cb base w wr) (fun i _ => n - (intOf i).toNat)
  case atStart => exact ⟨0, Nat.zero_le _, rfl, v2, by simpa using H2.out.1, H2.out.2⟩
  case round =>
    obtain ⟨j, hj, rfl, v3, hc3, hf3⟩ := hrel
    have hcell3 : wr.cell? ⟨b, o, none⟩ = some (.slice A n c) := (World.cell?_of_block (a := ⟨b, o, none⟩) (hf3.below hle b hb (by omega))).trans HCL.out
    have H3 := Lib.hid (And.intro hc3 hf3)
    by_cases hlt2 : j < n
    · obtain ⟨b', o', rfl, hb', hits⟩ := HI.out (by omega)
      have hit0 : At wr base (.pair .num (.list (.pair .num (.pair .num (.pair .num (.pair (.pair .num (.pair .num (.pair .num .num))) (.pair .num (.pair .num (.pair (.list .num) (.list .num)))))))))) b' (o' + j * Sch.sz (.pair .num (.list (.pair .num (.pair .num (.pair .num (.pair (.pair .num (.pair .num (.pair .num .num))) (.pair .num (.pair .num (.pair (.list .num) (.list .num))))))))))) (ms.getD j []) := At.keep ⟨hb', hits j hlt2⟩ (hf3.old hle (by omega))
      have hit : At wr base (.pair .num (.list (.pair .num (.pair .num (.pair .num (.pair (.pair .num (.pair .num (.pair .num .num))) (.pair .num (.pair .num (.pair (.list .num) (.list .num)))))))))) b' (o' + j * 2) (ms.getD j []) := by simpa [Sch.sz] using hit0
      have hle2 := flat_take_le ms j (by rw [HM.out.1]; exact hlt2)
      have HS := Lib.hid (And.intro (flat_take ms j (by rw [HM.out.1]; exact hlt2)) hit)
      have HL := Lib.hid (show (l ++ lowL n 4 ++ (ms.take j).flatten).length + (ms.getD j []).length ≤ 900000000000 by
        rw [List.length_append, List.length_append, lowL_length]; have := HM.out.2; omega)
      have hj0 : (0 : Int) ≤ (j : Int) := by omega
      have hj1 : (j : Int) < (n : Int) := by omega
      clear hc3 hf3 hits hit hit0 hle2
      go_wp2_with fail
      refine (inc_s b' (o' + j * 2) (ms.getD j []) wr cb base v3 _ HS.out.2 H3.out.1 HL.out).mono ?_
      rintro e w4 ⟨rfl, v4, hc4, hf4⟩
      have H4 := Lib.hid (And.intro hc4 hf4)
      clear hc4 hf4
      go_wp2_with fail
      go_roundw
      case rel => exact ⟨j + 1, by omega, by go_num, v4, by rw [HS.out.1, ← List.append_assoc]; exact H4.out.1, H3.out.2.trans H4.out.2⟩
      case measure => simp [intOf]; omega
    · clear hc3 hf3
      go_wp2_with fail
      go_end0
      have : j = n := by omega
      subst this
      exact ⟨rfl, v3, by rw [← List.append_assoc]; have e : ms.take j = ms := List.take_of_length_le (by rw [HM.out.1]; exact Nat.le_refl _); rw [← e]; exact H3.out.1, H3.out.2⟩
set_option maxRecDepth 100000 in
set_option maxHeartbeats 400000000 in
theorem msg_s : Wrs 33 (.pair .num (.pair (.pair .num .num) (.pair (.pair .num .num) (.pair .num (.pair .num (.pair (.pair .num .num) (.pair .num (.pair .num (.pair .num (.pair (.list (.pair .num (.pair .num .data))) (.pair (.list (.pair .num (.list (.pair .num (.pair .num (.pair .num (.pair (.pair .num (.pair .num (.pair .num .num))) (.pair .num (.pair .num (.pair (.list .num) (.list .num))))))))))) (.pair (.list (.pair .num (.pair .num (.pair .num (.pair (.pair .num (.pair .num (.pair .num .num))) (.pair .num (.pair .num (.pair (.list .num) (.list .num))))))))) (.pair (.pair .num (.pair (.pair .num .num) (.pair (.pair .num .num) .num))) (.pair (.pair .num (.pair (.pair .num .num) (.pair (.list (.pair (.pair .num .num) (.pair .bool (.pair .num (.pair .text (.pair .num .num)))))) (.pair (.list (.pair .num (.pair .num (.pair .num (.pair .num .num))))) (.list (.pair .text (.pair (.pair .num .num) .word))))))) (.pair (.pair (.pair .num .num) (.pair .bool (.pair .num (.pair .text (.pair .num .num))))) (.pair (.pair .text (.pair (.pair .num .num) .data)) (.pair (.pair .num (.pair .text (.pair .data (.pair .num .num)))) (.pair (.list (.pair .text (.pair (.pair .num .num) .word))) (.pair (.list .text) .num))))))))))))))))))) := by
  intro b o m w cb base v l h hc hl
  have hb := h.1
  have hle := hc.le
  have hlt := hc.lt
  obtain ⟨m0, r0, h0, k0, rfl⟩ := h.fst
  obtain ⟨m1, r1, h1, k1, rfl⟩ := k0.fst
  obtain ⟨m2, r2, h2, k2, rfl⟩ := k1.fst
  obtain ⟨m3, r3, h3, k3, rfl⟩ := k2.fst
  obtain ⟨m4, r4, h4, k4, rfl⟩ := k3.fst
  obtain ⟨m5, r5, h5, k5, rfl⟩ := k4.fst
  obtain ⟨m6, r6, h6, k6, rfl⟩ := k5.fst
  obtain ⟨m7, r7, h7, k7, rfl⟩ := k6.fst
  obtain ⟨m8, r8, h8, k8, rfl⟩ := k7.fst
  obtain ⟨m9, r9, h9, k9, rfl⟩ := k8.fst
  obtain ⟨m10, r10, h10, k10, rfl⟩ := k9.fst
  obtain ⟨m11, r11, h11, k11, rfl⟩ := k10.fst
  obtain ⟨m12, r12, h12, k12, rfl⟩ := k11.fst
  obtain ⟨m13, r13, h13, k13, rfl⟩ := k12.fst
  obtain ⟨m14, r14, h14, k14, rfl⟩ := k13.fst
  obtain ⟨m15, r15, h15, k15, rfl⟩ := k14.fst
  obtain ⟨m16, r16, h16, k16, rfl⟩ := k15.fst
  obtain ⟨m17, r17, h17, k17, rfl⟩ := k16.fst
  obtain ⟨m18, m19, h18, h19, rfl⟩ := k17.fst
  replace h0 : At w base .num b (o) m0 := h0
  replace h1 : At w base (.pair .num .num) b (o + 1) m1 := h1
  replace h2 : At w base (.pair .num .num) b (o + 3) m2 := h2
  replace h3 : At w base .num b (o + 5) m3 := h3
  replace h4 : At w base .num b (o + 6) m4 := h4
  replace h5 : At w base (.pair .num .num) b (o + 7) m5 := h5
  replace h6 : At w base .num b (o + 9) m6 := h6
  replace h7 : At w base .num b (o + 10) m7 := h7
  replace h8 : At w base .num b (o + 11) m8 := h8
  replace h9 : At w base (.list (.pair .num (.pair .num .data))) b (o + 12) m9 := h9
  replace h10 : At w base (.list (.pair .num (.list (.pair .num (.pair .num (.pair .num (.pair (.pair .num (.pair .num (.pair .num .num))) (.pair .num (.pair .num (.pair (.list .num) (.list .num))))))))))) b (o + 13) m10 := h10
  replace h11 : At w base (.list (.pair .num (.pair .num (.pair .num (.pair (.pair .num (.pair .num (.pair .num .num))) (.pair .num (.pair .num (.pair (.list .num) (.list .num))))))))) b (o + 14) m11 := h11
  replace h12 : At w base (.pair .num (.pair (.pair .num .num) (.pair (.pair .num .num) .num))) b (o + 15) m12 := h12
  replace h13 : At w base (.pair .num (.pair (.pair .num .num) (.pair (.list (.pair (.pair .num .num) (.pair .bool (.pair .num (.pair .text (.pair .num .num)))))) (.pair (.list (.pair .num (.pair .num (.pair .num (.pair .num .num))))) (.list (.pair .text (.pair (.pair .num .num) .word))))))) b (o + 21) m13 := h13
  replace h14 : At w base (.pair (.pair .num .num) (.pair .bool (.pair .num (.pair .text (.pair .num .num))))) b (o + 27) m14 := h14
  replace h15 : At w base (.pair .text (.pair (.pair .num .num) .data)) b (o + 34) m15 := h15
  replace h16 : At w base (.pair .num (.pair .text (.pair .data (.pair .num .num)))) b (o + 38) m16 := h16
  replace h17 : At w base (.list (.pair .text (.pair (.pair .num .num) .word))) b (o + 43) m17 := h17
  replace h18 : At w base (.list .text) b (o + 44) m18 := h18
  replace h19 : At w base .num b (o + 45) m19 := h19
  have HL := Lib.hid hl
  have HA := Lib.hid (⟨h0, h1, h2, h3, h4, h5, h6, h7, h8, h9, h10, h11, h12, h13, h14, h15, h16, h17, h18, h19, trivial⟩ : At w base .num b (o) m0 ∧ At w base (.pair .num .num) b (o + 1) m1 ∧ At w base (.pair .num .num) b (o + 3) m2 ∧ At w base .num b (o + 5) m3 ∧ At w base .num b (o + 6) m4 ∧ At w base (.pair .num .num) b (o + 7) m5 ∧ At w base .num b (o + 9) m6 ∧ At w base .num b (o + 10) m7 ∧ At w base .num b (o + 11) m8 ∧ At w base (.list (.pair .num (.pair .num .data))) b (o + 12) m9 ∧ At w base (.list (.pair .num (.list (.pair .num (.pair .num (.pair .num (.pair (.pair .num (.pair .num (.pair .num .num))) (.pair .num (.pair .num (.pair (.list .num) (.list .num))))))))))) b (o + 13) m10 ∧ At w base (.list (.pair .num (.pair .num (.pair .num (.pair (.pair .num (.pair .num (.pair .num .num))) (.pair .num (.pair .num (.pair (.list .num) (.list .num))))))))) b (o + 14) m11 ∧ At w base (.pair .num (.pair (.pair .num .num) (.pair (.pair .num .num) .num))) b (o + 15) m12 ∧ At w base (.pair .num (.pair (.pair .num .num) (.pair (.list (.pair (.pair .num .num) (.pair .bool (.pair .num (.pair .text (.pair .num .num)))))) (.pair (.list (.pair .num (.pair .num (.pair .num (.pair .num .num))))) (.list (.pair .text (.pair (.pair .num .num) .word))))))) b (o + 21) m13 ∧ At w base (.pair (.pair .num .num) (.pair .bool (.pair .num (.pair .text (.pair .num .num))))) b (o + 27) m14 ∧ At w base (.pair .text (.pair (.pair .num .num) .data)) b (o + 34) m15 ∧ At w base (.pair .num (.pair .text (.pair .data (.pair .num .num)))) b (o + 38) m16 ∧ At w base (.list (.pair .text (.pair (.pair .num .num) .word))) b (o + 43) m17 ∧ At w base (.list .text) b (o + 44) m18 ∧ At w base .num b (o + 45) m19 ∧ True)
  have HC := Lib.hid (And.intro hc (Fw.refl cb base w))
  clear hc hl h0 h1 h2 h3 h4 h5 h6 h7 h8 h9 h10 h11 h12 h13 h14 h15 h16 h17 h18 h19 h k0 k1 k2 k3 k4 k5 k6 k7 k8 k9 k10 k11 k12 k13 k14 k15 k16 k17
  go_enter Tryz.func33, Tryz.ntmps33
  go_wp2_with fail
  refine (number_s b (o) m0 w cb base _ (l) (HA.out.1.keep (HC.out.2.old hle (by omega))) HC.out.1 (by have := HL.out; first | omega | (simp only [List.length_append] at this ⊢; omega))).mono ?_
  rintro e w2 ⟨rfl, v2, hc, hf⟩
  have H2 := Lib.hid (show Cw w2 cb base v2 (l ++ m0) ∧ Fw cb base w w2 from ⟨by first | exact hc | simpa only [List.append_assoc] using hc, HC.out.2.trans hf⟩)
  clear hc hf
  go_wp2_with fail
  refine (node_s b (o + 1) m1 w2 cb base _ (l ++ m0) (HA.out.2.1.keep (H2.out.2.old hle (by omega))) H2.out.1 (by have := HL.out; first | omega | (simp only [List.length_append] at this ⊢; omega))).mono ?_
  rintro e w3 ⟨rfl, v3, hc, hf⟩
  have H3 := Lib.hid (show Cw w3 cb base v3 (l ++ m0 ++ m1) ∧ Fw cb base w w3 from ⟨by first | exact hc | simpa only [List.append_assoc] using hc, H2.out.2.trans hf⟩)
  clear hc hf
  go_wp2_with fail
  refine (node_s b (o + 3) m2 w3 cb base _ (l ++ m0 ++ m1) (HA.out.2.2.1.keep (H3.out.2.old hle (by omega))) H3.out.1 (by have := HL.out; first | omega | (simp only [List.length_append] at this ⊢; omega))).mono ?_
  rintro e w4 ⟨rfl, v4, hc, hf⟩
  have H4 := Lib.hid (show Cw w4 cb base v4 (l ++ m0 ++ m1 ++ m2) ∧ Fw cb base w w4 from ⟨by first | exact hc | simpa only [List.append_assoc] using hc, H3.out.2.trans hf⟩)
  clear hc hf
  go_wp2_with fail
  obtain ⟨n3, g3, e3⟩ := (HA.out.2.2.2.1.keep (H4.out.2.old hle (by omega))).num
  obtain ⟨n4, g4, e4⟩ := (HA.out.2.2.2.2.1.keep (H4.out.2.old hle (by omega))).num
  have HG := Lib.hid (at2 (base := base) hb g3 g4)
  have HE := Lib.hid (show numsL [n3, n4] = m3 ++ m4 by rw [e3, e4]; simp [numsL])
  have HX := Lib.hid (show (l ++ m0 ++ m1 ++ m2).length + 800 ≤ 1000000000000 by have := HL.out; simp only [List.length_append] at this ⊢; omega)
  clear g3 e3 g4 e4
  go_region_held3 (fun _ => True) (trivial) ((go_at_call 65; refine (numbers_new [(b, o + 5), (b, o + 6)] [n3, n4] w4 rfl (by simp) HG.out H4.out.1 HX.out).mono ?_; rintro e w5 ⟨rfl, v5, hc, hf⟩))
  rw [HE.out] at hc
  have H5 := Lib.hid (show Cw w5 cb base v5 (l ++ m0 ++ m1 ++ m2 ++ m3 ++ m4) ∧ Fw cb base w w5 from ⟨by first | exact hc | simpa only [List.append_assoc] using hc, H4.out.2.trans hf⟩)
  clear hc hf HG HE HX
  go_wp2_with fail
  refine (pg_s b (o + 7) m5 w5 cb base _ (l ++ m0 ++ m1 ++ m2 ++ m3 ++ m4) (HA.out.2.2.2.2.2.1.keep (H5.out.2.old hle (by omega))) H5.out.1 (by have := HL.out; first | omega | (simp only [List.length_append] at this ⊢; omega))).mono ?_
  rintro e w6 ⟨rfl, v6, hc, hf⟩
  have H6 := Lib.hid (show Cw w6 cb base v6 (l ++ m0 ++ m1 ++ m2 ++ m3 ++ m4 ++ m5) ∧ Fw cb base w w6 from ⟨by first | exact hc | simpa only [List.append_assoc] using hc, H5.out.2.trans hf⟩)
  clear hc hf
  go_wp2_with fail
  obtain ⟨n6, g6, e6⟩ := (HA.out.2.2.2.2.2.2.1.keep (H6.out.2.old hle (by omega))).num
  obtain ⟨n7, g7, e7⟩ := (HA.out.2.2.2.2.2.2.2.1.keep (H6.out.2.old hle (by omega))).num
  obtain ⟨n8, g8, e8⟩ := (HA.out.2.2.2.2.2.2.2.2.1.keep (H6.out.2.old hle (by omega))).num
  have HG := Lib.hid (at3 (base := base) hb g6 g7 g8)
  have HE := Lib.hid (show numsL [n6, n7, n8] = m6 ++ m7 ++ m8 by rw [e6, e7, e8]; simp [numsL])
  have HX := Lib.hid (show (l ++ m0 ++ m1 ++ m2 ++ m3 ++ m4 ++ m5).length + 800 ≤ 1000000000000 by have := HL.out; simp only [List.length_append] at this ⊢; omega)
  clear g6 e6 g7 e7 g8 e8
  go_region_held3 (fun _ => True) (trivial) ((go_at_call 65; refine (numbers_new [(b, o + 9), (b, o + 10), (b, o + 11)] [n6, n7, n8] w6 rfl (by simp) HG.out H6.out.1 HX.out).mono ?_; rintro e w7 ⟨rfl, v7, hc, hf⟩))
  rw [HE.out] at hc
  have H7 := Lib.hid (show Cw w7 cb base v7 (l ++ m0 ++ m1 ++ m2 ++ m3 ++ m4 ++ m5 ++ m6 ++ m7 ++ m8) ∧ Fw cb base w w7 from ⟨by first | exact hc | simpa only [List.append_assoc] using hc, H6.out.2.trans hf⟩)
  clear hc hf HG HE HX
  go_wp2_with fail
  refine (list_slot_s b (o + 12) m9 w7 cb base _ (l ++ m0 ++ m1 ++ m2 ++ m3 ++ m4 ++ m5 ++ m6 ++ m7 ++ m8) (HA.out.2.2.2.2.2.2.2.2.2.1.keep (H7.out.2.old hle (by omega))) H7.out.1 (by have := HL.out; first | omega | (simp only [List.length_append] at this ⊢; omega))).mono ?_
  rintro e w8 ⟨rfl, v8, hc, hf⟩
  have H8 := Lib.hid (show Cw w8 cb base v8 (l ++ m0 ++ m1 ++ m2 ++ m3 ++ m4 ++ m5 ++ m6 ++ m7 ++ m8 ++ m9) ∧ Fw cb base w w8 from ⟨by first | exact hc | simpa only [List.append_assoc] using hc, H7.out.2.trans hf⟩)
  clear hc hf
  go_wp2_with fail
  refine (list_inc_s b (o + 13) m10 w8 cb base _ (l ++ m0 ++ m1 ++ m2 ++ m3 ++ m4 ++ m5 ++ m6 ++ m7 ++ m8 ++ m9) (HA.out.2.2.2.2.2.2.2.2.2.2.1.keep (H8.out.2.old hle (by omega))) H8.out.1 (by have := HL.out; first | omega | (simp only [List.length_append] at this ⊢; omega))).mono ?_
  rintro e w9 ⟨rfl, v9, hc, hf⟩
  have H9 := Lib.hid (show Cw w9 cb base v9 (l ++ m0 ++ m1 ++ m2 ++ m3 ++ m4 ++ m5 ++ m6 ++ m7 ++ m8 ++ m9 ++ m10) ∧ Fw cb base w w9 from ⟨by first | exact hc | simpa only [List.append_assoc] using hc, H8.out.2.trans hf⟩)
  clear hc hf
  go_wp2_with fail
  refine (list_change_s b (o + 14) m11 w9 cb base _ (l ++ m0 ++ m1 ++ m2 ++ m3 ++ m4 ++ m5 ++ m6 ++ m7 ++ m8 ++ m9 ++ m10) (HA.out.2.2.2.2.2.2.2.2.2.2.2.1.keep (H9.out.2.old hle (by omega))) H9.out.1 (by have := HL.out; first | omega | (simp only [List.length_append] at this ⊢; omega))).mono ?_
  rintro e w10 ⟨rfl, v10, hc, hf⟩
  have H10 := Lib.hid (show Cw w10 cb base v10 (l ++ m0 ++ m1 ++ m2 ++ m3 ++ m4 ++ m5 ++ m6 ++ m7 ++ m8 ++ m9 ++ m10 ++ m11) ∧ Fw cb base w w10 from ⟨by first | exact hc | simpa only [List.append_assoc] using hc, H9.out.2.trans hf⟩)
  clear hc hf
  go_wp2_with fail
  refine (info_s b (o + 15) m12 w10 cb base _ (l ++ m0 ++ m1 ++ m2 ++ m3 ++ m4 ++ m5 ++ m6 ++ m7 ++ m8 ++ m9 ++ m10 ++ m11) (HA.out.2.2.2.2.2.2.2.2.2.2.2.2.1.keep (H10.out.2.old hle (by omega))) H10.out.1 (by have := HL.out; first | omega | (simp only [List.length_append] at this ⊢; omega))).mono ?_
  rintro e w11 ⟨rfl, v11, hc, hf⟩
  have H11 := Lib.hid (show Cw w11 cb base v11 (l ++ m0 ++ m1 ++ m2 ++ m3 ++ m4 ++ m5 ++ m6 ++ m7 ++ m8 ++ m9 ++ m10 ++ m11 ++ m12) ∧ Fw cb base w w11 from ⟨by first | exact hc | simpa only [List.append_assoc] using hc, H10.out.2.trans hf⟩)
  clear hc hf
  go_wp2_with fail
  refine (state_s b (o + 21) m13 w11 cb base _ (l ++ m0 ++ m1 ++ m2 ++ m3 ++ m4 ++ m5 ++ m6 ++ m7 ++ m8 ++ m9 ++ m10 ++ m11 ++ m12) (HA.out.2.2.2.2.2.2.2.2.2.2.2.2.2.1.keep (H11.out.2.old hle (by omega))) H11.out.1 (by have := HL.out; first | omega | (simp only [List.length_append] at this ⊢; omega))).mono ?_
  rintro e w12 ⟨rfl, v12, hc, hf⟩
  have H12 := Lib.hid (show Cw w12 cb base v12 (l ++ m0 ++ m1 ++ m2 ++ m3 ++ m4 ++ m5 ++ m6 ++ m7 ++ m8 ++ m9 ++ m10 ++ m11 ++ m12 ++ m13) ∧ Fw cb base w w12 from ⟨by first | exact hc | simpa only [List.append_assoc] using hc, H11.out.2.trans hf⟩)
  clear hc hf
  go_wp2_with fail
  refine (entry_s b (o + 27) m14 w12 cb base _ (l ++ m0 ++ m1 ++ m2 ++ m3 ++ m4 ++ m5 ++ m6 ++ m7 ++ m8 ++ m9 ++ m10 ++ m11 ++ m12 ++ m13) (HA.out.2.2.2.2.2.2.2.2.2.2.2.2.2.2.1.keep (H12.out.2.old hle (by omega))) H12.out.1 (by have := HL.out; first | omega | (simp only [List.length_append] at this ⊢; omega))).mono ?_
  rintro e w13 ⟨rfl, v13, hc, hf⟩
  have H13 := Lib.hid (show Cw w13 cb base v13 (l ++ m0 ++ m1 ++ m2 ++ m3 ++ m4 ++ m5 ++ m6 ++ m7 ++ m8 ++ m9 ++ m10 ++ m11 ++ m12 ++ m13 ++ m14) ∧ Fw cb base w w13 from ⟨by first | exact hc | simpa only [List.append_assoc] using hc, H12.out.2.trans hf⟩)
  clear hc hf
  go_wp2_with fail
  refine (object_s b (o + 34) m15 w13 cb base _ (l ++ m0 ++ m1 ++ m2 ++ m3 ++ m4 ++ m5 ++ m6 ++ m7 ++ m8 ++ m9 ++ m10 ++ m11 ++ m12 ++ m13 ++ m14) (HA.out.2.2.2.2.2.2.2.2.2.2.2.2.2.2.2.1.keep (H13.out.2.old hle (by omega))) H13.out.1 (by have := HL.out; first | omega | (simp only [List.length_append] at this ⊢; omega))).mono ?_
  rintro e w14 ⟨rfl, v14, hc, hf⟩
  have H14 := Lib.hid (show Cw w14 cb base v14 (l ++ m0 ++ m1 ++ m2 ++ m3 ++ m4 ++ m5 ++ m6 ++ m7 ++ m8 ++ m9 ++ m10 ++ m11 ++ m12 ++ m13 ++ m14 ++ m15) ∧ Fw cb base w w14 from ⟨by first | exact hc | simpa only [List.append_assoc] using hc, H13.out.2.trans hf⟩)
  clear hc hf
  go_wp2_with fail
  refine (op_s b (o + 38) m16 w14 cb base _ (l ++ m0 ++ m1 ++ m2 ++ m3 ++ m4 ++ m5 ++ m6 ++ m7 ++ m8 ++ m9 ++ m10 ++ m11 ++ m12 ++ m13 ++ m14 ++ m15) (HA.out.2.2.2.2.2.2.2.2.2.2.2.2.2.2.2.2.1.keep (H14.out.2.old hle (by omega))) H14.out.1 (by have := HL.out; first | omega | (simp only [List.length_append] at this ⊢; omega))).mono ?_
  rintro e w15 ⟨rfl, v15, hc, hf⟩
  have H15 := Lib.hid (show Cw w15 cb base v15 (l ++ m0 ++ m1 ++ m2 ++ m3 ++ m4 ++ m5 ++ m6 ++ m7 ++ m8 ++ m9 ++ m10 ++ m11 ++ m12 ++ m13 ++ m14 ++ m15 ++ m16) ∧ Fw cb base w w15 from ⟨by first | exact hc | simpa only [List.append_assoc] using hc, H14.out.2.trans hf⟩)
  clear hc hf
  go_wp2_with fail
  refine (list_item_s b (o + 43) m17 w15 cb base _ (l ++ m0 ++ m1 ++ m2 ++ m3 ++ m4 ++ m5 ++ m6 ++ m7 ++ m8 ++ m9 ++ m10 ++ m11 ++ m12 ++ m13 ++ m14 ++ m15 ++ m16) (HA.out.2.2.2.2.2.2.2.2.2.2.2.2.2.2.2.2.2.1.keep (H15.out.2.old hle (by omega))) H15.out.1 (by have := HL.out; first | omega | (simp only [List.length_append] at this ⊢; omega))).mono ?_
  rintro e w16 ⟨rfl, v16, hc, hf⟩
  have H16 := Lib.hid (show Cw w16 cb base v16 (l ++ m0 ++ m1 ++ m2 ++ m3 ++ m4 ++ m5 ++ m6 ++ m7 ++ m8 ++ m9 ++ m10 ++ m11 ++ m12 ++ m13 ++ m14 ++ m15 ++ m16 ++ m17) ∧ Fw cb base w w16 from ⟨by first | exact hc | simpa only [List.append_assoc] using hc, H15.out.2.trans hf⟩)
  clear hc hf
  go_wp2_with fail
  refine (texts_s b (o + 44) m18 w16 cb base _ (l ++ m0 ++ m1 ++ m2 ++ m3 ++ m4 ++ m5 ++ m6 ++ m7 ++ m8 ++ m9 ++ m10 ++ m11 ++ m12 ++ m13 ++ m14 ++ m15 ++ m16 ++ m17) (HA.out.2.2.2.2.2.2.2.2.2.2.2.2.2.2.2.2.2.2.1.keep (H16.out.2.old hle (by omega))) H16.out.1 (by have := HL.out; first | omega | (simp only [List.length_append] at this ⊢; omega))).mono ?_
  rintro e w17 ⟨rfl, v17, hc, hf⟩
  have H17 := Lib.hid (show Cw w17 cb base v17 (l ++ m0 ++ m1 ++ m2 ++ m3 ++ m4 ++ m5 ++ m6 ++ m7 ++ m8 ++ m9 ++ m10 ++ m11 ++ m12 ++ m13 ++ m14 ++ m15 ++ m16 ++ m17 ++ m18) ∧ Fw cb base w w17 from ⟨by first | exact hc | simpa only [List.append_assoc] using hc, H16.out.2.trans hf⟩)
  clear hc hf
  go_wp2_with fail
  refine (errno_s b (o + 45) m19 w17 cb base _ (l ++ m0 ++ m1 ++ m2 ++ m3 ++ m4 ++ m5 ++ m6 ++ m7 ++ m8 ++ m9 ++ m10 ++ m11 ++ m12 ++ m13 ++ m14 ++ m15 ++ m16 ++ m17 ++ m18) (HA.out.2.2.2.2.2.2.2.2.2.2.2.2.2.2.2.2.2.2.2.1.keep (H17.out.2.old hle (by omega))) H17.out.1 (by have := HL.out; first | omega | (simp only [List.length_append] at this ⊢; omega))).mono ?_
  rintro e w18 ⟨rfl, v18, hc, hf⟩
  have H18 := Lib.hid (show Cw w18 cb base v18 (l ++ m0 ++ m1 ++ m2 ++ m3 ++ m4 ++ m5 ++ m6 ++ m7 ++ m8 ++ m9 ++ m10 ++ m11 ++ m12 ++ m13 ++ m14 ++ m15 ++ m16 ++ m17 ++ m18 ++ m19) ∧ Fw cb base w w18 from ⟨by first | exact hc | simpa only [List.append_assoc] using hc, H17.out.2.trans hf⟩)
  clear hc hf
  go_wp2_with fail
  go_end0
  exact ⟨rfl, _, by first | exact H18.out.1 | simpa only [List.append_assoc] using H18.out.1, H18.out.2⟩
end Go.Proofs.YtphbaaaklgiloaaGreat.Dg

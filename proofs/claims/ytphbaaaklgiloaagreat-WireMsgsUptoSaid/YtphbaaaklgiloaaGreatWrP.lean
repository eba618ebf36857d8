/- wire: the coder's functions of structs and lists, writing. Made by wip/gen_wire.py. -/
import Derived.Test.YtphbaaaklgiloaaGreatWrO
namespace Go.Proofs.YtphbaaaklgiloaaGreat.Dg
open Go.RowKit
attribute [local go_sem ↓] Go.wp_at_zero Go.wp_at_succ
variable {w w' : World} {base cb : Nat} {v : Value} {l : List UInt8}
theorem numbers_new (ps : List (Nat × Nat)) (ns : List Int) (w : World) (hlen : ps.length = ns.length) (hshort : ns.length ≤ 100)
    (hcs : ∀ i, i < ns.length → (ps.getD i (0, 0)).1 < base ∧ w.cell? ⟨(ps.getD i (0, 0)).1, (ps.getD i (0, 0)).2, none⟩ = some (.int .i64 (ns.getD i 0)))
    (h : Cw w cb base v l) (hl : l.length + 800 ≤ 1000000000000) :
    Calls Tryz.prog 65 #[.pointer (some ⟨cb, 0, none⟩), .slice (some ⟨w.heap.size, 0, none⟩) ns.length ns.length] (w.alloc (.cells (ps.map ptrV).toArray 140)).drew (WrPost w cb base l (numsL ns)) := by
  have ha : Ab w (w.alloc (.cells (ps.map ptrV).toArray 140)).drew := ((Ab.refl w).alloc _).drew
  have hle := h.le
  have hlt := h.lt
  refine (numbers_w ps ns w.heap.size _ (Bk.made w _ _).drew hlen hshort (fun i hi => ?_) (h.ab ha) hl).mono ?_
  · obtain ⟨h1, h2⟩ := hcs i hi
    exact ⟨h1, (ha.cells _ _ (by omega)).trans h2⟩
  · rintro e w2 ⟨h1, v2, h2, h3⟩
    exact ⟨h1, v2, h2, (Fw.of_ab ha).trans h3⟩
/-- A list's function, handed the function of its items. -/
def Wrl (f g : Nat) (s : Sch) : Prop := ∀ (b o : Nat) (m : List UInt8) (w : World) (cb base : Nat) (v : Value) (l : List UInt8), At w base (.list s) b o m → Cw w cb base v l → l.length + m.length ≤ 900000000000 →
  Calls Tryz.prog f #[.pointer (some ⟨cb, 0, none⟩), .pointer (some ⟨b, o, none⟩), .func (.func g) #[] #[]] w (WrPost w cb base l m)
theorem flat_take (ms : List (List UInt8)) (k : Nat) (h : k < ms.length) : (ms.take (k + 1)).flatten = (ms.take k).flatten ++ ms.getD k [] := by
  rw [List.take_succ_eq_append_getElem h, List.flatten_append]
  simp [List.getD_eq_getElem?_getD, List.getElem?_eq_getElem h]
theorem flat_take_le (ms : List (List UInt8)) (k : Nat) (h : k < ms.length) : (ms.take k).flatten.length + (ms.getD k []).length ≤ ms.flatten.length := by
  have e := flat_take ms k h
  have h2 : (ms.take (k + 1)).flatten.length ≤ ms.flatten.length := by
    conv => rhs; rw [← List.take_append_drop (k + 1) ms, List.flatten_append, List.length_append]
    omega
  rw [e, List.length_append] at h2
  exact h2
theorem at2 {w : World} {base b o0 o1 : Nat} {n0 n1 : Int} (hb : b < base) (h0 : w.cell? ⟨b, o0, none⟩ = some (.int .i64 n0)) (h1 : w.cell? ⟨b, o1, none⟩ = some (.int .i64 n1)) :
    ∀ i, i < [n0, n1].length → (([(b, o0), (b, o1)] : List (Nat × Nat)).getD i (0, 0)).1 < base ∧ w.cell? ⟨([(b, o0), (b, o1)].getD i (0, 0)).1, ([(b, o0), (b, o1)].getD i (0, 0)).2, none⟩ = some (.int .i64 ([n0, n1].getD i 0)) := by
  intro i hi
  have : i = 0 ∨ i = 1 := by simp at hi; omega
  rcases this with rfl | rfl
  · exact ⟨hb, h0⟩
  · exact ⟨hb, h1⟩
theorem at3 {w : World} {base b o0 o1 o2 : Nat} {n0 n1 n2 : Int} (hb : b < base) (h0 : w.cell? ⟨b, o0, none⟩ = some (.int .i64 n0)) (h1 : w.cell? ⟨b, o1, none⟩ = some (.int .i64 n1)) (h2 : w.cell? ⟨b, o2, none⟩ = some (.int .i64 n2)) :
    ∀ i, i < [n0, n1, n2].length → (([(b, o0), (b, o1), (b, o2)] : List (Nat × Nat)).getD i (0, 0)).1 < base ∧ w.cell? ⟨([(b, o0), (b, o1), (b, o2)].getD i (0, 0)).1, ([(b, o0), (b, o1), (b, o2)].getD i (0, 0)).2, none⟩ = some (.int .i64 ([n0, n1, n2].getD i 0)) := by
  intro i hi
  have : i = 0 ∨ i = 1 ∨ i = 2 := by simp at hi; omega
  rcases this with rfl | rfl | rfl
  · exact ⟨hb, h0⟩
  · exact ⟨hb, h1⟩
  · exact ⟨hb, h2⟩
theorem at4 {w : World} {base b o0 o1 o2 o3 : Nat} {n0 n1 n2 n3 : Int} (hb : b < base) (h0 : w.cell? ⟨b, o0, none⟩ = some (.int .i64 n0)) (h1 : w.cell? ⟨b, o1, none⟩ = some (.int .i64 n1)) (h2 : w.cell? ⟨b, o2, none⟩ = some (.int .i64 n2)) (h3 : w.cell? ⟨b, o3, none⟩ = some (.int .i64 n3)) :
    ∀ i, i < [n0, n1, n2, n3].length → (([(b, o0), (b, o1), (b, o2), (b, o3)] : List (Nat × Nat)).getD i (0, 0)).1 < base ∧ w.cell? ⟨([(b, o0), (b, o1), (b, o2), (b, o3)].getD i (0, 0)).1, ([(b, o0), (b, o1), (b, o2), (b, o3)].getD i (0, 0)).2, none⟩ = some (.int .i64 ([n0, n1, n2, n3].getD i 0)) := by
  intro i hi
  have : i = 0 ∨ i = 1 ∨ i = 2 ∨ i = 3 := by simp at hi; omega
  rcases this with rfl | rfl | rfl | rfl
  · exact ⟨hb, h0⟩
  · exact ⟨hb, h1⟩
  · exact ⟨hb, h2⟩
  · exact ⟨hb, h3⟩
set_option maxRecDepth 100000 in
set_option maxHeartbeats 2000000 in
theorem version_s : Wrs 121 (.pair .num .num) := by
  intro b o m w cb base v l h hc hl
  have hb := h.1
  have hle := hc.le
  have hlt := hc.lt
  obtain ⟨m0, m1, h0, h1, rfl⟩ := h.fst
  replace h0 : At w base .num b (o) m0 := h0
  replace h1 : At w base .num b (o + 1) m1 := h1
  have HL := Lib.hid hl
  have HA := Lib.hid (⟨h0, h1, trivial⟩ : At w base .num b (o) m0 ∧ At w base .num b (o + 1) m1 ∧ True)
  have HC := Lib.hid (And.intro hc (Fw.refl cb base w))
  clear hc hl h0 h1 h 
  go_enter Tryz.func121, Tryz.ntmps121
  go_wp2_with fail
  obtain ⟨n0, g0, e0⟩ := (HA.out.1.keep (HC.out.2.old hle (by omega))).num
  obtain ⟨n1, g1, e1⟩ := (HA.out.2.1.keep (HC.out.2.old hle (by omega))).num
  have HG := Lib.hid (at2 (base := base) hb g0 g1)
  have HE := Lib.hid (show numsL [n0, n1] = m0 ++ m1 by rw [e0, e1]; simp [numsL])
  have HX := Lib.hid (show (l).length + 800 ≤ 1000000000000 by have := HL.out; simp only [List.length_append] at this ⊢; omega)
  clear g0 e0 g1 e1
  go_region_held3 (fun _ => True) (trivial) ((go_at_call 65; refine (numbers_new [(b, o), (b, o + 1)] [n0, n1] w rfl (by simp) HG.out HC.out.1 HX.out).mono ?_; rintro e w2 ⟨rfl, v2, hc, hf⟩))
  rw [HE.out] at hc
  have H2 := Lib.hid (show Cw w2 cb base v2 (l ++ m0 ++ m1) ∧ Fw cb base w w2 from ⟨by first | exact hc | simpa only [List.append_assoc] using hc, HC.out.2.trans hf⟩)
  clear hc hf HG HE HX
  go_wp2_with fail
  go_end0
  exact ⟨rfl, _, by first | exact H2.out.1 | simpa only [List.append_assoc] using H2.out.1, H2.out.2⟩
set_option maxRecDepth 100000 in
set_option maxHeartbeats 2000000 in
theorem pg_s : Wrs 66 (.pair .num .num) := by
  intro b o m w cb base v l h hc hl
  have hb := h.1
  have hle := hc.le
  have hlt := hc.lt
  obtain ⟨m0, m1, h0, h1, rfl⟩ := h.fst
  replace h0 : At w base .num b (o) m0 := h0
  replace h1 : At w base .num b (o + 1) m1 := h1
  have HL := Lib.hid hl
  have HA := Lib.hid (⟨h0, h1, trivial⟩ : At w base .num b (o) m0 ∧ At w base .num b (o + 1) m1 ∧ True)
  have HC := Lib.hid (And.intro hc (Fw.refl cb base w))
  clear hc hl h0 h1 h 
  go_enter Tryz.func66, Tryz.ntmps66
  go_wp2_with fail
  obtain ⟨n0, g0, e0⟩ := (HA.out.1.keep (HC.out.2.old hle (by omega))).num
  obtain ⟨n1, g1, e1⟩ := (HA.out.2.1.keep (HC.out.2.old hle (by omega))).num
  have HG := Lib.hid (at2 (base := base) hb g0 g1)
  have HE := Lib.hid (show numsL [n0, n1] = m0 ++ m1 by rw [e0, e1]; simp [numsL])
  have HX := Lib.hid (show (l).length + 800 ≤ 1000000000000 by have := HL.out; simp only [List.length_append] at this ⊢; omega)
  clear g0 e0 g1 e1
  go_region_held3 (fun _ => True) (trivial) ((go_at_call 65; refine (numbers_new [(b, o), (b, o + 1)] [n0, n1] w rfl (by simp) HG.out HC.out.1 HX.out).mono ?_; rintro e w2 ⟨rfl, v2, hc, hf⟩))
  rw [HE.out] at hc
  have H2 := Lib.hid (show Cw w2 cb base v2 (l ++ m0 ++ m1) ∧ Fw cb base w w2 from ⟨by first | exact hc | simpa only [List.append_assoc] using hc, HC.out.2.trans hf⟩)
  clear hc hf HG HE HX
  go_wp2_with fail
  go_end0
  exact ⟨rfl, _, by first | exact H2.out.1 | simpa only [List.append_assoc] using H2.out.1, H2.out.2⟩
set_option maxRecDepth 100000 in
set_option maxHeartbeats 2000000 in
theorem osd_s : Wrs 109 (.pair .bool (.pair .bool (.pair .num (.pair .num (.pair .num .num))))) := by
  intro b o m w cb base v l h hc hl
  have hb := h.1
  have hle := hc.le
  have hlt := hc.lt
  obtain ⟨m0, r0, h0, k0, rfl⟩ := h.fst
  obtain ⟨m1, r1, h1, k1, rfl⟩ := k0.fst
  obtain ⟨m2, r2, h2, k2, rfl⟩ := k1.fst
  obtain ⟨m3, r3, h3, k3, rfl⟩ := k2.fst
  obtain ⟨m4, m5, h4, h5, rfl⟩ := k3.fst
  replace h0 : At w base .bool b (o) m0 := h0
  replace h1 : At w base .bool b (o + 1) m1 := h1
  replace h2 : At w base .num b (o + 2) m2 := h2
  replace h3 : At w base .num b (o + 3) m3 := h3
  replace h4 : At w base .num b (o + 4) m4 := h4
  replace h5 : At w base .num b (o + 5) m5 := h5
  have HL := Lib.hid hl
  have HA := Lib.hid (⟨h0, h1, h2, h3, h4, h5, trivial⟩ : At w base .bool b (o) m0 ∧ At w base .bool b (o + 1) m1 ∧ At w base .num b (o + 2) m2 ∧ At w base .num b (o + 3) m3 ∧ At w base .num b (o + 4) m4 ∧ At w base .num b (o + 5) m5 ∧ True)
  have HC := Lib.hid (And.intro hc (Fw.refl cb base w))
  clear hc hl h0 h1 h2 h3 h4 h5 h k0 k1 k2 k3
  go_enter Tryz.func109, Tryz.ntmps109
  go_wp2_with fail
  refine (truth_s b (o) m0 w cb base _ (l) (HA.out.1.keep (HC.out.2.old hle (by omega))) HC.out.1 (by have := HL.out; first | omega | (simp only [List.length_append] at this ⊢; omega))).mono ?_
  rintro e w2 ⟨rfl, v2, hc, hf⟩
  have H2 := Lib.hid (show Cw w2 cb base v2 (l ++ m0) ∧ Fw cb base w w2 from ⟨by first | exact hc | simpa only [List.append_assoc] using hc, HC.out.2.trans hf⟩)
  clear hc hf
  go_wp2_with fail
  refine (truth_s b (o + 1) m1 w2 cb base _ (l ++ m0) (HA.out.2.1.keep (H2.out.2.old hle (by omega))) H2.out.1 (by have := HL.out; first | omega | (simp only [List.length_append] at this ⊢; omega))).mono ?_
  rintro e w3 ⟨rfl, v3, hc, hf⟩
  have H3 := Lib.hid (show Cw w3 cb base v3 (l ++ m0 ++ m1) ∧ Fw cb base w w3 from ⟨by first | exact hc | simpa only [List.append_assoc] using hc, H2.out.2.trans hf⟩)
  clear hc hf
  go_wp2_with fail
  obtain ⟨n2, g2, e2⟩ := (HA.out.2.2.1.keep (H3.out.2.old hle (by omega))).num
  obtain ⟨n3, g3, e3⟩ := (HA.out.2.2.2.1.keep (H3.out.2.old hle (by omega))).num
  obtain ⟨n4, g4, e4⟩ := (HA.out.2.2.2.2.1.keep (H3.out.2.old hle (by omega))).num
  obtain ⟨n5, g5, e5⟩ := (HA.out.2.2.2.2.2.1.keep (H3.out.2.old hle (by omega))).num
  have HG := Lib.hid (at4 (base := base) hb g2 g3 g4 g5)
  have HE := Lib.hid (show numsL [n2, n3, n4, n5] = m2 ++ m3 ++ m4 ++ m5 by rw [e2, e3, e4, e5]; simp [numsL])
  have HX := Lib.hid (show (l ++ m0 ++ m1).length + 800 ≤ 1000000000000 by have := HL.out; simp only [List.length_append] at this ⊢; omega)
  clear g2 e2 g3 e3 g4 e4 g5 e5
  go_region_held3 (fun _ => True) (trivial) ((go_at_call 65; refine (numbers_new [(b, o + 2), (b, o + 3), (b, o + 4), (b, o + 5)] [n2, n3, n4, n5] w3 rfl (by simp) HG.out H3.out.1 HX.out).mono ?_; rintro e w4 ⟨rfl, v4, hc, hf⟩))
  rw [HE.out] at hc
  have H4 := Lib.hid (show Cw w4 cb base v4 (l ++ m0 ++ m1 ++ m2 ++ m3 ++ m4 ++ m5) ∧ Fw cb base w w4 from ⟨by first | exact hc | simpa only [List.append_assoc] using hc, H3.out.2.trans hf⟩)
  clear hc hf HG HE HX
  go_wp2_with fail
  go_end0
  exact ⟨rfl, _, by first | exact H4.out.1 | simpa only [List.append_assoc] using H4.out.1, H4.out.2⟩
set_option maxRecDepth 100000 in
set_option maxHeartbeats 2000000 in
theorem pool_s : Wrs 111 (.pair .num (.pair .num (.pair .num .num))) := by
  intro b o m w cb base v l h hc hl
  have hb := h.1
  have hle := hc.le
  have hlt := hc.lt
  obtain ⟨m0, r0, h0, k0, rfl⟩ := h.fst
  obtain ⟨m1, r1, h1, k1, rfl⟩ := k0.fst
  obtain ⟨m2, m3, h2, h3, rfl⟩ := k1.fst
  replace h0 : At w base .num b (o) m0 := h0
  replace h1 : At w base .num b (o + 1) m1 := h1
  replace h2 : At w base .num b (o + 2) m2 := h2
  replace h3 : At w base .num b (o + 3) m3 := h3
  have HL := Lib.hid hl
  have HA := Lib.hid (⟨h0, h1, h2, h3, trivial⟩ : At w base .num b (o) m0 ∧ At w base .num b (o + 1) m1 ∧ At w base .num b (o + 2) m2 ∧ At w base .num b (o + 3) m3 ∧ True)
  have HC := Lib.hid (And.intro hc (Fw.refl cb base w))
  clear hc hl h0 h1 h2 h3 h k0 k1
  go_enter Tryz.func111, Tryz.ntmps111
  go_wp2_with fail
  obtain ⟨n0, g0, e0⟩ := (HA.out.1.keep (HC.out.2.old hle (by omega))).num
  obtain ⟨n1, g1, e1⟩ := (HA.out.2.1.keep (HC.out.2.old hle (by omega))).num
  obtain ⟨n2, g2, e2⟩ := (HA.out.2.2.1.keep (HC.out.2.old hle (by omega))).num
  obtain ⟨n3, g3, e3⟩ := (HA.out.2.2.2.1.keep (HC.out.2.old hle (by omega))).num
  have HG := Lib.hid (at4 (base := base) hb g0 g1 g2 g3)
  have HE := Lib.hid (show numsL [n0, n1, n2, n3] = m0 ++ m1 ++ m2 ++ m3 by rw [e0, e1, e2, e3]; simp [numsL])
  have HX := Lib.hid (show (l).length + 800 ≤ 1000000000000 by have := HL.out; simp only [List.length_append] at this ⊢; omega)
  clear g0 e0 g1 e1 g2 e2 g3 e3
  go_region_held3 (fun _ => True) (trivial) ((go_at_call 65; refine (numbers_new [(b, o), (b, o + 1), (b, o + 2), (b, o + 3)] [n0, n1, n2, n3] w rfl (by simp) HG.out HC.out.1 HX.out).mono ?_; rintro e w2 ⟨rfl, v2, hc, hf⟩))
  rw [HE.out] at hc
  have H2 := Lib.hid (show Cw w2 cb base v2 (l ++ m0 ++ m1 ++ m2 ++ m3) ∧ Fw cb base w w2 from ⟨by first | exact hc | simpa only [List.append_assoc] using hc, HC.out.2.trans hf⟩)
  clear hc hf HG HE HX
  go_wp2_with fail
  go_end0
  exact ⟨rfl, _, by first | exact H2.out.1 | simpa only [List.append_assoc] using H2.out.1, H2.out.2⟩
set_option maxRecDepth 100000 in
set_option maxHeartbeats 2000000 in
theorem list_int_s : Wrl 154 63 .num := by
  intro b o m w cb base v l h hc hl
  obtain ⟨hb, A, n, c, ms, h1, h2, h3, h4, h5, rfl⟩ := h
  have hcell : w.cell? ⟨b, o, none⟩ = some (.slice A n c) := h1
  have hr := hc.reads
  have hle := hc.le
  have hlt := hc.lt
  have hlm : l.length + (4 + ms.flatten.length) ≤ 900000000000 := by rw [List.length_append, lowL_length] at hl; omega
  have hn9 : n ≤ 9223372036854775807 := by omega
  have HC := Lib.hid hc
  have HI := Lib.hid h5
  have HM := Lib.hid (And.intro h4 hlm)
  have HCL := Lib.hid hcell
  clear hc h5 h4 hl hlm h1
  go_enter Tryz.func154, Tryz.ntmps154
  go_wp2_with fail
  refine (put_any n (by omega) 4 (by omega) w HC.out (by have := HM.out.2; omega)).mono ?_
  rintro e w2 ⟨rfl, v2, hc2, hf2⟩
  have hcell2 : w2.cell? ⟨b, o, none⟩ = some (.slice A n c) := (World.cell?_of_block (a := ⟨b, o, none⟩) (hf2.below hle b hb (by omega))).trans hcell
  have H2 := Lib.hid (And.intro hc2 hf2)
  clear hc2 hf2 HC hr hcell
  go_wp2_with fail
  go_loopw [46] (fun i wr => ∃ j : Nat, j ≤ n ∧ i = .int .i64 (j : Int) ∧ ∃ v', Cw wr cb base v' (l ++ lowL n 4 ++ (ms.take j).flatten) ∧ Fw cb base w wr) (fun i _ => n - (intOf i).toNat)
  case atStart => exact ⟨0, Nat.zero_le _, rfl, v2, by simpa using H2.out.1, H2.out.2⟩
  case round =>
    obtain ⟨j, hj, rfl, v3, hc3, hf3⟩ := hrel
    have hcell3 : wr.cell? ⟨b, o, none⟩ = some (.slice A n c) := (World.cell?_of_block (a := ⟨b, o, none⟩) (hf3.below hle b hb (by omega))).trans HCL.out
    have H3 := Lib.hid (And.intro hc3 hf3)
    by_cases hlt2 : j < n
    · obtain ⟨b', o', rfl, hb', hits⟩ := HI.out (by omega)
      have hit0 : At wr base .num b' (o' + j * Sch.sz .num) (ms.getD j []) := At.keep ⟨hb', hits j hlt2⟩ (hf3.old hle (by omega))
      have hit : At wr base .num b' (o' + j) (ms.getD j []) := by simpa [Sch.sz] using hit0
      have hle2 := flat_take_le ms j (by rw [HM.out.1]; exact hlt2)
      have HS := Lib.hid (And.intro (flat_take ms j (by rw [HM.out.1]; exact hlt2)) hit)
      have HL := Lib.hid (show (l ++ lowL n 4 ++ (ms.take j).flatten).length + (ms.getD j []).length ≤ 900000000000 by
        rw [List.length_append, List.length_append, lowL_length]; have := HM.out.2; omega)
      have hj0 : (0 : Int) ≤ (j : Int) := by omega
      have hj1 : (j : Int) < (n : Int) := by omega
      clear hc3 hf3 hits hit hit0 hle2
      go_wp2_with fail
      refine (number_s b' (o' + j) (ms.getD j []) wr cb base v3 _ HS.out.2 H3.out.1 HL.out).mono ?_
      rintro e w4 ⟨rfl, v4, hc4, hf4⟩
      have H4 := Lib.hid (And.intro hc4 hf4)
      clear hc4 hf4
      go_wp2_with fail
      go_roundw
      case rel => exact ⟨j + 1, by omega, by go_num, v4, by rw [HS.out.1, ← List.append_assoc]; exact H4.out.1, H3.out.2.trans H4.out.2⟩
      case measure => simp [intOf]; omega
    · clear hc3 hf3
      go_wp2_with fail
      go_end0
      have : j = n := by omega
      subst this
      exact ⟨rfl, v3, by rw [← List.append_assoc]; have e : ms.take j = ms := List.take_of_length_le (by rw [HM.out.1]; exact Nat.le_refl _); rw [← e]; exact H3.out.1, H3.out.2⟩
set_option maxRecDepth 100000 in
set_option maxHeartbeats 2000000 in
theorem bucket_s : Wrs 113 (.pair .num (.pair .num (.pair (.list .num) (.list .num)))) := by
  intro b o m w cb base v l h hc hl
  have hb := h.1
  have hle := hc.le
  have hlt := hc.lt
  obtain ⟨m0, r0, h0, k0, rfl⟩ := h.fst
  obtain ⟨m1, r1, h1, k1, rfl⟩ := k0.fst
  obtain ⟨m2, m3, h2, h3, rfl⟩ := k1.fst
  replace h0 : At w base .num b (o) m0 := h0
  replace h1 : At w base .num b (o + 1) m1 := h1
  replace h2 : At w base (.list .num) b (o + 2) m2 := h2
  replace h3 : At w base (.list .num) b (o + 3) m3 := h3
  have HL := Lib.hid hl
  have HA := Lib.hid (⟨h0, h1, h2, h3, trivial⟩ : At w base .num b (o) m0 ∧ At w base .num b (o + 1) m1 ∧ At w base (.list .num) b (o + 2) m2 ∧ At w base (.list .num) b (o + 3) m3 ∧ True)
  have HC := Lib.hid (And.intro hc (Fw.refl cb base w))
  clear hc hl h0 h1 h2 h3 h k0 k1
  go_enter Tryz.func113, Tryz.ntmps113
  go_wp2_with fail
  obtain ⟨n0, g0, e0⟩ := (HA.out.1.keep (HC.out.2.old hle (by omega))).num
  obtain ⟨n1, g1, e1⟩ := (HA.out.2.1.keep (HC.out.2.old hle (by omega))).num
  have HG := Lib.hid (at2 (base := base) hb g0 g1)
  have HE := Lib.hid (show numsL [n0, n1] = m0 ++ m1 by rw [e0, e1]; simp [numsL])
  have HX := Lib.hid (show (l).length + 800 ≤ 1000000000000 by have := HL.out; simp only [List.length_append] at this ⊢; omega)
  clear g0 e0 g1 e1
  go_region_held3 (fun _ => True) (trivial) ((go_at_call 65; refine (numbers_new [(b, o), (b, o + 1)] [n0, n1] w rfl (by simp) HG.out HC.out.1 HX.out).mono ?_; rintro e w2 ⟨rfl, v2, hc, hf⟩))
  rw [HE.out] at hc
  have H2 := Lib.hid (show Cw w2 cb base v2 (l ++ m0 ++ m1) ∧ Fw cb base w w2 from ⟨by first | exact hc | simpa only [List.append_assoc] using hc, HC.out.2.trans hf⟩)
  clear hc hf HG HE HX
  go_wp2_with fail
  refine (list_int_s b (o + 2) m2 w2 cb base _ (l ++ m0 ++ m1) (HA.out.2.2.1.keep (H2.out.2.old hle (by omega))) H2.out.1 (by have := HL.out; first | omega | (simp only [List.length_append] at this ⊢; omega))).mono ?_
  rintro e w3 ⟨rfl, v3, hc, hf⟩
  have H3 := Lib.hid (show Cw w3 cb base v3 (l ++ m0 ++ m1 ++ m2) ∧ Fw cb base w w3 from ⟨by first | exact hc | simpa only [List.append_assoc] using hc, H2.out.2.trans hf⟩)
  clear hc hf
  go_wp2_with fail
  refine (list_int_s b (o + 3) m3 w3 cb base _ (l ++ m0 ++ m1 ++ m2) (HA.out.2.2.2.1.keep (H3.out.2.old hle (by omega))) H3.out.1 (by have := HL.out; first | omega | (simp only [List.length_append] at this ⊢; omega))).mono ?_
  rintro e w4 ⟨rfl, v4, hc, hf⟩
  have H4 := Lib.hid (show Cw w4 cb base v4 (l ++ m0 ++ m1 ++ m2 ++ m3) ∧ Fw cb base w w4 from ⟨by first | exact hc | simpa only [List.append_assoc] using hc, H3.out.2.trans hf⟩)
  clear hc hf
  go_wp2_with fail
  go_end0
  exact ⟨rfl, _, by first | exact H4.out.1 | simpa only [List.append_assoc] using H4.out.1, H4.out.2⟩
set_option maxRecDepth 100000 in
set_option maxHeartbeats 2000000 in
theorem list_osd_s : Wrl 108 109 (.pair .bool (.pair .bool (.pair .num (.pair .num (.pair .num .num))))) := by
  intro b o m w cb base v l h hc hl
  obtain ⟨hb, A, n, c, ms, h1, h2, h3, h4, h5, rfl⟩ := h
  have hcell : w.cell? ⟨b, o, none⟩ = some (.slice A n c) := h1
  have hr := hc.reads
  have hle := hc.le
  have hlt := hc.lt
  have hlm : l.length + (4 + ms.flatten.length) ≤ 900000000000 := by rw [List.length_append, lowL_length] at hl; omega
  have hn9 : n ≤ 9223372036854775807 := by omega
  have HC := Lib.hid hc
  have HI := Lib.hid h5
  have HM := Lib.hid (And.intro h4 hlm)
  have HCL := Lib.hid hcell
  clear hc h5 h4 hl hlm h1
  go_enter Tryz.func108, Tryz.ntmps108
  go_wp2_with fail
  refine (put_any n (by omega) 4 (by omega) w HC.out (by have := HM.out.2; omega)).mono ?_
  rintro e w2 ⟨rfl, v2, hc2, hf2⟩
  have hcell2 : w2.cell? ⟨b, o, none⟩ = some (.slice A n c) := (World.cell?_of_block (a := ⟨b, o, none⟩) (hf2.below hle b hb (by omega))).trans hcell
  have H2 := Lib.hid (And.intro hc2 hf2)
  clear hc2 hf2 HC hr hcell
  go_wp2_with fail
  go_loopw [46] (fun i wr => ∃ j : Nat, j ≤ n ∧ i = .int .i64 (j : Int) ∧ ∃ v', Cw wr cb base v' (l ++ lowL n 4 ++ (ms.take j).flatten) ∧ Fw cb base w wr) (fun i _ => n - (intOf i).toNat)
  case atStart => exact ⟨0, Nat.zero_le _, rfl, v2, by simpa using H2.out.1, H2.out.2⟩
  case round =>
    obtain ⟨j, hj, rfl, v3, hc3, hf3⟩ := hrel
    have hcell3 : wr.cell? ⟨b, o, none⟩ = some (.slice A n c) := (World.cell?_of_block (a := ⟨b, o, none⟩) (hf3.below hle b hb (by omega))).trans HCL.out
    have H3 := Lib.hid (And.intro hc3 hf3)
    by_cases hlt2 : j < n
    · obtain ⟨b', o', rfl, hb', hits⟩ := HI.out (by omega)
      have hit0 : At wr base (.pair .bool (.pair .bool (.pair .num (.pair .num (.pair .num .num))))) b' (o' + j * Sch.sz (.pair .bool (.pair .bool (.pair .num (.pair .num (.pair .num .num)))))) (ms.getD j []) := At.keep ⟨hb', hits j hlt2⟩ (hf3.old hle (by omega))
      have hit : At wr base (.pair .bool (.pair .bool (.pair .num (.pair .num (.pair .num .num))))) b' (o' + j * 6) (ms.getD j []) := by simpa [Sch.sz] using hit0
      have hle2 := flat_take_le ms j (by rw [HM.out.1]; exact hlt2)
      have HS := Lib.hid (And.intro (flat_take ms j (by rw [HM.out.1]; exact hlt2)) hit)
      have HL := Lib.hid (show (l ++ lowL n 4 ++ (ms.take j).flatten).length + (ms.getD j []).length ≤ 900000000000 by
        rw [List.length_append, List.length_append, lowL_length]; have := HM.out.2; omega)
      have hj0 : (0 : Int) ≤ (j : Int) := by omega
      have hj1 : (j : Int) < (n : Int) := by omega
      clear hc3 hf3 hits hit hit0 hle2
      go_wp2_with fail
      refine (osd_s b' (o' + j * 6) (ms.getD j []) wr cb base v3 _ HS.out.2 H3.out.1 HL.out).mono ?_
      rintro e w4 ⟨rfl, v4, hc4, hf4⟩
      have H4 := Lib.hid (And.intro hc4 hf4)
      clear hc4 hf4
      go_wp2_with fail
      go_roundw
      case rel => exact ⟨j + 1, by omega, by go_num, v4, by rw [HS.out.1, ← List.append_assoc]; exact H4.out.1, H3.out.2.trans H4.out.2⟩
      case measure => simp [intOf]; omega
    · clear hc3 hf3
      go_wp2_with fail
      go_end0
      have : j = n := by omega
      subst this
      exact ⟨rfl, v3, by rw [← List.append_assoc]; have e : ms.take j = ms := List.take_of_length_le (by rw [HM.out.1]; exact Nat.le_refl _); rw [← e]; exact H3.out.1, H3.out.2⟩
set_option maxRecDepth 100000 in
set_option maxHeartbeats 2000000 in
theorem list_pool_s : Wrl 110 111 (.pair .num (.pair .num (.pair .num .num))) := by
  intro b o m w cb base v l h hc hl
  obtain ⟨hb, A, n, c, ms, h1, h2, h3, h4, h5, rfl⟩ := h
  have hcell : w.cell? ⟨b, o, none⟩ = some (.slice A n c) := h1
  have hr := hc.reads
  have hle := hc.le
  have hlt := hc.lt
  have hlm : l.length + (4 + ms.flatten.length) ≤ 900000000000 := by rw [List.length_append, lowL_length] at hl; omega
  have hn9 : n ≤ 9223372036854775807 := by omega
  have HC := Lib.hid hc
  have HI := Lib.hid h5
  have HM := Lib.hid (And.intro h4 hlm)
  have HCL := Lib.hid hcell
  clear hc h5 h4 hl hlm h1
  go_enter Tryz.func110, Tryz.ntmps110
  go_wp2_with fail
  refine (put_any n (by omega) 4 (by omega) w HC.out (by have := HM.out.2; omega)).mono ?_
  rintro e w2 ⟨rfl, v2, hc2, hf2⟩
  have hcell2 : w2.cell? ⟨b, o, none⟩ = some (.slice A n c) := (World.cell?_of_block (a := ⟨b, o, none⟩) (hf2.below hle b hb (by omega))).trans hcell
  have H2 := Lib.hid (And.intro hc2 hf2)
  clear hc2 hf2 HC hr hcell
  go_wp2_with fail
  go_loopw [46] (fun i wr => ∃ j : Nat, j ≤ n ∧ i = .int .i64 (j : Int) ∧ ∃ v', Cw wr cb base v' (l ++ lowL n 4 ++ (ms.take j).flatten) ∧ Fw cb base w wr) (fun i _ => n - (intOf i).toNat)
  case atStart => exact ⟨0, Nat.zero_le _, rfl, v2, by simpa using H2.out.1, H2.out.2⟩
  case round =>
    obtain ⟨j, hj, rfl, v3, hc3, hf3⟩ := hrel
    have hcell3 : wr.cell? ⟨b, o, none⟩ = some (.slice A n c) := (World.cell?_of_block (a := ⟨b, o, none⟩) (hf3.below hle b hb (by omega))).trans HCL.out
    have H3 := Lib.hid (And.intro hc3 hf3)
    by_cases hlt2 : j < n
    · obtain ⟨b', o', rfl, hb', hits⟩ := HI.out (by omega)
      have hit0 : At wr base (.pair .num (.pair .num (.pair .num .num))) b' (o' + j * Sch.sz (.pair .num (.pair .num (.pair .num .num)))) (ms.getD j []) := At.keep ⟨hb', hits j hlt2⟩ (hf3.old hle (by omega))
      have hit : At wr base (.pair .num (.pair .num (.pair .num .num))) b' (o' + j * 4) (ms.getD j []) := by simpa [Sch.sz] using hit0
      have hle2 := flat_take_le ms j (by rw [HM.out.1]; exact hlt2)
      have HS := Lib.hid (And.intro (flat_take ms j (by rw [HM.out.1]; exact hlt2)) hit)
      have HL := Lib.hid (show (l ++ lowL n 4 ++ (ms.take j).flatten).length + (ms.getD j []).length ≤ 900000000000 by
        rw [List.length_append, List.length_append, lowL_length]; have := HM.out.2; omega)
      have hj0 : (0 : Int) ≤ (j : Int) := by omega
      have hj1 : (j : Int) < (n : Int) := by omega
      clear hc3 hf3 hits hit hit0 hle2
      go_wp2_with fail
      refine (pool_s b' (o' + j * 4) (ms.getD j []) wr cb base v3 _ HS.out.2 H3.out.1 HL.out).mono ?_
      rintro e w4 ⟨rfl, v4, hc4, hf4⟩
      have H4 := Lib.hid (And.intro hc4 hf4)
      clear hc4 hf4
      go_wp2_with fail
      go_roundw
      case rel => exact ⟨j + 1, by omega, by go_num, v4, by rw [HS.out.1, ← List.append_assoc]; exact H4.out.1, H3.out.2.trans H4.out.2⟩
      case measure => simp [intOf]; omega
    · clear hc3 hf3
      go_wp2_with fail
      go_end0
      have : j = n := by omega
      subst this
      exact ⟨rfl, v3, by rw [← List.append_assoc]; have e : ms.take j = ms := List.take_of_length_le (by rw [HM.out.1]; exact Nat.le_refl _); rw [← e]; exact H3.out.1, H3.out.2⟩
set_option maxRecDepth 100000 in
set_option maxHeartbeats 2000000 in
theorem list_bucket_s : Wrl 112 113 (.pair .num (.pair .num (.pair (.list .num) (.list .num)))) := by
  intro b o m w cb base v l h hc hl
  obtain ⟨hb, A, n, c, ms, h1, h2, h3, h4, h5, rfl⟩ := h
  have hcell : w.cell? ⟨b, o, none⟩ = some (.slice A n c) := h1
  have hr := hc.reads
  have hle := hc.le
  have hlt := hc.lt
  have hlm : l.length + (4 + ms.flatten.length) ≤ 900000000000 := by rw [List.length_append, lowL_length] at hl; omega
  have hn9 : n ≤ 9223372036854775807 := by omega
  have HC := Lib.hid hc
  have HI := Lib.hid h5
  have HM := Lib.hid (And.intro h4 hlm)
  have HCL := Lib.hid hcell
  clear hc h5 h4 hl hlm h1
  go_enter Tryz.func112, Tryz.ntmps112
  go_wp2_with fail
  refine (put_any n (by omega) 4 (by omega) w HC.out (by have := HM.out.2; omega)).mono ?_
  rintro e w2 ⟨rfl, v2, hc2, hf2⟩
  have hcell2 : w2.cell? ⟨b, o, none⟩ = some (.slice A n c) := (World.cell?_of_block (a := ⟨b, o, none⟩) (hf2.below hle b hb (by omega))).trans hcell
  have H2 := Lib.hid (And.intro hc2 hf2)
  clear hc2 hf2 HC hr hcell
  go_wp2_with fail
  go_loopw [46] (fun i wr => ∃ j : Nat, j ≤ n ∧ i = .int .i64 (j : Int) ∧ ∃ v', Cw wr cb base v' (l ++ lowL n 4 ++ (ms.take j).flatten) ∧ Fw cb base w wr) (fun i _ => n - (intOf i).toNat)
  case atStart => exact ⟨0, Nat.zero_le _, rfl, v2, by simpa using H2.out.1, H2.out.2⟩
  case round =>
    obtain ⟨j, hj, rfl, v3, hc3, hf3⟩ := hrel
    have hcell3 : wr.cell? ⟨b, o, none⟩ = some (.slice A n c) := (World.cell?_of_block (a := ⟨b, o, none⟩) (hf3.below hle b hb (by omega))).trans HCL.out
    have H3 := Lib.hid (And.intro hc3 hf3)
    by_cases hlt2 : j < n
    · obtain ⟨b', o', rfl, hb', hits⟩ := HI.out (by omega)
      have hit0 : At wr base (.pair .num (.pair .num (.pair (.list .num) (.list .num)))) b' (o' + j * Sch.sz (.pair .num (.pair .num (.pair (.list .num) (.list .num))))) (ms.getD j []) := At.keep ⟨hb', hits j hlt2⟩ (hf3.old hle (by omega))
      have hit : At wr base (.pair .num (.pair .num (.pair (.list .num) (.list .num)))) b' (o' + j * 4) (ms.getD j []) := by simpa [Sch.sz] using hit0
      have hle2 := flat_take_le ms j (by rw [HM.out.1]; exact hlt2)
      have HS := Lib.hid (And.intro (flat_take ms j (by rw [HM.out.1]; exact hlt2)) hit)
      have HL := Lib.hid (show (l ++ lowL n 4 ++ (ms.take j).flatten).length + (ms.getD j []).length ≤ 900000000000 by
        rw [List.length_append, List.length_append, lowL_length]; have := HM.out.2; omega)
      have hj0 : (0 : Int) ≤ (j : Int) := by omega
      have hj1 : (j : Int) < (n : Int) := by omega
      clear hc3 hf3 hits hit hit0 hle2
      go_wp2_with fail
      refine (bucket_s b' (o' + j * 4) (ms.getD j []) wr cb base v3 _ HS.out.2 H3.out.1 HL.out).mono ?_
      rintro e w4 ⟨rfl, v4, hc4, hf4⟩
      have H4 := Lib.hid (And.intro hc4 hf4)
      clear hc4 hf4
      go_wp2_with fail
      go_roundw
      case rel => exact ⟨j + 1, by omega, by go_num, v4, by rw [HS.out.1, ← List.append_assoc]; exact H4.out.1, H3.out.2.trans H4.out.2⟩
      case measure => simp [intOf]; omega
    · clear hc3 hf3
      go_wp2_with fail
      go_end0
      have : j = n := by omega
      subst this
      exact ⟨rfl, v3, by rw [← List.append_assoc]; have e : ms.take j = ms := List.take_of_length_le (by rw [HM.out.1]; exact Nat.le_refl _); rw [← e]; exact H3.out.1, H3.out.2⟩
set_option maxRecDepth 100000 in
set_option maxHeartbeats 2000000 in
theorem clusterMap_s : Wrs 45 (.pair .num (.pair (.list (.pair .bool (.pair .bool (.pair .num (.pair .num (.pair .num .num)))))) (.pair (.list (.pair .num (.pair .num (.pair .num .num)))) (.pair (.list (.pair .num (.pair .num (.pair (.list .num) (.list .num))))) .num)))) := by
  intro b o m w cb base v l h hc hl
  have hb := h.1
  have hle := hc.le
  have hlt := hc.lt
  obtain ⟨m0, r0, h0, k0, rfl⟩ := h.fst
  obtain ⟨m1, r1, h1, k1, rfl⟩ := k0.fst
  obtain ⟨m2, r2, h2, k2, rfl⟩ := k1.fst
  obtain ⟨m3, m4, h3, h4, rfl⟩ := k2.fst
  replace h0 : At w base .num b (o) m0 := h0
  replace h1 : At w base (.list (.pair .bool (.pair .bool (.pair .num (.pair .num (.pair .num .num)))))) b (o + 1) m1 := h1
  replace h2 : At w base (.list (.pair .num (.pair .num (.pair .num .num)))) b (o + 2) m2 := h2
  replace h3 : At w base (.list (.pair .num (.pair .num (.pair (.list .num) (.list .num))))) b (o + 3) m3 := h3
  replace h4 : At w base .num b (o + 4) m4 := h4
  have HL := Lib.hid hl
  have HA := Lib.hid (⟨h0, h1, h2, h3, h4, trivial⟩ : At w base .num b (o) m0 ∧ At w base (.list (.pair .bool (.pair .bool (.pair .num (.pair .num (.pair .num .num)))))) b (o + 1) m1 ∧ At w base (.list (.pair .num (.pair .num (.pair .num .num)))) b (o + 2) m2 ∧ At w base (.list (.pair .num (.pair .num (.pair (.list .num) (.list .num))))) b (o + 3) m3 ∧ At w base .num b (o + 4) m4 ∧ True)
  have HC := Lib.hid (And.intro hc (Fw.refl cb base w))
  clear hc hl h0 h1 h2 h3 h4 h k0 k1 k2
  go_enter Tryz.func45, Tryz.ntmps45
  go_wp2_with fail
  refine (number_s b (o) m0 w cb base _ (l) (HA.out.1.keep (HC.out.2.old hle (by omega))) HC.out.1 (by have := HL.out; first | omega | (simp only [List.length_append] at this ⊢; omega))).mono ?_
  rintro e w2 ⟨rfl, v2, hc, hf⟩
  have H2 := Lib.hid (show Cw w2 cb base v2 (l ++ m0) ∧ Fw cb base w w2 from ⟨by first | exact hc | simpa only [List.append_assoc] using hc, HC.out.2.trans hf⟩)
  clear hc hf
  go_wp2_with fail
  refine (list_osd_s b (o + 1) m1 w2 cb base _ (l ++ m0) (HA.out.2.1.keep (H2.out.2.old hle (by omega))) H2.out.1 (by have := HL.out; first | omega | (simp only [List.length_append] at this ⊢; omega))).mono ?_
  rintro e w3 ⟨rfl, v3, hc, hf⟩
  have H3 := Lib.hid (show Cw w3 cb base v3 (l ++ m0 ++ m1) ∧ Fw cb base w w3 from ⟨by first | exact hc | simpa only [List.append_assoc] using hc, H2.out.2.trans hf⟩)
  clear hc hf
  go_wp2_with fail
  refine (list_pool_s b (o + 2) m2 w3 cb base _ (l ++ m0 ++ m1) (HA.out.2.2.1.keep (H3.out.2.old hle (by omega))) H3.out.1 (by have := HL.out; first | omega | (simp only [List.length_append] at this ⊢; omega))).mono ?_
  rintro e w4 ⟨rfl, v4, hc, hf⟩
  have H4 := Lib.hid (show Cw w4 cb base v4 (l ++ m0 ++ m1 ++ m2) ∧ Fw cb base w w4 from ⟨by first | exact hc | simpa only [List.append_assoc] using hc, H3.out.2.trans hf⟩)
  clear hc hf
  go_wp2_with fail
  refine (list_bucket_s b (o + 3) m3 w4 cb base _ (l ++ m0 ++ m1 ++ m2) (HA.out.2.2.2.1.keep (H4.out.2.old hle (by omega))) H4.out.1 (by have := HL.out; first | omega | (simp only [List.length_append] at this ⊢; omega))).mono ?_
  rintro e w5 ⟨rfl, v5, hc, hf⟩
  have H5 := Lib.hid (show Cw w5 cb base v5 (l ++ m0 ++ m1 ++ m2 ++ m3) ∧ Fw cb base w w5 from ⟨by first | exact hc | simpa only [List.append_assoc] using hc, H4.out.2.trans hf⟩)
  clear hc hf
  go_wp2_with fail
  refine (number_s b (o + 4) m4 w5 cb base _ (l ++ m0 ++ m1 ++ m2 ++ m3) (HA.out.2.2.2.2.1.keep (H5.out.2.old hle (by omega))) H5.out.1 (by have := HL.out; first | omega | (simp only [List.length_append] at this ⊢; omega))).mono ?_
  rintro e w6 ⟨rfl, v6, hc, hf⟩
  have H6 := Lib.hid (show Cw w6 cb base v6 (l ++ m0 ++ m1 ++ m2 ++ m3 ++ m4) ∧ Fw cb base w w6 from ⟨by first | exact hc | simpa only [List.append_assoc] using hc, H5.out.2.trans hf⟩)
  clear hc hf
  go_wp2_with fail
  go_end0
  exact ⟨rfl, _, by first | exact H6.out.1 | simpa only [List.append_assoc] using H6.out.1, H6.out.2⟩
set_option maxRecDepth 100000 in
set_option maxHeartbeats 2000000 in
theorem change_s : Wrs 71 (.pair .num (.pair .num (.pair .num (.pair (.pair .num (.pair .num (.pair .num .num))) (.pair .num (.pair .num (.pair (.list .num) (.list .num)))))))) := by
  intro b o m w cb base v l h hc hl
  have hb := h.1
  have hle := hc.le
  have hlt := hc.lt
  obtain ⟨m0, r0, h0, k0, rfl⟩ := h.fst
  obtain ⟨m1, r1, h1, k1, rfl⟩ := k0.fst
  obtain ⟨m2, r2, h2, k2, rfl⟩ := k1.fst
  obtain ⟨m3, m4, h3, h4, rfl⟩ := k2.fst
  replace h0 : At w base .num b (o) m0 := h0
  replace h1 : At w base .num b (o + 1) m1 := h1
  replace h2 : At w base .num b (o + 2) m2 := h2
  replace h3 : At w base (.pair .num (.pair .num (.pair .num .num))) b (o + 3) m3 := h3
  replace h4 : At w base (.pair .num (.pair .num (.pair (.list .num) (.list .num)))) b (o + 7) m4 := h4
  have HL := Lib.hid hl
  have HA := Lib.hid (⟨h0, h1, h2, h3, h4, trivial⟩ : At w base .num b (o) m0 ∧ At w base .num b (o + 1) m1 ∧ At w base .num b (o + 2) m2 ∧ At w base (.pair .num (.pair .num (.pair .num .num))) b (o + 3) m3 ∧ At w base (.pair .num (.pair .num (.pair (.list .num) (.list .num)))) b (o + 7) m4 ∧ True)
  have HC := Lib.hid (And.intro hc (Fw.refl cb base w))
  clear hc hl h0 h1 h2 h3 h4 h k0 k1 k2
  go_enter Tryz.func71, Tryz.ntmps71
  go_wp2_with fail
  obtain ⟨n0, g0, e0⟩ := (HA.out.1.keep (HC.out.2.old hle (by omega))).num
  obtain ⟨n1, g1, e1⟩ := (HA.out.2.1.keep (HC.out.2.old hle (by omega))).num
  obtain ⟨n2, g2, e2⟩ := (HA.out.2.2.1.keep (HC.out.2.old hle (by omega))).num
  have HG := Lib.hid (at3 (base := base) hb g0 g1 g2)
  have HE := Lib.hid (show numsL [n0, n1, n2] = m0 ++ m1 ++ m2 by rw [e0, e1, e2]; simp [numsL])
  have HX := Lib.hid (show (l).length + 800 ≤ 1000000000000 by have := HL.out; simp only [List.length_append] at this ⊢; omega)
  clear g0 e0 g1 e1 g2 e2
  go_region_held3 (fun _ => True) (trivial) ((go_at_call 65; refine (numbers_new [(b, o), (b, o + 1), (b, o + 2)] [n0, n1, n2] w rfl (by simp) HG.out HC.out.1 HX.out).mono ?_; rintro e w2 ⟨rfl, v2, hc, hf⟩))
  rw [HE.out] at hc
  have H2 := Lib.hid (show Cw w2 cb base v2 (l ++ m0 ++ m1 ++ m2) ∧ Fw cb base w w2 from ⟨by first | exact hc | simpa only [List.append_assoc] using hc, HC.out.2.trans hf⟩)
  clear hc hf HG HE HX
  go_wp2_with fail
  refine (pool_s b (o + 3) m3 w2 cb base _ (l ++ m0 ++ m1 ++ m2) (HA.out.2.2.2.1.keep (H2.out.2.old hle (by omega))) H2.out.1 (by have := HL.out; first | omega | (simp only [List.length_append] at this ⊢; omega))).mono ?_
  rintro e w3 ⟨rfl, v3, hc, hf⟩
  have H3 := Lib.hid (show Cw w3 cb base v3 (l ++ m0 ++ m1 ++ m2 ++ m3) ∧ Fw cb base w w3 from ⟨by first | exact hc | simpa only [List.append_assoc] using hc, H2.out.2.trans hf⟩)
  clear hc hf
  go_wp2_with fail
  refine (bucket_s b (o + 7) m4 w3 cb base _ (l ++ m0 ++ m1 ++ m2 ++ m3) (HA.out.2.2.2.2.1.keep (H3.out.2.old hle (by omega))) H3.out.1 (by have := HL.out; first | omega | (simp only [List.length_append] at this ⊢; omega))).mono ?_
  rintro e w4 ⟨rfl, v4, hc, hf⟩
  have H4 := Lib.hid (show Cw w4 cb base v4 (l ++ m0 ++ m1 ++ m2 ++ m3 ++ m4) ∧ Fw cb base w w4 from ⟨by first | exact hc | simpa only [List.append_assoc] using hc, H3.out.2.trans hf⟩)
  clear hc hf
  go_wp2_with fail
  go_end0
  exact ⟨rfl, _, by first | exact H4.out.1 | simpa only [List.append_assoc] using H4.out.1, H4.out.2⟩
set_option maxRecDepth 100000 in
set_option maxHeartbeats 2000000 in
theorem list_change_s : Wrl 70 71 (.pair .num (.pair .num (.pair .num (.pair (.pair .num (.pair .num (.pair .num .num))) (.pair .num (.pair .num (.pair (.list .num) (.list .num)))))))) := by
  intro b o m w cb base v l h hc hl
  obtain ⟨hb, A, n, c, ms, h1, h2, h3, h4, h5, rfl⟩ := h
  have hcell : w.cell? ⟨b, o, none⟩ = some (.slice A n c) := h1
  have hr := hc.reads
  have hle := hc.le
  have hlt := hc.lt
  have hlm : l.length + (4 + ms.flatten.length) ≤ 900000000000 := by rw [List.length_append, lowL_length] at hl; omega
  have hn9 : n ≤ 9223372036854775807 := by omega
  have HC := Lib.hid hc
  have HI := Lib.hid h5
  have HM := Lib.hid (And.intro h4 hlm)
  have HCL := Lib.hid hcell
  clear hc h5 h4 hl hlm h1
  go_enter Tryz.func70, Tryz.ntmps70
  go_wp2_with fail
  refine (put_any n (by omega) 4 (by omega) w HC.out (by have := HM.out.2; omega)).mono ?_
  rintro e w2 ⟨rfl, v2, hc2, hf2⟩
  have hcell2 : w2.cell? ⟨b, o, none⟩ = some (.slice A n c) := (World.cell?_of_block (a := ⟨b, o, none⟩) (hf2.below hle b hb (by omega))).trans hcell
  have H2 := Lib.hid (And.intro hc2 hf2)
  clear hc2 hf2 HC hr hcell
  go_wp2_with fail
  go_loopw [46] (fun i wr => ∃ j : Nat, j ≤ n ∧ i = .int .i64 (j : Int) ∧ ∃ v', Cw wr cb base v' (l ++ lowL n 4 ++ (ms.take j).flatten) ∧ Fw cb base w wr) (fun i _ => n - (intOf i).toNat)
  case atStart => exact ⟨0, Nat.zero_le _, rfl, v2, by simpa using H2.out.1, H2.out.2⟩
  case round =>
    obtain ⟨j, hj, rfl, v3, hc3, hf3⟩ := hrel
    have hcell3 : wr.cell? ⟨b, o, none⟩ = some (.slice A n c) := (World.cell?_of_block (a := ⟨b, o, none⟩) (hf3.below hle b hb (by omega))).trans HCL.out
    have H3 := Lib.hid (And.intro hc3 hf3)
    by_cases hlt2 : j < n
    · obtain ⟨b', o', rfl, hb', hits⟩ := HI.out (by omega)
      have hit0 : At wr base (.pair .num (.pair .num (.pair .num (.pair (.pair .num (.pair .num (.pair .num .num))) (.pair .num (.pair .num (.pair (.list .num) (.list .num)))))))) b' (o' + j * Sch.sz (.pair .num (.pair .num (.pair .num (.pair (.pair .num (.pair .num (.pair .num .num))) (.pair .num (.pair .num (.pair (.list .num) (.list .num))))))))) (ms.getD j []) := At.keep ⟨hb', hits j hlt2⟩ (hf3.old hle (by omega))
      have hit : At wr base (.pair .num (.pair .num (.pair .num (.pair (.pair .num (.pair .num (.pair .num .num))) (.pair .num (.pair .num (.pair (.list .num) (.list .num)))))))) b' (o' + j * 11) (ms.getD j []) := by simpa [Sch.sz] using hit0
      have hle2 := flat_take_le ms j (by rw [HM.out.1]; exact hlt2)
      have HS := Lib.hid (And.intro (flat_take ms j (by rw [HM.out.1]; exact hlt2)) hit)
      have HL := Lib.hid (show (l ++ lowL n 4 ++ (ms.take j).flatten).length + (ms.getD j []).length ≤ 900000000000 by
        rw [List.length_append, List.length_append, lowL_length]; have := HM.out.2; omega)
      have hj0 : (0 : Int) ≤ (j : Int) := by omega
      have hj1 : (j : Int) < (n : Int) := by omega
      clear hc3 hf3 hits hit hit0 hle2
      go_wp2_with fail
      refine (change_s b' (o' + j * 11) (ms.getD j []) wr cb base v3 _ HS.out.2 H3.out.1 HL.out).mono ?_
      rintro e w4 ⟨rfl, v4, hc4, hf4⟩
      have H4 := Lib.hid (And.intro hc4 hf4)
      clear hc4 hf4
      go_wp2_with fail
      go_roundw
      case rel => exact ⟨j + 1, by omega, by go_num, v4, by rw [HS.out.1, ← List.append_assoc]; exact H4.out.1, H3.out.2.trans H4.out.2⟩
      case measure => simp [intOf]; omega
    · clear hc3 hf3
      go_wp2_with fail
      go_end0
      have : j = n := by omega
      subst this
      exact ⟨rfl, v3, by rw [← List.append_assoc]; have e : ms.take j = ms := List.take_of_length_le (by rw [HM.out.1]; exact Nat.le_refl _); rw [← e]; exact H3.out.1, H3.out.2⟩
set_option maxRecDepth 100000 in
set_option maxHeartbeats 2000000 in
theorem inc_s : Wrs 40 (.pair .num (.list (.pair .num (.pair .num (.pair .num (.pair (.pair .num (.pair .num (.pair .num .num))) (.pair .num (.pair .num (.pair (.list .num) (.list .num)))))))))) := by
  intro b o m w cb base v l h hc hl
  have hb := h.1
  have hle := hc.le
  have hlt := hc.lt
  obtain ⟨m0, m1, h0, h1, rfl⟩ := h.fst
  replace h0 : At w base .num b (o) m0 := h0
  replace h1 : At w base (.list (.pair .num (.pair .num (.pair .num (.pair (.pair .num (.pair .num (.pair .num .num))) (.pair .num (.pair .num (.pair (.list .num) (.list .num))))))))) b (o + 1) m1 := h1
  have HL := Lib.hid hl
  have HA := Lib.hid (⟨h0, h1, trivial⟩ : At w base .num b (o) m0 ∧ At w base (.list (.pair .num (.pair .num (.pair .num (.pair (.pair .num (.pair .num (.pair .num .num))) (.pair .num (.pair .num (.pair (.list .num) (.list .num))))))))) b (o + 1) m1 ∧ True)
  have HC := Lib.hid (And.intro hc (Fw.refl cb base w))
  clear hc hl h0 h1 h 
  go_enter Tryz.func40, Tryz.ntmps40
  go_wp2_with fail
  refine (number_s b (o) m0 w cb base _ (l) (HA.out.1.keep (HC.out.2.old hle (by omega))) HC.out.1 (by have := HL.out; first | omega | (simp only [List.length_append] at this ⊢; omega))).mono ?_
  rintro e w2 ⟨rfl, v2, hc, hf⟩
  have H2 := Lib.hid (show Cw w2 cb base v2 (l ++ m0) ∧ Fw cb base w w2 from ⟨by first | exact hc | simpa only [List.append_assoc] using hc, HC.out.2.trans hf⟩)
  clear hc hf
  go_wp2_with fail
  refine (list_change_s b (o + 1) m1 w2 cb base _ (l ++ m0) (HA.out.2.1.keep (H2.out.2.old hle (by omega))) H2.out.1 (by have := HL.out; first | omega | (simp only [List.length_append] at this ⊢; omega))).mono ?_
  rintro e w3 ⟨rfl, v3, hc, hf⟩
  have H3 := Lib.hid (show Cw w3 cb base v3 (l ++ m0 ++ m1) ∧ Fw cb base w w3 from ⟨by first | exact hc | simpa only [List.append_assoc] using hc, H2.out.2.trans hf⟩)
  clear hc hf
  go_wp2_with fail
  go_end0
  exact ⟨rfl, _, by first | exact H3.out.1 | simpa only [List.append_assoc] using H3.out.1, H3.out.2⟩
set_option maxRecDepth 100000 in
set_option maxHeartbeats 2000000 in
theorem entry_s : Wrs 73 (.pair (.pair .num .num) (.pair .bool (.pair .num (.pair .text (.pair .num .num))))) := by
  intro b o m w cb base v l h hc hl
  have hb := h.1
  have hle := hc.le
  have hlt := hc.lt
  obtain ⟨m0, r0, h0, k0, rfl⟩ := h.fst
  obtain ⟨m1, r1, h1, k1, rfl⟩ := k0.fst
  obtain ⟨m2, r2, h2, k2, rfl⟩ := k1.fst
  obtain ⟨m3, r3, h3, k3, rfl⟩ := k2.fst
  obtain ⟨m4, m5, h4, h5, rfl⟩ := k3.fst
  replace h0 : At w base (.pair .num .num) b (o) m0 := h0
  replace h1 : At w base .bool b (o + 2) m1 := h1
  replace h2 : At w base .num b (o + 3) m2 := h2
  replace h3 : At w base .text b (o + 4) m3 := h3
  replace h4 : At w base .num b (o + 5) m4 := h4
  replace h5 : At w base .num b (o + 6) m5 := h5
  have HL := Lib.hid hl
  have HA := Lib.hid (⟨h0, h1, h2, h3, h4, h5, trivial⟩ : At w base (.pair .num .num) b (o) m0 ∧ At w base .bool b (o + 2) m1 ∧ At w base .num b (o + 3) m2 ∧ At w base .text b (o + 4) m3 ∧ At w base .num b (o + 5) m4 ∧ At w base .num b (o + 6) m5 ∧ True)
  have HC := Lib.hid (And.intro hc (Fw.refl cb base w))
  clear hc hl h0 h1 h2 h3 h4 h5 h k0 k1 k2 k3
  go_enter Tryz.func73, Tryz.ntmps73
  go_wp2_with fail
  refine (version_s b (o) m0 w cb base _ (l) (HA.out.1.keep (HC.out.2.old hle (by omega))) HC.out.1 (by have := HL.out; first | omega | (simp only [List.length_append] at this ⊢; omega))).mono ?_
  rintro e w2 ⟨rfl, v2, hc, hf⟩
  have H2 := Lib.hid (show Cw w2 cb base v2 (l ++ m0) ∧ Fw cb base w w2 from ⟨by first | exact hc | simpa only [List.append_assoc] using hc, HC.out.2.trans hf⟩)
  clear hc hf
  go_wp2_with fail
  refine (truth_s b (o + 2) m1 w2 cb base _ (l ++ m0) (HA.out.2.1.keep (H2.out.2.old hle (by omega))) H2.out.1 (by have := HL.out; first | omega | (simp only [List.length_append] at this ⊢; omega))).mono ?_
  rintro e w3 ⟨rfl, v3, hc, hf⟩
  have H3 := Lib.hid (show Cw w3 cb base v3 (l ++ m0 ++ m1) ∧ Fw cb base w w3 from ⟨by first | exact hc | simpa only [List.append_assoc] using hc, H2.out.2.trans hf⟩)
  clear hc hf
  go_wp2_with fail
  refine (errno_s b (o + 3) m2 w3 cb base _ (l ++ m0 ++ m1) (HA.out.2.2.1.keep (H3.out.2.old hle (by omega))) H3.out.1 (by have := HL.out; first | omega | (simp only [List.length_append] at this ⊢; omega))).mono ?_
  rintro e w4 ⟨rfl, v4, hc, hf⟩
  have H4 := Lib.hid (show Cw w4 cb base v4 (l ++ m0 ++ m1 ++ m2) ∧ Fw cb base w w4 from ⟨by first | exact hc | simpa only [List.append_assoc] using hc, H3.out.2.trans hf⟩)
  clear hc hf
  go_wp2_with fail
  refine (text_s b (o + 4) m3 w4 cb base _ (l ++ m0 ++ m1 ++ m2) (HA.out.2.2.2.1.keep (H4.out.2.old hle (by omega))) H4.out.1 (by have := HL.out; first | omega | (simp only [List.length_append] at this ⊢; omega))).mono ?_
  rintro e w5 ⟨rfl, v5, hc, hf⟩
  have H5 := Lib.hid (show Cw w5 cb base v5 (l ++ m0 ++ m1 ++ m2 ++ m3) ∧ Fw cb base w w5 from ⟨by first | exact hc | simpa only [List.append_assoc] using hc, H4.out.2.trans hf⟩)
  clear hc hf
  go_wp2_with fail
  obtain ⟨n4, g4, e4⟩ := (HA.out.2.2.2.2.1.keep (H5.out.2.old hle (by omega))).num
  obtain ⟨n5, g5, e5⟩ := (HA.out.2.2.2.2.2.1.keep (H5.out.2.old hle (by omega))).num
  have HG := Lib.hid (at2 (base := base) hb g4 g5)
  have HE := Lib.hid (show numsL [n4, n5] = m4 ++ m5 by rw [e4, e5]; simp [numsL])
  have HX := Lib.hid (show (l ++ m0 ++ m1 ++ m2 ++ m3).length + 800 ≤ 1000000000000 by have := HL.out; simp only [List.length_append] at this ⊢; omega)
  clear g4 e4 g5 e5
  go_region_held3 (fun _ => True) (trivial) ((go_at_call 65; refine (numbers_new [(b, o + 5), (b, o + 6)] [n4, n5] w5 rfl (by simp) HG.out H5.out.1 HX.out).mono ?_; rintro e w6 ⟨rfl, v6, hc, hf⟩))
  rw [HE.out] at hc
  have H6 := Lib.hid (show Cw w6 cb base v6 (l ++ m0 ++ m1 ++ m2 ++ m3 ++ m4 ++ m5) ∧ Fw cb base w w6 from ⟨by first | exact hc | simpa only [List.append_assoc] using hc, H5.out.2.trans hf⟩)
  clear hc hf HG HE HX
  go_wp2_with fail
  go_end0
  exact ⟨rfl, _, by first | exact H6.out.1 | simpa only [List.append_assoc] using H6.out.1, H6.out.2⟩
set_option maxRecDepth 100000 in
set_option maxHeartbeats 2000000 in
theorem last_s : Wrs 124 (.pair .num (.pair .num (.pair .num (.pair .num .num)))) := by
  intro b o m w cb base v l h hc hl
  have hb := h.1
  have hle := hc.le
  have hlt := hc.lt
  obtain ⟨m0, r0, h0, k0, rfl⟩ := h.fst
  obtain ⟨m1, r1, h1, k1, rfl⟩ := k0.fst
  obtain ⟨m2, m3, h2, h3, rfl⟩ := k1.fst
  replace h0 : At w base .num b (o) m0 := h0
  replace h1 : At w base .num b (o + 1) m1 := h1
  replace h2 : At w base .num b (o + 2) m2 := h2
  replace h3 : At w base (.pair .num .num) b (o + 3) m3 := h3
  have HL := Lib.hid hl
  have HA := Lib.hid (⟨h0, h1, h2, h3, trivial⟩ : At w base .num b (o) m0 ∧ At w base .num b (o + 1) m1 ∧ At w base .num b (o + 2) m2 ∧ At w base (.pair .num .num) b (o + 3) m3 ∧ True)
  have HC := Lib.hid (And.intro hc (Fw.refl cb base w))
  clear hc hl h0 h1 h2 h3 h k0 k1
  go_enter Tryz.func124, Tryz.ntmps124
  go_wp2_with fail
  obtain ⟨n0, g0, e0⟩ := (HA.out.1.keep (HC.out.2.old hle (by omega))).num
  obtain ⟨n1, g1, e1⟩ := (HA.out.2.1.keep (HC.out.2.old hle (by omega))).num
  have HG := Lib.hid (at2 (base := base) hb g0 g1)
  have HE := Lib.hid (show numsL [n0, n1] = m0 ++ m1 by rw [e0, e1]; simp [numsL])
  have HX := Lib.hid (show (l).length + 800 ≤ 1000000000000 by have := HL.out; simp only [List.length_append] at this ⊢; omega)
  clear g0 e0 g1 e1
  go_region_held3 (fun _ => True) (trivial) ((go_at_call 65; refine (numbers_new [(b, o), (b, o + 1)] [n0, n1] w rfl (by simp) HG.out HC.out.1 HX.out).mono ?_; rintro e w2 ⟨rfl, v2, hc, hf⟩))
  rw [HE.out] at hc
  have H2 := Lib.hid (show Cw w2 cb base v2 (l ++ m0 ++ m1) ∧ Fw cb base w w2 from ⟨by first | exact hc | simpa only [List.append_assoc] using hc, HC.out.2.trans hf⟩)
  clear hc hf HG HE HX
  go_wp2_with fail
  refine (errno_s b (o + 2) m2 w2 cb base _ (l ++ m0 ++ m1) (HA.out.2.2.1.keep (H2.out.2.old hle (by omega))) H2.out.1 (by have := HL.out; first | omega | (simp only [List.length_append] at this ⊢; omega))).mono ?_
  rintro e w3 ⟨rfl, v3, hc, hf⟩
  have H3 := Lib.hid (show Cw w3 cb base v3 (l ++ m0 ++ m1 ++ m2) ∧ Fw cb base w w3 from ⟨by first | exact hc | simpa only [List.append_assoc] using hc, H2.out.2.trans hf⟩)
  clear hc hf
  go_wp2_with fail
  refine (version_s b (o + 3) m3 w3 cb base _ (l ++ m0 ++ m1 ++ m2) (HA.out.2.2.2.1.keep (H3.out.2.old hle (by omega))) H3.out.1 (by have := HL.out; first | omega | (simp only [List.length_append] at this ⊢; omega))).mono ?_
  rintro e w4 ⟨rfl, v4, hc, hf⟩
  have H4 := Lib.hid (show Cw w4 cb base v4 (l ++ m0 ++ m1 ++ m2 ++ m3) ∧ Fw cb base w w4 from ⟨by first | exact hc | simpa only [List.append_assoc] using hc, H3.out.2.trans hf⟩)
  clear hc hf
  go_wp2_with fail
  go_end0
  exact ⟨rfl, _, by first | exact H4.out.1 | simpa only [List.append_assoc] using H4.out.1, H4.out.2⟩
set_option maxRecDepth 100000 in
set_option maxHeartbeats 2000000 in
theorem item_s : Wrs 77 (.pair .text (.pair (.pair .num .num) .word)) := by
  intro b o m w cb base v l h hc hl
  have hb := h.1
  have hle := hc.le
  have hlt := hc.lt
  obtain ⟨m0, r0, h0, k0, rfl⟩ := h.fst
  obtain ⟨m1, m2, h1, h2, rfl⟩ := k0.fst
  replace h0 : At w base .text b (o) m0 := h0
  replace h1 : At w base (.pair .num .num) b (o + 1) m1 := h1
  replace h2 : At w base .word b (o + 3) m2 := h2
  have HL := Lib.hid hl
  have HA := Lib.hid (⟨h0, h1, h2, trivial⟩ : At w base .text b (o) m0 ∧ At w base (.pair .num .num) b (o + 1) m1 ∧ At w base .word b (o + 3) m2 ∧ True)
  have HC := Lib.hid (And.intro hc (Fw.refl cb base w))
  clear hc hl h0 h1 h2 h k0
  go_enter Tryz.func77, Tryz.ntmps77
  go_wp2_with fail
  refine (text_s b (o) m0 w cb base _ (l) (HA.out.1.keep (HC.out.2.old hle (by omega))) HC.out.1 (by have := HL.out; first | omega | (simp only [List.length_append] at this ⊢; omega))).mono ?_
  rintro e w2 ⟨rfl, v2, hc, hf⟩
  have H2 := Lib.hid (show Cw w2 cb base v2 (l ++ m0) ∧ Fw cb base w w2 from ⟨by first | exact hc | simpa only [List.append_assoc] using hc, HC.out.2.trans hf⟩)
  clear hc hf
  go_wp2_with fail
  refine (version_s b (o + 1) m1 w2 cb base _ (l ++ m0) (HA.out.2.1.keep (H2.out.2.old hle (by omega))) H2.out.1 (by have := HL.out; first | omega | (simp only [List.length_append] at this ⊢; omega))).mono ?_
  rintro e w3 ⟨rfl, v3, hc, hf⟩
  have H3 := Lib.hid (show Cw w3 cb base v3 (l ++ m0 ++ m1) ∧ Fw cb base w w3 from ⟨by first | exact hc | simpa only [List.append_assoc] using hc, H2.out.2.trans hf⟩)
  clear hc hf
  go_wp2_with fail
  refine (word_s b (o + 3) m2 w3 cb base _ (l ++ m0 ++ m1) (HA.out.2.2.1.keep (H3.out.2.old hle (by omega))) H3.out.1 (by have := HL.out; first | omega | (simp only [List.length_append] at this ⊢; omega))).mono ?_
  rintro e w4 ⟨rfl, v4, hc, hf⟩
  have H4 := Lib.hid (show Cw w4 cb base v4 (l ++ m0 ++ m1 ++ m2) ∧ Fw cb base w w4 from ⟨by first | exact hc | simpa only [List.append_assoc] using hc, H3.out.2.trans hf⟩)
  clear hc hf
  go_wp2_with fail
  go_end0
  exact ⟨rfl, _, by first | exact H4.out.1 | simpa only [List.append_assoc] using H4.out.1, H4.out.2⟩
set_option maxRecDepth 100000 in
set_option maxHeartbeats 2000000 in
theorem list_entry_s : Wrl 122 73 (.pair (.pair .num .num) (.pair .bool (.pair .num (.pair .text (.pair .num .num))))) := by
  intro b o m w cb base v l h hc hl
  obtain ⟨hb, A, n, c, ms, h1, h2, h3, h4, h5, rfl⟩ := h
  have hcell : w.cell? ⟨b, o, none⟩ = some (.slice A n c) := h1
  have hr := hc.reads
  have hle := hc.le
  have hlt := hc.lt
  have hlm : l.length + (4 + ms.flatten.length) ≤ 900000000000 := by rw [List.length_append, lowL_length] at hl; omega
  have hn9 : n ≤ 9223372036854775807 := by omega
  have HC := Lib.hid hc
  have HI := Lib.hid h5
  have HM := Lib.hid (And.intro h4 hlm)
  have HCL := Lib.hid hcell
  clear hc h5 h4 hl hlm h1
  go_enter Tryz.func122, Tryz.ntmps122
  go_wp2_with fail
  refine (put_any n (by omega) 4 (by omega) w HC.out (by have := HM.out.2; omega)).mono ?_
  rintro e w2 ⟨rfl, v2, hc2, hf2⟩
  have hcell2 : w2.cell? ⟨b, o, none⟩ = some (.slice A n c) := (World.cell?_of_block (a := ⟨b, o, none⟩) (hf2.below hle b hb (by omega))).trans hcell
  have H2 := Lib.hid (And.intro hc2 hf2)
  clear hc2 hf2 HC hr hcell
  go_wp2_with fail
  go_loopw [46] (fun i wr => ∃ j : Nat, j ≤ n ∧ i = .int .i64 (j : Int) ∧ ∃ v', Cw wr cb base v' (l ++ lowL n 4 ++ (ms.take j).flatten) ∧ Fw cb base w wr) (fun i _ => n - (intOf i).toNat)
  case atStart => exact ⟨0, Nat.zero_le _, rfl, v2, by simpa using H2.out.1, H2.out.2⟩
  case round =>
    obtain ⟨j, hj, rfl, v3, hc3, hf3⟩ := hrel
    have hcell3 : wr.cell? ⟨b, o, none⟩ = some (.slice A n c) := (World.cell?_of_block (a := ⟨b, o, none⟩) (hf3.below hle b hb (by omega))).trans HCL.out
    have H3 := Lib.hid (And.intro hc3 hf3)
    by_cases hlt2 : j < n
    · obtain ⟨b', o', rfl, hb', hits⟩ := HI.out (by omega)
      have hit0 : At wr base (.pair (.pair .num .num) (.pair .bool (.pair .num (.pair .text (.pair .num .num))))) b' (o' + j * Sch.sz (.pair (.pair .num .num) (.pair .bool (.pair .num (.pair .text (.pair .num .num)))))) (ms.getD j []) := At.keep ⟨hb', hits j hlt2⟩ (hf3.old hle (by omega))
      have hit : At wr base (.pair (.pair .num .num) (.pair .bool (.pair .num (.pair .text (.pair .num .num))))) b' (o' + j * 7) (ms.getD j []) := by simpa [Sch.sz] using hit0
      have hle2 := flat_take_le ms j (by rw [HM.out.1]; exact hlt2)
      have HS := Lib.hid (And.intro (flat_take ms j (by rw [HM.out.1]; exact hlt2)) hit)
      have HL := Lib.hid (show (l ++ lowL n 4 ++ (ms.take j).flatten).length + (ms.getD j []).length ≤ 900000000000 by
        rw [List.length_append, List.length_append, lowL_length]; have := HM.out.2; omega)
      have hj0 : (0 : Int) ≤ (j : Int) := by omega
      have hj1 : (j : Int) < (n : Int) := by omega
      clear hc3 hf3 hits hit hit0 hle2
      go_wp2_with fail
      refine (entry_s b' (o' + j * 7) (ms.getD j []) wr cb base v3 _ HS.out.2 H3.out.1 HL.out).mono ?_
      rintro e w4 ⟨rfl, v4, hc4, hf4⟩
      have H4 := Lib.hid (And.intro hc4 hf4)
      clear hc4 hf4
      go_wp2_with fail
      go_roundw
      case rel => exact ⟨j + 1, by omega, by go_num, v4, by rw [HS.out.1, ← List.append_assoc]; exact H4.out.1, H3.out.2.trans H4.out.2⟩
      case measure => simp [intOf]; omega
    · clear hc3 hf3
      go_wp2_with fail
      go_end0
      have : j = n := by omega
      subst this
      exact ⟨rfl, v3, by rw [← List.append_assoc]; have e : ms.take j = ms := List.take_of_length_le (by rw [HM.out.1]; exact Nat.le_refl _); rw [← e]; exact H3.out.1, H3.out.2⟩
set_option maxRecDepth 100000 in
set_option maxHeartbeats 2000000 in
theorem list_last_s : Wrl 123 124 (.pair .num (.pair .num (.pair .num (.pair .num .num)))) := by
  intro b o m w cb base v l h hc hl
  obtain ⟨hb, A, n, c, ms, h1, h2, h3, h4, h5, rfl⟩ := h
  have hcell : w.cell? ⟨b, o, none⟩ = some (.slice A n c) := h1
  have hr := hc.reads
  have hle := hc.le
  have hlt := hc.lt
  have hlm : l.length + (4 + ms.flatten.length) ≤ 900000000000 := by rw [List.length_append, lowL_length] at hl; omega
  have hn9 : n ≤ 9223372036854775807 := by omega
  have HC := Lib.hid hc
  have HI := Lib.hid h5
  have HM := Lib.hid (And.intro h4 hlm)
  have HCL := Lib.hid hcell
  clear hc h5 h4 hl hlm h1
  go_enter Tryz.func123, Tryz.ntmps123
  go_wp2_with fail
  refine (put_any n (by omega) 4 (by omega) w HC.out (by have := HM.out.2; omega)).mono ?_
  rintro e w2 ⟨rfl, v2, hc2, hf2⟩
  have hcell2 : w2.cell? ⟨b, o, none⟩ = some (.slice A n c) := (World.cell?_of_block (a := ⟨b, o, none⟩) (hf2.below hle b hb (by omega))).trans hcell
  have H2 := Lib.hid (And.intro hc2 hf2)
  clear hc2 hf2 HC hr hcell
  go_wp2_with fail
  go_loopw [46] (fun i wr => ∃ j : Nat, j ≤ n ∧ i = .int .i64 (j : Int) ∧ ∃ v', Cw wr cb base v' (l ++ lowL n 4 ++ (ms.take j).flatten) ∧ Fw cb base w wr) (fun i _ => n - (intOf i).toNat)
  case atStart => exact ⟨0, Nat.zero_le _, rfl, v2, by simpa using H2.out.1, H2.out.2⟩
  case round =>
    obtain ⟨j, hj, rfl, v3, hc3, hf3⟩ := hrel
    have hcell3 : wr.cell? ⟨b, o, none⟩ = some (.slice A n c) := (World.cell?_of_block (a := ⟨b, o, none⟩) (hf3.below hle b hb (by omega))).trans HCL.out
    have H3 := Lib.hid (And.intro hc3 hf3)
    by_cases hlt2 : j < n
    · obtain ⟨b', o', rfl, hb', hits⟩ := HI.out (by omega)
      have hit0 : At wr base (.pair .num (.pair .num (.pair .num (.pair .num .num)))) b' (o' + j * Sch.sz (.pair .num (.pair .num (.pair .num (.pair .num .num))))) (ms.getD j []) := At.keep ⟨hb', hits j hlt2⟩ (hf3.old hle (by omega))
      have hit : At wr base (.pair .num (.pair .num (.pair .num (.pair .num .num)))) b' (o' + j * 5) (ms.getD j []) := by simpa [Sch.sz] using hit0
      have hle2 := flat_take_le ms j (by rw [HM.out.1]; exact hlt2)
      have HS := Lib.hid (And.intro (flat_take ms j (by rw [HM.out.1]; exact hlt2)) hit)
      have HL := Lib.hid (show (l ++ lowL n 4 ++ (ms.take j).flatten).length + (ms.getD j []).length ≤ 900000000000 by
        rw [List.length_append, List.length_append, lowL_length]; have := HM.out.2; omega)
      have hj0 : (0 : Int) ≤ (j : Int) := by omega
      have hj1 : (j : Int) < (n : Int) := by omega
      clear hc3 hf3 hits hit hit0 hle2
      go_wp2_with fail
      refine (last_s b' (o' + j * 5) (ms.getD j []) wr cb base v3 _ HS.out.2 H3.out.1 HL.out).mono ?_
      rintro e w4 ⟨rfl, v4, hc4, hf4⟩
      have H4 := Lib.hid (And.intro hc4 hf4)
      clear hc4 hf4
      go_wp2_with fail
      go_roundw
      case rel => exact ⟨j + 1, by omega, by go_num, v4, by rw [HS.out.1, ← List.append_assoc]; exact H4.out.1, H3.out.2.trans H4.out.2⟩
      case measure => simp [intOf]; omega
    · clear hc3 hf3
      go_wp2_with fail
      go_end0
      have : j = n := by omega
      subst this
      exact ⟨rfl, v3, by rw [← List.append_assoc]; have e : ms.take j = ms := List.take_of_length_le (by rw [HM.out.1]; exact Nat.le_refl _); rw [← e]; exact H3.out.1, H3.out.2⟩
set_option maxRecDepth 100000 in
set_option maxHeartbeats 2000000 in
theorem list_item_s : Wrl 76 77 (.pair .text (.pair (.pair .num .num) .word)) := by
  intro b o m w cb base v l h hc hl
  obtain ⟨hb, A, n, c, ms, h1, h2, h3, h4, h5, rfl⟩ := h
  have hcell : w.cell? ⟨b, o, none⟩ = some (.slice A n c) := h1
  have hr := hc.reads
  have hle := hc.le
  have hlt := hc.lt
  have hlm : l.length + (4 + ms.flatten.length) ≤ 900000000000 := by rw [List.length_append, lowL_length] at hl; omega
  have hn9 : n ≤ 9223372036854775807 := by omega
  have HC := Lib.hid hc
  have HI := Lib.hid h5
  have HM := Lib.hid (And.intro h4 hlm)
  have HCL := Lib.hid hcell
  clear hc h5 h4 hl hlm h1
  go_enter Tryz.func76, Tryz.ntmps76
  go_wp2_with fail
  refine (put_any n (by omega) 4 (by omega) w HC.out (by have := HM.out.2; omega)).mono ?_
  rintro e w2 ⟨rfl, v2, hc2, hf2⟩
  have hcell2 : w2.cell? ⟨b, o, none⟩ = some (.slice A n c) := (World.cell?_of_block (a := ⟨b, o, none⟩) (hf2.below hle b hb (by omega))).trans hcell
  have H2 := Lib.hid (And.intro hc2 hf2)
  clear hc2 hf2 HC hr hcell
  go_wp2_with fail
  go_loopw [46] (fun i wr => ∃ j : Nat, j ≤ n ∧ i = .int .i64 (j : Int) ∧ ∃ v', Cw wr cb base v' (l ++ lowL n 4 ++ (ms.take j).flatten) ∧ Fw cb base w wr) (fun i _ => n - (intOf i).toNat)
  case atStart => exact ⟨0, Nat.zero_le _, rfl, v2, by simpa using H2.out.1, H2.out.2⟩
  case round =>
    obtain ⟨j, hj, rfl, v3, hc3, hf3⟩ := hrel
    have hcell3 : wr.cell? ⟨b, o, none⟩ = some (.slice A n c) := (World.cell?_of_block (a := ⟨b, o, none⟩) (hf3.below hle b hb (by omega))).trans HCL.out
    have H3 := Lib.hid (And.intro hc3 hf3)
    by_cases hlt2 : j < n
    · obtain ⟨b', o', rfl, hb', hits⟩ := HI.out (by omega)
      have hit0 : At wr base (.pair .text (.pair (.pair .num .num) .word)) b' (o' + j * Sch.sz (.pair .text (.pair (.pair .num .num) .word))) (ms.getD j []) := At.keep ⟨hb', hits j hlt2⟩ (hf3.old hle (by omega))
      have hit : At wr base (.pair .text (.pair (.pair .num .num) .word)) b' (o' + j * 4) (ms.getD j []) := by simpa [Sch.sz] using hit0
      have hle2 := flat_take_le ms j (by rw [HM.out.1]; exact hlt2)
      have HS := Lib.hid (And.intro (flat_take ms j (by rw [HM.out.1]; exact hlt2)) hit)
      have HL := Lib.hid (show (l ++ lowL n 4 ++ (ms.take j).flatten).length + (ms.getD j []).length ≤ 900000000000 by
        rw [List.length_append, List.length_append, lowL_length]; have := HM.out.2; omega)
      have hj0 : (0 : Int) ≤ (j : Int) := by omega
      have hj1 : (j : Int) < (n : Int) := by omega
      clear hc3 hf3 hits hit hit0 hle2
      go_wp2_with fail
      refine (item_s b' (o' + j * 4) (ms.getD j []) wr cb base v3 _ HS.out.2 H3.out.1 HL.out).mono ?_
      rintro e w4 ⟨rfl, v4, hc4, hf4⟩
      have H4 := Lib.hid (And.intro hc4 hf4)
      clear hc4 hf4
      go_wp2_with fail
      go_roundw
      case rel => exact ⟨j + 1, by omega, by go_num, v4, by rw [HS.out.1, ← List.append_assoc]; exact H4.out.1, H3.out.2.trans H4.out.2⟩
      case measure => simp [intOf]; omega
    · clear hc3 hf3
      go_wp2_with fail
      go_end0
      have : j = n := by omega
      subst this
      exact ⟨rfl, v3, by rw [← List.append_assoc]; have e : ms.take j = ms := List.take_of_length_le (by rw [HM.out.1]; exact Nat.le_refl _); rw [← e]; exact H3.out.1, H3.out.2⟩
set_option maxRecDepth 100000 in
set_option maxHeartbeats 2000000 in
theorem state_s : Wrs 50 (.pair .num (.pair (.pair .num .num) (.pair (.list (.pair (.pair .num .num) (.pair .bool (.pair .num (.pair .text (.pair .num .num)))))) (.pair (.list (.pair .num (.pair .num (.pair .num (.pair .num .num))))) (.list (.pair .text (.pair (.pair .num .num) .word))))))) := by
  intro b o m w cb base v l h hc hl
  have hb := h.1
  have hle := hc.le
  have hlt := hc.lt
  obtain ⟨m0, r0, h0, k0, rfl⟩ := h.fst
  obtain ⟨m1, r1, h1, k1, rfl⟩ := k0.fst
  obtain ⟨m2, r2, h2, k2, rfl⟩ := k1.fst
  obtain ⟨m3, m4, h3, h4, rfl⟩ := k2.fst
  replace h0 : At w base .num b (o) m0 := h0
  replace h1 : At w base (.pair .num .num) b (o + 1) m1 := h1
  replace h2 : At w base (.list (.pair (.pair .num .num) (.pair .bool (.pair .num (.pair .text (.pair .num .num)))))) b (o + 3) m2 := h2
  replace h3 : At w base (.list (.pair .num (.pair .num (.pair .num (.pair .num .num))))) b (o + 4) m3 := h3
  replace h4 : At w base (.list (.pair .text (.pair (.pair .num .num) .word))) b (o + 5) m4 := h4
  have HL := Lib.hid hl
  have HA := Lib.hid (⟨h0, h1, h2, h3, h4, trivial⟩ : At w base .num b (o) m0 ∧ At w base (.pair .num .num) b (o + 1) m1 ∧ At w base (.list (.pair (.pair .num .num) (.pair .bool (.pair .num (.pair .text (.pair .num .num)))))) b (o + 3) m2 ∧ At w base (.list (.pair .num (.pair .num (.pair .num (.pair .num .num))))) b (o + 4) m3 ∧ At w base (.list (.pair .text (.pair (.pair .num .num) .word))) b (o + 5) m4 ∧ True)
  have HC := Lib.hid (And.intro hc (Fw.refl cb base w))
  clear hc hl h0 h1 h2 h3 h4 h k0 k1 k2
  go_enter Tryz.func50, Tryz.ntmps50
  go_wp2_with fail
  refine (number_s b (o) m0 w cb base _ (l) (HA.out.1.keep (HC.out.2.old hle (by omega))) HC.out.1 (by have := HL.out; first | omega | (simp only [List.length_append] at this ⊢; omega))).mono ?_
  rintro e w2 ⟨rfl, v2, hc, hf⟩
  have H2 := Lib.hid (show Cw w2 cb base v2 (l ++ m0) ∧ Fw cb base w w2 from ⟨by first | exact hc | simpa only [List.append_assoc] using hc, HC.out.2.trans hf⟩)
  clear hc hf
  go_wp2_with fail
  refine (version_s b (o + 1) m1 w2 cb base _ (l ++ m0) (HA.out.2.1.keep (H2.out.2.old hle (by omega))) H2.out.1 (by have := HL.out; first | omega | (simp only [List.length_append] at this ⊢; omega))).mono ?_
  rintro e w3 ⟨rfl, v3, hc, hf⟩
  have H3 := Lib.hid (show Cw w3 cb base v3 (l ++ m0 ++ m1) ∧ Fw cb base w w3 from ⟨by first | exact hc | simpa only [List.append_assoc] using hc, H2.out.2.trans hf⟩)
  clear hc hf
  go_wp2_with fail
  refine (list_entry_s b (o + 3) m2 w3 cb base _ (l ++ m0 ++ m1) (HA.out.2.2.1.keep (H3.out.2.old hle (by omega))) H3.out.1 (by have := HL.out; first | omega | (simp only [List.length_append] at this ⊢; omega))).mono ?_
  rintro e w4 ⟨rfl, v4, hc, hf⟩
  have H4 := Lib.hid (show Cw w4 cb base v4 (l ++ m0 ++ m1 ++ m2) ∧ Fw cb base w w4 from ⟨by first | exact hc | simpa only [List.append_assoc] using hc, H3.out.2.trans hf⟩)
  clear hc hf
  go_wp2_with fail
  refine (list_last_s b (o + 4) m3 w4 cb base _ (l ++ m0 ++ m1 ++ m2) (HA.out.2.2.2.1.keep (H4.out.2.old hle (by omega))) H4.out.1 (by have := HL.out; first | omega | (simp only [List.length_append] at this ⊢; omega))).mono ?_
  rintro e w5 ⟨rfl, v5, hc, hf⟩
  have H5 := Lib.hid (show Cw w5 cb base v5 (l ++ m0 ++ m1 ++ m2 ++ m3) ∧ Fw cb base w w5 from ⟨by first | exact hc | simpa only [List.append_assoc] using hc, H4.out.2.trans hf⟩)
  clear hc hf
  go_wp2_with fail
  refine (list_item_s b (o + 5) m4 w5 cb base _ (l ++ m0 ++ m1 ++ m2 ++ m3) (HA.out.2.2.2.2.1.keep (H5.out.2.old hle (by omega))) H5.out.1 (by have := HL.out; first | omega | (simp only [List.length_append] at this ⊢; omega))).mono ?_
  rintro e w6 ⟨rfl, v6, hc, hf⟩
  have H6 := Lib.hid (show Cw w6 cb base v6 (l ++ m0 ++ m1 ++ m2 ++ m3 ++ m4) ∧ Fw cb base w w6 from ⟨by first | exact hc | simpa only [List.append_assoc] using hc, H5.out.2.trans hf⟩)
  clear hc hf
  go_wp2_with fail
  go_end0
  exact ⟨rfl, _, by first | exact H6.out.1 | simpa only [List.append_assoc] using H6.out.1, H6.out.2⟩
set_option maxRecDepth 100000 in
set_option maxHeartbeats 2000000 in
theorem step_s : Wrs 131 (.pair .num (.pair (.pair .num .num) (.pair .text (.pair .num (.pair .num (.pair .text .data)))))) := by
  intro b o m w cb base v l h hc hl
  have hb := h.1
  have hle := hc.le
  have hlt := hc.lt
  obtain ⟨m0, r0, h0, k0, rfl⟩ := h.fst
  obtain ⟨m1, r1, h1, k1, rfl⟩ := k0.fst
  obtain ⟨m2, r2, h2, k2, rfl⟩ := k1.fst
  obtain ⟨m3, r3, h3, k3, rfl⟩ := k2.fst
  obtain ⟨m4, r4, h4, k4, rfl⟩ := k3.fst
  obtain ⟨m5, m6, h5, h6, rfl⟩ := k4.fst
  replace h0 : At w base .num b (o) m0 := h0
  replace h1 : At w base (.pair .num .num) b (o + 1) m1 := h1
  replace h2 : At w base .text b (o + 3) m2 := h2
  replace h3 : At w base .num b (o + 4) m3 := h3
  replace h4 : At w base .num b (o + 5) m4 := h4
  replace h5 : At w base .text b (o + 6) m5 := h5
  replace h6 : At w base .data b (o + 7) m6 := h6
  have HL := Lib.hid hl
  have HA := Lib.hid (⟨h0, h1, h2, h3, h4, h5, h6, trivial⟩ : At w base .num b (o) m0 ∧ At w base (.pair .num .num) b (o + 1) m1 ∧ At w base .text b (o + 3) m2 ∧ At w base .num b (o + 4) m3 ∧ At w base .num b (o + 5) m4 ∧ At w base .text b (o + 6) m5 ∧ At w base .data b (o + 7) m6 ∧ True)
  have HC := Lib.hid (And.intro hc (Fw.refl cb base w))
  clear hc hl h0 h1 h2 h3 h4 h5 h6 h k0 k1 k2 k3 k4
  go_enter Tryz.func131, Tryz.ntmps131
  go_wp2_with fail
  refine (number_s b (o) m0 w cb base _ (l) (HA.out.1.keep (HC.out.2.old hle (by omega))) HC.out.1 (by have := HL.out; first | omega | (simp only [List.length_append] at this ⊢; omega))).mono ?_
  rintro e w2 ⟨rfl, v2, hc, hf⟩
  have H2 := Lib.hid (show Cw w2 cb base v2 (l ++ m0) ∧ Fw cb base w w2 from ⟨by first | exact hc | simpa only [List.append_assoc] using hc, HC.out.2.trans hf⟩)
  clear hc hf
  go_wp2_with fail
  refine (pg_s b (o + 1) m1 w2 cb base _ (l ++ m0) (HA.out.2.1.keep (H2.out.2.old hle (by omega))) H2.out.1 (by have := HL.out; first | omega | (simp only [List.length_append] at this ⊢; omega))).mono ?_
  rintro e w3 ⟨rfl, v3, hc, hf⟩
  have H3 := Lib.hid (show Cw w3 cb base v3 (l ++ m0 ++ m1) ∧ Fw cb base w w3 from ⟨by first | exact hc | simpa only [List.append_assoc] using hc, H2.out.2.trans hf⟩)
  clear hc hf
  go_wp2_with fail
  refine (text_s b (o + 3) m2 w3 cb base _ (l ++ m0 ++ m1) (HA.out.2.2.1.keep (H3.out.2.old hle (by omega))) H3.out.1 (by have := HL.out; first | omega | (simp only [List.length_append] at this ⊢; omega))).mono ?_
  rintro e w4 ⟨rfl, v4, hc, hf⟩
  have H4 := Lib.hid (show Cw w4 cb base v4 (l ++ m0 ++ m1 ++ m2) ∧ Fw cb base w w4 from ⟨by first | exact hc | simpa only [List.append_assoc] using hc, H3.out.2.trans hf⟩)
  clear hc hf
  go_wp2_with fail
  obtain ⟨n3, g3, e3⟩ := (HA.out.2.2.2.1.keep (H4.out.2.old hle (by omega))).num
  obtain ⟨n4, g4, e4⟩ := (HA.out.2.2.2.2.1.keep (H4.out.2.old hle (by omega))).num
  have HG := Lib.hid (at2 (base := base) hb g3 g4)
  have HE := Lib.hid (show numsL [n3, n4] = m3 ++ m4 by rw [e3, e4]; simp [numsL])
  have HX := Lib.hid (show (l ++ m0 ++ m1 ++ m2).length + 800 ≤ 1000000000000 by have := HL.out; simp only [List.length_append] at this ⊢; omega)
  clear g3 e3 g4 e4
  go_region_held3 (fun _ => True) (trivial) ((go_at_call 65; refine (numbers_new [(b, o + 4), (b, o + 5)] [n3, n4] w4 rfl (by simp) HG.out H4.out.1 HX.out).mono ?_; rintro e w5 ⟨rfl, v5, hc, hf⟩))
  rw [HE.out] at hc
  have H5 := Lib.hid (show Cw w5 cb base v5 (l ++ m0 ++ m1 ++ m2 ++ m3 ++ m4) ∧ Fw cb base w w5 from ⟨by first | exact hc | simpa only [List.append_assoc] using hc, H4.out.2.trans hf⟩)
  clear hc hf HG HE HX
  go_wp2_with fail
  refine (text_s b (o + 6) m5 w5 cb base _ (l ++ m0 ++ m1 ++ m2 ++ m3 ++ m4) (HA.out.2.2.2.2.2.1.keep (H5.out.2.old hle (by omega))) H5.out.1 (by have := HL.out; first | omega | (simp only [List.length_append] at this ⊢; omega))).mono ?_
  rintro e w6 ⟨rfl, v6, hc, hf⟩
  have H6 := Lib.hid (show Cw w6 cb base v6 (l ++ m0 ++ m1 ++ m2 ++ m3 ++ m4 ++ m5) ∧ Fw cb base w w6 from ⟨by first | exact hc | simpa only [List.append_assoc] using hc, H5.out.2.trans hf⟩)
  clear hc hf
  go_wp2_with fail
  refine (data_s b (o + 7) m6 w6 cb base _ (l ++ m0 ++ m1 ++ m2 ++ m3 ++ m4 ++ m5) (HA.out.2.2.2.2.2.2.1.keep (H6.out.2.old hle (by omega))) H6.out.1 (by have := HL.out; first | omega | (simp only [List.length_append] at this ⊢; omega))).mono ?_
  rintro e w7 ⟨rfl, v7, hc, hf⟩
  have H7 := Lib.hid (show Cw w7 cb base v7 (l ++ m0 ++ m1 ++ m2 ++ m3 ++ m4 ++ m5 ++ m6) ∧ Fw cb base w w7 from ⟨by first | exact hc | simpa only [List.append_assoc] using hc, H6.out.2.trans hf⟩)
  clear hc hf
  go_wp2_with fail
  go_end0
  exact ⟨rfl, _, by first | exact H7.out.1 | simpa only [List.append_assoc] using H7.out.1, H7.out.2⟩
set_option maxRecDepth 100000 in
set_option maxHeartbeats 2000000 in
theorem list_step_s : Wrl 130 131 (.pair .num (.pair (.pair .num .num) (.pair .text (.pair .num (.pair .num (.pair .text .data)))))) := by
  intro b o m w cb base v l h hc hl
  obtain ⟨hb, A, n, c, ms, h1, h2, h3, h4, h5, rfl⟩ := h
  have hcell : w.cell? ⟨b, o, none⟩ = some (.slice A n c) := h1
  have hr := hc.reads
  have hle := hc.le
  have hlt := hc.lt
  have hlm : l.length + (4 + ms.flatten.length) ≤ 900000000000 := by rw [List.length_append, lowL_length] at hl; omega
  have hn9 : n ≤ 9223372036854775807 := by omega
  have HC := Lib.hid hc
  have HI := Lib.hid h5
  have HM := Lib.hid (And.intro h4 hlm)
  have HCL := Lib.hid hcell
  clear hc h5 h4 hl hlm h1
  go_enter Tryz.func130, Tryz.ntmps130
  go_wp2_with fail
  refine (put_any n (by omega) 4 (by omega) w HC.out (by have := HM.out.2; omega)).mono ?_
  rintro e w2 ⟨rfl, v2, hc2, hf2⟩
  have hcell2 : w2.cell? ⟨b, o, none⟩ = some (.slice A n c) := (World.cell?_of_block (a := ⟨b, o, none⟩) (hf2.below hle b hb (by omega))).trans hcell
  have H2 := Lib.hid (And.intro hc2 hf2)
  clear hc2 hf2 HC hr hcell
  go_wp2_with fail
  go_loopw [46] (fun i wr => ∃ j : Nat, j ≤ n ∧ i = .int .i64 (j : Int) ∧ ∃ v', Cw wr cb base v' (l ++ lowL n 4 ++ (ms.take j).flatten) ∧ Fw cb base w wr) (fun i _ => n - (intOf i).toNat)
  case atStart => exact ⟨0, Nat.zero_le _, rfl, v2, by simpa using H2.out.1, H2.out.2⟩
  case round =>
    obtain ⟨j, hj, rfl, v3, hc3, hf3⟩ := hrel
    have hcell3 : wr.cell? ⟨b, o, none⟩ = some (.slice A n c) := (World.cell?_of_block (a := ⟨b, o, none⟩) (hf3.below hle b hb (by omega))).trans HCL.out
    have H3 := Lib.hid (And.intro hc3 hf3)
    by_cases hlt2 : j < n
    · obtain ⟨b', o', rfl, hb', hits⟩ := HI.out (by omega)
      have hit0 : At wr base (.pair .num (.pair (.pair .num .num) (.pair .text (.pair .num (.pair .num (.pair .text .data)))))) b' (o' + j * Sch.sz (.pair .num (.pair (.pair .num .num) (.pair .text (.pair .num (.pair .num (.pair .text .data))))))) (ms.getD j []) := At.keep ⟨hb', hits j hlt2⟩ (hf3.old hle (by omega))
      have hit : At wr base (.pair .num (.pair (.pair .num .num) (.pair .text (.pair .num (.pair .num (.pair .text .data)))))) b' (o' + j * 8) (ms.getD j []) := by simpa [Sch.sz] using hit0
      have hle2 := flat_take_le ms j (by rw [HM.out.1]; exact hlt2)
      have HS := Lib.hid (And.intro (flat_take ms j (by rw [HM.out.1]; exact hlt2)) hit)
      have HL := Lib.hid (show (l ++ lowL n 4 ++ (ms.take j).flatten).length + (ms.getD j []).length ≤ 900000000000 by
        rw [List.length_append, List.length_append, lowL_length]; have := HM.out.2; omega)
      have hj0 : (0 : Int) ≤ (j : Int) := by omega
      have hj1 : (j : Int) < (n : Int) := by omega
      clear hc3 hf3 hits hit hit0 hle2
      go_wp2_with fail
      refine (step_s b' (o' + j * 8) (ms.getD j []) wr cb base v3 _ HS.out.2 H3.out.1 HL.out).mono ?_
      rintro e w4 ⟨rfl, v4, hc4, hf4⟩
      have H4 := Lib.hid (And.intro hc4 hf4)
      clear hc4 hf4
      go_wp2_with fail
      go_roundw
      case rel => exact ⟨j + 1, by omega, by go_num, v4, by rw [HS.out.1, ← List.append_assoc]; exact H4.out.1, H3.out.2.trans H4.out.2⟩
      case measure => simp [intOf]; omega
    · clear hc3 hf3
      go_wp2_with fail
      go_end0
      have : j = n := by omega
      subst this
      exact ⟨rfl, v3, by rw [← List.append_assoc]; have e : ms.take j = ms := List.take_of_length_le (by rw [HM.out.1]; exact Nat.le_refl _); rw [← e]; exact H3.out.1, H3.out.2⟩
set_option maxRecDepth 100000 in
set_option maxHeartbeats 2000000 in
theorem tx_s : Wrs 55 (.list (.pair .num (.pair (.pair .num .num) (.pair .text (.pair .num (.pair .num (.pair .text .data))))))) := by
  intro b o m w cb base v l h hc hl
  have hb := h.1
  have hle := hc.le
  have hlt := hc.lt
  obtain ⟨m0, h0, rfl⟩ : ∃ m0, At w base (.list (.pair .num (.pair (.pair .num .num) (.pair .text (.pair .num (.pair .num (.pair .text .data))))))) b o m0 ∧ m0 = m := ⟨m, h, rfl⟩
  replace h0 : At w base (.list (.pair .num (.pair (.pair .num .num) (.pair .text (.pair .num (.pair .num (.pair .text .data))))))) b (o) m0 := h0
  have HL := Lib.hid hl
  have HA := Lib.hid (⟨h0, trivial⟩ : At w base (.list (.pair .num (.pair (.pair .num .num) (.pair .text (.pair .num (.pair .num (.pair .text .data))))))) b (o) m0 ∧ True)
  have HC := Lib.hid (And.intro hc (Fw.refl cb base w))
  clear hc hl h0 h
  go_enter Tryz.func55, Tryz.ntmps55
  go_wp2_with fail
  refine (list_step_s b (o) m0 w cb base _ (l) (HA.out.1.keep (HC.out.2.old hle (by omega))) HC.out.1 (by have := HL.out; first | omega | (simp only [List.length_append] at this ⊢; omega))).mono ?_
  rintro e w2 ⟨rfl, v2, hc, hf⟩
  have H2 := Lib.hid (show Cw w2 cb base v2 (l ++ m0) ∧ Fw cb base w w2 from ⟨by first | exact hc | simpa only [List.append_assoc] using hc, HC.out.2.trans hf⟩)
  clear hc hf
  go_wp2_with fail
  go_end0
  exact ⟨rfl, _, by first | exact H2.out.1 | simpa only [List.append_assoc] using H2.out.1, H2.out.2⟩
end Go.Proofs.YtphbaaaklgiloaaGreat.Dg

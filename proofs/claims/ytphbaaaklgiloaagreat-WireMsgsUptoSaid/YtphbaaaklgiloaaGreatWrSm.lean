/- wire's reference: what a message reaches besides. Made by wip/gen_put2.py. -/
import Derived.Test.YtphbaaaklgiloaaGreatWrS
namespace Go.Proofs.YtphbaaaklgiloaaGreat.Dg
open Go.RowKit
attribute [local go_sem ↓] Go.wp_at_zero Go.wp_at_succ
variable {w w' : World} {base : Nat} {v : Value} {l : List UInt8}
attribute [local simp] lowL_length numL_length boolL_length textL_length dataL_length
set_option maxRecDepth 100000 in
set_option maxHeartbeats 40000000 in
theorem putSlot_r (n0 : Int) (n1 : Int) (A2 : Option Addr) (q2 c2 : Nat) (d2 : List UInt8) (w : World) (h : Ob w base v l) (hb : base ≤ w.heap.size) (h2 : Bs w base (.slice A2 q2 c2) d2) (hl : l.length + ((numL n0 ++ (numL n1 ++ dataL d2))).length ≤ 130000000000000) :
    Calls Tryz.prog 83 #[v, .agg #[.int .i64 n0, .int .i64 n1, .slice A2 q2 c2]] w (PtPost w base l ((numL n0 ++ (numL n1 ++ dataL d2)))) := by
  obtain ⟨SA1, SQ1, SC1, rfl⟩ := h.shape
  have H1 := Lib.hid (And.intro (h.alloc (.cells #[.int .i64 n0, .int .i64 n1, .slice A2 q2 c2] 148)) (And.intro ((Fr.refl base w).alloc (.cells #[.int .i64 n0, .int .i64 n1, .slice A2 q2 c2] 148)) (Bk.made w 148 #[.int .i64 n0, .int .i64 n1, .slice A2 q2 c2])))
  have hb1 : base ≤ (w.alloc (.cells #[.int .i64 n0, .int .i64 n1, .slice A2 q2 c2] 148)).heap.size := by simp; omega
  have L2 := Lib.hid h2
  clear h2
  have HL := Lib.hid hl
  clear h hl
  go_enter Tryz.func83, Tryz.ntmps83
  have fc0 := H1.out.2.2.cell (i := 0) (v := .int .i64 n0) rfl
  go_wp2_with fail
  refine (rint_w n0 _ H1.out.1 hb1 (by have := HL.out; simp at this ⊢; omega)).mono ?_
  rintro e w2 ⟨v2, rfl, ho, hf⟩
  obtain ⟨SA2, SQ2, SC2, rfl⟩ := ho.shape
  have H2 := Lib.hid (show Ob w2 base _ (l ++ numL n0) ∧ Fr base w w2 ∧ Bk w2 w.heap.size 148 #[.int .i64 n0, .int .i64 n1, .slice A2 q2 c2] from ⟨by first | exact ho | simpa only [List.append_assoc] using ho, H1.out.2.1.trans hf, H1.out.2.2.fr (by decide) hf⟩)
  have hb2 : base ≤ w2.heap.size := Nat.le_trans hb1 hf.size
  clear ho hf fc0
  have fc1 := H2.out.2.2.cell (i := 1) (v := .int .i64 n1) rfl
  go_wp2_with fail
  refine (rint_w n1 _ H2.out.1 hb2 (by have := HL.out; simp at this ⊢; omega)).mono ?_
  rintro e w3 ⟨v3, rfl, ho, hf⟩
  obtain ⟨SA3, SQ3, SC3, rfl⟩ := ho.shape
  have H3 := Lib.hid (show Ob w3 base _ (l ++ numL n0 ++ numL n1) ∧ Fr base w w3 ∧ Bk w3 w.heap.size 148 #[.int .i64 n0, .int .i64 n1, .slice A2 q2 c2] from ⟨by first | exact ho | simpa only [List.append_assoc] using ho, H2.out.2.1.trans hf, H2.out.2.2.fr (by decide) hf⟩)
  have hb3 : base ≤ w3.heap.size := Nat.le_trans hb2 hf.size
  clear ho hf fc1
  have fc2 := H3.out.2.2.cell (i := 2) (v := .slice A2 q2 c2) rfl
  go_wp2_with fail
  refine (rbytes_w _ d2 base _ (fun w' hf => (L2.out.frs (H3.out.2.1.trans hf) hb)) H3.out.1 hb3 (by have := HL.out; simp at this ⊢; omega)).mono ?_
  rintro e w4 ⟨v4, rfl, ho, hf⟩
  obtain ⟨SA4, SQ4, SC4, rfl⟩ := ho.shape
  have H4 := Lib.hid (show Ob w4 base _ (l ++ numL n0 ++ numL n1 ++ dataL d2) ∧ Fr base w w4 ∧ Bk w4 w.heap.size 148 #[.int .i64 n0, .int .i64 n1, .slice A2 q2 c2] from ⟨by first | exact ho | simpa only [List.append_assoc] using ho, H3.out.2.1.trans hf, H3.out.2.2.fr (by decide) hf⟩)
  have hb4 : base ≤ w4.heap.size := Nat.le_trans hb3 hf.size
  clear ho hf fc2
  go_wp2_with fail
  go_ret
  exact ⟨.slice SA4 SQ4 SC4, rfl, (by have hz := H4.out.1; simp only [List.append_assoc] at hz ⊢; exact hz), H4.out.2.1⟩
set_option maxRecDepth 100000 in
set_option maxHeartbeats 40000000 in
theorem putNode_r (n0 : Int) (n1 : Int) (w : World) (h : Ob w base v l) (hb : base ≤ w.heap.size) (hl : l.length + ((numL n0 ++ numL n1)).length ≤ 130000000000000) :
    Calls Tryz.prog 80 #[v, .agg #[.int .i64 n0, .int .i64 n1]] w (PtPost w base l ((numL n0 ++ numL n1))) := by
  obtain ⟨SA1, SQ1, SC1, rfl⟩ := h.shape
  have H1 := Lib.hid (And.intro (h.alloc (.cells #[.int .i64 n0, .int .i64 n1] 23)) (And.intro ((Fr.refl base w).alloc (.cells #[.int .i64 n0, .int .i64 n1] 23)) (Bk.made w 23 #[.int .i64 n0, .int .i64 n1])))
  have hb1 : base ≤ (w.alloc (.cells #[.int .i64 n0, .int .i64 n1] 23)).heap.size := by simp; omega
  have HL := Lib.hid hl
  clear h hl
  go_enter Tryz.func80, Tryz.ntmps80
  have fc0 := H1.out.2.2.cell (i := 0) (v := .int .i64 n0) rfl
  go_wp2_with fail
  refine (rint_w n0 _ H1.out.1 hb1 (by have := HL.out; simp at this ⊢; omega)).mono ?_
  rintro e w2 ⟨v2, rfl, ho, hf⟩
  obtain ⟨SA2, SQ2, SC2, rfl⟩ := ho.shape
  have H2 := Lib.hid (show Ob w2 base _ (l ++ numL n0) ∧ Fr base w w2 ∧ Bk w2 w.heap.size 23 #[.int .i64 n0, .int .i64 n1] from ⟨by first | exact ho | simpa only [List.append_assoc] using ho, H1.out.2.1.trans hf, H1.out.2.2.fr (by decide) hf⟩)
  have hb2 : base ≤ w2.heap.size := Nat.le_trans hb1 hf.size
  clear ho hf fc0
  have fc1 := H2.out.2.2.cell (i := 1) (v := .int .i64 n1) rfl
  go_wp2_with fail
  refine (rint_w n1 _ H2.out.1 hb2 (by have := HL.out; simp at this ⊢; omega)).mono ?_
  rintro e w3 ⟨v3, rfl, ho, hf⟩
  obtain ⟨SA3, SQ3, SC3, rfl⟩ := ho.shape
  have H3 := Lib.hid (show Ob w3 base _ (l ++ numL n0 ++ numL n1) ∧ Fr base w w3 ∧ Bk w3 w.heap.size 23 #[.int .i64 n0, .int .i64 n1] from ⟨by first | exact ho | simpa only [List.append_assoc] using ho, H2.out.2.1.trans hf, H2.out.2.2.fr (by decide) hf⟩)
  have hb3 : base ≤ w3.heap.size := Nat.le_trans hb2 hf.size
  clear ho hf fc1
  go_wp2_with fail
  go_ret
  exact ⟨.slice SA3 SQ3 SC3, rfl, (by have hz := H3.out.1; simp only [List.append_assoc] at hz ⊢; exact hz), H3.out.2.1⟩
set_option maxRecDepth 100000 in
set_option maxHeartbeats 40000000 in
theorem putInfo_r (n0 : Int) (n1_0 : Int) (n1_1 : Int) (n2_0 : Int) (n2_1 : Int) (n3 : Int) (w : World) (h : Ob w base v l) (hb : base ≤ w.heap.size) (hl : l.length + ((numL n0 ++ ((numL n1_0 ++ numL n1_1) ++ ((numL n2_0 ++ numL n2_1) ++ numL n3)))).length ≤ 130000000000000) :
    Calls Tryz.prog 85 #[v, .agg #[.int .i64 n0, .int .i64 n1_0, .int .i64 n1_1, .int .i64 n2_0, .int .i64 n2_1, .int .i64 n3]] w (PtPost w base l ((numL n0 ++ ((numL n1_0 ++ numL n1_1) ++ ((numL n2_0 ++ numL n2_1) ++ numL n3))))) := by
  obtain ⟨SA1, SQ1, SC1, rfl⟩ := h.shape
  have H1 := Lib.hid (And.intro (h.alloc (.cells #[.int .i64 n0, .int .i64 n1_0, .int .i64 n1_1, .int .i64 n2_0, .int .i64 n2_1, .int .i64 n3] 32)) (And.intro ((Fr.refl base w).alloc (.cells #[.int .i64 n0, .int .i64 n1_0, .int .i64 n1_1, .int .i64 n2_0, .int .i64 n2_1, .int .i64 n3] 32)) (Bk.made w 32 #[.int .i64 n0, .int .i64 n1_0, .int .i64 n1_1, .int .i64 n2_0, .int .i64 n2_1, .int .i64 n3])))
  have hb1 : base ≤ (w.alloc (.cells #[.int .i64 n0, .int .i64 n1_0, .int .i64 n1_1, .int .i64 n2_0, .int .i64 n2_1, .int .i64 n3] 32)).heap.size := by simp; omega
  have HL := Lib.hid hl
  clear h hl
  go_enter Tryz.func85, Tryz.ntmps85
  have fc0 := H1.out.2.2.cell (i := 0) (v := .int .i64 n0) rfl
  go_wp2_with fail
  refine (rint_w n0 _ H1.out.1 hb1 (by have := HL.out; simp at this ⊢; omega)).mono ?_
  rintro e w2 ⟨v2, rfl, ho, hf⟩
  obtain ⟨SA2, SQ2, SC2, rfl⟩ := ho.shape
  have H2 := Lib.hid (show Ob w2 base _ (l ++ numL n0) ∧ Fr base w w2 ∧ Bk w2 w.heap.size 32 #[.int .i64 n0, .int .i64 n1_0, .int .i64 n1_1, .int .i64 n2_0, .int .i64 n2_1, .int .i64 n3] from ⟨by first | exact ho | simpa only [List.append_assoc] using ho, H1.out.2.1.trans hf, H1.out.2.2.fr (by decide) hf⟩)
  have hb2 : base ≤ w2.heap.size := Nat.le_trans hb1 hf.size
  clear ho hf fc0
  have fc1 := H2.out.2.2.cell (i := 1) (v := .int .i64 n1_0) rfl
  have fc2 := H2.out.2.2.cell (i := 2) (v := .int .i64 n1_1) rfl
  go_wp2_with fail
  refine (putVersion_r n1_0 n1_1 _ H2.out.1 hb2 (by have := HL.out; simp at this ⊢; omega)).mono ?_
  rintro e w3 ⟨v3, rfl, ho, hf⟩
  obtain ⟨SA3, SQ3, SC3, rfl⟩ := ho.shape
  have H3 := Lib.hid (show Ob w3 base _ (l ++ numL n0 ++ (numL n1_0 ++ numL n1_1)) ∧ Fr base w w3 ∧ Bk w3 w.heap.size 32 #[.int .i64 n0, .int .i64 n1_0, .int .i64 n1_1, .int .i64 n2_0, .int .i64 n2_1, .int .i64 n3] from ⟨by first | exact ho | simpa only [List.append_assoc] using ho, H2.out.2.1.trans hf, H2.out.2.2.fr (by decide) hf⟩)
  have hb3 : base ≤ w3.heap.size := Nat.le_trans hb2 hf.size
  clear ho hf fc1 fc2
  have fc3 := H3.out.2.2.cell (i := 3) (v := .int .i64 n2_0) rfl
  have fc4 := H3.out.2.2.cell (i := 4) (v := .int .i64 n2_1) rfl
  go_wp2_with fail
  refine (putVersion_r n2_0 n2_1 _ H3.out.1 hb3 (by have := HL.out; simp at this ⊢; omega)).mono ?_
  rintro e w4 ⟨v4, rfl, ho, hf⟩
  obtain ⟨SA4, SQ4, SC4, rfl⟩ := ho.shape
  have H4 := Lib.hid (show Ob w4 base _ (l ++ numL n0 ++ (numL n1_0 ++ numL n1_1) ++ (numL n2_0 ++ numL n2_1)) ∧ Fr base w w4 ∧ Bk w4 w.heap.size 32 #[.int .i64 n0, .int .i64 n1_0, .int .i64 n1_1, .int .i64 n2_0, .int .i64 n2_1, .int .i64 n3] from ⟨by first | exact ho | simpa only [List.append_assoc] using ho, H3.out.2.1.trans hf, H3.out.2.2.fr (by decide) hf⟩)
  have hb4 : base ≤ w4.heap.size := Nat.le_trans hb3 hf.size
  clear ho hf fc3 fc4
  have fc5 := H4.out.2.2.cell (i := 5) (v := .int .i64 n3) rfl
  go_wp2_with fail
  refine (rint_w n3 _ H4.out.1 hb4 (by have := HL.out; simp at this ⊢; omega)).mono ?_
  rintro e w5 ⟨v5, rfl, ho, hf⟩
  obtain ⟨SA5, SQ5, SC5, rfl⟩ := ho.shape
  have H5 := Lib.hid (show Ob w5 base _ (l ++ numL n0 ++ (numL n1_0 ++ numL n1_1) ++ (numL n2_0 ++ numL n2_1) ++ numL n3) ∧ Fr base w w5 ∧ Bk w5 w.heap.size 32 #[.int .i64 n0, .int .i64 n1_0, .int .i64 n1_1, .int .i64 n2_0, .int .i64 n2_1, .int .i64 n3] from ⟨by first | exact ho | simpa only [List.append_assoc] using ho, H4.out.2.1.trans hf, H4.out.2.2.fr (by decide) hf⟩)
  have hb5 : base ≤ w5.heap.size := Nat.le_trans hb4 hf.size
  clear ho hf fc5
  go_wp2_with fail
  go_ret
  exact ⟨.slice SA5 SQ5 SC5, rfl, (by have hz := H5.out.1; simp only [List.append_assoc] at hz ⊢; exact hz), H5.out.2.1⟩
set_option maxRecDepth 100000 in
set_option maxHeartbeats 40000000 in
theorem putObject_r (s0 : ByteArray) (n1_0 : Int) (n1_1 : Int) (A2 : Option Addr) (q2 c2 : Nat) (d2 : List UInt8) (w : World) (h : Ob w base v l) (hb : base ≤ w.heap.size) (h2 : Bs w base (.slice A2 q2 c2) d2) (hl : l.length + ((textL s0.data.toList ++ ((numL n1_0 ++ numL n1_1) ++ dataL d2))).length ≤ 130000000000000) :
    Calls Tryz.prog 87 #[v, .agg #[.string s0, .int .i64 n1_0, .int .i64 n1_1, .slice A2 q2 c2]] w (PtPost w base l ((textL s0.data.toList ++ ((numL n1_0 ++ numL n1_1) ++ dataL d2)))) := by
  obtain ⟨SA1, SQ1, SC1, rfl⟩ := h.shape
  have H1 := Lib.hid (And.intro (h.alloc (.cells #[.string s0, .int .i64 n1_0, .int .i64 n1_1, .slice A2 q2 c2] 43)) (And.intro ((Fr.refl base w).alloc (.cells #[.string s0, .int .i64 n1_0, .int .i64 n1_1, .slice A2 q2 c2] 43)) (Bk.made w 43 #[.string s0, .int .i64 n1_0, .int .i64 n1_1, .slice A2 q2 c2])))
  have hb1 : base ≤ (w.alloc (.cells #[.string s0, .int .i64 n1_0, .int .i64 n1_1, .slice A2 q2 c2] 43)).heap.size := by simp; omega
  have L2 := Lib.hid h2
  clear h2
  have HL := Lib.hid hl
  clear h hl
  go_enter Tryz.func87, Tryz.ntmps87
  have fc0 := H1.out.2.2.cell (i := 0) (v := .string s0) rfl
  obtain ⟨Ac, cc, w2, hcv, hbs, hab⟩ := conv_text s0 (by have := HL.out; simp at this; omega) (w.alloc (.cells #[.string s0, .int .i64 n1_0, .int .i64 n1_1, .slice A2 q2 c2] 43))
  have H2 := Lib.hid (And.intro (H1.out.1.ab hab) (And.intro (H1.out.2.1.trans (Fr.of_ab hab)) (hab.bk H1.out.2.2)))
  have hb2 : base ≤ w2.heap.size := Nat.le_trans hb1 hab.size
  have HBS := Lib.hid hbs
  clear hbs hab
  go_wp2_with fail
  refine (rbytes_w _ s0.data.toList _ _ HBS.out H2.out.1 hb2 (by have := HL.out; simp at this ⊢; omega)).mono ?_
  rintro e w3 ⟨v3, rfl, ho, hf⟩
  obtain ⟨SA3, SQ3, SC3, rfl⟩ := ho.shape
  have H3 := Lib.hid (show Ob w3 base _ (l ++ textL s0.data.toList) ∧ Fr base w w3 ∧ Bk w3 w.heap.size 43 #[.string s0, .int .i64 n1_0, .int .i64 n1_1, .slice A2 q2 c2] from ⟨by first | exact ho | simpa only [List.append_assoc] using ho, H2.out.2.1.trans hf, H2.out.2.2.fr (by decide) hf⟩)
  have hb3 : base ≤ w3.heap.size := Nat.le_trans hb2 hf.size
  clear ho hf fc0 hcv HBS
  have fc1 := H3.out.2.2.cell (i := 1) (v := .int .i64 n1_0) rfl
  have fc2 := H3.out.2.2.cell (i := 2) (v := .int .i64 n1_1) rfl
  go_wp2_with fail
  refine (putVersion_r n1_0 n1_1 _ H3.out.1 hb3 (by have := HL.out; simp at this ⊢; omega)).mono ?_
  rintro e w4 ⟨v4, rfl, ho, hf⟩
  obtain ⟨SA4, SQ4, SC4, rfl⟩ := ho.shape
  have H4 := Lib.hid (show Ob w4 base _ (l ++ textL s0.data.toList ++ (numL n1_0 ++ numL n1_1)) ∧ Fr base w w4 ∧ Bk w4 w.heap.size 43 #[.string s0, .int .i64 n1_0, .int .i64 n1_1, .slice A2 q2 c2] from ⟨by first | exact ho | simpa only [List.append_assoc] using ho, H3.out.2.1.trans hf, H3.out.2.2.fr (by decide) hf⟩)
  have hb4 : base ≤ w4.heap.size := Nat.le_trans hb3 hf.size
  clear ho hf fc1 fc2
  have fc3 := H4.out.2.2.cell (i := 3) (v := .slice A2 q2 c2) rfl
  go_wp2_with fail
  refine (rbytes_w _ d2 base _ (fun w' hf => (L2.out.frs (H4.out.2.1.trans hf) hb)) H4.out.1 hb4 (by have := HL.out; simp at this ⊢; omega)).mono ?_
  rintro e w5 ⟨v5, rfl, ho, hf⟩
  obtain ⟨SA5, SQ5, SC5, rfl⟩ := ho.shape
  have H5 := Lib.hid (show Ob w5 base _ (l ++ textL s0.data.toList ++ (numL n1_0 ++ numL n1_1) ++ dataL d2) ∧ Fr base w w5 ∧ Bk w5 w.heap.size 43 #[.string s0, .int .i64 n1_0, .int .i64 n1_1, .slice A2 q2 c2] from ⟨by first | exact ho | simpa only [List.append_assoc] using ho, H4.out.2.1.trans hf, H4.out.2.2.fr (by decide) hf⟩)
  have hb5 : base ≤ w5.heap.size := Nat.le_trans hb4 hf.size
  clear ho hf fc3
  go_wp2_with fail
  go_ret
  exact ⟨.slice SA5 SQ5 SC5, rfl, (by have hz := H5.out.1; simp only [List.append_assoc] at hz ⊢; exact hz), H5.out.2.1⟩
set_option maxRecDepth 100000 in
set_option maxHeartbeats 40000000 in
theorem putOp_r (n0 : Int) (s1 : ByteArray) (A2 : Option Addr) (q2 c2 : Nat) (d2 : List UInt8) (n3_0 : Int) (n3_1 : Int) (w : World) (h : Ob w base v l) (hb : base ≤ w.heap.size) (h2 : Bs w base (.slice A2 q2 c2) d2) (hl : l.length + ((numL n0 ++ (textL s1.data.toList ++ (dataL d2 ++ (numL n3_0 ++ numL n3_1))))).length ≤ 130000000000000) :
    Calls Tryz.prog 88 #[v, .agg #[.int .i64 n0, .string s1, .slice A2 q2 c2, .int .i64 n3_0, .int .i64 n3_1]] w (PtPost w base l ((numL n0 ++ (textL s1.data.toList ++ (dataL d2 ++ (numL n3_0 ++ numL n3_1)))))) := by
  obtain ⟨SA1, SQ1, SC1, rfl⟩ := h.shape
  have H1 := Lib.hid (And.intro (h.alloc (.cells #[.int .i64 n0, .string s1, .slice A2 q2 c2, .int .i64 n3_0, .int .i64 n3_1] 45)) (And.intro ((Fr.refl base w).alloc (.cells #[.int .i64 n0, .string s1, .slice A2 q2 c2, .int .i64 n3_0, .int .i64 n3_1] 45)) (Bk.made w 45 #[.int .i64 n0, .string s1, .slice A2 q2 c2, .int .i64 n3_0, .int .i64 n3_1])))
  have hb1 : base ≤ (w.alloc (.cells #[.int .i64 n0, .string s1, .slice A2 q2 c2, .int .i64 n3_0, .int .i64 n3_1] 45)).heap.size := by simp; omega
  have L2 := Lib.hid h2
  clear h2
  have HL := Lib.hid hl
  clear h hl
  go_enter Tryz.func88, Tryz.ntmps88
  have fc0 := H1.out.2.2.cell (i := 0) (v := .int .i64 n0) rfl
  go_wp2_with fail
  refine (rint_w n0 _ H1.out.1 hb1 (by have := HL.out; simp at this ⊢; omega)).mono ?_
  rintro e w2 ⟨v2, rfl, ho, hf⟩
  obtain ⟨SA2, SQ2, SC2, rfl⟩ := ho.shape
  have H2 := Lib.hid (show Ob w2 base _ (l ++ numL n0) ∧ Fr base w w2 ∧ Bk w2 w.heap.size 45 #[.int .i64 n0, .string s1, .slice A2 q2 c2, .int .i64 n3_0, .int .i64 n3_1] from ⟨by first | exact ho | simpa only [List.append_assoc] using ho, H1.out.2.1.trans hf, H1.out.2.2.fr (by decide) hf⟩)
  have hb2 : base ≤ w2.heap.size := Nat.le_trans hb1 hf.size
  clear ho hf fc0
  have fc1 := H2.out.2.2.cell (i := 1) (v := .string s1) rfl
  obtain ⟨Ac, cc, w3, hcv, hbs, hab⟩ := conv_text s1 (by have := HL.out; simp at this; omega) w2
  have H3 := Lib.hid (And.intro (H2.out.1.ab hab) (And.intro (H2.out.2.1.trans (Fr.of_ab hab)) (hab.bk H2.out.2.2)))
  have hb3 : base ≤ w3.heap.size := Nat.le_trans hb2 hab.size
  have HBS := Lib.hid hbs
  clear hbs hab
  go_wp2_with fail
  refine (rbytes_w _ s1.data.toList _ _ HBS.out H3.out.1 hb3 (by have := HL.out; simp at this ⊢; omega)).mono ?_
  rintro e w4 ⟨v4, rfl, ho, hf⟩
  obtain ⟨SA4, SQ4, SC4, rfl⟩ := ho.shape
  have H4 := Lib.hid (show Ob w4 base _ (l ++ numL n0 ++ textL s1.data.toList) ∧ Fr base w w4 ∧ Bk w4 w.heap.size 45 #[.int .i64 n0, .string s1, .slice A2 q2 c2, .int .i64 n3_0, .int .i64 n3_1] from ⟨by first | exact ho | simpa only [List.append_assoc] using ho, H3.out.2.1.trans hf, H3.out.2.2.fr (by decide) hf⟩)
  have hb4 : base ≤ w4.heap.size := Nat.le_trans hb3 hf.size
  clear ho hf fc1 hcv HBS
  have fc2 := H4.out.2.2.cell (i := 2) (v := .slice A2 q2 c2) rfl
  go_wp2_with fail
  refine (rbytes_w _ d2 base _ (fun w' hf => (L2.out.frs (H4.out.2.1.trans hf) hb)) H4.out.1 hb4 (by have := HL.out; simp at this ⊢; omega)).mono ?_
  rintro e w5 ⟨v5, rfl, ho, hf⟩
  obtain ⟨SA5, SQ5, SC5, rfl⟩ := ho.shape
  have H5 := Lib.hid (show Ob w5 base _ (l ++ numL n0 ++ textL s1.data.toList ++ dataL d2) ∧ Fr base w w5 ∧ Bk w5 w.heap.size 45 #[.int .i64 n0, .string s1, .slice A2 q2 c2, .int .i64 n3_0, .int .i64 n3_1] from ⟨by first | exact ho | simpa only [List.append_assoc] using ho, H4.out.2.1.trans hf, H4.out.2.2.fr (by decide) hf⟩)
  have hb5 : base ≤ w5.heap.size := Nat.le_trans hb4 hf.size
  clear ho hf fc2
  have fc3 := H5.out.2.2.cell (i := 3) (v := .int .i64 n3_0) rfl
  have fc4 := H5.out.2.2.cell (i := 4) (v := .int .i64 n3_1) rfl
  go_wp2_with fail
  refine (putVersion_r n3_0 n3_1 _ H5.out.1 hb5 (by have := HL.out; simp at this ⊢; omega)).mono ?_
  rintro e w6 ⟨v6, rfl, ho, hf⟩
  obtain ⟨SA6, SQ6, SC6, rfl⟩ := ho.shape
  have H6 := Lib.hid (show Ob w6 base _ (l ++ numL n0 ++ textL s1.data.toList ++ dataL d2 ++ (numL n3_0 ++ numL n3_1)) ∧ Fr base w w6 ∧ Bk w6 w.heap.size 45 #[.int .i64 n0, .string s1, .slice A2 q2 c2, .int .i64 n3_0, .int .i64 n3_1] from ⟨by first | exact ho | simpa only [List.append_assoc] using ho, H5.out.2.1.trans hf, H5.out.2.2.fr (by decide) hf⟩)
  have hb6 : base ≤ w6.heap.size := Nat.le_trans hb5 hf.size
  clear ho hf fc3 fc4
  go_wp2_with fail
  go_ret
  exact ⟨.slice SA6 SQ6 SC6, rfl, (by have hz := H6.out.1; simp only [List.append_assoc] at hz ⊢; exact hz), H6.out.2.1⟩
end Go.Proofs.YtphbaaaklgiloaaGreat.Dg

/- wire's reference: structs written. -/
import Derived.Test.YtphbaaaklgiloaaGreatWrQ
import Derived.Test.YtphbaaaklgiloaaGreatWrP
namespace Go.Proofs.YtphbaaaklgiloaaGreat.Dg
open Go.RowKit
variable {w w' : World} {base : Nat} {v : Value} {l : List UInt8}
theorem bk_not_row {g : Nat} {t : TypeId} {cs : Array Value} (h : Bk w g t cs) (ht : t ≠ 5) : ∀ ds, w.heap[g]? ≠ some (.cells ds 5 (0, 0)) := by
  intro ds e
  have h' : w.heap[g]? = some (.cells cs t (0, 0)) := h
  rw [h'] at e
  injection e with e
  injection e with _ e
  exact ht e
theorem Bk.fr {g : Nat} {t : TypeId} {cs : Array Value} (h : Bk w g t cs) (ht : t ≠ 5) (hf : Fr base w w') : Bk w' g t cs := (hf.block g h.lt (.inr (bk_not_row h ht))).trans h
theorem EncF.frs {s : Sch} {f : Nat → Option Value} {m : List UInt8} (h : EncF w base s f m) (hf : Fr base w w') (hb : base ≤ w.heap.size) : EncF w' base s f m :=
  EncF.congr (fun b o hlt => World.cell?_of_block (a := ⟨b, o, none⟩) (hf.block b (by omega) (.inl hlt))) s f f m (fun _ _ => rfl) h
theorem EncF.abs {s : Sch} {f : Nat → Option Value} {m : List UInt8} (h : EncF w base s f m) (ha : Ab w w') (hb : base ≤ w.heap.size) : EncF w' base s f m := h.frs (Fr.of_ab ha) hb
theorem At.frs {s : Sch} {b o : Nat} {m : List UInt8} (h : At w base s b o m) (hf : Fr base w w') (hb : base ≤ w.heap.size) : At w' base s b o m :=
  h.keep fun k hk => hf.block k (by omega) (.inl hk)
theorem Bs.frs {m : List UInt8} (h : Bs w base v m) (hf : Fr base w w') (hb : base ≤ w.heap.size) : Bs w' base v m :=
  h.keep fun b o hlt => World.cell?_of_block (a := ⟨b, o, none⟩) (hf.block b (by omega) (.inl hlt))
theorem Bs.abs {m : List UInt8} (h : Bs w base v m) (ha : Ab w w') (hb : base ≤ w.heap.size) : Bs w' base v m := h.frs (Fr.of_ab ha) hb
theorem At.word {b o : Nat} {m : List UInt8} (h : At w base .word b o m) : ∃ n : Nat, n < 4294967296 ∧ w.cell? ⟨b, o, none⟩ = some (.int .u32 (n : Int)) ∧ m = lowL n 4 := h.2
/-- A truth's byte. -/
def boolL (t : Bool) : List UInt8 := [if t then 1 else 0]
theorem boolL_length (t : Bool) : (boolL t).length = 1 := rfl
theorem textL_length (s : List UInt8) : (textL s).length = 4 + s.length := by rw [textL, List.length_append, lowL_length]
theorem dataL_length (s : List UInt8) : (dataL s).length = 4 + s.length := by rw [dataL, List.length_append, lowL_length]
attribute [local simp] lowL_length numL_length boolL_length textL_length dataL_length
theorem rbool_b (t : Bool) (w : World) (h : Ob w base v l) (hb : base ≤ w.heap.size) (hl : l.length ≤ 150000000000000) :
    Calls Tryz.prog 147 #[v, .bool t] w (PtPost w base l (boolL t)) := rbool_w t w h hb hl
theorem At.bool {b o : Nat} {m : List UInt8} (h : At w base .bool b o m) : ∃ t : Bool, w.cell? ⟨b, o, none⟩ = some (.bool t) ∧ m = boolL t := h.2
theorem At.text {b o : Nat} {m : List UInt8} (h : At w base .text b o m) : ∃ s : ByteArray, w.cell? ⟨b, o, none⟩ = some (.string s) ∧ m = textL s.data.toList := h.2
theorem At.data {b o : Nat} {m : List UInt8} (h : At w base .data b o m) : ∃ A q c d, w.cell? ⟨b, o, none⟩ = some (.slice A q c) ∧ Bs w base (.slice A q c) d ∧ m = dataL d := by
  obtain ⟨v, d, h1, h2, h3⟩ := h.2
  obtain ⟨A, c, rfl, -, -, -⟩ := id h2
  exact ⟨A, _, c, d, h1, h2, h3⟩
theorem At.lst {s : Sch} {b o : Nat} {m : List UInt8} (h : At w base (.list s) b o m) : ∃ A q c d, w.cell? ⟨b, o, none⟩ = some (.slice A q c) ∧ EncF w base (.list s) (fun _ => some (.slice A q c)) d ∧ m = d := by
  obtain ⟨A, n, c, ms, h1, h2, h3, h4, h5, h6⟩ := h.2
  exact ⟨A, n, c, m, h1, ⟨A, n, c, ms, rfl, h2, h3, h4, h5, h6⟩, rfl⟩
theorem encF_list {s : Sch} {A : Option Addr} {q c : Nat} {ms : List (List UInt8)} (h : ms.length = q ∧ (q ≠ 0 → ∃ b o, A = some ⟨b, o, none⟩ ∧ b < base ∧ ∀ i, i < q → EncF w base s (fun k => w.cell? ⟨b, o + i * s.sz + k, none⟩) (ms.getD i []))) (h1 : q ≤ c) (h2 : c ≤ 9223372036854775807)
    (hf : Fr base w w') (hb : base ≤ w.heap.size) : EncF w' base (.list s) (fun _ => some (.slice A q c)) (lowL q 4 ++ ms.flatten) :=
  EncF.frs (w := w) ⟨A, q, c, ms, rfl, h1, h2, h.1, h.2, rfl⟩ hf hb
theorem conv_text (s : ByteArray) (hs : s.size ≤ 140737488351232) (w : World) : ∃ (A : Option Addr) (c : Nat) (wq : World), (convert 9 41 (.string s)).run Tryz.prog w = .ok (.slice A s.size c) wq ∧
    (∀ w' : World, Fr base wq w' → Bs w' (w.heap.size + 1) (.slice A s.data.toList.length c) s.data.toList) ∧ Ab w wq := by
  have esz : s.data.toList.length = s.size := by rw [Array.length_toList]; rfl
  refine ⟨_, _, _, run_bytes_of_string w 9 41 5 s Tryz.underlying9 Tryz.underlying41 Tryz.underlying5, fun w' hf => ?_, ((Ab.refl w).drew).alloc _⟩
  have hlt : w.heap.size < (w.drew.alloc (.cells (bytesRow s (grownCap w s.size 0 5)) 5 ((bytesRow s (grownCap w s.size 0 5)).size, (bytesRow s (grownCap w s.size 0 5)).size + 1))).heap.size := by simp
  have hblk := hf.block w.heap.size hlt (.inr (fun cs e => by
    have e2 := heap_alloc_new w.drew (.cells (bytesRow s (grownCap w s.size 0 5)) 5 ((bytesRow s (grownCap w s.size 0 5)).size, (bytesRow s (grownCap w s.size 0 5)).size + 1))
    have e3 : w.drew.heap.size = w.heap.size := rfl
    rw [e3] at e2
    rw [e2] at e
    injection e with e
    injection e with _ _ e
    injection e with _ e
    omega))
  refine ⟨_, _, rfl, ?_, ?_, fun _ => ⟨w.heap.size, 0, rfl, by omega, fun k hk => ?_⟩⟩
  · rw [esz]; exact grownCap_ge w s.size 0 _
  · have := grownCap_le_maxLen w s.size 0 5 (by unfold maxLen; omega)
    unfold maxLen at this
    exact this
  · rw [World.cell?_of_block (a := ⟨w.heap.size, 0 + k, none⟩) hblk]
    have e2 := heap_alloc_new w.drew (.cells (bytesRow s (grownCap w s.size 0 5)) 5 ((bytesRow s (grownCap w s.size 0 5)).size, (bytesRow s (grownCap w s.size 0 5)).size + 1))
    have e3 : w.drew.heap.size = w.heap.size := rfl
    rw [e3] at e2
    rw [cell_of_row _ w.heap.size (0 + k) _ _ _ e2, Nat.zero_add]
    have hk2 : k < s.data.size := by rw [esz] at hk; exact hk
    rw [bytesRow_at s _ k hk2]
    have e4 : s.data.toList.getD k 0 = s.data[k] := by
      rw [List.getD_eq_getElem?_getD, Array.getElem?_toList, Array.getElem?_eq_getElem hk2]; rfl
    rw [e4]
    rfl
set_option maxRecDepth 100000 in
set_option maxHeartbeats 4000000 in
theorem putVersion_r (n0 : Int) (n1 : Int) (w : World) (h : Ob w base v l) (hb : base ≤ w.heap.size) (hl : l.length + ((numL n0 ++ numL n1)).length ≤ 130000000000000) :
    Calls Tryz.prog 127 #[v, .agg #[.int .i64 n0, .int .i64 n1]] w (PtPost w base l ((numL n0 ++ numL n1))) := by
  obtain ⟨SA1, SQ1, SC1, rfl⟩ := h.shape
  have H1 := Lib.hid (And.intro (h.alloc (.cells #[.int .i64 n0, .int .i64 n1] 30)) (And.intro ((Fr.refl base w).alloc (.cells #[.int .i64 n0, .int .i64 n1] 30)) (Bk.made w 30 #[.int .i64 n0, .int .i64 n1])))
  have hb1 : base ≤ (w.alloc (.cells #[.int .i64 n0, .int .i64 n1] 30)).heap.size := by simp; omega
  have HL := Lib.hid hl
  clear h hl
  go_enter Tryz.func127, Tryz.ntmps127
  have d0 := H1.out.2.2.cell (i := 0) (v := .int .i64 n0) rfl
  go_wp2_with fail
  refine (rint_w n0 _ H1.out.1 hb1 (by have := HL.out; simp at this ⊢; omega)).mono ?_
  rintro e w2 ⟨v2, rfl, ho, hf⟩
  obtain ⟨SA2, SQ2, SC2, rfl⟩ := ho.shape
  have H2 := Lib.hid (show Ob w2 base _ (l ++ numL n0) ∧ Fr base w w2 ∧ Bk w2 w.heap.size 30 #[.int .i64 n0, .int .i64 n1] from ⟨by first | exact ho | simpa only [List.append_assoc] using ho, H1.out.2.1.trans hf, H1.out.2.2.fr (by decide) hf⟩)
  have hb2 : base ≤ w2.heap.size := Nat.le_trans hb1 hf.size
  clear ho hf d0
  have d1 := H2.out.2.2.cell (i := 1) (v := .int .i64 n1) rfl
  go_wp2_with fail
  refine (rint_w n1 _ H2.out.1 hb2 (by have := HL.out; simp at this ⊢; omega)).mono ?_
  rintro e w3 ⟨v3, rfl, ho, hf⟩
  obtain ⟨SA3, SQ3, SC3, rfl⟩ := ho.shape
  have H3 := Lib.hid (show Ob w3 base _ (l ++ numL n0 ++ numL n1) ∧ Fr base w w3 ∧ Bk w3 w.heap.size 30 #[.int .i64 n0, .int .i64 n1] from ⟨by first | exact ho | simpa only [List.append_assoc] using ho, H2.out.2.1.trans hf, H2.out.2.2.fr (by decide) hf⟩)
  have hb3 : base ≤ w3.heap.size := Nat.le_trans hb2 hf.size
  clear ho hf d1
  go_wp2_with fail
  go_ret
  exact ⟨.slice SA3 SQ3 SC3, rfl, (by have hz := H3.out.1; simp only [List.append_assoc] at hz ⊢; exact hz), H3.out.2.1⟩
set_option maxRecDepth 100000 in
set_option maxHeartbeats 4000000 in
theorem putPg_r (n0 : Int) (n1 : Int) (w : World) (h : Ob w base v l) (hb : base ≤ w.heap.size) (hl : l.length + ((numL n0 ++ numL n1)).length ≤ 130000000000000) :
    Calls Tryz.prog 81 #[v, .agg #[.int .i64 n0, .int .i64 n1]] w (PtPost w base l ((numL n0 ++ numL n1))) := by
  obtain ⟨SA1, SQ1, SC1, rfl⟩ := h.shape
  have H1 := Lib.hid (And.intro (h.alloc (.cells #[.int .i64 n0, .int .i64 n1] 25)) (And.intro ((Fr.refl base w).alloc (.cells #[.int .i64 n0, .int .i64 n1] 25)) (Bk.made w 25 #[.int .i64 n0, .int .i64 n1])))
  have hb1 : base ≤ (w.alloc (.cells #[.int .i64 n0, .int .i64 n1] 25)).heap.size := by simp; omega
  have HL := Lib.hid hl
  clear h hl
  go_enter Tryz.func81, Tryz.ntmps81
  have d0 := H1.out.2.2.cell (i := 0) (v := .int .i64 n0) rfl
  go_wp2_with fail
  refine (rint_w n0 _ H1.out.1 hb1 (by have := HL.out; simp at this ⊢; omega)).mono ?_
  rintro e w2 ⟨v2, rfl, ho, hf⟩
  obtain ⟨SA2, SQ2, SC2, rfl⟩ := ho.shape
  have H2 := Lib.hid (show Ob w2 base _ (l ++ numL n0) ∧ Fr base w w2 ∧ Bk w2 w.heap.size 25 #[.int .i64 n0, .int .i64 n1] from ⟨by first | exact ho | simpa only [List.append_assoc] using ho, H1.out.2.1.trans hf, H1.out.2.2.fr (by decide) hf⟩)
  have hb2 : base ≤ w2.heap.size := Nat.le_trans hb1 hf.size
  clear ho hf d0
  have d1 := H2.out.2.2.cell (i := 1) (v := .int .i64 n1) rfl
  go_wp2_with fail
  refine (rint_w n1 _ H2.out.1 hb2 (by have := HL.out; simp at this ⊢; omega)).mono ?_
  rintro e w3 ⟨v3, rfl, ho, hf⟩
  obtain ⟨SA3, SQ3, SC3, rfl⟩ := ho.shape
  have H3 := Lib.hid (show Ob w3 base _ (l ++ numL n0 ++ numL n1) ∧ Fr base w w3 ∧ Bk w3 w.heap.size 25 #[.int .i64 n0, .int .i64 n1] from ⟨by first | exact ho | simpa only [List.append_assoc] using ho, H2.out.2.1.trans hf, H2.out.2.2.fr (by decide) hf⟩)
  have hb3 : base ≤ w3.heap.size := Nat.le_trans hb2 hf.size
  clear ho hf d1
  go_wp2_with fail
  go_ret
  exact ⟨.slice SA3 SQ3 SC3, rfl, (by have hz := H3.out.1; simp only [List.append_assoc] at hz ⊢; exact hz), H3.out.2.1⟩
set_option maxRecDepth 100000 in
set_option maxHeartbeats 4000000 in
theorem putOsd_r (t0 : Bool) (t1 : Bool) (n2 : Int) (n3 : Int) (n4 : Int) (n5 : Int) (w : World) (h : Ob w base v l) (hb : base ≤ w.heap.size) (hl : l.length + ((boolL t0 ++ (boolL t1 ++ (numL n2 ++ (numL n3 ++ (numL n4 ++ numL n5)))))).length ≤ 130000000000000) :
    Calls Tryz.prog 117 #[v, .agg #[.bool t0, .bool t1, .int .i64 n2, .int .i64 n3, .int .i64 n4, .int .i64 n5]] w (PtPost w base l ((boolL t0 ++ (boolL t1 ++ (numL n2 ++ (numL n3 ++ (numL n4 ++ numL n5))))))) := by
  obtain ⟨SA1, SQ1, SC1, rfl⟩ := h.shape
  have H1 := Lib.hid (And.intro (h.alloc (.cells #[.bool t0, .bool t1, .int .i64 n2, .int .i64 n3, .int .i64 n4, .int .i64 n5] 216)) (And.intro ((Fr.refl base w).alloc (.cells #[.bool t0, .bool t1, .int .i64 n2, .int .i64 n3, .int .i64 n4, .int .i64 n5] 216)) (Bk.made w 216 #[.bool t0, .bool t1, .int .i64 n2, .int .i64 n3, .int .i64 n4, .int .i64 n5])))
  have hb1 : base ≤ (w.alloc (.cells #[.bool t0, .bool t1, .int .i64 n2, .int .i64 n3, .int .i64 n4, .int .i64 n5] 216)).heap.size := by simp; omega
  have HL := Lib.hid hl
  clear h hl
  go_enter Tryz.func117, Tryz.ntmps117
  have d0 := H1.out.2.2.cell (i := 0) (v := .bool t0) rfl
  go_wp2_with fail
  refine (rbool_b t0 _ H1.out.1 hb1 (by have := HL.out; simp at this ⊢; omega)).mono ?_
  rintro e w2 ⟨v2, rfl, ho, hf⟩
  obtain ⟨SA2, SQ2, SC2, rfl⟩ := ho.shape
  have H2 := Lib.hid (show Ob w2 base _ (l ++ boolL t0) ∧ Fr base w w2 ∧ Bk w2 w.heap.size 216 #[.bool t0, .bool t1, .int .i64 n2, .int .i64 n3, .int .i64 n4, .int .i64 n5] from ⟨by first | exact ho | simpa only [List.append_assoc] using ho, H1.out.2.1.trans hf, H1.out.2.2.fr (by decide) hf⟩)
  have hb2 : base ≤ w2.heap.size := Nat.le_trans hb1 hf.size
  clear ho hf d0
  have d1 := H2.out.2.2.cell (i := 1) (v := .bool t1) rfl
  go_wp2_with fail
  refine (rbool_b t1 _ H2.out.1 hb2 (by have := HL.out; simp at this ⊢; omega)).mono ?_
  rintro e w3 ⟨v3, rfl, ho, hf⟩
  obtain ⟨SA3, SQ3, SC3, rfl⟩ := ho.shape
  have H3 := Lib.hid (show Ob w3 base _ (l ++ boolL t0 ++ boolL t1) ∧ Fr base w w3 ∧ Bk w3 w.heap.size 216 #[.bool t0, .bool t1, .int .i64 n2, .int .i64 n3, .int .i64 n4, .int .i64 n5] from ⟨by first | exact ho | simpa only [List.append_assoc] using ho, H2.out.2.1.trans hf, H2.out.2.2.fr (by decide) hf⟩)
  have hb3 : base ≤ w3.heap.size := Nat.le_trans hb2 hf.size
  clear ho hf d1
  have d2 := H3.out.2.2.cell (i := 2) (v := .int .i64 n2) rfl
  go_wp2_with fail
  refine (rint_w n2 _ H3.out.1 hb3 (by have := HL.out; simp at this ⊢; omega)).mono ?_
  rintro e w4 ⟨v4, rfl, ho, hf⟩
  obtain ⟨SA4, SQ4, SC4, rfl⟩ := ho.shape
  have H4 := Lib.hid (show Ob w4 base _ (l ++ boolL t0 ++ boolL t1 ++ numL n2) ∧ Fr base w w4 ∧ Bk w4 w.heap.size 216 #[.bool t0, .bool t1, .int .i64 n2, .int .i64 n3, .int .i64 n4, .int .i64 n5] from ⟨by first | exact ho | simpa only [List.append_assoc] using ho, H3.out.2.1.trans hf, H3.out.2.2.fr (by decide) hf⟩)
  have hb4 : base ≤ w4.heap.size := Nat.le_trans hb3 hf.size
  clear ho hf d2
  have d3 := H4.out.2.2.cell (i := 3) (v := .int .i64 n3) rfl
  go_wp2_with fail
  refine (rint_w n3 _ H4.out.1 hb4 (by have := HL.out; simp at this ⊢; omega)).mono ?_
  rintro e w5 ⟨v5, rfl, ho, hf⟩
  obtain ⟨SA5, SQ5, SC5, rfl⟩ := ho.shape
  have H5 := Lib.hid (show Ob w5 base _ (l ++ boolL t0 ++ boolL t1 ++ numL n2 ++ numL n3) ∧ Fr base w w5 ∧ Bk w5 w.heap.size 216 #[.bool t0, .bool t1, .int .i64 n2, .int .i64 n3, .int .i64 n4, .int .i64 n5] from ⟨by first | exact ho | simpa only [List.append_assoc] using ho, H4.out.2.1.trans hf, H4.out.2.2.fr (by decide) hf⟩)
  have hb5 : base ≤ w5.heap.size := Nat.le_trans hb4 hf.size
  clear ho hf d3
  have d4 := H5.out.2.2.cell (i := 4) (v := .int .i64 n4) rfl
  go_wp2_with fail
  refine (rint_w n4 _ H5.out.1 hb5 (by have := HL.out; simp at this ⊢; omega)).mono ?_
  rintro e w6 ⟨v6, rfl, ho, hf⟩
  obtain ⟨SA6, SQ6, SC6, rfl⟩ := ho.shape
  have H6 := Lib.hid (show Ob w6 base _ (l ++ boolL t0 ++ boolL t1 ++ numL n2 ++ numL n3 ++ numL n4) ∧ Fr base w w6 ∧ Bk w6 w.heap.size 216 #[.bool t0, .bool t1, .int .i64 n2, .int .i64 n3, .int .i64 n4, .int .i64 n5] from ⟨by first | exact ho | simpa only [List.append_assoc] using ho, H5.out.2.1.trans hf, H5.out.2.2.fr (by decide) hf⟩)
  have hb6 : base ≤ w6.heap.size := Nat.le_trans hb5 hf.size
  clear ho hf d4
  have d5 := H6.out.2.2.cell (i := 5) (v := .int .i64 n5) rfl
  go_wp2_with fail
  refine (rint_w n5 _ H6.out.1 hb6 (by have := HL.out; simp at this ⊢; omega)).mono ?_
  rintro e w7 ⟨v7, rfl, ho, hf⟩
  obtain ⟨SA7, SQ7, SC7, rfl⟩ := ho.shape
  have H7 := Lib.hid (show Ob w7 base _ (l ++ boolL t0 ++ boolL t1 ++ numL n2 ++ numL n3 ++ numL n4 ++ numL n5) ∧ Fr base w w7 ∧ Bk w7 w.heap.size 216 #[.bool t0, .bool t1, .int .i64 n2, .int .i64 n3, .int .i64 n4, .int .i64 n5] from ⟨by first | exact ho | simpa only [List.append_assoc] using ho, H6.out.2.1.trans hf, H6.out.2.2.fr (by decide) hf⟩)
  have hb7 : base ≤ w7.heap.size := Nat.le_trans hb6 hf.size
  clear ho hf d5
  go_wp2_with fail
  go_ret
  exact ⟨.slice SA7 SQ7 SC7, rfl, (by have hz := H7.out.1; simp only [List.append_assoc] at hz ⊢; exact hz), H7.out.2.1⟩
set_option maxRecDepth 100000 in
set_option maxHeartbeats 4000000 in
theorem putPool_r (n0 : Int) (n1 : Int) (n2 : Int) (n3 : Int) (w : World) (h : Ob w base v l) (hb : base ≤ w.heap.size) (hl : l.length + ((numL n0 ++ (numL n1 ++ (numL n2 ++ numL n3)))).length ≤ 130000000000000) :
    Calls Tryz.prog 118 #[v, .agg #[.int .i64 n0, .int .i64 n1, .int .i64 n2, .int .i64 n3]] w (PtPost w base l ((numL n0 ++ (numL n1 ++ (numL n2 ++ numL n3))))) := by
  obtain ⟨SA1, SQ1, SC1, rfl⟩ := h.shape
  have H1 := Lib.hid (And.intro (h.alloc (.cells #[.int .i64 n0, .int .i64 n1, .int .i64 n2, .int .i64 n3] 156)) (And.intro ((Fr.refl base w).alloc (.cells #[.int .i64 n0, .int .i64 n1, .int .i64 n2, .int .i64 n3] 156)) (Bk.made w 156 #[.int .i64 n0, .int .i64 n1, .int .i64 n2, .int .i64 n3])))
  have hb1 : base ≤ (w.alloc (.cells #[.int .i64 n0, .int .i64 n1, .int .i64 n2, .int .i64 n3] 156)).heap.size := by simp; omega
  have HL := Lib.hid hl
  clear h hl
  go_enter Tryz.func118, Tryz.ntmps118
  have d0 := H1.out.2.2.cell (i := 0) (v := .int .i64 n0) rfl
  go_wp2_with fail
  refine (rint_w n0 _ H1.out.1 hb1 (by have := HL.out; simp at this ⊢; omega)).mono ?_
  rintro e w2 ⟨v2, rfl, ho, hf⟩
  obtain ⟨SA2, SQ2, SC2, rfl⟩ := ho.shape
  have H2 := Lib.hid (show Ob w2 base _ (l ++ numL n0) ∧ Fr base w w2 ∧ Bk w2 w.heap.size 156 #[.int .i64 n0, .int .i64 n1, .int .i64 n2, .int .i64 n3] from ⟨by first | exact ho | simpa only [List.append_assoc] using ho, H1.out.2.1.trans hf, H1.out.2.2.fr (by decide) hf⟩)
  have hb2 : base ≤ w2.heap.size := Nat.le_trans hb1 hf.size
  clear ho hf d0
  have d1 := H2.out.2.2.cell (i := 1) (v := .int .i64 n1) rfl
  go_wp2_with fail
  refine (rint_w n1 _ H2.out.1 hb2 (by have := HL.out; simp at this ⊢; omega)).mono ?_
  rintro e w3 ⟨v3, rfl, ho, hf⟩
  obtain ⟨SA3, SQ3, SC3, rfl⟩ := ho.shape
  have H3 := Lib.hid (show Ob w3 base _ (l ++ numL n0 ++ numL n1) ∧ Fr base w w3 ∧ Bk w3 w.heap.size 156 #[.int .i64 n0, .int .i64 n1, .int .i64 n2, .int .i64 n3] from ⟨by first | exact ho | simpa only [List.append_assoc] using ho, H2.out.2.1.trans hf, H2.out.2.2.fr (by decide) hf⟩)
  have hb3 : base ≤ w3.heap.size := Nat.le_trans hb2 hf.size
  clear ho hf d1
  have d2 := H3.out.2.2.cell (i := 2) (v := .int .i64 n2) rfl
  go_wp2_with fail
  refine (rint_w n2 _ H3.out.1 hb3 (by have := HL.out; simp at this ⊢; omega)).mono ?_
  rintro e w4 ⟨v4, rfl, ho, hf⟩
  obtain ⟨SA4, SQ4, SC4, rfl⟩ := ho.shape
  have H4 := Lib.hid (show Ob w4 base _ (l ++ numL n0 ++ numL n1 ++ numL n2) ∧ Fr base w w4 ∧ Bk w4 w.heap.size 156 #[.int .i64 n0, .int .i64 n1, .int .i64 n2, .int .i64 n3] from ⟨by first | exact ho | simpa only [List.append_assoc] using ho, H3.out.2.1.trans hf, H3.out.2.2.fr (by decide) hf⟩)
  have hb4 : base ≤ w4.heap.size := Nat.le_trans hb3 hf.size
  clear ho hf d2
  have d3 := H4.out.2.2.cell (i := 3) (v := .int .i64 n3) rfl
  go_wp2_with fail
  refine (rint_w n3 _ H4.out.1 hb4 (by have := HL.out; simp at this ⊢; omega)).mono ?_
  rintro e w5 ⟨v5, rfl, ho, hf⟩
  obtain ⟨SA5, SQ5, SC5, rfl⟩ := ho.shape
  have H5 := Lib.hid (show Ob w5 base _ (l ++ numL n0 ++ numL n1 ++ numL n2 ++ numL n3) ∧ Fr base w w5 ∧ Bk w5 w.heap.size 156 #[.int .i64 n0, .int .i64 n1, .int .i64 n2, .int .i64 n3] from ⟨by first | exact ho | simpa only [List.append_assoc] using ho, H4.out.2.1.trans hf, H4.out.2.2.fr (by decide) hf⟩)
  have hb5 : base ≤ w5.heap.size := Nat.le_trans hb4 hf.size
  clear ho hf d3
  go_wp2_with fail
  go_ret
  exact ⟨.slice SA5 SQ5 SC5, rfl, (by have hz := H5.out.1; simp only [List.append_assoc] at hz ⊢; exact hz), H5.out.2.1⟩
set_option maxRecDepth 100000 in
set_option maxHeartbeats 4000000 in
theorem putBucket_r (n0 : Int) (n1 : Int) (A2 : Option Addr) (q2 c2 : Nat) (d2 : List UInt8) (A3 : Option Addr) (q3 c3 : Nat) (d3 : List UInt8) (w : World) (h : Ob w base v l) (hb : base ≤ w.heap.size) (h2 : EncF w base (.list .num) (fun _ => some (.slice A2 q2 c2)) d2) (h3 : EncF w base (.list .num) (fun _ => some (.slice A3 q3 c3)) d3) (hl : l.length + ((numL n0 ++ (numL n1 ++ (d2 ++ d3)))).length ≤ 130000000000000) :
    Calls Tryz.prog 119 #[v, .agg #[.int .i64 n0, .int .i64 n1, .slice A2 q2 c2, .slice A3 q3 c3]] w (PtPost w base l ((numL n0 ++ (numL n1 ++ (d2 ++ d3))))) := by
  obtain ⟨SA1, SQ1, SC1, rfl⟩ := h.shape
  have H1 := Lib.hid (And.intro (h.alloc (.cells #[.int .i64 n0, .int .i64 n1, .slice A2 q2 c2, .slice A3 q3 c3] 159)) (And.intro ((Fr.refl base w).alloc (.cells #[.int .i64 n0, .int .i64 n1, .slice A2 q2 c2, .slice A3 q3 c3] 159)) (Bk.made w 159 #[.int .i64 n0, .int .i64 n1, .slice A2 q2 c2, .slice A3 q3 c3])))
  have hb1 : base ≤ (w.alloc (.cells #[.int .i64 n0, .int .i64 n1, .slice A2 q2 c2, .slice A3 q3 c3] 159)).heap.size := by simp; omega
  obtain ⟨B2, n2, x2, ms2, y2, g2, i2, j2, p2, rfl⟩ := h2
  injection y2 with y2
  injection y2 with ya2 yb2 yc2
  subst ya2 yb2 yc2
  have L2 := Lib.hid (And.intro j2 p2)
  have qq2 : q2 ≤ 9223372036854775807 := by omega
  clear j2 p2
  obtain ⟨B3, n3, x3, ms3, y3, g3, i3, j3, p3, rfl⟩ := h3
  injection y3 with y3
  injection y3 with ya3 yb3 yc3
  subst ya3 yb3 yc3
  have L3 := Lib.hid (And.intro j3 p3)
  have qq3 : q3 ≤ 9223372036854775807 := by omega
  clear j3 p3
  have HL := Lib.hid hl
  clear h hl
  go_enter Tryz.func119, Tryz.ntmps119
  have d0 := H1.out.2.2.cell (i := 0) (v := .int .i64 n0) rfl
  go_wp2_with fail
  refine (rint_w n0 _ H1.out.1 hb1 (by have := HL.out; simp at this ⊢; omega)).mono ?_
  rintro e w2 ⟨v2, rfl, ho, hf⟩
  obtain ⟨SA2, SQ2, SC2, rfl⟩ := ho.shape
  have H2 := Lib.hid (show Ob w2 base _ (l ++ numL n0) ∧ Fr base w w2 ∧ Bk w2 w.heap.size 159 #[.int .i64 n0, .int .i64 n1, .slice A2 q2 c2, .slice A3 q3 c3] from ⟨by first | exact ho | simpa only [List.append_assoc] using ho, H1.out.2.1.trans hf, H1.out.2.2.fr (by decide) hf⟩)
  have hb2 : base ≤ w2.heap.size := Nat.le_trans hb1 hf.size
  clear ho hf d0
  have d1 := H2.out.2.2.cell (i := 1) (v := .int .i64 n1) rfl
  go_wp2_with fail
  refine (rint_w n1 _ H2.out.1 hb2 (by have := HL.out; simp at this ⊢; omega)).mono ?_
  rintro e w3 ⟨v3, rfl, ho, hf⟩
  obtain ⟨SA3, SQ3, SC3, rfl⟩ := ho.shape
  have H3 := Lib.hid (show Ob w3 base _ (l ++ numL n0 ++ numL n1) ∧ Fr base w w3 ∧ Bk w3 w.heap.size 159 #[.int .i64 n0, .int .i64 n1, .slice A2 q2 c2, .slice A3 q3 c3] from ⟨by first | exact ho | simpa only [List.append_assoc] using ho, H2.out.2.1.trans hf, H2.out.2.2.fr (by decide) hf⟩)
  have hb3 : base ≤ w3.heap.size := Nat.le_trans hb2 hf.size
  clear ho hf d1
  have d2 := H3.out.2.2.cell (i := 2) (v := .slice A2 q2 c2) rfl
  go_wp2_with fail
  refine (rcount_any q2 _ H3.out.1 hb3 (by have := HL.out; simp at this ⊢; omega)).mono ?_
  rintro e w4 ⟨v4, rfl, ho, hf⟩
  obtain ⟨SA4, SQ4, SC4, rfl⟩ := ho.shape
  have H4 := Lib.hid (show Ob w4 base _ (l ++ numL n0 ++ numL n1 ++ lowL q2 4) ∧ Fr base w w4 ∧ Bk w4 w.heap.size 159 #[.int .i64 n0, .int .i64 n1, .slice A2 q2 c2, .slice A3 q3 c3] from ⟨by first | exact ho | simpa only [List.append_assoc] using ho, H3.out.2.1.trans hf, H3.out.2.2.fr (by decide) hf⟩)
  have hb4 : base ≤ w4.heap.size := Nat.le_trans hb3 hf.size
  clear ho hf d2
  have d2 := H4.out.2.2.cell (i := 2) (v := .slice A2 q2 c2) rfl
  go_wp2_with fail
  clear d2
  go_loopw [0, 25] (fun b i wr => ∃ j : Nat, j ≤ q2 ∧ i = .int .i64 (j : Int) ∧ Ob wr base b (l ++ numL n0 ++ numL n1 ++ lowL q2 4 ++ (ms2.take j).flatten) ∧ Fr base w wr ∧ Bk wr w.heap.size 159 #[.int .i64 n0, .int .i64 n1, .slice A2 q2 c2, .slice A3 q3 c3]) (fun _ i _ => q2 - (intOf i).toNat)
  case atStart => exact ⟨0, Nat.zero_le _, rfl, by simpa using H4.out.1, H4.out.2.1, H4.out.2.2⟩
  case round =>
    obtain ⟨j, hj, rfl, ho, hf, hkb⟩ := hrel
    obtain ⟨SA5, SQ5, SC5, rfl⟩ := ho.shape
    have HR := Lib.hid (And.intro ho (And.intro hf hkb))
    have hbr : base ≤ wr.heap.size := Nat.le_trans hb hf.size
    by_cases hlt : j < q2
    · obtain ⟨b', o', rfl, hb', hits⟩ := L2.out.2 (by omega)
      have it0 : At wr base .num b' (o' + j * Sch.sz .num) (ms2.getD j []) := At.frs ⟨hb', hits j hlt⟩ hf hb
      have it : At wr base .num b' (o' + j) (ms2.getD j []) := by simpa [Sch.sz] using it0
      have hle2 := flat_take_le ms2 j (by rw [L2.out.1]; exact hlt)
      have hft := flat_take ms2 j (by rw [L2.out.1]; exact hlt)
      clear it0 hits ho hf hkb
      obtain ⟨mm, hmm⟩ : ∃ mm, ms2.getD j [] = mm := ⟨_, rfl⟩
      rw [hmm] at it hle2 hft
      clear hmm
      obtain ⟨nx2_, kx2_, rfl⟩ := it.num
      have HF := Lib.hid (And.intro hft hle2)
      have hj0 : (0 : Int) ≤ (j : Int) := by omega
      have hj1 : (j : Int) < (q2 : Int) := by omega
      clear hft hle2
      clear it
      go_wp2_with fail
      refine (rint_w nx2_ _ (by first | exact HR.out.1 | exact HR.out.1.alloc _) (by first | exact hbr | (simp; omega)) (by have := HL.out; have h2 := HF.out.2; simp at this h2 ⊢; omega)).mono ?_
      rintro e w9 ⟨v9, rfl, ho9, hf9⟩
      have H9 := Lib.hid (And.intro ho9 (show Fr base wr w9 from by first | exact hf9 | exact ((Fr.refl base wr).alloc _).trans hf9))
      clear ho9 hf9
      go_wp2_with fail
      go_roundw
      case rel => exact ⟨j + 1, by omega, by go_num, by rw [HF.out.1]; first | exact H9.out.1 | simpa only [List.append_assoc] using H9.out.1, HR.out.2.1.trans H9.out.2, HR.out.2.2.fr (by decide) H9.out.2⟩
      case measure => simp [intOf]; omega
    · have hjq : j = q2 := by omega
      have htk : ms2.take j = ms2 := List.take_of_length_le (by rw [L2.out.1, hjq]; exact Nat.le_refl _)
      rw [htk] at ho
      have H5 := Lib.hid (show Ob wr base _ (l ++ numL n0 ++ numL n1 ++ lowL q2 4 ++ ms2.flatten) ∧ Fr base w wr ∧ Bk wr w.heap.size 159 #[.int .i64 n0, .int .i64 n1, .slice A2 q2 c2, .slice A3 q3 c3] from ⟨by first | exact ho | simpa only [List.append_assoc] using ho, hf, hkb⟩)
      have hb5 := hbr
      obtain ⟨w5, hw5⟩ : ∃ w5, wr = w5 := ⟨_, rfl⟩
      subst hw5
      clear ho hf hkb HR htk
      have d3 := H5.out.2.2.cell (i := 3) (v := .slice A3 q3 c3) rfl
      go_wp2_with fail
      refine (rcount_any q3 _ H5.out.1 hb5 (by have := HL.out; simp at this ⊢; omega)).mono ?_
      rintro e w6 ⟨v6, rfl, ho, hf⟩
      obtain ⟨SA6, SQ6, SC6, rfl⟩ := ho.shape
      have H6 := Lib.hid (show Ob w6 base _ (l ++ numL n0 ++ numL n1 ++ lowL q2 4 ++ ms2.flatten ++ lowL q3 4) ∧ Fr base w w6 ∧ Bk w6 w.heap.size 159 #[.int .i64 n0, .int .i64 n1, .slice A2 q2 c2, .slice A3 q3 c3] from ⟨by first | exact ho | simpa only [List.append_assoc] using ho, H5.out.2.1.trans hf, H5.out.2.2.fr (by decide) hf⟩)
      have hb6 : base ≤ w6.heap.size := Nat.le_trans hb5 hf.size
      clear ho hf d3
      have d3 := H6.out.2.2.cell (i := 3) (v := .slice A3 q3 c3) rfl
      go_wp2_with fail
      clear d3
      go_loopw [0, 41] (fun b i wr => ∃ j : Nat, j ≤ q3 ∧ i = .int .i64 (j : Int) ∧ Ob wr base b (l ++ numL n0 ++ numL n1 ++ lowL q2 4 ++ ms2.flatten ++ lowL q3 4 ++ (ms3.take j).flatten) ∧ Fr base w wr ∧ Bk wr w.heap.size 159 #[.int .i64 n0, .int .i64 n1, .slice A2 q2 c2, .slice A3 q3 c3]) (fun _ i _ => q3 - (intOf i).toNat)
      case atStart => exact ⟨0, Nat.zero_le _, rfl, by simpa using H6.out.1, H6.out.2.1, H6.out.2.2⟩
      case round =>
        obtain ⟨j, hj, rfl, ho, hf, hkb⟩ := hrel
        obtain ⟨SA7, SQ7, SC7, rfl⟩ := ho.shape
        have HR := Lib.hid (And.intro ho (And.intro hf hkb))
        have hbr : base ≤ wr.heap.size := Nat.le_trans hb hf.size
        by_cases hlt : j < q3
        · obtain ⟨b', o', rfl, hb', hits⟩ := L3.out.2 (by omega)
          have it0 : At wr base .num b' (o' + j * Sch.sz .num) (ms3.getD j []) := At.frs ⟨hb', hits j hlt⟩ hf hb
          have it : At wr base .num b' (o' + j) (ms3.getD j []) := by simpa [Sch.sz] using it0
          have hle2 := flat_take_le ms3 j (by rw [L3.out.1]; exact hlt)
          have hft := flat_take ms3 j (by rw [L3.out.1]; exact hlt)
          clear it0 hits ho hf hkb
          obtain ⟨mm, hmm⟩ : ∃ mm, ms3.getD j [] = mm := ⟨_, rfl⟩
          rw [hmm] at it hle2 hft
          clear hmm
          obtain ⟨nx3_, kx3_, rfl⟩ := it.num
          have HF := Lib.hid (And.intro hft hle2)
          have hj0 : (0 : Int) ≤ (j : Int) := by omega
          have hj1 : (j : Int) < (q3 : Int) := by omega
          clear hft hle2
          clear it
          go_wp2_with fail
          refine (rint_w nx3_ _ (by first | exact HR.out.1 | exact HR.out.1.alloc _) (by first | exact hbr | (simp; omega)) (by have := HL.out; have h2 := HF.out.2; simp at this h2 ⊢; omega)).mono ?_
          rintro e w9 ⟨v9, rfl, ho9, hf9⟩
          have H9 := Lib.hid (And.intro ho9 (show Fr base wr w9 from by first | exact hf9 | exact ((Fr.refl base wr).alloc _).trans hf9))
          clear ho9 hf9
          go_wp2_with fail
          go_roundw
          case rel => exact ⟨j + 1, by omega, by go_num, by rw [HF.out.1]; first | exact H9.out.1 | simpa only [List.append_assoc] using H9.out.1, HR.out.2.1.trans H9.out.2, HR.out.2.2.fr (by decide) H9.out.2⟩
          case measure => simp [intOf]; omega
        · have hjq : j = q3 := by omega
          have htk : ms3.take j = ms3 := List.take_of_length_le (by rw [L3.out.1, hjq]; exact Nat.le_refl _)
          rw [htk] at ho
          have H7 := Lib.hid (show Ob wr base _ (l ++ numL n0 ++ numL n1 ++ lowL q2 4 ++ ms2.flatten ++ lowL q3 4 ++ ms3.flatten) ∧ Fr base w wr ∧ Bk wr w.heap.size 159 #[.int .i64 n0, .int .i64 n1, .slice A2 q2 c2, .slice A3 q3 c3] from ⟨by first | exact ho | simpa only [List.append_assoc] using ho, hf, hkb⟩)
          have hb7 := hbr
          obtain ⟨w7, hw7⟩ : ∃ w7, wr = w7 := ⟨_, rfl⟩
          subst hw7
          clear ho hf hkb HR htk
          go_wp2_with fail
          go_ret
          exact ⟨.slice SA7 SQ7 SC7, rfl, (by have hz := H7.out.1; simp only [List.append_assoc] at hz ⊢; exact hz), H7.out.2.1⟩
set_option maxRecDepth 100000 in
set_option maxHeartbeats 4000000 in
theorem putMap_r (n0 : Int) (A1 : Option Addr) (q1 c1 : Nat) (d1 : List UInt8) (A2 : Option Addr) (q2 c2 : Nat) (d2 : List UInt8) (A3 : Option Addr) (q3 c3 : Nat) (d3 : List UInt8) (n4 : Int) (w : World) (h : Ob w base v l) (hb : base ≤ w.heap.size) (h1 : EncF w base (.list (.pair .bool (.pair .bool (.pair .num (.pair .num (.pair .num .num)))))) (fun _ => some (.slice A1 q1 c1)) d1) (h2 : EncF w base (.list (.pair .num (.pair .num (.pair .num .num)))) (fun _ => some (.slice A2 q2 c2)) d2) (h3 : EncF w base (.list (.pair .num (.pair .num (.pair (.list .num) (.list .num))))) (fun _ => some (.slice A3 q3 c3)) d3) (hl : l.length + ((numL n0 ++ (d1 ++ (d2 ++ (d3 ++ numL n4))))).length ≤ 130000000000000) :
    Calls Tryz.prog 48 #[v, .agg #[.int .i64 n0, .slice A1 q1 c1, .slice A2 q2 c2, .slice A3 q3 c3, .int .i64 n4]] w (PtPost w base l ((numL n0 ++ (d1 ++ (d2 ++ (d3 ++ numL n4)))))) := by
  obtain ⟨SA1, SQ1, SC1, rfl⟩ := h.shape
  have H1 := Lib.hid (And.intro (h.alloc (.cells #[.int .i64 n0, .slice A1 q1 c1, .slice A2 q2 c2, .slice A3 q3 c3, .int .i64 n4] 70)) (And.intro ((Fr.refl base w).alloc (.cells #[.int .i64 n0, .slice A1 q1 c1, .slice A2 q2 c2, .slice A3 q3 c3, .int .i64 n4] 70)) (Bk.made w 70 #[.int .i64 n0, .slice A1 q1 c1, .slice A2 q2 c2, .slice A3 q3 c3, .int .i64 n4])))
  have hb1 : base ≤ (w.alloc (.cells #[.int .i64 n0, .slice A1 q1 c1, .slice A2 q2 c2, .slice A3 q3 c3, .int .i64 n4] 70)).heap.size := by simp; omega
  obtain ⟨B1, n1, x1, ms1, y1, g1, i1, j1, p1, rfl⟩ := h1
  injection y1 with y1
  injection y1 with ya1 yb1 yc1
  subst ya1 yb1 yc1
  have L1 := Lib.hid (And.intro j1 p1)
  have qq1 : q1 ≤ 9223372036854775807 := by omega
  clear j1 p1
  obtain ⟨B2, n2, x2, ms2, y2, g2, i2, j2, p2, rfl⟩ := h2
  injection y2 with y2
  injection y2 with ya2 yb2 yc2
  subst ya2 yb2 yc2
  have L2 := Lib.hid (And.intro j2 p2)
  have qq2 : q2 ≤ 9223372036854775807 := by omega
  clear j2 p2
  obtain ⟨B3, n3, x3, ms3, y3, g3, i3, j3, p3, rfl⟩ := h3
  injection y3 with y3
  injection y3 with ya3 yb3 yc3
  subst ya3 yb3 yc3
  have L3 := Lib.hid (And.intro j3 p3)
  have qq3 : q3 ≤ 9223372036854775807 := by omega
  clear j3 p3
  have HL := Lib.hid hl
  clear h hl
  go_enter Tryz.func48, Tryz.ntmps48
  have d0 := H1.out.2.2.cell (i := 0) (v := .int .i64 n0) rfl
  go_wp2_with fail
  refine (rint_w n0 _ H1.out.1 hb1 (by have := HL.out; simp at this ⊢; omega)).mono ?_
  rintro e w2 ⟨v2, rfl, ho, hf⟩
  obtain ⟨SA2, SQ2, SC2, rfl⟩ := ho.shape
  have H2 := Lib.hid (show Ob w2 base _ (l ++ numL n0) ∧ Fr base w w2 ∧ Bk w2 w.heap.size 70 #[.int .i64 n0, .slice A1 q1 c1, .slice A2 q2 c2, .slice A3 q3 c3, .int .i64 n4] from ⟨by first | exact ho | simpa only [List.append_assoc] using ho, H1.out.2.1.trans hf, H1.out.2.2.fr (by decide) hf⟩)
  have hb2 : base ≤ w2.heap.size := Nat.le_trans hb1 hf.size
  clear ho hf d0
  have d1 := H2.out.2.2.cell (i := 1) (v := .slice A1 q1 c1) rfl
  go_wp2_with fail
  refine (rcount_any q1 _ H2.out.1 hb2 (by have := HL.out; simp at this ⊢; omega)).mono ?_
  rintro e w3 ⟨v3, rfl, ho, hf⟩
  obtain ⟨SA3, SQ3, SC3, rfl⟩ := ho.shape
  have H3 := Lib.hid (show Ob w3 base _ (l ++ numL n0 ++ lowL q1 4) ∧ Fr base w w3 ∧ Bk w3 w.heap.size 70 #[.int .i64 n0, .slice A1 q1 c1, .slice A2 q2 c2, .slice A3 q3 c3, .int .i64 n4] from ⟨by first | exact ho | simpa only [List.append_assoc] using ho, H2.out.2.1.trans hf, H2.out.2.2.fr (by decide) hf⟩)
  have hb3 : base ≤ w3.heap.size := Nat.le_trans hb2 hf.size
  clear ho hf d1
  have d1 := H3.out.2.2.cell (i := 1) (v := .slice A1 q1 c1) rfl
  go_wp2_with fail
  clear d1
  go_loopw [0, 23] (fun b i wr => ∃ j : Nat, j ≤ q1 ∧ i = .int .i64 (j : Int) ∧ Ob wr base b (l ++ numL n0 ++ lowL q1 4 ++ (ms1.take j).flatten) ∧ Fr base w wr ∧ Bk wr w.heap.size 70 #[.int .i64 n0, .slice A1 q1 c1, .slice A2 q2 c2, .slice A3 q3 c3, .int .i64 n4]) (fun _ i _ => q1 - (intOf i).toNat)
  case atStart => exact ⟨0, Nat.zero_le _, rfl, by simpa using H3.out.1, H3.out.2.1, H3.out.2.2⟩
  case round =>
    obtain ⟨j, hj, rfl, ho, hf, hkb⟩ := hrel
    obtain ⟨SA4, SQ4, SC4, rfl⟩ := ho.shape
    have HR := Lib.hid (And.intro ho (And.intro hf hkb))
    have hbr : base ≤ wr.heap.size := Nat.le_trans hb hf.size
    by_cases hlt : j < q1
    · obtain ⟨b', o', rfl, hb', hits⟩ := L1.out.2 (by omega)
      have it0 : At wr base (.pair .bool (.pair .bool (.pair .num (.pair .num (.pair .num .num))))) b' (o' + j * Sch.sz (.pair .bool (.pair .bool (.pair .num (.pair .num (.pair .num .num)))))) (ms1.getD j []) := At.frs ⟨hb', hits j hlt⟩ hf hb
      have it : At wr base (.pair .bool (.pair .bool (.pair .num (.pair .num (.pair .num .num))))) b' (o' + j * 6) (ms1.getD j []) := by simpa [Sch.sz] using it0
      have hle2 := flat_take_le ms1 j (by rw [L1.out.1]; exact hlt)
      have hft := flat_take ms1 j (by rw [L1.out.1]; exact hlt)
      clear it0 hits ho hf hkb
      obtain ⟨mm, hmm⟩ : ∃ mm, ms1.getD j [] = mm := ⟨_, rfl⟩
      rw [hmm] at it hle2 hft
      clear hmm
      obtain ⟨mx1_0, rx1_0, ax1_0, zx1_0, rfl⟩ := it.fst
      replace ax1_0 : At wr base .bool b' (o' + j * 6) _ := ax1_0
      obtain ⟨tx1_0, kx1_0, rfl⟩ := ax1_0.bool
      obtain ⟨mx1_1, rx1_1, ax1_1, zx1_1, rfl⟩ := zx1_0.fst
      replace ax1_1 : At wr base .bool b' (o' + j * 6 + 1) _ := ax1_1
      obtain ⟨tx1_1, kx1_1, rfl⟩ := ax1_1.bool
      obtain ⟨mx1_2, rx1_2, ax1_2, zx1_2, rfl⟩ := zx1_1.fst
      replace ax1_2 : At wr base .num b' (o' + j * 6 + 2) _ := ax1_2
      obtain ⟨nx1_2, kx1_2, rfl⟩ := ax1_2.num
      obtain ⟨mx1_3, rx1_3, ax1_3, zx1_3, rfl⟩ := zx1_2.fst
      replace ax1_3 : At wr base .num b' (o' + j * 6 + 3) _ := ax1_3
      obtain ⟨nx1_3, kx1_3, rfl⟩ := ax1_3.num
      obtain ⟨mx1_4, rx1_4, ax1_4, zx1_4, rfl⟩ := zx1_3.fst
      replace ax1_4 : At wr base .num b' (o' + j * 6 + 4) _ := ax1_4
      obtain ⟨nx1_4, kx1_4, rfl⟩ := ax1_4.num
      have ax1_5 := zx1_4
      replace ax1_5 : At wr base .num b' (o' + j * 6 + 5) _ := ax1_5
      obtain ⟨nx1_5, kx1_5, rfl⟩ := ax1_5.num
      have HF := Lib.hid (And.intro hft hle2)
      have hj0 : (0 : Int) ≤ (j : Int) := by omega
      have hj1 : (j : Int) < (q1 : Int) := by omega
      clear hft hle2
      clear it ax1_0 zx1_0 ax1_1 zx1_1 ax1_2 zx1_2 ax1_3 zx1_3 ax1_4 zx1_4 ax1_5
      go_wp2_with fail
      refine (putOsd_r tx1_0 tx1_1 nx1_2 nx1_3 nx1_4 nx1_5 _ (by first | exact HR.out.1 | exact HR.out.1.alloc _) (by first | exact hbr | (simp; omega)) (by have := HL.out; have h2 := HF.out.2; simp at this h2 ⊢; omega)).mono ?_
      rintro e w9 ⟨v9, rfl, ho9, hf9⟩
      have H9 := Lib.hid (And.intro ho9 (show Fr base wr w9 from by first | exact hf9 | exact ((Fr.refl base wr).alloc _).trans hf9))
      clear ho9 hf9
      go_wp2_with fail
      go_roundw
      case rel => exact ⟨j + 1, by omega, by go_num, by rw [HF.out.1]; first | exact H9.out.1 | simpa only [List.append_assoc] using H9.out.1, HR.out.2.1.trans H9.out.2, HR.out.2.2.fr (by decide) H9.out.2⟩
      case measure => simp [intOf]; omega
    · have hjq : j = q1 := by omega
      have htk : ms1.take j = ms1 := List.take_of_length_le (by rw [L1.out.1, hjq]; exact Nat.le_refl _)
      rw [htk] at ho
      have H4 := Lib.hid (show Ob wr base _ (l ++ numL n0 ++ lowL q1 4 ++ ms1.flatten) ∧ Fr base w wr ∧ Bk wr w.heap.size 70 #[.int .i64 n0, .slice A1 q1 c1, .slice A2 q2 c2, .slice A3 q3 c3, .int .i64 n4] from ⟨by first | exact ho | simpa only [List.append_assoc] using ho, hf, hkb⟩)
      have hb4 := hbr
      obtain ⟨w4, hw4⟩ : ∃ w4, wr = w4 := ⟨_, rfl⟩
      subst hw4
      clear ho hf hkb HR htk
      have d2 := H4.out.2.2.cell (i := 2) (v := .slice A2 q2 c2) rfl
      go_wp2_with fail
      refine (rcount_any q2 _ H4.out.1 hb4 (by have := HL.out; simp at this ⊢; omega)).mono ?_
      rintro e w5 ⟨v5, rfl, ho, hf⟩
      obtain ⟨SA5, SQ5, SC5, rfl⟩ := ho.shape
      have H5 := Lib.hid (show Ob w5 base _ (l ++ numL n0 ++ lowL q1 4 ++ ms1.flatten ++ lowL q2 4) ∧ Fr base w w5 ∧ Bk w5 w.heap.size 70 #[.int .i64 n0, .slice A1 q1 c1, .slice A2 q2 c2, .slice A3 q3 c3, .int .i64 n4] from ⟨by first | exact ho | simpa only [List.append_assoc] using ho, H4.out.2.1.trans hf, H4.out.2.2.fr (by decide) hf⟩)
      have hb5 : base ≤ w5.heap.size := Nat.le_trans hb4 hf.size
      clear ho hf d2
      have d2 := H5.out.2.2.cell (i := 2) (v := .slice A2 q2 c2) rfl
      go_wp2_with fail
      clear d2
      go_loopw [0, 39] (fun b i wr => ∃ j : Nat, j ≤ q2 ∧ i = .int .i64 (j : Int) ∧ Ob wr base b (l ++ numL n0 ++ lowL q1 4 ++ ms1.flatten ++ lowL q2 4 ++ (ms2.take j).flatten) ∧ Fr base w wr ∧ Bk wr w.heap.size 70 #[.int .i64 n0, .slice A1 q1 c1, .slice A2 q2 c2, .slice A3 q3 c3, .int .i64 n4]) (fun _ i _ => q2 - (intOf i).toNat)
      case atStart => exact ⟨0, Nat.zero_le _, rfl, by simpa using H5.out.1, H5.out.2.1, H5.out.2.2⟩
      case round =>
        obtain ⟨j, hj, rfl, ho, hf, hkb⟩ := hrel
        obtain ⟨SA6, SQ6, SC6, rfl⟩ := ho.shape
        have HR := Lib.hid (And.intro ho (And.intro hf hkb))
        have hbr : base ≤ wr.heap.size := Nat.le_trans hb hf.size
        by_cases hlt : j < q2
        · obtain ⟨b', o', rfl, hb', hits⟩ := L2.out.2 (by omega)
          have it0 : At wr base (.pair .num (.pair .num (.pair .num .num))) b' (o' + j * Sch.sz (.pair .num (.pair .num (.pair .num .num)))) (ms2.getD j []) := At.frs ⟨hb', hits j hlt⟩ hf hb
          have it : At wr base (.pair .num (.pair .num (.pair .num .num))) b' (o' + j * 4) (ms2.getD j []) := by simpa [Sch.sz] using it0
          have hle2 := flat_take_le ms2 j (by rw [L2.out.1]; exact hlt)
          have hft := flat_take ms2 j (by rw [L2.out.1]; exact hlt)
          clear it0 hits ho hf hkb
          obtain ⟨mm, hmm⟩ : ∃ mm, ms2.getD j [] = mm := ⟨_, rfl⟩
          rw [hmm] at it hle2 hft
          clear hmm
          obtain ⟨mx2_0, rx2_0, ax2_0, zx2_0, rfl⟩ := it.fst
          replace ax2_0 : At wr base .num b' (o' + j * 4) _ := ax2_0
          obtain ⟨nx2_0, kx2_0, rfl⟩ := ax2_0.num
          obtain ⟨mx2_1, rx2_1, ax2_1, zx2_1, rfl⟩ := zx2_0.fst
          replace ax2_1 : At wr base .num b' (o' + j * 4 + 1) _ := ax2_1
          obtain ⟨nx2_1, kx2_1, rfl⟩ := ax2_1.num
          obtain ⟨mx2_2, rx2_2, ax2_2, zx2_2, rfl⟩ := zx2_1.fst
          replace ax2_2 : At wr base .num b' (o' + j * 4 + 2) _ := ax2_2
          obtain ⟨nx2_2, kx2_2, rfl⟩ := ax2_2.num
          have ax2_3 := zx2_2
          replace ax2_3 : At wr base .num b' (o' + j * 4 + 3) _ := ax2_3
          obtain ⟨nx2_3, kx2_3, rfl⟩ := ax2_3.num
          have HF := Lib.hid (And.intro hft hle2)
          have hj0 : (0 : Int) ≤ (j : Int) := by omega
          have hj1 : (j : Int) < (q2 : Int) := by omega
          clear hft hle2
          clear it ax2_0 zx2_0 ax2_1 zx2_1 ax2_2 zx2_2 ax2_3
          go_wp2_with fail
          refine (putPool_r nx2_0 nx2_1 nx2_2 nx2_3 _ (by first | exact HR.out.1 | exact HR.out.1.alloc _) (by first | exact hbr | (simp; omega)) (by have := HL.out; have h2 := HF.out.2; simp at this h2 ⊢; omega)).mono ?_
          rintro e w9 ⟨v9, rfl, ho9, hf9⟩
          have H9 := Lib.hid (And.intro ho9 (show Fr base wr w9 from by first | exact hf9 | exact ((Fr.refl base wr).alloc _).trans hf9))
          clear ho9 hf9
          go_wp2_with fail
          go_roundw
          case rel => exact ⟨j + 1, by omega, by go_num, by rw [HF.out.1]; first | exact H9.out.1 | simpa only [List.append_assoc] using H9.out.1, HR.out.2.1.trans H9.out.2, HR.out.2.2.fr (by decide) H9.out.2⟩
          case measure => simp [intOf]; omega
        · have hjq : j = q2 := by omega
          have htk : ms2.take j = ms2 := List.take_of_length_le (by rw [L2.out.1, hjq]; exact Nat.le_refl _)
          rw [htk] at ho
          have H6 := Lib.hid (show Ob wr base _ (l ++ numL n0 ++ lowL q1 4 ++ ms1.flatten ++ lowL q2 4 ++ ms2.flatten) ∧ Fr base w wr ∧ Bk wr w.heap.size 70 #[.int .i64 n0, .slice A1 q1 c1, .slice A2 q2 c2, .slice A3 q3 c3, .int .i64 n4] from ⟨by first | exact ho | simpa only [List.append_assoc] using ho, hf, hkb⟩)
          have hb6 := hbr
          obtain ⟨w6, hw6⟩ : ∃ w6, wr = w6 := ⟨_, rfl⟩
          subst hw6
          clear ho hf hkb HR htk
          have d3 := H6.out.2.2.cell (i := 3) (v := .slice A3 q3 c3) rfl
          go_wp2_with fail
          refine (rcount_any q3 _ H6.out.1 hb6 (by have := HL.out; simp at this ⊢; omega)).mono ?_
          rintro e w7 ⟨v7, rfl, ho, hf⟩
          obtain ⟨SA7, SQ7, SC7, rfl⟩ := ho.shape
          have H7 := Lib.hid (show Ob w7 base _ (l ++ numL n0 ++ lowL q1 4 ++ ms1.flatten ++ lowL q2 4 ++ ms2.flatten ++ lowL q3 4) ∧ Fr base w w7 ∧ Bk w7 w.heap.size 70 #[.int .i64 n0, .slice A1 q1 c1, .slice A2 q2 c2, .slice A3 q3 c3, .int .i64 n4] from ⟨by first | exact ho | simpa only [List.append_assoc] using ho, H6.out.2.1.trans hf, H6.out.2.2.fr (by decide) hf⟩)
          have hb7 : base ≤ w7.heap.size := Nat.le_trans hb6 hf.size
          clear ho hf d3
          have d3 := H7.out.2.2.cell (i := 3) (v := .slice A3 q3 c3) rfl
          go_wp2_with fail
          clear d3
          go_loopw [0, 55] (fun b i wr => ∃ j : Nat, j ≤ q3 ∧ i = .int .i64 (j : Int) ∧ Ob wr base b (l ++ numL n0 ++ lowL q1 4 ++ ms1.flatten ++ lowL q2 4 ++ ms2.flatten ++ lowL q3 4 ++ (ms3.take j).flatten) ∧ Fr base w wr ∧ Bk wr w.heap.size 70 #[.int .i64 n0, .slice A1 q1 c1, .slice A2 q2 c2, .slice A3 q3 c3, .int .i64 n4]) (fun _ i _ => q3 - (intOf i).toNat)
          case atStart => exact ⟨0, Nat.zero_le _, rfl, by simpa using H7.out.1, H7.out.2.1, H7.out.2.2⟩
          case round =>
            obtain ⟨j, hj, rfl, ho, hf, hkb⟩ := hrel
            obtain ⟨SA8, SQ8, SC8, rfl⟩ := ho.shape
            have HR := Lib.hid (And.intro ho (And.intro hf hkb))
            have hbr : base ≤ wr.heap.size := Nat.le_trans hb hf.size
            by_cases hlt : j < q3
            · obtain ⟨b', o', rfl, hb', hits⟩ := L3.out.2 (by omega)
              have it0 : At wr base (.pair .num (.pair .num (.pair (.list .num) (.list .num)))) b' (o' + j * Sch.sz (.pair .num (.pair .num (.pair (.list .num) (.list .num))))) (ms3.getD j []) := At.frs ⟨hb', hits j hlt⟩ hf hb
              have it : At wr base (.pair .num (.pair .num (.pair (.list .num) (.list .num)))) b' (o' + j * 4) (ms3.getD j []) := by simpa [Sch.sz] using it0
              have hle2 := flat_take_le ms3 j (by rw [L3.out.1]; exact hlt)
              have hft := flat_take ms3 j (by rw [L3.out.1]; exact hlt)
              clear it0 hits ho hf hkb
              obtain ⟨mm, hmm⟩ : ∃ mm, ms3.getD j [] = mm := ⟨_, rfl⟩
              rw [hmm] at it hle2 hft
              clear hmm
              obtain ⟨mx3_0, rx3_0, ax3_0, zx3_0, rfl⟩ := it.fst
              replace ax3_0 : At wr base .num b' (o' + j * 4) _ := ax3_0
              obtain ⟨nx3_0, kx3_0, rfl⟩ := ax3_0.num
              obtain ⟨mx3_1, rx3_1, ax3_1, zx3_1, rfl⟩ := zx3_0.fst
              replace ax3_1 : At wr base .num b' (o' + j * 4 + 1) _ := ax3_1
              obtain ⟨nx3_1, kx3_1, rfl⟩ := ax3_1.num
              obtain ⟨mx3_2, rx3_2, ax3_2, zx3_2, rfl⟩ := zx3_1.fst
              replace ax3_2 : At wr base (.list .num) b' (o' + j * 4 + 2) _ := ax3_2
              obtain ⟨Ax3_2, qx3_2, cx3_2, dx3_2, kx3_2, hx3_2, rfl⟩ := ax3_2.lst
              have ax3_3 := zx3_2
              replace ax3_3 : At wr base (.list .num) b' (o' + j * 4 + 3) _ := ax3_3
              obtain ⟨Ax3_3, qx3_3, cx3_3, dx3_3, kx3_3, hx3_3, rfl⟩ := ax3_3.lst
              have HF := Lib.hid (And.intro hft hle2)
              have hj0 : (0 : Int) ≤ (j : Int) := by omega
              have hj1 : (j : Int) < (q3 : Int) := by omega
              clear hft hle2
              have Hx3_2 := Lib.hid hx3_2
              clear hx3_2
              have Hx3_3 := Lib.hid hx3_3
              clear hx3_3
              clear it ax3_0 zx3_0 ax3_1 zx3_1 ax3_2 zx3_2 ax3_3
              go_wp2_with fail
              refine (putBucket_r nx3_0 nx3_1 Ax3_2 qx3_2 cx3_2 _ Ax3_3 qx3_3 cx3_3 _ _ (by first | exact HR.out.1 | exact HR.out.1.alloc _) (by first | exact hbr | (simp; omega)) (by first | exact Hx3_2.out | exact Hx3_2.out.abs ((Ab.refl _).alloc _) hbr) (by first | exact Hx3_3.out | exact Hx3_3.out.abs ((Ab.refl _).alloc _) hbr) (by have := HL.out; have h2 := HF.out.2; simp at this h2 ⊢; omega)).mono ?_
              rintro e w9 ⟨v9, rfl, ho9, hf9⟩
              have H9 := Lib.hid (And.intro ho9 (show Fr base wr w9 from by first | exact hf9 | exact ((Fr.refl base wr).alloc _).trans hf9))
              clear ho9 hf9
              go_wp2_with fail
              go_roundw
              case rel => exact ⟨j + 1, by omega, by go_num, by rw [HF.out.1]; first | exact H9.out.1 | simpa only [List.append_assoc] using H9.out.1, HR.out.2.1.trans H9.out.2, HR.out.2.2.fr (by decide) H9.out.2⟩
              case measure => simp [intOf]; omega
            · have hjq : j = q3 := by omega
              have htk : ms3.take j = ms3 := List.take_of_length_le (by rw [L3.out.1, hjq]; exact Nat.le_refl _)
              rw [htk] at ho
              have H8 := Lib.hid (show Ob wr base _ (l ++ numL n0 ++ lowL q1 4 ++ ms1.flatten ++ lowL q2 4 ++ ms2.flatten ++ lowL q3 4 ++ ms3.flatten) ∧ Fr base w wr ∧ Bk wr w.heap.size 70 #[.int .i64 n0, .slice A1 q1 c1, .slice A2 q2 c2, .slice A3 q3 c3, .int .i64 n4] from ⟨by first | exact ho | simpa only [List.append_assoc] using ho, hf, hkb⟩)
              have hb8 := hbr
              obtain ⟨w8, hw8⟩ : ∃ w8, wr = w8 := ⟨_, rfl⟩
              subst hw8
              clear ho hf hkb HR htk
              have d4 := H8.out.2.2.cell (i := 4) (v := .int .i64 n4) rfl
              go_wp2_with fail
              refine (rint_w n4 _ H8.out.1 hb8 (by have := HL.out; simp at this ⊢; omega)).mono ?_
              rintro e w9 ⟨v9, rfl, ho, hf⟩
              obtain ⟨SA9, SQ9, SC9, rfl⟩ := ho.shape
              have H9 := Lib.hid (show Ob w9 base _ (l ++ numL n0 ++ lowL q1 4 ++ ms1.flatten ++ lowL q2 4 ++ ms2.flatten ++ lowL q3 4 ++ ms3.flatten ++ numL n4) ∧ Fr base w w9 ∧ Bk w9 w.heap.size 70 #[.int .i64 n0, .slice A1 q1 c1, .slice A2 q2 c2, .slice A3 q3 c3, .int .i64 n4] from ⟨by first | exact ho | simpa only [List.append_assoc] using ho, H8.out.2.1.trans hf, H8.out.2.2.fr (by decide) hf⟩)
              have hb9 : base ≤ w9.heap.size := Nat.le_trans hb8 hf.size
              clear ho hf d4
              go_wp2_with fail
              go_ret
              exact ⟨.slice SA9 SQ9 SC9, rfl, (by have hz := H9.out.1; simp only [List.append_assoc] at hz ⊢; exact hz), H9.out.2.1⟩
set_option maxRecDepth 100000 in
set_option maxHeartbeats 4000000 in
theorem putChange_r (n0 : Int) (n1 : Int) (n2 : Int) (n3_0 : Int) (n3_1 : Int) (n3_2 : Int) (n3_3 : Int) (n4_0 : Int) (n4_1 : Int) (A4_2 : Option Addr) (q4_2 c4_2 : Nat) (d4_2 : List UInt8) (A4_3 : Option Addr) (q4_3 c4_3 : Nat) (d4_3 : List UInt8) (w : World) (h : Ob w base v l) (hb : base ≤ w.heap.size) (h4_2 : EncF w base (.list .num) (fun _ => some (.slice A4_2 q4_2 c4_2)) d4_2) (h4_3 : EncF w base (.list .num) (fun _ => some (.slice A4_3 q4_3 c4_3)) d4_3) (hl : l.length + ((numL n0 ++ (numL n1 ++ (numL n2 ++ ((numL n3_0 ++ (numL n3_1 ++ (numL n3_2 ++ numL n3_3))) ++ (numL n4_0 ++ (numL n4_1 ++ (d4_2 ++ d4_3)))))))).length ≤ 130000000000000) :
    Calls Tryz.prog 84 #[v, .agg #[.int .i64 n0, .int .i64 n1, .int .i64 n2, .int .i64 n3_0, .int .i64 n3_1, .int .i64 n3_2, .int .i64 n3_3, .int .i64 n4_0, .int .i64 n4_1, .slice A4_2 q4_2 c4_2, .slice A4_3 q4_3 c4_3]] w (PtPost w base l ((numL n0 ++ (numL n1 ++ (numL n2 ++ ((numL n3_0 ++ (numL n3_1 ++ (numL n3_2 ++ numL n3_3))) ++ (numL n4_0 ++ (numL n4_1 ++ (d4_2 ++ d4_3))))))))) := by
  obtain ⟨SA1, SQ1, SC1, rfl⟩ := h.shape
  have H1 := Lib.hid (And.intro (h.alloc (.cells #[.int .i64 n0, .int .i64 n1, .int .i64 n2, .int .i64 n3_0, .int .i64 n3_1, .int .i64 n3_2, .int .i64 n3_3, .int .i64 n4_0, .int .i64 n4_1, .slice A4_2 q4_2 c4_2, .slice A4_3 q4_3 c4_3] 161)) (And.intro ((Fr.refl base w).alloc (.cells #[.int .i64 n0, .int .i64 n1, .int .i64 n2, .int .i64 n3_0, .int .i64 n3_1, .int .i64 n3_2, .int .i64 n3_3, .int .i64 n4_0, .int .i64 n4_1, .slice A4_2 q4_2 c4_2, .slice A4_3 q4_3 c4_3] 161)) (Bk.made w 161 #[.int .i64 n0, .int .i64 n1, .int .i64 n2, .int .i64 n3_0, .int .i64 n3_1, .int .i64 n3_2, .int .i64 n3_3, .int .i64 n4_0, .int .i64 n4_1, .slice A4_2 q4_2 c4_2, .slice A4_3 q4_3 c4_3])))
  have hb1 : base ≤ (w.alloc (.cells #[.int .i64 n0, .int .i64 n1, .int .i64 n2, .int .i64 n3_0, .int .i64 n3_1, .int .i64 n3_2, .int .i64 n3_3, .int .i64 n4_0, .int .i64 n4_1, .slice A4_2 q4_2 c4_2, .slice A4_3 q4_3 c4_3] 161)).heap.size := by simp; omega
  obtain ⟨B4_2, n4_2, x4_2, ms4_2, y4_2, g4_2, i4_2, j4_2, p4_2, rfl⟩ := h4_2
  injection y4_2 with y4_2
  injection y4_2 with ya4_2 yb4_2 yc4_2
  subst ya4_2 yb4_2 yc4_2
  have L4_2 := Lib.hid (And.intro j4_2 p4_2)
  have qq4_2 : q4_2 ≤ 9223372036854775807 := by omega
  clear j4_2 p4_2
  obtain ⟨B4_3, n4_3, x4_3, ms4_3, y4_3, g4_3, i4_3, j4_3, p4_3, rfl⟩ := h4_3
  injection y4_3 with y4_3
  injection y4_3 with ya4_3 yb4_3 yc4_3
  subst ya4_3 yb4_3 yc4_3
  have L4_3 := Lib.hid (And.intro j4_3 p4_3)
  have qq4_3 : q4_3 ≤ 9223372036854775807 := by omega
  clear j4_3 p4_3
  have HL := Lib.hid hl
  clear h hl
  go_enter Tryz.func84, Tryz.ntmps84
  have d0 := H1.out.2.2.cell (i := 0) (v := .int .i64 n0) rfl
  go_wp2_with fail
  refine (rint_w n0 _ H1.out.1 hb1 (by have := HL.out; simp at this ⊢; omega)).mono ?_
  rintro e w2 ⟨v2, rfl, ho, hf⟩
  obtain ⟨SA2, SQ2, SC2, rfl⟩ := ho.shape
  have H2 := Lib.hid (show Ob w2 base _ (l ++ numL n0) ∧ Fr base w w2 ∧ Bk w2 w.heap.size 161 #[.int .i64 n0, .int .i64 n1, .int .i64 n2, .int .i64 n3_0, .int .i64 n3_1, .int .i64 n3_2, .int .i64 n3_3, .int .i64 n4_0, .int .i64 n4_1, .slice A4_2 q4_2 c4_2, .slice A4_3 q4_3 c4_3] from ⟨by first | exact ho | simpa only [List.append_assoc] using ho, H1.out.2.1.trans hf, H1.out.2.2.fr (by decide) hf⟩)
  have hb2 : base ≤ w2.heap.size := Nat.le_trans hb1 hf.size
  clear ho hf d0
  have d1 := H2.out.2.2.cell (i := 1) (v := .int .i64 n1) rfl
  go_wp2_with fail
  refine (rint_w n1 _ H2.out.1 hb2 (by have := HL.out; simp at this ⊢; omega)).mono ?_
  rintro e w3 ⟨v3, rfl, ho, hf⟩
  obtain ⟨SA3, SQ3, SC3, rfl⟩ := ho.shape
  have H3 := Lib.hid (show Ob w3 base _ (l ++ numL n0 ++ numL n1) ∧ Fr base w w3 ∧ Bk w3 w.heap.size 161 #[.int .i64 n0, .int .i64 n1, .int .i64 n2, .int .i64 n3_0, .int .i64 n3_1, .int .i64 n3_2, .int .i64 n3_3, .int .i64 n4_0, .int .i64 n4_1, .slice A4_2 q4_2 c4_2, .slice A4_3 q4_3 c4_3] from ⟨by first | exact ho | simpa only [List.append_assoc] using ho, H2.out.2.1.trans hf, H2.out.2.2.fr (by decide) hf⟩)
  have hb3 : base ≤ w3.heap.size := Nat.le_trans hb2 hf.size
  clear ho hf d1
  have d2 := H3.out.2.2.cell (i := 2) (v := .int .i64 n2) rfl
  go_wp2_with fail
  refine (rint_w n2 _ H3.out.1 hb3 (by have := HL.out; simp at this ⊢; omega)).mono ?_
  rintro e w4 ⟨v4, rfl, ho, hf⟩
  obtain ⟨SA4, SQ4, SC4, rfl⟩ := ho.shape
  have H4 := Lib.hid (show Ob w4 base _ (l ++ numL n0 ++ numL n1 ++ numL n2) ∧ Fr base w w4 ∧ Bk w4 w.heap.size 161 #[.int .i64 n0, .int .i64 n1, .int .i64 n2, .int .i64 n3_0, .int .i64 n3_1, .int .i64 n3_2, .int .i64 n3_3, .int .i64 n4_0, .int .i64 n4_1, .slice A4_2 q4_2 c4_2, .slice A4_3 q4_3 c4_3] from ⟨by first | exact ho | simpa only [List.append_assoc] using ho, H3.out.2.1.trans hf, H3.out.2.2.fr (by decide) hf⟩)
  have hb4 : base ≤ w4.heap.size := Nat.le_trans hb3 hf.size
  clear ho hf d2
  have d3 := H4.out.2.2.cell (i := 3) (v := .int .i64 n3_0) rfl
  have d4 := H4.out.2.2.cell (i := 4) (v := .int .i64 n3_1) rfl
  have d5 := H4.out.2.2.cell (i := 5) (v := .int .i64 n3_2) rfl
  have d6 := H4.out.2.2.cell (i := 6) (v := .int .i64 n3_3) rfl
  go_wp2_with fail
  refine (putPool_r n3_0 n3_1 n3_2 n3_3 _ H4.out.1 hb4 (by have := HL.out; simp at this ⊢; omega)).mono ?_
  rintro e w5 ⟨v5, rfl, ho, hf⟩
  obtain ⟨SA5, SQ5, SC5, rfl⟩ := ho.shape
  have H5 := Lib.hid (show Ob w5 base _ (l ++ numL n0 ++ numL n1 ++ numL n2 ++ (numL n3_0 ++ (numL n3_1 ++ (numL n3_2 ++ numL n3_3)))) ∧ Fr base w w5 ∧ Bk w5 w.heap.size 161 #[.int .i64 n0, .int .i64 n1, .int .i64 n2, .int .i64 n3_0, .int .i64 n3_1, .int .i64 n3_2, .int .i64 n3_3, .int .i64 n4_0, .int .i64 n4_1, .slice A4_2 q4_2 c4_2, .slice A4_3 q4_3 c4_3] from ⟨by first | exact ho | simpa only [List.append_assoc] using ho, H4.out.2.1.trans hf, H4.out.2.2.fr (by decide) hf⟩)
  have hb5 : base ≤ w5.heap.size := Nat.le_trans hb4 hf.size
  clear ho hf d3 d4 d5 d6
  have d7 := H5.out.2.2.cell (i := 7) (v := .int .i64 n4_0) rfl
  have d8 := H5.out.2.2.cell (i := 8) (v := .int .i64 n4_1) rfl
  have d9 := H5.out.2.2.cell (i := 9) (v := .slice A4_2 q4_2 c4_2) rfl
  have d10 := H5.out.2.2.cell (i := 10) (v := .slice A4_3 q4_3 c4_3) rfl
  go_wp2_with fail
  refine (putBucket_r n4_0 n4_1 A4_2 q4_2 c4_2 _ A4_3 q4_3 c4_3 _ _ H5.out.1 hb5 (encF_list L4_2.out g4_2 i4_2 H5.out.2.1 hb) (encF_list L4_3.out g4_3 i4_3 H5.out.2.1 hb) (by have := HL.out; simp at this ⊢; omega)).mono ?_
  rintro e w6 ⟨v6, rfl, ho, hf⟩
  obtain ⟨SA6, SQ6, SC6, rfl⟩ := ho.shape
  have H6 := Lib.hid (show Ob w6 base _ (l ++ numL n0 ++ numL n1 ++ numL n2 ++ (numL n3_0 ++ (numL n3_1 ++ (numL n3_2 ++ numL n3_3))) ++ (numL n4_0 ++ (numL n4_1 ++ ((lowL q4_2 4 ++ ms4_2.flatten) ++ (lowL q4_3 4 ++ ms4_3.flatten))))) ∧ Fr base w w6 ∧ Bk w6 w.heap.size 161 #[.int .i64 n0, .int .i64 n1, .int .i64 n2, .int .i64 n3_0, .int .i64 n3_1, .int .i64 n3_2, .int .i64 n3_3, .int .i64 n4_0, .int .i64 n4_1, .slice A4_2 q4_2 c4_2, .slice A4_3 q4_3 c4_3] from ⟨by first | exact ho | simpa only [List.append_assoc] using ho, H5.out.2.1.trans hf, H5.out.2.2.fr (by decide) hf⟩)
  have hb6 : base ≤ w6.heap.size := Nat.le_trans hb5 hf.size
  clear ho hf d7 d8 d9 d10
  go_wp2_with fail
  go_ret
  exact ⟨.slice SA6 SQ6 SC6, rfl, (by have hz := H6.out.1; simp only [List.append_assoc] at hz ⊢; exact hz), H6.out.2.1⟩
set_option maxRecDepth 100000 in
set_option maxHeartbeats 4000000 in
theorem putInc_r (n0 : Int) (A1 : Option Addr) (q1 c1 : Nat) (d1 : List UInt8) (w : World) (h : Ob w base v l) (hb : base ≤ w.heap.size) (h1 : EncF w base (.list (.pair .num (.pair .num (.pair .num (.pair (.pair .num (.pair .num (.pair .num .num))) (.pair .num (.pair .num (.pair (.list .num) (.list .num))))))))) (fun _ => some (.slice A1 q1 c1)) d1) (hl : l.length + ((numL n0 ++ d1)).length ≤ 130000000000000) :
    Calls Tryz.prog 43 #[v, .agg #[.int .i64 n0, .slice A1 q1 c1]] w (PtPost w base l ((numL n0 ++ d1))) := by
  obtain ⟨SA1, SQ1, SC1, rfl⟩ := h.shape
  have H1 := Lib.hid (And.intro (h.alloc (.cells #[.int .i64 n0, .slice A1 q1 c1] 60)) (And.intro ((Fr.refl base w).alloc (.cells #[.int .i64 n0, .slice A1 q1 c1] 60)) (Bk.made w 60 #[.int .i64 n0, .slice A1 q1 c1])))
  have hb1 : base ≤ (w.alloc (.cells #[.int .i64 n0, .slice A1 q1 c1] 60)).heap.size := by simp; omega
  obtain ⟨B1, n1, x1, ms1, y1, g1, i1, j1, p1, rfl⟩ := h1
  injection y1 with y1
  injection y1 with ya1 yb1 yc1
  subst ya1 yb1 yc1
  have L1 := Lib.hid (And.intro j1 p1)
  have qq1 : q1 ≤ 9223372036854775807 := by omega
  clear j1 p1
  have HL := Lib.hid hl
  clear h hl
  go_enter Tryz.func43, Tryz.ntmps43
  have d0 := H1.out.2.2.cell (i := 0) (v := .int .i64 n0) rfl
  go_wp2_with fail
  refine (rint_w n0 _ H1.out.1 hb1 (by have := HL.out; simp at this ⊢; omega)).mono ?_
  rintro e w2 ⟨v2, rfl, ho, hf⟩
  obtain ⟨SA2, SQ2, SC2, rfl⟩ := ho.shape
  have H2 := Lib.hid (show Ob w2 base _ (l ++ numL n0) ∧ Fr base w w2 ∧ Bk w2 w.heap.size 60 #[.int .i64 n0, .slice A1 q1 c1] from ⟨by first | exact ho | simpa only [List.append_assoc] using ho, H1.out.2.1.trans hf, H1.out.2.2.fr (by decide) hf⟩)
  have hb2 : base ≤ w2.heap.size := Nat.le_trans hb1 hf.size
  clear ho hf d0
  have d1 := H2.out.2.2.cell (i := 1) (v := .slice A1 q1 c1) rfl
  go_wp2_with fail
  refine (rcount_any q1 _ H2.out.1 hb2 (by have := HL.out; simp at this ⊢; omega)).mono ?_
  rintro e w3 ⟨v3, rfl, ho, hf⟩
  obtain ⟨SA3, SQ3, SC3, rfl⟩ := ho.shape
  have H3 := Lib.hid (show Ob w3 base _ (l ++ numL n0 ++ lowL q1 4) ∧ Fr base w w3 ∧ Bk w3 w.heap.size 60 #[.int .i64 n0, .slice A1 q1 c1] from ⟨by first | exact ho | simpa only [List.append_assoc] using ho, H2.out.2.1.trans hf, H2.out.2.2.fr (by decide) hf⟩)
  have hb3 : base ≤ w3.heap.size := Nat.le_trans hb2 hf.size
  clear ho hf d1
  have d1 := H3.out.2.2.cell (i := 1) (v := .slice A1 q1 c1) rfl
  go_wp2_with fail
  clear d1
  go_loopw [0, 19] (fun b i wr => ∃ j : Nat, j ≤ q1 ∧ i = .int .i64 (j : Int) ∧ Ob wr base b (l ++ numL n0 ++ lowL q1 4 ++ (ms1.take j).flatten) ∧ Fr base w wr ∧ Bk wr w.heap.size 60 #[.int .i64 n0, .slice A1 q1 c1]) (fun _ i _ => q1 - (intOf i).toNat)
  case atStart => exact ⟨0, Nat.zero_le _, rfl, by simpa using H3.out.1, H3.out.2.1, H3.out.2.2⟩
  case round =>
    obtain ⟨j, hj, rfl, ho, hf, hkb⟩ := hrel
    obtain ⟨SA4, SQ4, SC4, rfl⟩ := ho.shape
    have HR := Lib.hid (And.intro ho (And.intro hf hkb))
    have hbr : base ≤ wr.heap.size := Nat.le_trans hb hf.size
    by_cases hlt : j < q1
    · obtain ⟨b', o', rfl, hb', hits⟩ := L1.out.2 (by omega)
      have it0 : At wr base (.pair .num (.pair .num (.pair .num (.pair (.pair .num (.pair .num (.pair .num .num))) (.pair .num (.pair .num (.pair (.list .num) (.list .num)))))))) b' (o' + j * Sch.sz (.pair .num (.pair .num (.pair .num (.pair (.pair .num (.pair .num (.pair .num .num))) (.pair .num (.pair .num (.pair (.list .num) (.list .num))))))))) (ms1.getD j []) := At.frs ⟨hb', hits j hlt⟩ hf hb
      have it : At wr base (.pair .num (.pair .num (.pair .num (.pair (.pair .num (.pair .num (.pair .num .num))) (.pair .num (.pair .num (.pair (.list .num) (.list .num)))))))) b' (o' + j * 11) (ms1.getD j []) := by simpa [Sch.sz] using it0
      have hle2 := flat_take_le ms1 j (by rw [L1.out.1]; exact hlt)
      have hft := flat_take ms1 j (by rw [L1.out.1]; exact hlt)
      clear it0 hits ho hf hkb
      obtain ⟨mm, hmm⟩ : ∃ mm, ms1.getD j [] = mm := ⟨_, rfl⟩
      rw [hmm] at it hle2 hft
      clear hmm
      obtain ⟨mx1_0, rx1_0, ax1_0, zx1_0, rfl⟩ := it.fst
      replace ax1_0 : At wr base .num b' (o' + j * 11) _ := ax1_0
      obtain ⟨nx1_0, kx1_0, rfl⟩ := ax1_0.num
      obtain ⟨mx1_1, rx1_1, ax1_1, zx1_1, rfl⟩ := zx1_0.fst
      replace ax1_1 : At wr base .num b' (o' + j * 11 + 1) _ := ax1_1
      obtain ⟨nx1_1, kx1_1, rfl⟩ := ax1_1.num
      obtain ⟨mx1_2, rx1_2, ax1_2, zx1_2, rfl⟩ := zx1_1.fst
      replace ax1_2 : At wr base .num b' (o' + j * 11 + 2) _ := ax1_2
      obtain ⟨nx1_2, kx1_2, rfl⟩ := ax1_2.num
      obtain ⟨mx1_3, rx1_3, ax1_3, zx1_3, rfl⟩ := zx1_2.fst
      replace ax1_3 : At wr base (.pair .num (.pair .num (.pair .num .num))) b' (o' + j * 11 + 3) _ := ax1_3
      obtain ⟨mx1_3_0, rx1_3_0, ax1_3_0, zx1_3_0, rfl⟩ := ax1_3.fst
      replace ax1_3_0 : At wr base .num b' (o' + j * 11 + 3) _ := ax1_3_0
      obtain ⟨nx1_3_0, kx1_3_0, rfl⟩ := ax1_3_0.num
      obtain ⟨mx1_3_1, rx1_3_1, ax1_3_1, zx1_3_1, rfl⟩ := zx1_3_0.fst
      replace ax1_3_1 : At wr base .num b' (o' + j * 11 + 3 + 1) _ := ax1_3_1
      obtain ⟨nx1_3_1, kx1_3_1, rfl⟩ := ax1_3_1.num
      obtain ⟨mx1_3_2, rx1_3_2, ax1_3_2, zx1_3_2, rfl⟩ := zx1_3_1.fst
      replace ax1_3_2 : At wr base .num b' (o' + j * 11 + 3 + 2) _ := ax1_3_2
      obtain ⟨nx1_3_2, kx1_3_2, rfl⟩ := ax1_3_2.num
      have ax1_3_3 := zx1_3_2
      replace ax1_3_3 : At wr base .num b' (o' + j * 11 + 3 + 3) _ := ax1_3_3
      obtain ⟨nx1_3_3, kx1_3_3, rfl⟩ := ax1_3_3.num
      have ax1_4 := zx1_3
      replace ax1_4 : At wr base (.pair .num (.pair .num (.pair (.list .num) (.list .num)))) b' (o' + j * 11 + 7) _ := ax1_4
      obtain ⟨mx1_4_0, rx1_4_0, ax1_4_0, zx1_4_0, rfl⟩ := ax1_4.fst
      replace ax1_4_0 : At wr base .num b' (o' + j * 11 + 7) _ := ax1_4_0
      obtain ⟨nx1_4_0, kx1_4_0, rfl⟩ := ax1_4_0.num
      obtain ⟨mx1_4_1, rx1_4_1, ax1_4_1, zx1_4_1, rfl⟩ := zx1_4_0.fst
      replace ax1_4_1 : At wr base .num b' (o' + j * 11 + 7 + 1) _ := ax1_4_1
      obtain ⟨nx1_4_1, kx1_4_1, rfl⟩ := ax1_4_1.num
      obtain ⟨mx1_4_2, rx1_4_2, ax1_4_2, zx1_4_2, rfl⟩ := zx1_4_1.fst
      replace ax1_4_2 : At wr base (.list .num) b' (o' + j * 11 + 7 + 2) _ := ax1_4_2
      obtain ⟨Ax1_4_2, qx1_4_2, cx1_4_2, dx1_4_2, kx1_4_2, hx1_4_2, rfl⟩ := ax1_4_2.lst
      have ax1_4_3 := zx1_4_2
      replace ax1_4_3 : At wr base (.list .num) b' (o' + j * 11 + 7 + 3) _ := ax1_4_3
      obtain ⟨Ax1_4_3, qx1_4_3, cx1_4_3, dx1_4_3, kx1_4_3, hx1_4_3, rfl⟩ := ax1_4_3.lst
      have HF := Lib.hid (And.intro hft hle2)
      have hj0 : (0 : Int) ≤ (j : Int) := by omega
      have hj1 : (j : Int) < (q1 : Int) := by omega
      clear hft hle2
      have Hx1_4_2 := Lib.hid hx1_4_2
      clear hx1_4_2
      have Hx1_4_3 := Lib.hid hx1_4_3
      clear hx1_4_3
      clear it ax1_0 zx1_0 ax1_1 zx1_1 ax1_2 zx1_2 ax1_3 zx1_3 ax1_3_0 zx1_3_0 ax1_3_1 zx1_3_1 ax1_3_2 zx1_3_2 ax1_3_3 ax1_4 ax1_4_0 zx1_4_0 ax1_4_1 zx1_4_1 ax1_4_2 zx1_4_2 ax1_4_3
      go_wp2_with fail
      refine (putChange_r nx1_0 nx1_1 nx1_2 nx1_3_0 nx1_3_1 nx1_3_2 nx1_3_3 nx1_4_0 nx1_4_1 Ax1_4_2 qx1_4_2 cx1_4_2 _ Ax1_4_3 qx1_4_3 cx1_4_3 _ _ (by first | exact HR.out.1 | exact HR.out.1.alloc _) (by first | exact hbr | (simp; omega)) (by first | exact Hx1_4_2.out | exact Hx1_4_2.out.abs ((Ab.refl _).alloc _) hbr) (by first | exact Hx1_4_3.out | exact Hx1_4_3.out.abs ((Ab.refl _).alloc _) hbr) (by have := HL.out; have h2 := HF.out.2; simp at this h2 ⊢; omega)).mono ?_
      rintro e w9 ⟨v9, rfl, ho9, hf9⟩
      have H9 := Lib.hid (And.intro ho9 (show Fr base wr w9 from by first | exact hf9 | exact ((Fr.refl base wr).alloc _).trans hf9))
      clear ho9 hf9
      go_wp2_with fail
      go_roundw
      case rel => exact ⟨j + 1, by omega, by go_num, by rw [HF.out.1]; first | exact H9.out.1 | simpa only [List.append_assoc] using H9.out.1, HR.out.2.1.trans H9.out.2, HR.out.2.2.fr (by decide) H9.out.2⟩
      case measure => simp [intOf]; omega
    · have hjq : j = q1 := by omega
      have htk : ms1.take j = ms1 := List.take_of_length_le (by rw [L1.out.1, hjq]; exact Nat.le_refl _)
      rw [htk] at ho
      have H4 := Lib.hid (show Ob wr base _ (l ++ numL n0 ++ lowL q1 4 ++ ms1.flatten) ∧ Fr base w wr ∧ Bk wr w.heap.size 60 #[.int .i64 n0, .slice A1 q1 c1] from ⟨by first | exact ho | simpa only [List.append_assoc] using ho, hf, hkb⟩)
      have hb4 := hbr
      obtain ⟨w4, hw4⟩ : ∃ w4, wr = w4 := ⟨_, rfl⟩
      subst hw4
      clear ho hf hkb HR htk
      go_wp2_with fail
      go_ret
      exact ⟨.slice SA4 SQ4 SC4, rfl, (by have hz := H4.out.1; simp only [List.append_assoc] at hz ⊢; exact hz), H4.out.2.1⟩
set_option maxRecDepth 100000 in
set_option maxHeartbeats 4000000 in
theorem putEntry_r (n0_0 : Int) (n0_1 : Int) (t1 : Bool) (n2 : Int) (s3 : ByteArray) (n4 : Int) (n5 : Int) (w : World) (h : Ob w base v l) (hb : base ≤ w.heap.size) (hl : l.length + (((numL n0_0 ++ numL n0_1) ++ (boolL t1 ++ (numL n2 ++ (textL s3.data.toList ++ (numL n4 ++ numL n5)))))).length ≤ 130000000000000) :
    Calls Tryz.prog 86 #[v, .agg #[.int .i64 n0_0, .int .i64 n0_1, .bool t1, .int .i64 n2, .string s3, .int .i64 n4, .int .i64 n5]] w (PtPost w base l (((numL n0_0 ++ numL n0_1) ++ (boolL t1 ++ (numL n2 ++ (textL s3.data.toList ++ (numL n4 ++ numL n5))))))) := by
  obtain ⟨SA1, SQ1, SC1, rfl⟩ := h.shape
  have H1 := Lib.hid (And.intro (h.alloc (.cells #[.int .i64 n0_0, .int .i64 n0_1, .bool t1, .int .i64 n2, .string s3, .int .i64 n4, .int .i64 n5] 40)) (And.intro ((Fr.refl base w).alloc (.cells #[.int .i64 n0_0, .int .i64 n0_1, .bool t1, .int .i64 n2, .string s3, .int .i64 n4, .int .i64 n5] 40)) (Bk.made w 40 #[.int .i64 n0_0, .int .i64 n0_1, .bool t1, .int .i64 n2, .string s3, .int .i64 n4, .int .i64 n5])))
  have hb1 : base ≤ (w.alloc (.cells #[.int .i64 n0_0, .int .i64 n0_1, .bool t1, .int .i64 n2, .string s3, .int .i64 n4, .int .i64 n5] 40)).heap.size := by simp; omega
  have HL := Lib.hid hl
  clear h hl
  go_enter Tryz.func86, Tryz.ntmps86
  have d0 := H1.out.2.2.cell (i := 0) (v := .int .i64 n0_0) rfl
  have d1 := H1.out.2.2.cell (i := 1) (v := .int .i64 n0_1) rfl
  go_wp2_with fail
  refine (putVersion_r n0_0 n0_1 _ H1.out.1 hb1 (by have := HL.out; simp at this ⊢; omega)).mono ?_
  rintro e w2 ⟨v2, rfl, ho, hf⟩
  obtain ⟨SA2, SQ2, SC2, rfl⟩ := ho.shape
  have H2 := Lib.hid (show Ob w2 base _ (l ++ (numL n0_0 ++ numL n0_1)) ∧ Fr base w w2 ∧ Bk w2 w.heap.size 40 #[.int .i64 n0_0, .int .i64 n0_1, .bool t1, .int .i64 n2, .string s3, .int .i64 n4, .int .i64 n5] from ⟨by first | exact ho | simpa only [List.append_assoc] using ho, H1.out.2.1.trans hf, H1.out.2.2.fr (by decide) hf⟩)
  have hb2 : base ≤ w2.heap.size := Nat.le_trans hb1 hf.size
  clear ho hf d0 d1
  have d2 := H2.out.2.2.cell (i := 2) (v := .bool t1) rfl
  go_wp2_with fail
  refine (rbool_b t1 _ H2.out.1 hb2 (by have := HL.out; simp at this ⊢; omega)).mono ?_
  rintro e w3 ⟨v3, rfl, ho, hf⟩
  obtain ⟨SA3, SQ3, SC3, rfl⟩ := ho.shape
  have H3 := Lib.hid (show Ob w3 base _ (l ++ (numL n0_0 ++ numL n0_1) ++ boolL t1) ∧ Fr base w w3 ∧ Bk w3 w.heap.size 40 #[.int .i64 n0_0, .int .i64 n0_1, .bool t1, .int .i64 n2, .string s3, .int .i64 n4, .int .i64 n5] from ⟨by first | exact ho | simpa only [List.append_assoc] using ho, H2.out.2.1.trans hf, H2.out.2.2.fr (by decide) hf⟩)
  have hb3 : base ≤ w3.heap.size := Nat.le_trans hb2 hf.size
  clear ho hf d2
  have d3 := H3.out.2.2.cell (i := 3) (v := .int .i64 n2) rfl
  go_wp2_with fail
  refine (rint_w n2 _ H3.out.1 hb3 (by have := HL.out; simp at this ⊢; omega)).mono ?_
  rintro e w4 ⟨v4, rfl, ho, hf⟩
  obtain ⟨SA4, SQ4, SC4, rfl⟩ := ho.shape
  have H4 := Lib.hid (show Ob w4 base _ (l ++ (numL n0_0 ++ numL n0_1) ++ boolL t1 ++ numL n2) ∧ Fr base w w4 ∧ Bk w4 w.heap.size 40 #[.int .i64 n0_0, .int .i64 n0_1, .bool t1, .int .i64 n2, .string s3, .int .i64 n4, .int .i64 n5] from ⟨by first | exact ho | simpa only [List.append_assoc] using ho, H3.out.2.1.trans hf, H3.out.2.2.fr (by decide) hf⟩)
  have hb4 : base ≤ w4.heap.size := Nat.le_trans hb3 hf.size
  clear ho hf d3
  have d4 := H4.out.2.2.cell (i := 4) (v := .string s3) rfl
  obtain ⟨Ac, cc, w5, hcv, hbs, hab⟩ := conv_text s3 (by have := HL.out; simp at this; omega) w4
  have H5 := Lib.hid (And.intro (H4.out.1.ab hab) (And.intro (H4.out.2.1.trans (Fr.of_ab hab)) (hab.bk H4.out.2.2)))
  have hb5 : base ≤ w5.heap.size := Nat.le_trans hb4 hab.size
  have HBS := Lib.hid hbs
  clear hbs hab
  go_wp2_with fail
  refine (rbytes_w _ s3.data.toList _ _ HBS.out H5.out.1 hb5 (by have := HL.out; simp at this ⊢; omega)).mono ?_
  rintro e w6 ⟨v6, rfl, ho, hf⟩
  obtain ⟨SA6, SQ6, SC6, rfl⟩ := ho.shape
  have H6 := Lib.hid (show Ob w6 base _ (l ++ (numL n0_0 ++ numL n0_1) ++ boolL t1 ++ numL n2 ++ textL s3.data.toList) ∧ Fr base w w6 ∧ Bk w6 w.heap.size 40 #[.int .i64 n0_0, .int .i64 n0_1, .bool t1, .int .i64 n2, .string s3, .int .i64 n4, .int .i64 n5] from ⟨by first | exact ho | simpa only [List.append_assoc] using ho, H5.out.2.1.trans hf, H5.out.2.2.fr (by decide) hf⟩)
  have hb6 : base ≤ w6.heap.size := Nat.le_trans hb5 hf.size
  clear ho hf d4 hcv HBS
  have d5 := H6.out.2.2.cell (i := 5) (v := .int .i64 n4) rfl
  go_wp2_with fail
  refine (rint_w n4 _ H6.out.1 hb6 (by have := HL.out; simp at this ⊢; omega)).mono ?_
  rintro e w7 ⟨v7, rfl, ho, hf⟩
  obtain ⟨SA7, SQ7, SC7, rfl⟩ := ho.shape
  have H7 := Lib.hid (show Ob w7 base _ (l ++ (numL n0_0 ++ numL n0_1) ++ boolL t1 ++ numL n2 ++ textL s3.data.toList ++ numL n4) ∧ Fr base w w7 ∧ Bk w7 w.heap.size 40 #[.int .i64 n0_0, .int .i64 n0_1, .bool t1, .int .i64 n2, .string s3, .int .i64 n4, .int .i64 n5] from ⟨by first | exact ho | simpa only [List.append_assoc] using ho, H6.out.2.1.trans hf, H6.out.2.2.fr (by decide) hf⟩)
  have hb7 : base ≤ w7.heap.size := Nat.le_trans hb6 hf.size
  clear ho hf d5
  have d6 := H7.out.2.2.cell (i := 6) (v := .int .i64 n5) rfl
  go_wp2_with fail
  refine (rint_w n5 _ H7.out.1 hb7 (by have := HL.out; simp at this ⊢; omega)).mono ?_
  rintro e w8 ⟨v8, rfl, ho, hf⟩
  obtain ⟨SA8, SQ8, SC8, rfl⟩ := ho.shape
  have H8 := Lib.hid (show Ob w8 base _ (l ++ (numL n0_0 ++ numL n0_1) ++ boolL t1 ++ numL n2 ++ textL s3.data.toList ++ numL n4 ++ numL n5) ∧ Fr base w w8 ∧ Bk w8 w.heap.size 40 #[.int .i64 n0_0, .int .i64 n0_1, .bool t1, .int .i64 n2, .string s3, .int .i64 n4, .int .i64 n5] from ⟨by first | exact ho | simpa only [List.append_assoc] using ho, H7.out.2.1.trans hf, H7.out.2.2.fr (by decide) hf⟩)
  have hb8 : base ≤ w8.heap.size := Nat.le_trans hb7 hf.size
  clear ho hf d6
  go_wp2_with fail
  go_ret
  exact ⟨.slice SA8 SQ8 SC8, rfl, (by have hz := H8.out.1; simp only [List.append_assoc] at hz ⊢; exact hz), H8.out.2.1⟩
set_option maxRecDepth 100000 in
set_option maxHeartbeats 4000000 in
theorem putLast_r (n0 : Int) (n1 : Int) (n2 : Int) (n3_0 : Int) (n3_1 : Int) (w : World) (h : Ob w base v l) (hb : base ≤ w.heap.size) (hl : l.length + ((numL n0 ++ (numL n1 ++ (numL n2 ++ (numL n3_0 ++ numL n3_1))))).length ≤ 130000000000000) :
    Calls Tryz.prog 128 #[v, .agg #[.int .i64 n0, .int .i64 n1, .int .i64 n2, .int .i64 n3_0, .int .i64 n3_1]] w (PtPost w base l ((numL n0 ++ (numL n1 ++ (numL n2 ++ (numL n3_0 ++ numL n3_1)))))) := by
  obtain ⟨SA1, SQ1, SC1, rfl⟩ := h.shape
  have H1 := Lib.hid (And.intro (h.alloc (.cells #[.int .i64 n0, .int .i64 n1, .int .i64 n2, .int .i64 n3_0, .int .i64 n3_1] 241)) (And.intro ((Fr.refl base w).alloc (.cells #[.int .i64 n0, .int .i64 n1, .int .i64 n2, .int .i64 n3_0, .int .i64 n3_1] 241)) (Bk.made w 241 #[.int .i64 n0, .int .i64 n1, .int .i64 n2, .int .i64 n3_0, .int .i64 n3_1])))
  have hb1 : base ≤ (w.alloc (.cells #[.int .i64 n0, .int .i64 n1, .int .i64 n2, .int .i64 n3_0, .int .i64 n3_1] 241)).heap.size := by simp; omega
  have HL := Lib.hid hl
  clear h hl
  go_enter Tryz.func128, Tryz.ntmps128
  have d0 := H1.out.2.2.cell (i := 0) (v := .int .i64 n0) rfl
  go_wp2_with fail
  refine (rint_w n0 _ H1.out.1 hb1 (by have := HL.out; simp at this ⊢; omega)).mono ?_
  rintro e w2 ⟨v2, rfl, ho, hf⟩
  obtain ⟨SA2, SQ2, SC2, rfl⟩ := ho.shape
  have H2 := Lib.hid (show Ob w2 base _ (l ++ numL n0) ∧ Fr base w w2 ∧ Bk w2 w.heap.size 241 #[.int .i64 n0, .int .i64 n1, .int .i64 n2, .int .i64 n3_0, .int .i64 n3_1] from ⟨by first | exact ho | simpa only [List.append_assoc] using ho, H1.out.2.1.trans hf, H1.out.2.2.fr (by decide) hf⟩)
  have hb2 : base ≤ w2.heap.size := Nat.le_trans hb1 hf.size
  clear ho hf d0
  have d1 := H2.out.2.2.cell (i := 1) (v := .int .i64 n1) rfl
  go_wp2_with fail
  refine (rint_w n1 _ H2.out.1 hb2 (by have := HL.out; simp at this ⊢; omega)).mono ?_
  rintro e w3 ⟨v3, rfl, ho, hf⟩
  obtain ⟨SA3, SQ3, SC3, rfl⟩ := ho.shape
  have H3 := Lib.hid (show Ob w3 base _ (l ++ numL n0 ++ numL n1) ∧ Fr base w w3 ∧ Bk w3 w.heap.size 241 #[.int .i64 n0, .int .i64 n1, .int .i64 n2, .int .i64 n3_0, .int .i64 n3_1] from ⟨by first | exact ho | simpa only [List.append_assoc] using ho, H2.out.2.1.trans hf, H2.out.2.2.fr (by decide) hf⟩)
  have hb3 : base ≤ w3.heap.size := Nat.le_trans hb2 hf.size
  clear ho hf d1
  have d2 := H3.out.2.2.cell (i := 2) (v := .int .i64 n2) rfl
  go_wp2_with fail
  refine (rint_w n2 _ H3.out.1 hb3 (by have := HL.out; simp at this ⊢; omega)).mono ?_
  rintro e w4 ⟨v4, rfl, ho, hf⟩
  obtain ⟨SA4, SQ4, SC4, rfl⟩ := ho.shape
  have H4 := Lib.hid (show Ob w4 base _ (l ++ numL n0 ++ numL n1 ++ numL n2) ∧ Fr base w w4 ∧ Bk w4 w.heap.size 241 #[.int .i64 n0, .int .i64 n1, .int .i64 n2, .int .i64 n3_0, .int .i64 n3_1] from ⟨by first | exact ho | simpa only [List.append_assoc] using ho, H3.out.2.1.trans hf, H3.out.2.2.fr (by decide) hf⟩)
  have hb4 : base ≤ w4.heap.size := Nat.le_trans hb3 hf.size
  clear ho hf d2
  have d3 := H4.out.2.2.cell (i := 3) (v := .int .i64 n3_0) rfl
  have d4 := H4.out.2.2.cell (i := 4) (v := .int .i64 n3_1) rfl
  go_wp2_with fail
  refine (putVersion_r n3_0 n3_1 _ H4.out.1 hb4 (by have := HL.out; simp at this ⊢; omega)).mono ?_
  rintro e w5 ⟨v5, rfl, ho, hf⟩
  obtain ⟨SA5, SQ5, SC5, rfl⟩ := ho.shape
  have H5 := Lib.hid (show Ob w5 base _ (l ++ numL n0 ++ numL n1 ++ numL n2 ++ (numL n3_0 ++ numL n3_1)) ∧ Fr base w w5 ∧ Bk w5 w.heap.size 241 #[.int .i64 n0, .int .i64 n1, .int .i64 n2, .int .i64 n3_0, .int .i64 n3_1] from ⟨by first | exact ho | simpa only [List.append_assoc] using ho, H4.out.2.1.trans hf, H4.out.2.2.fr (by decide) hf⟩)
  have hb5 : base ≤ w5.heap.size := Nat.le_trans hb4 hf.size
  clear ho hf d3 d4
  go_wp2_with fail
  go_ret
  exact ⟨.slice SA5 SQ5 SC5, rfl, (by have hz := H5.out.1; simp only [List.append_assoc] at hz ⊢; exact hz), H5.out.2.1⟩
set_option maxRecDepth 100000 in
set_option maxHeartbeats 4000000 in
theorem putItem_r (s0 : ByteArray) (n1_0 : Int) (n1_1 : Int) (n2 : Nat) (w : World) (h : Ob w base v l) (hb : base ≤ w.heap.size) (h2 : n2 < 4294967296) (hl : l.length + ((textL s0.data.toList ++ ((numL n1_0 ++ numL n1_1) ++ lowL n2 4))).length ≤ 130000000000000) :
    Calls Tryz.prog 89 #[v, .agg #[.string s0, .int .i64 n1_0, .int .i64 n1_1, .int .u32 (n2 : Int)]] w (PtPost w base l ((textL s0.data.toList ++ ((numL n1_0 ++ numL n1_1) ++ lowL n2 4)))) := by
  obtain ⟨SA1, SQ1, SC1, rfl⟩ := h.shape
  have H1 := Lib.hid (And.intro (h.alloc (.cells #[.string s0, .int .i64 n1_0, .int .i64 n1_1, .int .u32 (n2 : Int)] 177)) (And.intro ((Fr.refl base w).alloc (.cells #[.string s0, .int .i64 n1_0, .int .i64 n1_1, .int .u32 (n2 : Int)] 177)) (Bk.made w 177 #[.string s0, .int .i64 n1_0, .int .i64 n1_1, .int .u32 (n2 : Int)])))
  have hb1 : base ≤ (w.alloc (.cells #[.string s0, .int .i64 n1_0, .int .i64 n1_1, .int .u32 (n2 : Int)] 177)).heap.size := by simp; omega
  have L2 := Lib.hid h2
  clear h2
  have HL := Lib.hid hl
  clear h hl
  go_enter Tryz.func89, Tryz.ntmps89
  have d0 := H1.out.2.2.cell (i := 0) (v := .string s0) rfl
  obtain ⟨Ac, cc, w2, hcv, hbs, hab⟩ := conv_text s0 (by have := HL.out; simp at this; omega) (w.alloc (.cells #[.string s0, .int .i64 n1_0, .int .i64 n1_1, .int .u32 (n2 : Int)] 177))
  have H2 := Lib.hid (And.intro (H1.out.1.ab hab) (And.intro (H1.out.2.1.trans (Fr.of_ab hab)) (hab.bk H1.out.2.2)))
  have hb2 : base ≤ w2.heap.size := Nat.le_trans hb1 hab.size
  have HBS := Lib.hid hbs
  clear hbs hab
  go_wp2_with fail
  refine (rbytes_w _ s0.data.toList _ _ HBS.out H2.out.1 hb2 (by have := HL.out; simp at this ⊢; omega)).mono ?_
  rintro e w3 ⟨v3, rfl, ho, hf⟩
  obtain ⟨SA3, SQ3, SC3, rfl⟩ := ho.shape
  have H3 := Lib.hid (show Ob w3 base _ (l ++ textL s0.data.toList) ∧ Fr base w w3 ∧ Bk w3 w.heap.size 177 #[.string s0, .int .i64 n1_0, .int .i64 n1_1, .int .u32 (n2 : Int)] from ⟨by first | exact ho | simpa only [List.append_assoc] using ho, H2.out.2.1.trans hf, H2.out.2.2.fr (by decide) hf⟩)
  have hb3 : base ≤ w3.heap.size := Nat.le_trans hb2 hf.size
  clear ho hf d0 hcv HBS
  have d1 := H3.out.2.2.cell (i := 1) (v := .int .i64 n1_0) rfl
  have d2 := H3.out.2.2.cell (i := 2) (v := .int .i64 n1_1) rfl
  go_wp2_with fail
  refine (putVersion_r n1_0 n1_1 _ H3.out.1 hb3 (by have := HL.out; simp at this ⊢; omega)).mono ?_
  rintro e w4 ⟨v4, rfl, ho, hf⟩
  obtain ⟨SA4, SQ4, SC4, rfl⟩ := ho.shape
  have H4 := Lib.hid (show Ob w4 base _ (l ++ textL s0.data.toList ++ (numL n1_0 ++ numL n1_1)) ∧ Fr base w w4 ∧ Bk w4 w.heap.size 177 #[.string s0, .int .i64 n1_0, .int .i64 n1_1, .int .u32 (n2 : Int)] from ⟨by first | exact ho | simpa only [List.append_assoc] using ho, H3.out.2.1.trans hf, H3.out.2.2.fr (by decide) hf⟩)
  have hb4 : base ≤ w4.heap.size := Nat.le_trans hb3 hf.size
  clear ho hf d1 d2
  have d3 := H4.out.2.2.cell (i := 3) (v := .int .u32 (n2 : Int)) rfl
  go_wp2_with fail
  refine (rword_w n2 L2.out _ _ _ base H4.out.1 hb4 (by have := HL.out; simp at this ⊢; omega)).mono ?_
  rintro e w5 ⟨v5, rfl, ho, hf⟩
  obtain ⟨SA5, SQ5, SC5, rfl⟩ := ho.shape
  have H5 := Lib.hid (show Ob w5 base _ (l ++ textL s0.data.toList ++ (numL n1_0 ++ numL n1_1) ++ lowL n2 4) ∧ Fr base w w5 ∧ Bk w5 w.heap.size 177 #[.string s0, .int .i64 n1_0, .int .i64 n1_1, .int .u32 (n2 : Int)] from ⟨by first | exact ho | simpa only [List.append_assoc] using ho, H4.out.2.1.trans hf, H4.out.2.2.fr (by decide) hf⟩)
  have hb5 : base ≤ w5.heap.size := Nat.le_trans hb4 hf.size
  clear ho hf d3
  go_wp2_with fail
  go_ret
  exact ⟨.slice SA5 SQ5 SC5, rfl, (by have hz := H5.out.1; simp only [List.append_assoc] at hz ⊢; exact hz), H5.out.2.1⟩
set_option maxRecDepth 100000 in
set_option maxHeartbeats 4000000 in
theorem putState_r (n0 : Int) (n1_0 : Int) (n1_1 : Int) (A2 : Option Addr) (q2 c2 : Nat) (d2 : List UInt8) (A3 : Option Addr) (q3 c3 : Nat) (d3 : List UInt8) (A4 : Option Addr) (q4 c4 : Nat) (d4 : List UInt8) (w : World) (h : Ob w base v l) (hb : base ≤ w.heap.size) (h2 : EncF w base (.list (.pair (.pair .num .num) (.pair .bool (.pair .num (.pair .text (.pair .num .num)))))) (fun _ => some (.slice A2 q2 c2)) d2) (h3 : EncF w base (.list (.pair .num (.pair .num (.pair .num (.pair .num .num))))) (fun _ => some (.slice A3 q3 c3)) d3) (h4 : EncF w base (.list (.pair .text (.pair (.pair .num .num) .word))) (fun _ => some (.slice A4 q4 c4)) d4) (hl : l.length + ((numL n0 ++ ((numL n1_0 ++ numL n1_1) ++ (d2 ++ (d3 ++ d4))))).length ≤ 130000000000000) :
    Calls Tryz.prog 53 #[v, .agg #[.int .i64 n0, .int .i64 n1_0, .int .i64 n1_1, .slice A2 q2 c2, .slice A3 q3 c3, .slice A4 q4 c4]] w (PtPost w base l ((numL n0 ++ ((numL n1_0 ++ numL n1_1) ++ (d2 ++ (d3 ++ d4)))))) := by
  obtain ⟨SA1, SQ1, SC1, rfl⟩ := h.shape
  have H1 := Lib.hid (And.intro (h.alloc (.cells #[.int .i64 n0, .int .i64 n1_0, .int .i64 n1_1, .slice A2 q2 c2, .slice A3 q3 c3, .slice A4 q4 c4] 37)) (And.intro ((Fr.refl base w).alloc (.cells #[.int .i64 n0, .int .i64 n1_0, .int .i64 n1_1, .slice A2 q2 c2, .slice A3 q3 c3, .slice A4 q4 c4] 37)) (Bk.made w 37 #[.int .i64 n0, .int .i64 n1_0, .int .i64 n1_1, .slice A2 q2 c2, .slice A3 q3 c3, .slice A4 q4 c4])))
  have hb1 : base ≤ (w.alloc (.cells #[.int .i64 n0, .int .i64 n1_0, .int .i64 n1_1, .slice A2 q2 c2, .slice A3 q3 c3, .slice A4 q4 c4] 37)).heap.size := by simp; omega
  obtain ⟨B2, n2, x2, ms2, y2, g2, i2, j2, p2, rfl⟩ := h2
  injection y2 with y2
  injection y2 with ya2 yb2 yc2
  subst ya2 yb2 yc2
  have L2 := Lib.hid (And.intro j2 p2)
  have qq2 : q2 ≤ 9223372036854775807 := by omega
  clear j2 p2
  obtain ⟨B3, n3, x3, ms3, y3, g3, i3, j3, p3, rfl⟩ := h3
  injection y3 with y3
  injection y3 with ya3 yb3 yc3
  subst ya3 yb3 yc3
  have L3 := Lib.hid (And.intro j3 p3)
  have qq3 : q3 ≤ 9223372036854775807 := by omega
  clear j3 p3
  obtain ⟨B4, n4, x4, ms4, y4, g4, i4, j4, p4, rfl⟩ := h4
  injection y4 with y4
  injection y4 with ya4 yb4 yc4
  subst ya4 yb4 yc4
  have L4 := Lib.hid (And.intro j4 p4)
  have qq4 : q4 ≤ 9223372036854775807 := by omega
  clear j4 p4
  have HL := Lib.hid hl
  clear h hl
  go_enter Tryz.func53, Tryz.ntmps53
  have d0 := H1.out.2.2.cell (i := 0) (v := .int .i64 n0) rfl
  go_wp2_with fail
  refine (rint_w n0 _ H1.out.1 hb1 (by have := HL.out; simp at this ⊢; omega)).mono ?_
  rintro e w2 ⟨v2, rfl, ho, hf⟩
  obtain ⟨SA2, SQ2, SC2, rfl⟩ := ho.shape
  have H2 := Lib.hid (show Ob w2 base _ (l ++ numL n0) ∧ Fr base w w2 ∧ Bk w2 w.heap.size 37 #[.int .i64 n0, .int .i64 n1_0, .int .i64 n1_1, .slice A2 q2 c2, .slice A3 q3 c3, .slice A4 q4 c4] from ⟨by first | exact ho | simpa only [List.append_assoc] using ho, H1.out.2.1.trans hf, H1.out.2.2.fr (by decide) hf⟩)
  have hb2 : base ≤ w2.heap.size := Nat.le_trans hb1 hf.size
  clear ho hf d0
  have d1 := H2.out.2.2.cell (i := 1) (v := .int .i64 n1_0) rfl
  have d2 := H2.out.2.2.cell (i := 2) (v := .int .i64 n1_1) rfl
  go_wp2_with fail
  refine (putVersion_r n1_0 n1_1 _ H2.out.1 hb2 (by have := HL.out; simp at this ⊢; omega)).mono ?_
  rintro e w3 ⟨v3, rfl, ho, hf⟩
  obtain ⟨SA3, SQ3, SC3, rfl⟩ := ho.shape
  have H3 := Lib.hid (show Ob w3 base _ (l ++ numL n0 ++ (numL n1_0 ++ numL n1_1)) ∧ Fr base w w3 ∧ Bk w3 w.heap.size 37 #[.int .i64 n0, .int .i64 n1_0, .int .i64 n1_1, .slice A2 q2 c2, .slice A3 q3 c3, .slice A4 q4 c4] from ⟨by first | exact ho | simpa only [List.append_assoc] using ho, H2.out.2.1.trans hf, H2.out.2.2.fr (by decide) hf⟩)
  have hb3 : base ≤ w3.heap.size := Nat.le_trans hb2 hf.size
  clear ho hf d1 d2
  have d3 := H3.out.2.2.cell (i := 3) (v := .slice A2 q2 c2) rfl
  go_wp2_with fail
  refine (rcount_any q2 _ H3.out.1 hb3 (by have := HL.out; simp at this ⊢; omega)).mono ?_
  rintro e w4 ⟨v4, rfl, ho, hf⟩
  obtain ⟨SA4, SQ4, SC4, rfl⟩ := ho.shape
  have H4 := Lib.hid (show Ob w4 base _ (l ++ numL n0 ++ (numL n1_0 ++ numL n1_1) ++ lowL q2 4) ∧ Fr base w w4 ∧ Bk w4 w.heap.size 37 #[.int .i64 n0, .int .i64 n1_0, .int .i64 n1_1, .slice A2 q2 c2, .slice A3 q3 c3, .slice A4 q4 c4] from ⟨by first | exact ho | simpa only [List.append_assoc] using ho, H3.out.2.1.trans hf, H3.out.2.2.fr (by decide) hf⟩)
  have hb4 : base ≤ w4.heap.size := Nat.le_trans hb3 hf.size
  clear ho hf d3
  have d3 := H4.out.2.2.cell (i := 3) (v := .slice A2 q2 c2) rfl
  go_wp2_with fail
  clear d3
  go_loopw [0, 27] (fun b i wr => ∃ j : Nat, j ≤ q2 ∧ i = .int .i64 (j : Int) ∧ Ob wr base b (l ++ numL n0 ++ (numL n1_0 ++ numL n1_1) ++ lowL q2 4 ++ (ms2.take j).flatten) ∧ Fr base w wr ∧ Bk wr w.heap.size 37 #[.int .i64 n0, .int .i64 n1_0, .int .i64 n1_1, .slice A2 q2 c2, .slice A3 q3 c3, .slice A4 q4 c4]) (fun _ i _ => q2 - (intOf i).toNat)
  case atStart => exact ⟨0, Nat.zero_le _, rfl, by simpa using H4.out.1, H4.out.2.1, H4.out.2.2⟩
  case round =>
    obtain ⟨j, hj, rfl, ho, hf, hkb⟩ := hrel
    obtain ⟨SA5, SQ5, SC5, rfl⟩ := ho.shape
    have HR := Lib.hid (And.intro ho (And.intro hf hkb))
    have hbr : base ≤ wr.heap.size := Nat.le_trans hb hf.size
    by_cases hlt : j < q2
    · obtain ⟨b', o', rfl, hb', hits⟩ := L2.out.2 (by omega)
      have it0 : At wr base (.pair (.pair .num .num) (.pair .bool (.pair .num (.pair .text (.pair .num .num))))) b' (o' + j * Sch.sz (.pair (.pair .num .num) (.pair .bool (.pair .num (.pair .text (.pair .num .num)))))) (ms2.getD j []) := At.frs ⟨hb', hits j hlt⟩ hf hb
      have it : At wr base (.pair (.pair .num .num) (.pair .bool (.pair .num (.pair .text (.pair .num .num))))) b' (o' + j * 7) (ms2.getD j []) := by simpa [Sch.sz] using it0
      have hle2 := flat_take_le ms2 j (by rw [L2.out.1]; exact hlt)
      have hft := flat_take ms2 j (by rw [L2.out.1]; exact hlt)
      clear it0 hits ho hf hkb
      obtain ⟨mm, hmm⟩ : ∃ mm, ms2.getD j [] = mm := ⟨_, rfl⟩
      rw [hmm] at it hle2 hft
      clear hmm
      obtain ⟨mx2_0, rx2_0, ax2_0, zx2_0, rfl⟩ := it.fst
      replace ax2_0 : At wr base (.pair .num .num) b' (o' + j * 7) _ := ax2_0
      obtain ⟨mx2_0_0, rx2_0_0, ax2_0_0, zx2_0_0, rfl⟩ := ax2_0.fst
      replace ax2_0_0 : At wr base .num b' (o' + j * 7) _ := ax2_0_0
      obtain ⟨nx2_0_0, kx2_0_0, rfl⟩ := ax2_0_0.num
      have ax2_0_1 := zx2_0_0
      replace ax2_0_1 : At wr base .num b' (o' + j * 7 + 1) _ := ax2_0_1
      obtain ⟨nx2_0_1, kx2_0_1, rfl⟩ := ax2_0_1.num
      obtain ⟨mx2_1, rx2_1, ax2_1, zx2_1, rfl⟩ := zx2_0.fst
      replace ax2_1 : At wr base .bool b' (o' + j * 7 + 2) _ := ax2_1
      obtain ⟨tx2_1, kx2_1, rfl⟩ := ax2_1.bool
      obtain ⟨mx2_2, rx2_2, ax2_2, zx2_2, rfl⟩ := zx2_1.fst
      replace ax2_2 : At wr base .num b' (o' + j * 7 + 3) _ := ax2_2
      obtain ⟨nx2_2, kx2_2, rfl⟩ := ax2_2.num
      obtain ⟨mx2_3, rx2_3, ax2_3, zx2_3, rfl⟩ := zx2_2.fst
      replace ax2_3 : At wr base .text b' (o' + j * 7 + 4) _ := ax2_3
      obtain ⟨sx2_3, kx2_3, rfl⟩ := ax2_3.text
      obtain ⟨mx2_4, rx2_4, ax2_4, zx2_4, rfl⟩ := zx2_3.fst
      replace ax2_4 : At wr base .num b' (o' + j * 7 + 5) _ := ax2_4
      obtain ⟨nx2_4, kx2_4, rfl⟩ := ax2_4.num
      have ax2_5 := zx2_4
      replace ax2_5 : At wr base .num b' (o' + j * 7 + 6) _ := ax2_5
      obtain ⟨nx2_5, kx2_5, rfl⟩ := ax2_5.num
      have HF := Lib.hid (And.intro hft hle2)
      have hj0 : (0 : Int) ≤ (j : Int) := by omega
      have hj1 : (j : Int) < (q2 : Int) := by omega
      clear hft hle2
      clear it ax2_0 zx2_0 ax2_0_0 zx2_0_0 ax2_0_1 ax2_1 zx2_1 ax2_2 zx2_2 ax2_3 zx2_3 ax2_4 zx2_4 ax2_5
      go_wp2_with fail
      refine (putEntry_r nx2_0_0 nx2_0_1 tx2_1 nx2_2 sx2_3 nx2_4 nx2_5 _ (by first | exact HR.out.1 | exact HR.out.1.alloc _) (by first | exact hbr | (simp; omega)) (by have := HL.out; have h2 := HF.out.2; simp at this h2 ⊢; omega)).mono ?_
      rintro e w9 ⟨v9, rfl, ho9, hf9⟩
      have H9 := Lib.hid (And.intro ho9 (show Fr base wr w9 from by first | exact hf9 | exact ((Fr.refl base wr).alloc _).trans hf9))
      clear ho9 hf9
      go_wp2_with fail
      go_roundw
      case rel => exact ⟨j + 1, by omega, by go_num, by rw [HF.out.1]; first | exact H9.out.1 | simpa only [List.append_assoc] using H9.out.1, HR.out.2.1.trans H9.out.2, HR.out.2.2.fr (by decide) H9.out.2⟩
      case measure => simp [intOf]; omega
    · have hjq : j = q2 := by omega
      have htk : ms2.take j = ms2 := List.take_of_length_le (by rw [L2.out.1, hjq]; exact Nat.le_refl _)
      rw [htk] at ho
      have H5 := Lib.hid (show Ob wr base _ (l ++ numL n0 ++ (numL n1_0 ++ numL n1_1) ++ lowL q2 4 ++ ms2.flatten) ∧ Fr base w wr ∧ Bk wr w.heap.size 37 #[.int .i64 n0, .int .i64 n1_0, .int .i64 n1_1, .slice A2 q2 c2, .slice A3 q3 c3, .slice A4 q4 c4] from ⟨by first | exact ho | simpa only [List.append_assoc] using ho, hf, hkb⟩)
      have hb5 := hbr
      obtain ⟨w5, hw5⟩ : ∃ w5, wr = w5 := ⟨_, rfl⟩
      subst hw5
      clear ho hf hkb HR htk
      have d4 := H5.out.2.2.cell (i := 4) (v := .slice A3 q3 c3) rfl
      go_wp2_with fail
      refine (rcount_any q3 _ H5.out.1 hb5 (by have := HL.out; simp at this ⊢; omega)).mono ?_
      rintro e w6 ⟨v6, rfl, ho, hf⟩
      obtain ⟨SA6, SQ6, SC6, rfl⟩ := ho.shape
      have H6 := Lib.hid (show Ob w6 base _ (l ++ numL n0 ++ (numL n1_0 ++ numL n1_1) ++ lowL q2 4 ++ ms2.flatten ++ lowL q3 4) ∧ Fr base w w6 ∧ Bk w6 w.heap.size 37 #[.int .i64 n0, .int .i64 n1_0, .int .i64 n1_1, .slice A2 q2 c2, .slice A3 q3 c3, .slice A4 q4 c4] from ⟨by first | exact ho | simpa only [List.append_assoc] using ho, H5.out.2.1.trans hf, H5.out.2.2.fr (by decide) hf⟩)
      have hb6 : base ≤ w6.heap.size := Nat.le_trans hb5 hf.size
      clear ho hf d4
      have d4 := H6.out.2.2.cell (i := 4) (v := .slice A3 q3 c3) rfl
      go_wp2_with fail
      clear d4
      go_loopw [0, 43] (fun b i wr => ∃ j : Nat, j ≤ q3 ∧ i = .int .i64 (j : Int) ∧ Ob wr base b (l ++ numL n0 ++ (numL n1_0 ++ numL n1_1) ++ lowL q2 4 ++ ms2.flatten ++ lowL q3 4 ++ (ms3.take j).flatten) ∧ Fr base w wr ∧ Bk wr w.heap.size 37 #[.int .i64 n0, .int .i64 n1_0, .int .i64 n1_1, .slice A2 q2 c2, .slice A3 q3 c3, .slice A4 q4 c4]) (fun _ i _ => q3 - (intOf i).toNat)
      case atStart => exact ⟨0, Nat.zero_le _, rfl, by simpa using H6.out.1, H6.out.2.1, H6.out.2.2⟩
      case round =>
        obtain ⟨j, hj, rfl, ho, hf, hkb⟩ := hrel
        obtain ⟨SA7, SQ7, SC7, rfl⟩ := ho.shape
        have HR := Lib.hid (And.intro ho (And.intro hf hkb))
        have hbr : base ≤ wr.heap.size := Nat.le_trans hb hf.size
        by_cases hlt : j < q3
        · obtain ⟨b', o', rfl, hb', hits⟩ := L3.out.2 (by omega)
          have it0 : At wr base (.pair .num (.pair .num (.pair .num (.pair .num .num)))) b' (o' + j * Sch.sz (.pair .num (.pair .num (.pair .num (.pair .num .num))))) (ms3.getD j []) := At.frs ⟨hb', hits j hlt⟩ hf hb
          have it : At wr base (.pair .num (.pair .num (.pair .num (.pair .num .num)))) b' (o' + j * 5) (ms3.getD j []) := by simpa [Sch.sz] using it0
          have hle2 := flat_take_le ms3 j (by rw [L3.out.1]; exact hlt)
          have hft := flat_take ms3 j (by rw [L3.out.1]; exact hlt)
          clear it0 hits ho hf hkb
          obtain ⟨mm, hmm⟩ : ∃ mm, ms3.getD j [] = mm := ⟨_, rfl⟩
          rw [hmm] at it hle2 hft
          clear hmm
          obtain ⟨mx3_0, rx3_0, ax3_0, zx3_0, rfl⟩ := it.fst
          replace ax3_0 : At wr base .num b' (o' + j * 5) _ := ax3_0
          obtain ⟨nx3_0, kx3_0, rfl⟩ := ax3_0.num
          obtain ⟨mx3_1, rx3_1, ax3_1, zx3_1, rfl⟩ := zx3_0.fst
          replace ax3_1 : At wr base .num b' (o' + j * 5 + 1) _ := ax3_1
          obtain ⟨nx3_1, kx3_1, rfl⟩ := ax3_1.num
          obtain ⟨mx3_2, rx3_2, ax3_2, zx3_2, rfl⟩ := zx3_1.fst
          replace ax3_2 : At wr base .num b' (o' + j * 5 + 2) _ := ax3_2
          obtain ⟨nx3_2, kx3_2, rfl⟩ := ax3_2.num
          have ax3_3 := zx3_2
          replace ax3_3 : At wr base (.pair .num .num) b' (o' + j * 5 + 3) _ := ax3_3
          obtain ⟨mx3_3_0, rx3_3_0, ax3_3_0, zx3_3_0, rfl⟩ := ax3_3.fst
          replace ax3_3_0 : At wr base .num b' (o' + j * 5 + 3) _ := ax3_3_0
          obtain ⟨nx3_3_0, kx3_3_0, rfl⟩ := ax3_3_0.num
          have ax3_3_1 := zx3_3_0
          replace ax3_3_1 : At wr base .num b' (o' + j * 5 + 3 + 1) _ := ax3_3_1
          obtain ⟨nx3_3_1, kx3_3_1, rfl⟩ := ax3_3_1.num
          have HF := Lib.hid (And.intro hft hle2)
          have hj0 : (0 : Int) ≤ (j : Int) := by omega
          have hj1 : (j : Int) < (q3 : Int) := by omega
          clear hft hle2
          clear it ax3_0 zx3_0 ax3_1 zx3_1 ax3_2 zx3_2 ax3_3 ax3_3_0 zx3_3_0 ax3_3_1
          go_wp2_with fail
          refine (putLast_r nx3_0 nx3_1 nx3_2 nx3_3_0 nx3_3_1 _ (by first | exact HR.out.1 | exact HR.out.1.alloc _) (by first | exact hbr | (simp; omega)) (by have := HL.out; have h2 := HF.out.2; simp at this h2 ⊢; omega)).mono ?_
          rintro e w9 ⟨v9, rfl, ho9, hf9⟩
          have H9 := Lib.hid (And.intro ho9 (show Fr base wr w9 from by first | exact hf9 | exact ((Fr.refl base wr).alloc _).trans hf9))
          clear ho9 hf9
          go_wp2_with fail
          go_roundw
          case rel => exact ⟨j + 1, by omega, by go_num, by rw [HF.out.1]; first | exact H9.out.1 | simpa only [List.append_assoc] using H9.out.1, HR.out.2.1.trans H9.out.2, HR.out.2.2.fr (by decide) H9.out.2⟩
          case measure => simp [intOf]; omega
        · have hjq : j = q3 := by omega
          have htk : ms3.take j = ms3 := List.take_of_length_le (by rw [L3.out.1, hjq]; exact Nat.le_refl _)
          rw [htk] at ho
          have H7 := Lib.hid (show Ob wr base _ (l ++ numL n0 ++ (numL n1_0 ++ numL n1_1) ++ lowL q2 4 ++ ms2.flatten ++ lowL q3 4 ++ ms3.flatten) ∧ Fr base w wr ∧ Bk wr w.heap.size 37 #[.int .i64 n0, .int .i64 n1_0, .int .i64 n1_1, .slice A2 q2 c2, .slice A3 q3 c3, .slice A4 q4 c4] from ⟨by first | exact ho | simpa only [List.append_assoc] using ho, hf, hkb⟩)
          have hb7 := hbr
          obtain ⟨w7, hw7⟩ : ∃ w7, wr = w7 := ⟨_, rfl⟩
          subst hw7
          clear ho hf hkb HR htk
          have d5 := H7.out.2.2.cell (i := 5) (v := .slice A4 q4 c4) rfl
          go_wp2_with fail
          refine (rcount_any q4 _ H7.out.1 hb7 (by have := HL.out; simp at this ⊢; omega)).mono ?_
          rintro e w8 ⟨v8, rfl, ho, hf⟩
          obtain ⟨SA8, SQ8, SC8, rfl⟩ := ho.shape
          have H8 := Lib.hid (show Ob w8 base _ (l ++ numL n0 ++ (numL n1_0 ++ numL n1_1) ++ lowL q2 4 ++ ms2.flatten ++ lowL q3 4 ++ ms3.flatten ++ lowL q4 4) ∧ Fr base w w8 ∧ Bk w8 w.heap.size 37 #[.int .i64 n0, .int .i64 n1_0, .int .i64 n1_1, .slice A2 q2 c2, .slice A3 q3 c3, .slice A4 q4 c4] from ⟨by first | exact ho | simpa only [List.append_assoc] using ho, H7.out.2.1.trans hf, H7.out.2.2.fr (by decide) hf⟩)
          have hb8 : base ≤ w8.heap.size := Nat.le_trans hb7 hf.size
          clear ho hf d5
          have d5 := H8.out.2.2.cell (i := 5) (v := .slice A4 q4 c4) rfl
          go_wp2_with fail
          clear d5
          go_loopw [0, 59] (fun b i wr => ∃ j : Nat, j ≤ q4 ∧ i = .int .i64 (j : Int) ∧ Ob wr base b (l ++ numL n0 ++ (numL n1_0 ++ numL n1_1) ++ lowL q2 4 ++ ms2.flatten ++ lowL q3 4 ++ ms3.flatten ++ lowL q4 4 ++ (ms4.take j).flatten) ∧ Fr base w wr ∧ Bk wr w.heap.size 37 #[.int .i64 n0, .int .i64 n1_0, .int .i64 n1_1, .slice A2 q2 c2, .slice A3 q3 c3, .slice A4 q4 c4]) (fun _ i _ => q4 - (intOf i).toNat)
          case atStart => exact ⟨0, Nat.zero_le _, rfl, by simpa using H8.out.1, H8.out.2.1, H8.out.2.2⟩
          case round =>
            obtain ⟨j, hj, rfl, ho, hf, hkb⟩ := hrel
            obtain ⟨SA9, SQ9, SC9, rfl⟩ := ho.shape
            have HR := Lib.hid (And.intro ho (And.intro hf hkb))
            have hbr : base ≤ wr.heap.size := Nat.le_trans hb hf.size
            by_cases hlt : j < q4
            · obtain ⟨b', o', rfl, hb', hits⟩ := L4.out.2 (by omega)
              have it0 : At wr base (.pair .text (.pair (.pair .num .num) .word)) b' (o' + j * Sch.sz (.pair .text (.pair (.pair .num .num) .word))) (ms4.getD j []) := At.frs ⟨hb', hits j hlt⟩ hf hb
              have it : At wr base (.pair .text (.pair (.pair .num .num) .word)) b' (o' + j * 4) (ms4.getD j []) := by simpa [Sch.sz] using it0
              have hle2 := flat_take_le ms4 j (by rw [L4.out.1]; exact hlt)
              have hft := flat_take ms4 j (by rw [L4.out.1]; exact hlt)
              clear it0 hits ho hf hkb
              obtain ⟨mm, hmm⟩ : ∃ mm, ms4.getD j [] = mm := ⟨_, rfl⟩
              rw [hmm] at it hle2 hft
              clear hmm
              obtain ⟨mx4_0, rx4_0, ax4_0, zx4_0, rfl⟩ := it.fst
              replace ax4_0 : At wr base .text b' (o' + j * 4) _ := ax4_0
              obtain ⟨sx4_0, kx4_0, rfl⟩ := ax4_0.text
              obtain ⟨mx4_1, rx4_1, ax4_1, zx4_1, rfl⟩ := zx4_0.fst
              replace ax4_1 : At wr base (.pair .num .num) b' (o' + j * 4 + 1) _ := ax4_1
              obtain ⟨mx4_1_0, rx4_1_0, ax4_1_0, zx4_1_0, rfl⟩ := ax4_1.fst
              replace ax4_1_0 : At wr base .num b' (o' + j * 4 + 1) _ := ax4_1_0
              obtain ⟨nx4_1_0, kx4_1_0, rfl⟩ := ax4_1_0.num
              have ax4_1_1 := zx4_1_0
              replace ax4_1_1 : At wr base .num b' (o' + j * 4 + 1 + 1) _ := ax4_1_1
              obtain ⟨nx4_1_1, kx4_1_1, rfl⟩ := ax4_1_1.num
              have ax4_2 := zx4_1
              replace ax4_2 : At wr base .word b' (o' + j * 4 + 3) _ := ax4_2
              obtain ⟨nx4_2, hx4_2, kx4_2, rfl⟩ := ax4_2.word
              have HF := Lib.hid (And.intro hft hle2)
              have hj0 : (0 : Int) ≤ (j : Int) := by omega
              have hj1 : (j : Int) < (q4 : Int) := by omega
              clear hft hle2
              have Hx4_2 := Lib.hid hx4_2
              clear hx4_2
              clear it ax4_0 zx4_0 ax4_1 zx4_1 ax4_1_0 zx4_1_0 ax4_1_1 ax4_2
              go_wp2_with fail
              refine (putItem_r sx4_0 nx4_1_0 nx4_1_1 nx4_2 _ (by first | exact HR.out.1 | exact HR.out.1.alloc _) (by first | exact hbr | (simp; omega)) Hx4_2.out (by have := HL.out; have h2 := HF.out.2; simp at this h2 ⊢; omega)).mono ?_
              rintro e w9 ⟨v9, rfl, ho9, hf9⟩
              have H9 := Lib.hid (And.intro ho9 (show Fr base wr w9 from by first | exact hf9 | exact ((Fr.refl base wr).alloc _).trans hf9))
              clear ho9 hf9
              go_wp2_with fail
              go_roundw
              case rel => exact ⟨j + 1, by omega, by go_num, by rw [HF.out.1]; first | exact H9.out.1 | simpa only [List.append_assoc] using H9.out.1, HR.out.2.1.trans H9.out.2, HR.out.2.2.fr (by decide) H9.out.2⟩
              case measure => simp [intOf]; omega
            · have hjq : j = q4 := by omega
              have htk : ms4.take j = ms4 := List.take_of_length_le (by rw [L4.out.1, hjq]; exact Nat.le_refl _)
              rw [htk] at ho
              have H9 := Lib.hid (show Ob wr base _ (l ++ numL n0 ++ (numL n1_0 ++ numL n1_1) ++ lowL q2 4 ++ ms2.flatten ++ lowL q3 4 ++ ms3.flatten ++ lowL q4 4 ++ ms4.flatten) ∧ Fr base w wr ∧ Bk wr w.heap.size 37 #[.int .i64 n0, .int .i64 n1_0, .int .i64 n1_1, .slice A2 q2 c2, .slice A3 q3 c3, .slice A4 q4 c4] from ⟨by first | exact ho | simpa only [List.append_assoc] using ho, hf, hkb⟩)
              have hb9 := hbr
              obtain ⟨w9, hw9⟩ : ∃ w9, wr = w9 := ⟨_, rfl⟩
              subst hw9
              clear ho hf hkb HR htk
              go_wp2_with fail
              go_ret
              exact ⟨.slice SA9 SQ9 SC9, rfl, (by have hz := H9.out.1; simp only [List.append_assoc] at hz ⊢; exact hz), H9.out.2.1⟩
set_option maxRecDepth 100000 in
set_option maxHeartbeats 4000000 in
theorem putStep_r (n0 : Int) (n1_0 : Int) (n1_1 : Int) (s2 : ByteArray) (n3 : Int) (n4 : Int) (s5 : ByteArray) (A6 : Option Addr) (q6 c6 : Nat) (d6 : List UInt8) (w : World) (h : Ob w base v l) (hb : base ≤ w.heap.size) (h6 : Bs w base (.slice A6 q6 c6) d6) (hl : l.length + ((numL n0 ++ ((numL n1_0 ++ numL n1_1) ++ (textL s2.data.toList ++ (numL n3 ++ (numL n4 ++ (textL s5.data.toList ++ dataL d6))))))).length ≤ 130000000000000) :
    Calls Tryz.prog 133 #[v, .agg #[.int .i64 n0, .int .i64 n1_0, .int .i64 n1_1, .string s2, .int .i64 n3, .int .i64 n4, .string s5, .slice A6 q6 c6]] w (PtPost w base l ((numL n0 ++ ((numL n1_0 ++ numL n1_1) ++ (textL s2.data.toList ++ (numL n3 ++ (numL n4 ++ (textL s5.data.toList ++ dataL d6)))))))) := by
  obtain ⟨SA1, SQ1, SC1, rfl⟩ := h.shape
  have H1 := Lib.hid (And.intro (h.alloc (.cells #[.int .i64 n0, .int .i64 n1_0, .int .i64 n1_1, .string s2, .int .i64 n3, .int .i64 n4, .string s5, .slice A6 q6 c6] 252)) (And.intro ((Fr.refl base w).alloc (.cells #[.int .i64 n0, .int .i64 n1_0, .int .i64 n1_1, .string s2, .int .i64 n3, .int .i64 n4, .string s5, .slice A6 q6 c6] 252)) (Bk.made w 252 #[.int .i64 n0, .int .i64 n1_0, .int .i64 n1_1, .string s2, .int .i64 n3, .int .i64 n4, .string s5, .slice A6 q6 c6])))
  have hb1 : base ≤ (w.alloc (.cells #[.int .i64 n0, .int .i64 n1_0, .int .i64 n1_1, .string s2, .int .i64 n3, .int .i64 n4, .string s5, .slice A6 q6 c6] 252)).heap.size := by simp; omega
  have L6 := Lib.hid h6
  clear h6
  have HL := Lib.hid hl
  clear h hl
  go_enter Tryz.func133, Tryz.ntmps133
  have d0 := H1.out.2.2.cell (i := 0) (v := .int .i64 n0) rfl
  go_wp2_with fail
  refine (rint_w n0 _ H1.out.1 hb1 (by have := HL.out; simp at this ⊢; omega)).mono ?_
  rintro e w2 ⟨v2, rfl, ho, hf⟩
  obtain ⟨SA2, SQ2, SC2, rfl⟩ := ho.shape
  have H2 := Lib.hid (show Ob w2 base _ (l ++ numL n0) ∧ Fr base w w2 ∧ Bk w2 w.heap.size 252 #[.int .i64 n0, .int .i64 n1_0, .int .i64 n1_1, .string s2, .int .i64 n3, .int .i64 n4, .string s5, .slice A6 q6 c6] from ⟨by first | exact ho | simpa only [List.append_assoc] using ho, H1.out.2.1.trans hf, H1.out.2.2.fr (by decide) hf⟩)
  have hb2 : base ≤ w2.heap.size := Nat.le_trans hb1 hf.size
  clear ho hf d0
  have d1 := H2.out.2.2.cell (i := 1) (v := .int .i64 n1_0) rfl
  have d2 := H2.out.2.2.cell (i := 2) (v := .int .i64 n1_1) rfl
  go_wp2_with fail
  refine (putPg_r n1_0 n1_1 _ H2.out.1 hb2 (by have := HL.out; simp at this ⊢; omega)).mono ?_
  rintro e w3 ⟨v3, rfl, ho, hf⟩
  obtain ⟨SA3, SQ3, SC3, rfl⟩ := ho.shape
  have H3 := Lib.hid (show Ob w3 base _ (l ++ numL n0 ++ (numL n1_0 ++ numL n1_1)) ∧ Fr base w w3 ∧ Bk w3 w.heap.size 252 #[.int .i64 n0, .int .i64 n1_0, .int .i64 n1_1, .string s2, .int .i64 n3, .int .i64 n4, .string s5, .slice A6 q6 c6] from ⟨by first | exact ho | simpa only [List.append_assoc] using ho, H2.out.2.1.trans hf, H2.out.2.2.fr (by decide) hf⟩)
  have hb3 : base ≤ w3.heap.size := Nat.le_trans hb2 hf.size
  clear ho hf d1 d2
  have d3 := H3.out.2.2.cell (i := 3) (v := .string s2) rfl
  obtain ⟨Ac, cc, w4, hcv, hbs, hab⟩ := conv_text s2 (by have := HL.out; simp at this; omega) w3
  have H4 := Lib.hid (And.intro (H3.out.1.ab hab) (And.intro (H3.out.2.1.trans (Fr.of_ab hab)) (hab.bk H3.out.2.2)))
  have hb4 : base ≤ w4.heap.size := Nat.le_trans hb3 hab.size
  have HBS := Lib.hid hbs
  clear hbs hab
  go_wp2_with fail
  refine (rbytes_w _ s2.data.toList _ _ HBS.out H4.out.1 hb4 (by have := HL.out; simp at this ⊢; omega)).mono ?_
  rintro e w5 ⟨v5, rfl, ho, hf⟩
  obtain ⟨SA5, SQ5, SC5, rfl⟩ := ho.shape
  have H5 := Lib.hid (show Ob w5 base _ (l ++ numL n0 ++ (numL n1_0 ++ numL n1_1) ++ textL s2.data.toList) ∧ Fr base w w5 ∧ Bk w5 w.heap.size 252 #[.int .i64 n0, .int .i64 n1_0, .int .i64 n1_1, .string s2, .int .i64 n3, .int .i64 n4, .string s5, .slice A6 q6 c6] from ⟨by first | exact ho | simpa only [List.append_assoc] using ho, H4.out.2.1.trans hf, H4.out.2.2.fr (by decide) hf⟩)
  have hb5 : base ≤ w5.heap.size := Nat.le_trans hb4 hf.size
  clear ho hf d3 hcv HBS
  have d4 := H5.out.2.2.cell (i := 4) (v := .int .i64 n3) rfl
  go_wp2_with fail
  refine (rint_w n3 _ H5.out.1 hb5 (by have := HL.out; simp at this ⊢; omega)).mono ?_
  rintro e w6 ⟨v6, rfl, ho, hf⟩
  obtain ⟨SA6, SQ6, SC6, rfl⟩ := ho.shape
  have H6 := Lib.hid (show Ob w6 base _ (l ++ numL n0 ++ (numL n1_0 ++ numL n1_1) ++ textL s2.data.toList ++ numL n3) ∧ Fr base w w6 ∧ Bk w6 w.heap.size 252 #[.int .i64 n0, .int .i64 n1_0, .int .i64 n1_1, .string s2, .int .i64 n3, .int .i64 n4, .string s5, .slice A6 q6 c6] from ⟨by first | exact ho | simpa only [List.append_assoc] using ho, H5.out.2.1.trans hf, H5.out.2.2.fr (by decide) hf⟩)
  have hb6 : base ≤ w6.heap.size := Nat.le_trans hb5 hf.size
  clear ho hf d4
  have d5 := H6.out.2.2.cell (i := 5) (v := .int .i64 n4) rfl
  go_wp2_with fail
  refine (rint_w n4 _ H6.out.1 hb6 (by have := HL.out; simp at this ⊢; omega)).mono ?_
  rintro e w7 ⟨v7, rfl, ho, hf⟩
  obtain ⟨SA7, SQ7, SC7, rfl⟩ := ho.shape
  have H7 := Lib.hid (show Ob w7 base _ (l ++ numL n0 ++ (numL n1_0 ++ numL n1_1) ++ textL s2.data.toList ++ numL n3 ++ numL n4) ∧ Fr base w w7 ∧ Bk w7 w.heap.size 252 #[.int .i64 n0, .int .i64 n1_0, .int .i64 n1_1, .string s2, .int .i64 n3, .int .i64 n4, .string s5, .slice A6 q6 c6] from ⟨by first | exact ho | simpa only [List.append_assoc] using ho, H6.out.2.1.trans hf, H6.out.2.2.fr (by decide) hf⟩)
  have hb7 : base ≤ w7.heap.size := Nat.le_trans hb6 hf.size
  clear ho hf d5
  have d6 := H7.out.2.2.cell (i := 6) (v := .string s5) rfl
  obtain ⟨Ac, cc, w8, hcv, hbs, hab⟩ := conv_text s5 (by have := HL.out; simp at this; omega) w7
  have H8 := Lib.hid (And.intro (H7.out.1.ab hab) (And.intro (H7.out.2.1.trans (Fr.of_ab hab)) (hab.bk H7.out.2.2)))
  have hb8 : base ≤ w8.heap.size := Nat.le_trans hb7 hab.size
  have HBS := Lib.hid hbs
  clear hbs hab
  go_wp2_with fail
  refine (rbytes_w _ s5.data.toList _ _ HBS.out H8.out.1 hb8 (by have := HL.out; simp at this ⊢; omega)).mono ?_
  rintro e w9 ⟨v9, rfl, ho, hf⟩
  obtain ⟨SA9, SQ9, SC9, rfl⟩ := ho.shape
  have H9 := Lib.hid (show Ob w9 base _ (l ++ numL n0 ++ (numL n1_0 ++ numL n1_1) ++ textL s2.data.toList ++ numL n3 ++ numL n4 ++ textL s5.data.toList) ∧ Fr base w w9 ∧ Bk w9 w.heap.size 252 #[.int .i64 n0, .int .i64 n1_0, .int .i64 n1_1, .string s2, .int .i64 n3, .int .i64 n4, .string s5, .slice A6 q6 c6] from ⟨by first | exact ho | simpa only [List.append_assoc] using ho, H8.out.2.1.trans hf, H8.out.2.2.fr (by decide) hf⟩)
  have hb9 : base ≤ w9.heap.size := Nat.le_trans hb8 hf.size
  clear ho hf d6 hcv HBS
  have d7 := H9.out.2.2.cell (i := 7) (v := .slice A6 q6 c6) rfl
  go_wp2_with fail
  refine (rbytes_w _ d6 base _ (fun w' hf => (L6.out.frs (H9.out.2.1.trans hf) hb)) H9.out.1 hb9 (by have := HL.out; simp at this ⊢; omega)).mono ?_
  rintro e w10 ⟨v10, rfl, ho, hf⟩
  obtain ⟨SA10, SQ10, SC10, rfl⟩ := ho.shape
  have H10 := Lib.hid (show Ob w10 base _ (l ++ numL n0 ++ (numL n1_0 ++ numL n1_1) ++ textL s2.data.toList ++ numL n3 ++ numL n4 ++ textL s5.data.toList ++ dataL d6) ∧ Fr base w w10 ∧ Bk w10 w.heap.size 252 #[.int .i64 n0, .int .i64 n1_0, .int .i64 n1_1, .string s2, .int .i64 n3, .int .i64 n4, .string s5, .slice A6 q6 c6] from ⟨by first | exact ho | simpa only [List.append_assoc] using ho, H9.out.2.1.trans hf, H9.out.2.2.fr (by decide) hf⟩)
  have hb10 : base ≤ w10.heap.size := Nat.le_trans hb9 hf.size
  clear ho hf d7
  go_wp2_with fail
  go_ret
  exact ⟨.slice SA10 SQ10 SC10, rfl, (by have hz := H10.out.1; simp only [List.append_assoc] at hz ⊢; exact hz), H10.out.2.1⟩
set_option maxRecDepth 100000 in
set_option maxHeartbeats 4000000 in
theorem putTx_r (A0 : Option Addr) (q0 c0 : Nat) (d0 : List UInt8) (w : World) (h : Ob w base v l) (hb : base ≤ w.heap.size) (h0 : EncF w base (.list (.pair .num (.pair (.pair .num .num) (.pair .text (.pair .num (.pair .num (.pair .text .data))))))) (fun _ => some (.slice A0 q0 c0)) d0) (hl : l.length + (d0).length ≤ 130000000000000) :
    Calls Tryz.prog 58 #[v, .agg #[.slice A0 q0 c0]] w (PtPost w base l (d0)) := by
  obtain ⟨SA1, SQ1, SC1, rfl⟩ := h.shape
  have H1 := Lib.hid (And.intro (h.alloc (.cells #[.slice A0 q0 c0] 83)) (And.intro ((Fr.refl base w).alloc (.cells #[.slice A0 q0 c0] 83)) (Bk.made w 83 #[.slice A0 q0 c0])))
  have hb1 : base ≤ (w.alloc (.cells #[.slice A0 q0 c0] 83)).heap.size := by simp; omega
  obtain ⟨B0, n0, x0, ms0, y0, g0, i0, j0, p0, rfl⟩ := h0
  injection y0 with y0
  injection y0 with ya0 yb0 yc0
  subst ya0 yb0 yc0
  have L0 := Lib.hid (And.intro j0 p0)
  have qq0 : q0 ≤ 9223372036854775807 := by omega
  clear j0 p0
  have HL := Lib.hid hl
  clear h hl
  go_enter Tryz.func58, Tryz.ntmps58
  have d0 := H1.out.2.2.cell (i := 0) (v := .slice A0 q0 c0) rfl
  go_wp2_with fail
  refine (rcount_any q0 _ H1.out.1 hb1 (by have := HL.out; simp at this ⊢; omega)).mono ?_
  rintro e w2 ⟨v2, rfl, ho, hf⟩
  obtain ⟨SA2, SQ2, SC2, rfl⟩ := ho.shape
  have H2 := Lib.hid (show Ob w2 base _ (l ++ lowL q0 4) ∧ Fr base w w2 ∧ Bk w2 w.heap.size 83 #[.slice A0 q0 c0] from ⟨by first | exact ho | simpa only [List.append_assoc] using ho, H1.out.2.1.trans hf, H1.out.2.2.fr (by decide) hf⟩)
  have hb2 : base ≤ w2.heap.size := Nat.le_trans hb1 hf.size
  clear ho hf d0
  have d0 := H2.out.2.2.cell (i := 0) (v := .slice A0 q0 c0) rfl
  go_wp2_with fail
  clear d0
  go_loopw [0, 15] (fun b i wr => ∃ j : Nat, j ≤ q0 ∧ i = .int .i64 (j : Int) ∧ Ob wr base b (l ++ lowL q0 4 ++ (ms0.take j).flatten) ∧ Fr base w wr ∧ Bk wr w.heap.size 83 #[.slice A0 q0 c0]) (fun _ i _ => q0 - (intOf i).toNat)
  case atStart => exact ⟨0, Nat.zero_le _, rfl, by simpa using H2.out.1, H2.out.2.1, H2.out.2.2⟩
  case round =>
    obtain ⟨j, hj, rfl, ho, hf, hkb⟩ := hrel
    obtain ⟨SA3, SQ3, SC3, rfl⟩ := ho.shape
    have HR := Lib.hid (And.intro ho (And.intro hf hkb))
    have hbr : base ≤ wr.heap.size := Nat.le_trans hb hf.size
    by_cases hlt : j < q0
    · obtain ⟨b', o', rfl, hb', hits⟩ := L0.out.2 (by omega)
      have it0 : At wr base (.pair .num (.pair (.pair .num .num) (.pair .text (.pair .num (.pair .num (.pair .text .data)))))) b' (o' + j * Sch.sz (.pair .num (.pair (.pair .num .num) (.pair .text (.pair .num (.pair .num (.pair .text .data))))))) (ms0.getD j []) := At.frs ⟨hb', hits j hlt⟩ hf hb
      have it : At wr base (.pair .num (.pair (.pair .num .num) (.pair .text (.pair .num (.pair .num (.pair .text .data)))))) b' (o' + j * 8) (ms0.getD j []) := by simpa [Sch.sz] using it0
      have hle2 := flat_take_le ms0 j (by rw [L0.out.1]; exact hlt)
      have hft := flat_take ms0 j (by rw [L0.out.1]; exact hlt)
      clear it0 hits ho hf hkb
      obtain ⟨mm, hmm⟩ : ∃ mm, ms0.getD j [] = mm := ⟨_, rfl⟩
      rw [hmm] at it hle2 hft
      clear hmm
      obtain ⟨mx0_0, rx0_0, ax0_0, zx0_0, rfl⟩ := it.fst
      replace ax0_0 : At wr base .num b' (o' + j * 8) _ := ax0_0
      obtain ⟨nx0_0, kx0_0, rfl⟩ := ax0_0.num
      obtain ⟨mx0_1, rx0_1, ax0_1, zx0_1, rfl⟩ := zx0_0.fst
      replace ax0_1 : At wr base (.pair .num .num) b' (o' + j * 8 + 1) _ := ax0_1
      obtain ⟨mx0_1_0, rx0_1_0, ax0_1_0, zx0_1_0, rfl⟩ := ax0_1.fst
      replace ax0_1_0 : At wr base .num b' (o' + j * 8 + 1) _ := ax0_1_0
      obtain ⟨nx0_1_0, kx0_1_0, rfl⟩ := ax0_1_0.num
      have ax0_1_1 := zx0_1_0
      replace ax0_1_1 : At wr base .num b' (o' + j * 8 + 1 + 1) _ := ax0_1_1
      obtain ⟨nx0_1_1, kx0_1_1, rfl⟩ := ax0_1_1.num
      obtain ⟨mx0_2, rx0_2, ax0_2, zx0_2, rfl⟩ := zx0_1.fst
      replace ax0_2 : At wr base .text b' (o' + j * 8 + 3) _ := ax0_2
      obtain ⟨sx0_2, kx0_2, rfl⟩ := ax0_2.text
      obtain ⟨mx0_3, rx0_3, ax0_3, zx0_3, rfl⟩ := zx0_2.fst
      replace ax0_3 : At wr base .num b' (o' + j * 8 + 4) _ := ax0_3
      obtain ⟨nx0_3, kx0_3, rfl⟩ := ax0_3.num
      obtain ⟨mx0_4, rx0_4, ax0_4, zx0_4, rfl⟩ := zx0_3.fst
      replace ax0_4 : At wr base .num b' (o' + j * 8 + 5) _ := ax0_4
      obtain ⟨nx0_4, kx0_4, rfl⟩ := ax0_4.num
      obtain ⟨mx0_5, rx0_5, ax0_5, zx0_5, rfl⟩ := zx0_4.fst
      replace ax0_5 : At wr base .text b' (o' + j * 8 + 6) _ := ax0_5
      obtain ⟨sx0_5, kx0_5, rfl⟩ := ax0_5.text
      have ax0_6 := zx0_5
      replace ax0_6 : At wr base .data b' (o' + j * 8 + 7) _ := ax0_6
      obtain ⟨Ax0_6, qx0_6, cx0_6, dx0_6, kx0_6, hx0_6, rfl⟩ := ax0_6.data
      have HF := Lib.hid (And.intro hft hle2)
      have hj0 : (0 : Int) ≤ (j : Int) := by omega
      have hj1 : (j : Int) < (q0 : Int) := by omega
      clear hft hle2
      have Hx0_6 := Lib.hid hx0_6
      clear hx0_6
      clear it ax0_0 zx0_0 ax0_1 zx0_1 ax0_1_0 zx0_1_0 ax0_1_1 ax0_2 zx0_2 ax0_3 zx0_3 ax0_4 zx0_4 ax0_5 zx0_5 ax0_6
      go_wp2_with fail
      refine (putStep_r nx0_0 nx0_1_0 nx0_1_1 sx0_2 nx0_3 nx0_4 sx0_5 Ax0_6 qx0_6 cx0_6 dx0_6 _ (by first | exact HR.out.1 | exact HR.out.1.alloc _) (by first | exact hbr | (simp; omega)) (by first | exact Hx0_6.out | exact Hx0_6.out.abs ((Ab.refl _).alloc _) hbr) (by have := HL.out; have h2 := HF.out.2; simp at this h2 ⊢; omega)).mono ?_
      rintro e w9 ⟨v9, rfl, ho9, hf9⟩
      have H9 := Lib.hid (And.intro ho9 (show Fr base wr w9 from by first | exact hf9 | exact ((Fr.refl base wr).alloc _).trans hf9))
      clear ho9 hf9
      go_wp2_with fail
      go_roundw
      case rel => exact ⟨j + 1, by omega, by go_num, by rw [HF.out.1]; first | exact H9.out.1 | simpa only [List.append_assoc] using H9.out.1, HR.out.2.1.trans H9.out.2, HR.out.2.2.fr (by decide) H9.out.2⟩
      case measure => simp [intOf]; omega
    · have hjq : j = q0 := by omega
      have htk : ms0.take j = ms0 := List.take_of_length_le (by rw [L0.out.1, hjq]; exact Nat.le_refl _)
      rw [htk] at ho
      have H3 := Lib.hid (show Ob wr base _ (l ++ lowL q0 4 ++ ms0.flatten) ∧ Fr base w wr ∧ Bk wr w.heap.size 83 #[.slice A0 q0 c0] from ⟨by first | exact ho | simpa only [List.append_assoc] using ho, hf, hkb⟩)
      have hb3 := hbr
      obtain ⟨w3, hw3⟩ : ∃ w3, wr = w3 := ⟨_, rfl⟩
      subst hw3
      clear ho hf hkb HR htk
      go_wp2_with fail
      go_ret
      exact ⟨.slice SA3 SQ3 SC3, rfl, (by have hz := H3.out.1; simp only [List.append_assoc] at hz ⊢; exact hz), H3.out.2.1⟩
end Go.Proofs.YtphbaaaklgiloaaGreat.Dg

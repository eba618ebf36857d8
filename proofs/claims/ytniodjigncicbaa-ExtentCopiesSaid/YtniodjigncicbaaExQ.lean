/- The document's examples of layer 5. -/
import Derived.Test.YtniodjigncicbaaExP
import Derived.Lib.SmallJoins
namespace Go.Proofs.Ytniodjigncicbaa.Dg
open Go.RowKit
variable {w w' : World} {base a s B : Nat} {v u : Value} {ps : List Pr} {l : List UInt8} {c : Cel}
attribute [local go_sem ↓] Go.wp_at_zero Go.wp_at_succ
theorem exE_ok {t n : Nat} (h : t + n ≤ 4096) : exE t n = 0 := by unfold exE; rw [if_neg (by omega), if_neg (by omega)]
theorem write_ok (w : World) (h : ExC w base a c s) (t : Nat) (hu : Bs w B u l) (hB : B ≤ w.heap.size) (hbase : base ≤ w.heap.size) (hne : l ≠ []) (hle : t + l.length ≤ 4096) :
    Calls Try.prog 57 #[.pointer (some ⟨a, 0, none⟩), .int .i64 (t : Int), u] w (ChPost w base a 0 (wrC c t l) (max s (t + l.length))) := by
  have h1 := writeC_any w h t hu hB hbase
  have hn : ¬ (exE t l.length ≠ 0 ∨ l = []) := by rw [exE_ok hle]; simp [hne]
  rw [if_neg hn, if_neg hn, exE_ok hle, Int.toNat_natCast] at h1
  exact h1
theorem zero_ok (w : World) (h : ExC w base a c s) (t n : Nat) (hbase : base ≤ w.heap.size) (hn : 0 < n) (hle : t + n ≤ 4096) :
    Calls Try.prog 60 #[.pointer (some ⟨a, 0, none⟩), .int .i64 (t : Int), .int .i64 (n : Int)] w (ChPost w base a 0 (hoC c t (t + n)) (max s (t + n))) := by
  have h1 := zeroC_any w h t n (by omega) hbase
  have hb : ¬ (exE t n ≠ 0 ∨ (n : Int) = 0) := by rw [exE_ok hle]; simp; omega
  rw [if_neg hb, if_neg hb, exE_ok hle, Int.toNat_natCast, show ((t : Int) + (n : Int)).toNat = t + n by omega] at h1
  exact h1
theorem xbs_row {g : Nat} {l : List UInt8} {fr : Nat × Nat} (h : w.heap[g]? = some (.cells (l.map u8v).toArray 5 fr)) (hl : l.length ≤ 9223372036854775807) : Bs w (g + 1) (.slice (some ⟨g, 0, none⟩) l.length l.length) l :=
  ⟨some ⟨g, 0, none⟩, l.length, rfl, Nat.le_refl _, hl, fun _ => ⟨g, 0, rfl, Nat.lt_succ_self g, fun k hk => by
    rw [Nat.zero_add, cell_of_row w g _ _ _ _ h, List.getElem?_toArray, List.getElem?_map, List.getElem?_eq_getElem hk, List.getD_eq_getElem?_getD, List.getElem?_eq_getElem hk]
    rfl⟩⟩
/-- tholeref01.Same. -/
theorem xSame_any {B C : Nat} {u : Value} {l m : List UInt8} (w : World) (h : Bs w B v l) (k : Bs w C u m) :
    Calls Try.prog 29 #[v, u] w fun e w' => e = .returned (.bool (l == m)) ∧ w = w' := by
  have hc1 := conv_bs h
  have hc2 := conv_bs k
  obtain ⟨A, c, rfl, h1, h2, h3⟩ := h
  obtain ⟨A', c', rfl, k1, k2, k3⟩ := k
  clear h3 k3
  go_enter Try.func29, Try.ntmps29
  go_wp2
  go_ret
  exact ⟨rfl, rfl⟩
def lc1 : Cel := wrC (celP []) 2 [97, 98]
def lc2 : Cel := wrC lc1 4 [99, 100]
def lc3 : Cel := hoC lc2 3 5
theorem lc_dat : datR lc3 6 = [0, 0, 97, 0, 0, 100] := by rfl
def Lv (W : World) (c : Cel) (s : Nat) (w : World) : Prop := ExC w W.heap.size W.heap.size c s ∧ Ab W w
theorem Lv.after {W : World} {c2 : Cel} {s2 : Nat} {n : Int} (h : Lv W c s w) {e : Ending} (hp : ChPost w W.heap.size W.heap.size n c2 s2 e w') : e = .returned (.int .i64 n) ∧ Lv W c2 s2 w' :=
  ⟨hp.1, hp.2.1, hp.2.2.ab h.2 (fun _ e => Nat.le_of_eq e.symm)⟩
theorem Lv.ab {W : World} (h : Lv W c s w) (ha : Ab w w') : Lv W c s w' := ⟨h.1.ab ha, h.2.trans ha⟩
theorem exnew_lv (W : World) : Calls Try.prog 25 #[] W fun e w' => e = .returned (.pointer (some ⟨W.heap.size, 0, none⟩)) ∧ Lv W (celP []) 0 w' :=
  (exnew_any W).mono fun _ _ ⟨h1, h2⟩ => ⟨h1, by rw [h2]; exact ⟨⟨_, [], exnew_ex W, rfl⟩, (Ab.refl W).alloc _⟩⟩
theorem lv1 (W w : World) (h : Lv W (celP []) 0 w) : Calls Try.prog 57 #[.pointer (some ⟨W.heap.size, 0, none⟩), .int .i64 2, .slice (some ⟨w.heap.size, 0, none⟩) 2 2] (w.alloc (.cells #[.int .u8 97, .int .u8 98] 5 (2, 3))) fun e w' => e = .returned (.int .i64 0) ∧ Lv W lc1 4 w' :=
  (write_ok _ (h.ab ((Ab.refl w).alloc _)).1 2 (xbs_row (l := [97, 98]) (heap_alloc_new w _) (by simp)) (by simp) (h.ab ((Ab.refl w).alloc _)).2.size (by simp) (by simp)).mono fun _ _ hp => (h.ab ((Ab.refl w).alloc _)).after hp
theorem lv2 (W w : World) (h : Lv W lc1 4 w) : Calls Try.prog 57 #[.pointer (some ⟨W.heap.size, 0, none⟩), .int .i64 4, .slice (some ⟨w.heap.size, 0, none⟩) 2 2] (w.alloc (.cells #[.int .u8 99, .int .u8 100] 5 (2, 3))) fun e w' => e = .returned (.int .i64 0) ∧ Lv W lc2 6 w' :=
  (write_ok _ (h.ab ((Ab.refl w).alloc _)).1 4 (xbs_row (l := [99, 100]) (heap_alloc_new w _) (by simp)) (by simp) (h.ab ((Ab.refl w).alloc _)).2.size (by simp) (by simp)).mono fun _ _ hp => (h.ab ((Ab.refl w).alloc _)).after hp
theorem lv3 (W w : World) (h : Lv W lc2 6 w) : Calls Try.prog 60 #[.pointer (some ⟨W.heap.size, 0, none⟩), .int .i64 3, .int .i64 2] w fun e w' => e = .returned (.int .i64 0) ∧ Lv W lc3 6 w' :=
  (zero_ok _ h.1 3 2 h.2.size (by omega) (by omega)).mono fun _ _ hp => h.after hp
theorem lv4 (W w : World) (h : Lv W lc3 6 w) : Calls Try.prog 27 #[.pointer (some ⟨W.heap.size, 0, none⟩)] w fun e w' => ∃ A k, e = .returned (.slice A 6 k) ∧ Ob w' w.heap.size (.slice A 6 k) [0, 0, 97, 0, 0, 100] ∧ Lv W lc3 6 w' :=
  (bytesX_any w h.1 h.2.size).mono fun _ _ ⟨A, k, h1, h2, h3⟩ => ⟨A, k, h1, by rw [lc_dat] at h2; exact h2, h.ab h3⟩
theorem lv5 (W w : World) (h : Lv W lc3 6 w) : Calls Try.prog 57 #[.pointer (some ⟨W.heap.size, 0, none⟩), .int .i64 4096, .slice (some ⟨w.heap.size, 0, none⟩) 1 1] (w.alloc (.cells #[.int .u8 120] 5 (1, 2))) fun e w' => e = .returned (.int .i64 27) ∧ Lv W lc3 6 w' :=
  (writeC_any _ (h.ab ((Ab.refl w).alloc _)).1 4096 (xbs_row (l := [120]) (heap_alloc_new w _) (by simp)) (by simp) (h.ab ((Ab.refl w).alloc _)).2.size).mono fun _ _ hp => (h.ab ((Ab.refl w).alloc _)).after hp
set_option maxRecDepth 100000 in
set_option maxHeartbeats 2000000 in
theorem exlives_any (W : World) : Calls Try.prog 33 #[] W fun e w' => e = .returned (.bool true) ∧ Ab W w' := by
  go_enter Try.func33, Try.ntmps33
  go_wp2_with (go_at_call 25; (with_reducible refine (exnew_lv W).mono ?_); rintro e w1 ⟨rfl, h1⟩; have H1 := Lib.hid h1; clear h1; have hv1 := Go.Joins.run_convert_bytes_const_at (P := Try.prog) w1 30 5 #[.int .u8 97, .int .u8 98] 2 2 w1.heap.size rfl Try.underlying30 Try.underlying5)
  go_wp2_with (first
    | (go_at_call 57; (with_reducible refine (lv1 W _ H1.out).mono ?_); rintro e w2 ⟨rfl, h2⟩; have H2 := Lib.hid h2; clear h2; have hv2 := Go.Joins.run_convert_bytes_const_at (P := Try.prog) w2 30 5 #[.int .u8 99, .int .u8 100] 2 2 w2.heap.size rfl Try.underlying30 Try.underlying5)
    | (go_at_call 57; (with_reducible refine (lv2 W _ H2.out).mono ?_); rintro e w3 ⟨rfl, h3⟩; have H3 := Lib.hid h3; clear h3)
    | (go_at_call 60; (with_reducible refine (lv3 W _ H3.out).mono ?_); rintro e w4 ⟨rfl, h4⟩; have H4 := Lib.hid h4; clear h4)
    | (go_at_call 27; (with_reducible refine (lv4 W _ H4.out).mono ?_); rintro e w5 ⟨A5, k5, rfl, ho5, h5⟩; have hcv := conv_bs ho5.bs; have H5 := Lib.hid h5; clear ho5 h5; have hv5 := Go.Joins.run_convert_bytes_const_at (P := Try.prog) w5 30 5 #[.int .u8 120] 1 1 w5.heap.size rfl Try.underlying30 Try.underlying5)
    | (go_at_call 57; (with_reducible refine (lv5 W _ H5.out).mono ?_); rintro e w6 ⟨rfl, h6⟩; have H6 := Lib.hid h6; clear h6))
  go_ret
  exact ⟨rfl, H6.out.2⟩
end Go.Proofs.Ytniodjigncicbaa.Dg

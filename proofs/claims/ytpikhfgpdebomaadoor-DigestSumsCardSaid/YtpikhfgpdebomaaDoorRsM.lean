/- The reference's SHA-256: the bytes that it goes over; it is the program's sum. -/
import Derived.Test.YtpikhfgpdebomaaDoorDgV
namespace Go.Proofs.YtpikhfgpdebomaaDoor.Dg
open Go.RowKit
theorem W0_congr {f f' : Nat → UInt8} (h : ∀ i, i < 64 → f i = f' i) (j : Nat) (hj : j < 16) : W0 f j = W0 f' j := by
  unfold W0
  simp only [h (4 * j) (by omega), h (4 * j + 1) (by omega), h (4 * j + 2) (by omega), h (4 * j + 3) (by omega)]
theorem wList_congr {f f' : Nat → UInt8} (h : ∀ i, i < 64 → f i = f' i) : ∀ k, wList f k = wList f' k
  | 0 => by
    unfold wList
    exact List.map_congr_left fun j hj => W0_congr h j (List.mem_range.1 hj)
  | k + 1 => by unfold wList; rw [wList_congr h k]
theorem blk_congr (h0 : Nat → UInt32) {f f' : Nat → UInt8} (h : ∀ i, i < 64 → f i = f' i) : blk h0 f = blk h0 f' := by
  have e : wL f = wL f' := by funext i; unfold wL; rw [wList_congr h 48]
  unfold blk
  rw [e]
theorem getD_app (a b : List UInt8) (j : Nat) : (a ++ b).getD j 0 = if j < a.length then a.getD j 0 else b.getD (j - a.length) 0 := by
  rw [List.getD_eq_getElem?_getD, List.getElem?_append, List.getD_eq_getElem?_getD, List.getD_eq_getElem?_getD]
  split <;> rfl
theorem getD_drop (a : List UInt8) (k j : Nat) : (a.drop k).getD j 0 = a.getD (k + j) 0 := by
  rw [List.getD_eq_getElem?_getD, List.getElem?_drop, List.getD_eq_getElem?_getD]
theorem getD_rep (n j : Nat) : (List.replicate n (0 : UInt8)).getD j 0 = 0 := by
  rw [List.getD_eq_getElem?_getD, List.getElem?_replicate]
  split <;> rfl
theorem getD_off (a : List UInt8) (j : Nat) (h : a.length ≤ j) : a.getD j 0 = 0 := by
  rw [List.getD_eq_getElem?_getD, List.getElem?_eq_none h]
  rfl
theorem blksL_app (m : Nat) (b : List UInt8) : ∀ (n : Nat) (h : Nat → UInt32) (a : List UInt8), a.length = 64 * n → blksL h (n + m) (a ++ b) = blksL (blksL h n a) m b
  | 0, h, a, ha => by
    have : a = [] := List.eq_nil_of_length_eq_zero (by omega)
    subst this
    rw [Nat.zero_add]
    rfl
  | n + 1, h, a, ha => by
    rw [show n + 1 + m = (n + m) + 1 by omega]
    show blksL (blk h (fun i => (a ++ b).getD i 0)) (n + m) ((a ++ b).drop 64) = blksL (blksL (blk h (fun i => a.getD i 0)) n (a.drop 64)) m b
    have e : (a ++ b).drop 64 = a.drop 64 ++ b := List.drop_append_of_le_length (by omega)
    rw [e, blksL_app m b n _ _ (by rw [List.length_drop]; omega)]
    rw [blk_congr h (f := fun i => (a ++ b).getD i 0) (f' := fun i => a.getD i 0) (fun i hi => by
      show (a ++ b).getD i 0 = a.getD i 0
      rw [getD_app, if_pos (by omega)])]
theorem blksL_snoc : ∀ (n : Nat) (h : Nat → UInt32) (l : List UInt8), blksL h (n + 1) l = blk (blksL h n l) (fun i => (l.drop (64 * n)).getD i 0)
  | 0, h, l => rfl
  | n + 1, h, l => by
    show blksL (blk h (fun i => l.getD i 0)) (n + 1) (l.drop 64) = _
    rw [blksL_snoc n]
    show blk _ (fun i => ((l.drop 64).drop (64 * n)).getD i 0) = blk (blksL (blk h (fun i => l.getD i 0)) n (l.drop 64)) _
    rw [List.drop_drop, show 64 + 64 * n = 64 * (n + 1) by omega]
/-- How many noughts. -/
def padZ (n : Nat) : Nat := (119 - n % 64) % 64
def lenB (x : UInt64) : List UInt8 := (List.range 8).map fun t => lb x (7 - t)
def msg (l : List UInt8) : List UInt8 := l ++ ([0x80] ++ (List.replicate (padZ l.length) 0 ++ lenB (UInt64.ofNat l.length * 8)))
theorem lenB_at (x : UInt64) (j : Nat) (h : j < 8) : (lenB x).getD j 0 = lb x (7 - j) := by
  unfold lenB
  rw [List.getD_eq_getElem?_getD, List.getElem?_map, List.getElem?_range h]
  rfl
theorem lenB_len (x : UInt64) : (lenB x).length = 8 := by simp [lenB]
theorem ext_getD {a b : List UInt8} (hl : a.length = b.length) (h : ∀ j, j < a.length → a.getD j 0 = b.getD j 0) : a = b := by
  apply List.ext_getElem hl
  intro j h1 h2
  have := h j h1
  rw [List.getD_eq_getElem?_getD, List.getD_eq_getElem?_getD, List.getElem?_eq_getElem h1, List.getElem?_eq_getElem h2] at this
  exact this
theorem enL_at (l : List UInt8) (x : UInt64) (n j : Nat) (h : j < n) : (enL l x n).getD j 0 = enB l x n 8 j := by
  unfold enL
  rw [List.getD_eq_getElem?_getD, List.getElem?_map, List.getElem?_range h]
  rfl
theorem msg_end (r : List UInt8) (x : UInt64) (hr : r.length < 64) : r ++ ([0x80] ++ (List.replicate (padZ r.length) 0 ++ lenB x)) = enL r x (if r.length < 56 then 64 else 128) := by
  have hN : r.length + 1 + padZ r.length + 8 = (if r.length < 56 then 64 else 128) := by
    unfold padZ
    split <;> omega
  have hlen : (r ++ ([0x80] ++ (List.replicate (padZ r.length) 0 ++ lenB x))).length = (if r.length < 56 then 64 else 128) := by
    simp only [List.length_append, List.length_replicate, lenB_len, List.length_cons, List.length_nil]
    omega
  generalize (if r.length < 56 then 64 else 128) = N at *
  refine ext_getD (by rw [hlen]; simp [enL]) fun j hj => ?_
  rw [hlen] at hj
  rw [enL_at _ _ _ _ hj, getD_app]
  unfold enB
  by_cases h1 : j < r.length
  · rw [if_pos h1, if_neg (by omega), if_neg (by omega)]
  · rw [if_neg h1, getD_app]
    by_cases h2 : j = r.length
    · subst h2
      rw [if_pos (by simp), if_neg (by omega), if_pos rfl]
      simp
    · rw [if_neg (by simp; omega), getD_app]
      simp only [List.length_cons, List.length_nil, List.length_replicate]
      by_cases h3 : j < r.length + 1 + padZ r.length
      · rw [if_pos (by omega), getD_rep, if_neg (by omega), if_neg h2, getD_off _ _ (by omega)]
      · rw [if_neg (by omega), if_pos (by omega), lenB_at _ _ (by omega)]
        congr 1
        omega
theorem msg_eq (l : List UInt8) : msg l = l.take (whole l) ++ shaEnd l := by
  have hw : whole l ≤ l.length := by unfold whole; omega
  have hr : (l.drop (whole l)).length < 64 := by rw [List.length_drop]; unfold whole; omega
  have hp : padZ l.length = padZ (l.drop (whole l)).length := by
    rw [List.length_drop]
    unfold padZ whole
    congr 2
    omega
  unfold msg shaEnd
  simp only
  have e : ∀ X : List UInt8, l ++ X = l.take (whole l) ++ (l.drop (whole l) ++ X) := fun X => by rw [← List.append_assoc, List.take_append_drop]
  rw [e, hp]
  congr 1
  exact msg_end (l.drop (whole l)) (UInt64.ofNat l.length * 8) hr
theorem msg_len (l : List UInt8) : (msg l).length % 64 = 0 ∧ (msg l).length = l.length + 1 + padZ l.length + 8 := by
  have : (msg l).length = l.length + 1 + padZ l.length + 8 := by
    unfold msg
    simp only [List.length_append, List.length_replicate, lenB_len, List.length_cons, List.length_nil]
    omega
  refine ⟨?_, this⟩
  rw [this]
  unfold padZ
  omega
theorem shaH_msg (l : List UInt8) : shaH l = blksL h0 ((msg l).length / 64) (msg l) := by
  have hw : whole l ≤ l.length := by unfold whole; omega
  have ht : (l.take (whole l)).length = whole l := by rw [List.length_take, Nat.min_eq_left hw]
  have hm := msg_eq l
  have hl : (msg l).length = whole l + (shaEnd l).length := by rw [hm, List.length_append, ht]
  have hw64 : whole l = 64 * (whole l / 64) := by unfold whole; omega
  unfold shaH
  rw [ht, hl, hm, show (whole l + (shaEnd l).length) / 64 = whole l / 64 + (shaEnd l).length / 64 by omega, blksL_app _ _ _ _ _ (by rw [ht]; exact hw64)]
end Go.Proofs.YtpikhfgpdebomaaDoor.Dg

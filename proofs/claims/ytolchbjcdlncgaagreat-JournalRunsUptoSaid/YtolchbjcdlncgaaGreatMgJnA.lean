/- Texts joined: JnA. -/
import Derived.Test.YtolchbjcdlncgaaGreatMgDkB
import Derived.Test.YtolchbjcdlncgaaGreatMgWrJ
/- A journal as records: what bytes hold, what records make. -/
namespace Go.Proofs.YtolchbjcdlncgaaGreat.Dg
/-- What stands where a frame is good. -/
theorem uf_split (l : List UInt8) (h : ufE l = 0) : l = frameL (ufC l) ++ l.drop (ufN l) ∧ (ufC l).length ≤ 524288 ∧ ufN l = 8 + (ufC l).length ∧ ufN l ≤ l.length := by
  have h0 := h
  unfold ufE at h0
  by_cases h8 : l.length < 8
  · rw [if_pos h8] at h0; cases h0
  rw [if_neg h8] at h0
  by_cases hb : 524288 < valL (l.take 4)
  · rw [if_pos hb] at h0; cases h0
  rw [if_neg hb] at h0
  by_cases hs : l.length < 8 + valL (l.take 4)
  · rw [if_pos hs] at h0; cases h0
  rw [if_neg hs] at h0
  by_cases hc : (crcL ((l.drop 8).take (valL (l.take 4)))).toNat = valL ((l.drop 4).take 4)
  · have hC : ufC l = (l.drop 8).take (valL (l.take 4)) := by unfold ufC; rw [if_pos h]
    have hN : ufN l = 8 + valL (l.take 4) := by unfold ufN; rw [if_pos h]
    have hl : (ufC l).length = valL (l.take 4) := by rw [hC, List.length_take, List.length_drop]; omega
    refine ⟨?_, by omega, by omega, by omega⟩
    have l1 : lowL (ufC l).length 4 = l.take 4 := by
      have := lowL_valL (l.take 4)
      rw [List.length_take, show min 4 l.length = 4 by omega] at this
      rw [hl, this]
    have l2 : lowL (crcL (ufC l)).toNat 4 = (l.drop 4).take 4 := by
      have := lowL_valL ((l.drop 4).take 4)
      rw [List.length_take, List.length_drop, show min 4 (l.length - 4) = 4 by omega] at this
      rw [hC, hc, this]
    unfold frameL
    rw [l1, l2, hN, ← hl]
    have e1 : l.drop (8 + (ufC l).length) = (l.drop 8).drop (ufC l).length := by rw [List.drop_drop]
    have e2 : ufC l ++ (l.drop 8).drop (ufC l).length = l.drop 8 := by
      conv => lhs; lhs; rw [hC, ← hl]
      exact List.take_append_drop _ _
    rw [e1, List.append_assoc, e2]
    have e3 : l.drop 8 = (l.drop 4).drop 4 := by rw [List.drop_drop]
    rw [e3, List.append_assoc, List.take_append_drop, List.take_append_drop]
  · rw [if_neg hc] at h0; cases h0
/-- The records that bytes begin with. -/
def recsOf (l : List UInt8) : List (List UInt8) := if _h : ufE l = 0 then ufC l :: recsOf (l.drop (ufN l)) else []
termination_by l.length
decreasing_by
  have := uf_split l ‹ufE l = 0›
  rw [List.length_drop]
  omega
/-- Frames one behind the other. -/
def framesL : List (List UInt8) → List UInt8
  | [] => []
  | r :: rs => frameL r ++ framesL rs
/-- How many bytes they take. -/
def sizeL : List (List UInt8) → Nat
  | [] => 0
  | r :: rs => 8 + r.length + sizeL rs
theorem framesL_length : ∀ rs : List (List UInt8), (framesL rs).length = sizeL rs
  | [] => rfl
  | r :: rs => by rw [framesL, List.length_append, frameL_length, framesL_length rs, sizeL]
theorem framesL_append : ∀ a b : List (List UInt8), framesL (a ++ b) = framesL a ++ framesL b
  | [], b => rfl
  | r :: a, b => by rw [List.cons_append, framesL, framesL_append a b, framesL, List.append_assoc]
theorem sizeL_append : ∀ a b : List (List UInt8), sizeL (a ++ b) = sizeL a + sizeL b
  | [], b => by simp [sizeL]
  | r :: a, b => by rw [List.cons_append, sizeL, sizeL_append a b, sizeL]; omega
theorem sizeL_ge : ∀ rs : List (List UInt8), 8 * rs.length ≤ sizeL rs
  | [] => by simp [sizeL]
  | r :: rs => by have := sizeL_ge rs; rw [sizeL, List.length_cons]; omega
/-- None is greater than a frame may be. -/
def AllSmall (rs : List (List UInt8)) : Prop := ∀ r ∈ rs, r.length ≤ 524288
theorem recsOf_good {l : List UInt8} (h : ufE l = 0) : recsOf l = ufC l :: recsOf (l.drop (ufN l)) := by rw [recsOf, dif_pos h]
theorem recsOf_bad {l : List UInt8} (h : ufE l ≠ 0) : recsOf l = [] := by rw [recsOf, dif_neg h]
theorem recs_split (l : List UInt8) : l = framesL (recsOf l) ++ l.drop (sizeL (recsOf l)) ∧ ufE (l.drop (sizeL (recsOf l))) ≠ 0 ∧ AllSmall (recsOf l) ∧ sizeL (recsOf l) ≤ l.length := by
  by_cases h : ufE l = 0
  · obtain ⟨h1, h2, h3, h4⟩ := uf_split l h
    obtain ⟨i1, i2, i3, i4⟩ := recs_split (l.drop (ufN l))
    have e := recsOf_good h
    have es : sizeL (recsOf l) = ufN l + sizeL (recsOf (l.drop (ufN l))) := by rw [e, sizeL, h3]
    have ed : l.drop (sizeL (recsOf l)) = (l.drop (ufN l)).drop (sizeL (recsOf (l.drop (ufN l)))) := by rw [es, List.drop_drop]
    rw [List.length_drop] at i4
    refine ⟨?_, by rw [ed]; exact i2, by rw [e]; intro r hr; rcases List.mem_cons.1 hr with rfl | hr; exact h2; exact i3 r hr, by rw [es]; omega⟩
    rw [ed, e, framesL, List.append_assoc, ← i1]
    exact h1
  · rw [recsOf_bad h]
    exact ⟨rfl, h, fun _ hr => (by cases hr), Nat.zero_le _⟩
termination_by l.length
decreasing_by
  have := uf_split l h
  rw [List.length_drop]
  omega
theorem recs_frames (rest : List UInt8) (hr : ufE rest ≠ 0) : ∀ rs : List (List UInt8), AllSmall rs → recsOf (framesL rs ++ rest) = rs
  | [], _ => recsOf_bad hr
  | r :: rs, h => by
    have hw := whole_told r (framesL rs ++ rest) (h r (List.mem_cons_self ..))
    rw [framesL, List.append_assoc, recsOf_good hw.1, hw.2.1, hw.2.2]
    congr 1
    rw [List.drop_append_of_le_length (by rw [frameL_length]; omega), List.drop_of_length_le (by rw [frameL_length]; omega), List.nil_append]
    exact recs_frames rest hr rs (fun x hx => h x (List.mem_cons_of_mem _ hx))
theorem ufE_nil : ufE [] ≠ 0 := by unfold ufE; simp
theorem recs_whole (rs : List (List UInt8)) (h : AllSmall rs) : recsOf (framesL rs) = rs := by
  have := recs_frames [] ufE_nil rs h
  rwa [List.append_nil] at this
/-- Where the k-th record begins. -/
def plc (a : Nat) (rs : List (List UInt8)) (k : Nat) : Nat := a + sizeL (rs.take k)
theorem plc_zero (a : Nat) (rs : List (List UInt8)) : plc a rs 0 = a := by simp [plc, sizeL]
theorem plc_succ (a : Nat) (rs : List (List UInt8)) (k : Nat) (h : k < rs.length) : plc a rs (k + 1) = plc a rs k + 8 + rs[k].length := by
  unfold plc
  rw [List.take_succ_eq_append_getElem h, sizeL_append, sizeL, sizeL]
  omega
theorem plc_len (a : Nat) (rs : List (List UInt8)) (k : Nat) (h : rs.length ≤ k) : plc a rs k = a + sizeL rs := by unfold plc; rw [List.take_of_length_le h]
theorem plc_le (a : Nat) (rs : List (List UInt8)) (k : Nat) : plc a rs k ≤ a + sizeL rs := by
  unfold plc
  have := sizeL_append (rs.take k) (rs.drop k)
  rw [List.take_append_drop] at this
  omega
theorem plc_lt (a : Nat) (rs : List (List UInt8)) {i j : Nat} (h : i < j) (hj : j ≤ rs.length) : plc a rs i + 8 ≤ plc a rs j := by
  induction j with
  | zero => omega
  | succ j ih =>
    have e := plc_succ a rs j (by omega)
    rcases Nat.lt_or_ge i j with h2 | h2
    · have := ih h2 (by omega)
      omega
    · have : i = j := by omega
      subst this
      omega
theorem plc_inj (a : Nat) (rs : List (List UInt8)) {i j : Nat} (hi : i ≤ rs.length) (hj : j ≤ rs.length) (h : plc a rs i = plc a rs j) : i = j := by
  rcases Nat.lt_trichotomy i j with h2 | h2 | h2
  · have := plc_lt a rs h2 hj; omega
  · exact h2
  · have := plc_lt a rs h2 hi; omega
/-- The bytes of the k-th record stand eight behind its place. -/
theorem frames_at : ∀ (rs : List (List UInt8)) (k : Nat) (h : k < rs.length), ((framesL rs).drop (sizeL (rs.take k) + 8)).take rs[k].length = rs[k]
  | [], k, h => by simp at h
  | r :: rs, 0, h => by
    have e : (framesL (r :: rs)).drop (sizeL ((r :: rs).take 0) + 8) = r ++ framesL rs := by
      rw [framesL, frameL_hdr, List.append_assoc]
      exact hdr_drop _ _ _
    rw [e]
    show (r ++ framesL rs).take r.length = r
    rw [List.take_append_of_le_length (Nat.le_refl _), List.take_length]
  | r :: rs, k + 1, h => by
    have hk : k < rs.length := by simpa using h
    have e : (framesL (r :: rs)).drop (sizeL ((r :: rs).take (k + 1)) + 8) = (framesL rs).drop (sizeL (rs.take k) + 8) := by
      rw [framesL, List.take_succ_cons, sizeL, show 8 + r.length + sizeL (rs.take k) + 8 = (8 + r.length) + (sizeL (rs.take k) + 8) by omega, ← List.drop_drop]
      congr 1
      rw [List.drop_append_of_le_length (by rw [frameL_length]; omega), List.drop_of_length_le (by rw [frameL_length]; omega), List.nil_append]
    rw [e, List.getElem_cons_succ]
    exact frames_at rs k hk
theorem drop_frame (r X : List UInt8) (k : Nat) : (frameL r ++ X).drop (8 + r.length + k) = X.drop k := by rw [← frameL_length r, List.drop_length_add_append]
theorem frames_drop : ∀ (rs : List (List UInt8)) (k : Nat), (framesL rs).drop (sizeL (rs.take k)) = framesL (rs.drop k)
  | [], k => by simp [framesL]
  | r :: rs, 0 => by simp [sizeL]
  | r :: rs, k + 1 => by
    rw [framesL, List.take_succ_cons, sizeL, drop_frame, List.drop_succ_cons]
    exact frames_drop rs k
theorem frames_take : ∀ (rs : List (List UInt8)) (k : Nat), (framesL rs).take (sizeL (rs.take k)) = framesL (rs.take k)
  | [], k => by simp [framesL]
  | r :: rs, 0 => by simp [sizeL, framesL]
  | r :: rs, k + 1 => by
    rw [List.take_succ_cons, sizeL, framesL, framesL, ← frameL_length r, List.take_length_add_append, frames_take rs k]
theorem AllSmall.take {rs : List (List UInt8)} (h : AllSmall rs) (k : Nat) : AllSmall (rs.take k) := fun r hr => h r (List.mem_of_mem_take hr)
theorem AllSmall.drop {rs : List (List UInt8)} (h : AllSmall rs) (k : Nat) : AllSmall (rs.drop k) := fun r hr => h r (List.mem_of_mem_drop hr)
theorem AllSmall.snoc {rs : List (List UInt8)} (h : AllSmall rs) {r : List UInt8} (hr : r.length ≤ 524288) : AllSmall (rs ++ [r]) := fun x hx => by
  rcases List.mem_append.1 hx with hx | hx
  · exact h x hx
  · rw [List.mem_singleton.1 hx]; exact hr
end Go.Proofs.YtolchbjcdlncgaaGreat.Dg

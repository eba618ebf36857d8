/- An object's bytes as a function of the place: what a plain array and its marks hold, and how changes turn it; the runs up to a place. -/
import Derived.Test.YtniodjigncicbaaExA
namespace Go.Proofs.Ytniodjigncicbaa.Dg
abbrev Cel := Nat → Option UInt8
def datR (c : Cel) (s : Nat) : List UInt8 := (List.range s).map fun p => (c p).getD 0
def hasR (c : Cel) (s : Nat) : List Bool := (List.range s).map fun p => (c p).isSome
def wrC (c : Cel) (a : Nat) (b : List UInt8) : Cel := fun p => if a ≤ p ∧ p < a + b.length then b[p - a]? else c p
def hoC (c : Cel) (a e : Nat) : Cel := fun p => if a ≤ p ∧ p < e then none else c p
def Upto (c : Cel) (s : Nat) : Prop := ∀ p, s ≤ p → c p = none
theorem datR_length (c : Cel) (s : Nat) : (datR c s).length = s := by simp [datR]
theorem hasR_length (c : Cel) (s : Nat) : (hasR c s).length = s := by simp [hasR]
theorem datR_get (c : Cel) (s p : Nat) (h : p < s) : (datR c s).getD p 0 = (c p).getD 0 := by
  rw [List.getD_eq_getElem?_getD]; simp [datR, h]
theorem hasR_get (c : Cel) (s p : Nat) (h : p < s) : (hasR c s)[p]? = some (c p).isSome := by simp [hasR, h]
theorem datR_succ (c : Cel) (s : Nat) (h : c s = none) : datR c (s + 1) = datR c s ++ [0] := by
  unfold datR; rw [List.range_succ, List.map_append]; simp [h]
theorem hasR_succ (c : Cel) (s : Nat) (h : c s = none) : hasR c (s + 1) = hasR c s ++ [false] := by
  unfold hasR; rw [List.range_succ, List.map_append]; simp [h]
theorem datR_ext {c c' : Cel} {s : Nat} (h : ∀ p, p < s → c p = c' p) : datR c s = datR c' s := by
  unfold datR; exact List.map_congr_left fun p hp => by rw [h p (List.mem_range.1 hp)]
theorem hasR_ext {c c' : Cel} {s : Nat} (h : ∀ p, p < s → c p = c' p) : hasR c s = hasR c' s := by
  unfold hasR; exact List.map_congr_left fun p hp => by rw [h p (List.mem_range.1 hp)]
theorem datR_set (c : Cel) (s k : Nat) (v : Option UInt8) : (datR c s).set k (v.getD 0) = datR (fun p => if p = k then v else c p) s := by
  apply List.ext_getElem?
  intro i
  rw [List.getElem?_set]
  simp only [datR, List.getElem?_map]
  by_cases hi : k = i
  · subst hi
    by_cases h : k < s
    · simp [h]
    · simp [h]
  · rw [if_neg hi]
    by_cases h : i < s
    · simp [h, show ¬ i = k from fun e => hi e.symm]
    · simp [h]
theorem hasR_set (c : Cel) (s k : Nat) (v : Option UInt8) : (hasR c s).set k v.isSome = hasR (fun p => if p = k then v else c p) s := by
  apply List.ext_getElem?
  intro i
  rw [List.getElem?_set]
  simp only [hasR, List.getElem?_map]
  by_cases hi : k = i
  · subst hi
    by_cases h : k < s
    · simp [h]
    · simp [h]
  · rw [if_neg hi]
    by_cases h : i < s
    · simp [h, show ¬ i = k from fun e => hi e.symm]
    · simp [h]
theorem wrC_step (c : Cel) (a : Nat) (b : List UInt8) (i : Nat) (h : i < b.length) : (fun p => if p = a + i then some (b.getD i 0) else wrC c a (b.take i) p) = wrC c a (b.take (i + 1)) := by
  funext p
  simp only [wrC, List.length_take, Nat.min_eq_left (Nat.le_of_lt h), Nat.min_eq_left (show i + 1 ≤ b.length from h)]
  by_cases h1 : p = a + i
  · subst h1
    rw [if_pos rfl, if_pos (by omega), List.getElem?_take_of_lt (by omega), show a + i - a = i by omega, List.getD_eq_getElem?_getD, List.getElem?_eq_getElem h]; rfl
  · rw [if_neg h1]
    by_cases h2 : a ≤ p ∧ p < a + i
    · rw [if_pos h2, if_pos (by omega), List.getElem?_take_of_lt (by omega), List.getElem?_take_of_lt (by omega)]
    · rw [if_neg h2, if_neg (by omega)]
theorem wrC_nil (c : Cel) (a : Nat) : wrC c a [] = c := by
  funext p; simp only [wrC, List.length_nil]; rw [if_neg (by omega)]
theorem hoC_step (c : Cel) (a i : Nat) (h : a ≤ i) : (fun p => if p = i then none else hoC c a i p) = hoC c a (i + 1) := by
  funext p
  simp only [hoC]
  by_cases h1 : p = i
  · subst h1; rw [if_pos rfl, if_pos (by omega)]
  · rw [if_neg h1]
    by_cases h2 : a ≤ p ∧ p < i
    · rw [if_pos h2, if_pos (by omega)]
    · rw [if_neg h2, if_neg (by omega)]
theorem hoC_nil (c : Cel) (a : Nat) : hoC c a a = c := by
  funext p; simp only [hoC]; rw [if_neg (by omega)]
theorem Upto.mono {c : Cel} {s t : Nat} (h : Upto c s) (hst : s ≤ t) : Upto c t := fun p hp => h p (by omega)
theorem Upto.wr {c : Cel} {s : Nat} (h : Upto c s) (a : Nat) (b : List UInt8) : Upto (wrC c a b) (max s (a + b.length)) := fun p hp => by
  simp only [wrC]; rw [if_neg (by omega)]; exact h p (by omega)
theorem Upto.ho {c : Cel} {s : Nat} (h : Upto c s) (a e : Nat) : Upto (hoC c a e) s := fun p hp => by
  simp only [hoC]; split
  · rfl
  · exact h p hp
theorem Upto.cut {c : Cel} {s : Nat} (h : Upto c s) (n : Nat) : Upto (hoC c n s) n := fun p hp => by
  simp only [hoC]; split
  · rfl
  · exact h p (by omega)
/-- The runs up to a place. -/
def clipR (R : List Rn) (p : Nat) : List Rn := R.filterMap fun q => if q.1 < p then some (q.1, q.2.take (p - q.1)) else none
theorem clipR_zero (R : List Rn) : clipR R 0 = [] := by
  unfold clipR; rw [List.filterMap_eq_nil_iff]; intro q _; rw [if_neg (by omega)]
theorem clipR_all (R : List Rn) (s : Nat) (hne : ∀ q ∈ R, q.2 ≠ []) (h : ∀ q ∈ R, q.1 + q.2.length ≤ s) : clipR R s = R := by
  induction R with
  | nil => rfl
  | cons q R ih =>
    have h1 := h q (List.mem_cons_self ..)
    have h2 : q.2.length ≠ 0 := fun e => hne q (List.mem_cons_self ..) (List.eq_nil_of_length_eq_zero e)
    have := ih (fun r hr => hne r (List.mem_cons_of_mem _ hr)) (fun r hr => h r (List.mem_cons_of_mem _ hr))
    unfold clipR at this ⊢
    rw [List.filterMap_cons, if_pos (by omega), this, List.take_of_length_le (by omega)]
theorem clipR_far (R : List Rn) (p : Nat) (h : ∀ q ∈ R, p ≤ q.1) : clipR R p = [] := by
  unfold clipR; rw [List.filterMap_eq_nil_iff]; intro q hq; have := h q hq; rw [if_neg (by omega)]
theorem clipR_none : ∀ (R : List Rn) (p : Nat), Ris R → cellR R p = none → clipR R (p + 1) = clipR R p
  | [], _, _, _ => rfl
  | q :: R, p, hR, h => by
    have h2 : q.2.length ≠ 0 := fun e => hR.1 (List.eq_nil_of_length_eq_zero e)
    have hq : p < q.1 ∨ q.1 + q.2.length ≤ p := by
      rcases Nat.lt_or_ge p q.1 with h1 | h1
      · exact .inl h1
      · rcases Nat.lt_or_ge p (q.1 + q.2.length) with h3 | h3
        · rw [cellR, if_pos ⟨h1, h3⟩, List.getElem?_eq_getElem (by omega)] at h; cases h
        · exact .inr h3
    rw [cellR, if_neg (by omega)] at h
    have ih := clipR_none R p hR.2.2 h
    unfold clipR at ih ⊢
    rw [List.filterMap_cons, List.filterMap_cons, ih]
    rcases hq with h1 | h1
    · rw [if_neg (by omega), if_neg (by omega)]
    · rw [if_pos (by omega), if_pos (by omega), List.take_of_length_le (by omega), List.take_of_length_le (by omega)]
theorem clipR_some : ∀ (R : List Rn) (p : Nat) (x : UInt8), Ris R → cellR R p = some x →
    (∃ l a b, clipR R p = l ++ [(a, b)] ∧ a + b.length = p ∧ clipR R (p + 1) = l ++ [(a, b ++ [x])]) ∨ (clipR R (p + 1) = clipR R p ++ [(p, [x])] ∧ ∀ l a b, clipR R p = l ++ [(a, b)] → a + b.length ≠ p)
  | [], _, _, _, h => by cases h
  | q :: R, p, x, hR, h => by
    have h2 : q.2.length ≠ 0 := fun e => hR.1 (List.eq_nil_of_length_eq_zero e)
    by_cases hc : q.1 ≤ p ∧ p < q.1 + q.2.length
    · rw [cellR, if_pos hc] at h
      have hf : ∀ p', p' ≤ p + 1 → clipR R p' = [] := fun p' hp' => clipR_far R p' fun r hr => by have := hR.2.1 r hr; omega
      have e1 : ∀ p', p' ≤ p + 1 → clipR (q :: R) p' = if q.1 < p' then [(q.1, q.2.take (p' - q.1))] else [] := fun p' hp' => by
        have := hf p' hp'
        unfold clipR at this ⊢
        rw [List.filterMap_cons, this]
        split <;> simp_all
      by_cases he : q.1 = p
      · refine .inr ⟨?_, ?_⟩
        · rw [e1 _ (Nat.le_refl _), e1 p (by omega), if_pos (by omega), if_neg (by omega), List.nil_append, he, show p + 1 - p = 1 by omega, List.take_one]
          rw [show p - q.1 = 0 by omega] at h
          rw [← List.head?_eq_getElem?] at h
          rw [h]; rfl
        · intro l a b hl
          rw [e1 p (by omega), if_neg (by omega)] at hl
          exact absurd hl.symm (by simp)
      · refine .inl ⟨[], q.1, q.2.take (p - q.1), ?_, ?_, ?_⟩
        · rw [e1 p (by omega), if_pos (by omega)]; rfl
        · rw [List.length_take]; omega
        · rw [e1 _ (Nat.le_refl _), if_pos (by omega), show p + 1 - q.1 = (p - q.1) + 1 by omega, List.take_add_one, h]; rfl
    · rw [cellR, if_neg hc] at h
      have hlt : q.1 + q.2.length ≤ p := by
        rcases Nat.lt_or_ge p q.1 with h1 | h1
        · exfalso
          rw [cellR_none R p fun r hr => .inl (by have := hR.2.1 r hr; omega)] at h
          cases h
        · omega
      have e1 : ∀ p', p ≤ p' → clipR (q :: R) p' = q :: clipR R p' := fun p' hp' => by
        unfold clipR
        rw [List.filterMap_cons, if_pos (by omega), List.take_of_length_le (by omega)]
      rw [e1 p (Nat.le_refl _), e1 (p + 1) (by omega)]
      rcases clipR_some R p x hR.2.2 h with ⟨l, a, b, h3, h4, h5⟩ | ⟨h3, h4⟩
      · exact .inl ⟨q :: l, a, b, by rw [h3]; rfl, h4, by rw [h5]; rfl⟩
      · refine .inr ⟨by rw [h3]; rfl, fun l a b hl => ?_⟩
        cases l with
        | nil =>
          injection hl with hl1 hl2
          have hp : q.1 + q.2.length ≠ p := by
            intro he
            -- the next run begins behind q's end
            have : ∀ r ∈ R, p < r.1 := fun r hr => by have := hR.2.1 r hr; omega
            rw [cellR_none R p fun r hr => .inl (this r hr)] at h
            cases h
          rw [hl1] at hp
          exact hp
        | cons y l =>
          injection hl with _ hl2
          exact h4 l a b hl2
end Go.Proofs.Ytniodjigncicbaa.Dg

/- Runs of bytes with holes between, as lists: what a change of bytes makes of them. -/
import Derived.Test.YtniodjigncicbaaDgAb
namespace Go.Proofs.Ytniodjigncicbaa.Dg
abbrev Rn := Nat × List UInt8
/-- Rising, none empty, no two touch. -/
def Ris : List Rn → Prop
  | [] => True
  | q :: R => q.2 ≠ [] ∧ (∀ r ∈ R, q.1 + q.2.length < r.1) ∧ Ris R
/-- The byte at a place. -/
def cellR : List Rn → Nat → Option UInt8
  | [], _ => none
  | q :: R, p => if q.1 ≤ p ∧ p < q.1 + q.2.length then q.2[p - q.1]? else cellR R p
theorem ris_append : ∀ (A B : List Rn), Ris (A ++ B) ↔ Ris A ∧ Ris B ∧ ∀ a ∈ A, ∀ b ∈ B, a.1 + a.2.length < b.1
  | [], B => by simp [Ris]
  | q :: A, B => by
    simp only [List.cons_append, Ris, ris_append A B, List.mem_append, List.mem_cons]
    constructor
    · rintro ⟨h1, h2, h3, h4, h5⟩
      exact ⟨⟨h1, fun r hr => h2 r (.inl hr), h3⟩, h4, fun a ha b hb => by
        rcases ha with rfl | ha
        · exact h2 b (.inr hb)
        · exact h5 a ha b hb⟩
    · rintro ⟨⟨h1, h2, h3⟩, h4, h5⟩
      exact ⟨h1, fun r hr => by
        rcases hr with hr | hr
        · exact h2 r hr
        · exact h5 q (.inl rfl) r hr, h3, h4, fun a ha b hb => h5 a (.inr ha) b hb⟩
theorem cellR_none : ∀ (R : List Rn) (p : Nat), (∀ q ∈ R, p < q.1 ∨ q.1 + q.2.length ≤ p) → cellR R p = none
  | [], _, _ => rfl
  | q :: R, p, h => by
    have h1 := h q (List.mem_cons_self ..)
    rw [cellR, if_neg (by omega)]
    exact cellR_none R p fun r hr => h r (List.mem_cons_of_mem _ hr)
theorem cellR_append : ∀ (A B : List Rn) (p : Nat), cellR (A ++ B) p = (cellR A p).or (cellR B p)
  | [], B, p => by simp [cellR]
  | q :: A, B, p => by
    simp only [List.cons_append, cellR, cellR_append A B p]
    split
    · rw [List.getElem?_eq_getElem (by omega)]; rfl
    · rfl
theorem cellR_one (a : Nat) (b : List UInt8) (p : Nat) : cellR [(a, b)] p = if a ≤ p then b[p - a]? else none := by
  simp only [cellR]
  by_cases h : a ≤ p
  · by_cases h2 : p < a + b.length
    · rw [if_pos ⟨h, h2⟩, if_pos h]
    · rw [if_neg (by omega), if_pos h, List.getElem?_eq_none (by omega)]
  · rw [if_neg (by omega), if_neg h]
/-- What stands ahead of a place in the first of runs, and from an end on in the last. -/
def headR (M : List Rn) (at_ : Nat) : List UInt8 := match M.head? with
  | none => []
  | some m => m.2.take (at_ - m.1)
def tailR (M : List Rn) (e : Nat) : List UInt8 := match M.getLast? with
  | none => []
  | some m => m.2.drop (e - m.1)
section
variable {A M B : List Rn} {at_ e : Nat}
theorem head_cell (hM : Ris M) (h1 : ∀ q ∈ M, at_ ≤ q.1 + q.2.length) (p : Nat) (hp : p < at_) :
    cellR M p = if at_ - (headR M at_).length ≤ p then (headR M at_)[p - (at_ - (headR M at_).length)]? else none := by
  cases M with
  | nil => simp [headR, cellR]
  | cons m M =>
    have hm := h1 m (List.mem_cons_self ..)
    have hl : (headR (m :: M) at_).length = at_ - m.1 := by simp [headR, List.length_take]; omega
    have hrest : cellR M p = none := cellR_none M p fun q hq => .inl (by have := hM.2.1 q hq; omega)
    rw [hl]
    simp only [cellR, hrest, headR, List.head?_cons]
    by_cases hc : m.1 ≤ p
    · rw [if_pos (by omega), if_pos (by omega), List.getElem?_take_of_lt (by omega)]
      congr 1; omega
    · rw [if_neg (by omega)]
      split
      · rw [List.getElem?_take, if_neg (by omega)]
      · rfl
theorem tail_cell (hM : Ris M) (h2 : ∀ q ∈ M, q.1 ≤ e) (p : Nat) (hp : e ≤ p) : cellR M p = (tailR M e)[p - e]? := by
  rcases List.eq_nil_or_concat M with rfl | ⟨M', m, rfl⟩
  · simp [tailR, cellR]
  · rw [List.concat_eq_append] at *
    obtain ⟨-, -, hR⟩ := (ris_append M' [m]).1 hM
    have hm := h2 m (by simp)
    rw [cellR_append, cellR_none M' p fun q hq => .inr (by have := hR q hq m (by simp); omega), Option.none_or]
    obtain ⟨a, b⟩ := m
    have hm' : a ≤ e := hm
    rw [cellR_one, if_pos (by omega)]
    simp only [tailR, List.getLast?_append, List.getLast?_singleton, Option.some_or, List.getElem?_drop]
    congr 1; omega
theorem head_len (h1 : ∀ q ∈ M, at_ ≤ q.1 + q.2.length) : (headR M at_).length ≤ at_ ∧ ((headR M at_).length ≠ 0 → ∃ m, M.head? = some m ∧ at_ - (headR M at_).length = m.1) := by
  cases M with
  | nil => simp [headR]
  | cons m M =>
    have hm := h1 m (List.mem_cons_self ..)
    have hl : (headR (m :: M) at_).length = at_ - m.1 := by simp [headR, List.length_take]; omega
    rw [hl]
    exact ⟨by omega, fun h => ⟨m, rfl, by omega⟩⟩
theorem tail_len (h2 : ∀ q ∈ M, q.1 ≤ e) : (tailR M e).length ≠ 0 → ∃ m, M.getLast? = some m ∧ e + (tailR M e).length = m.1 + m.2.length := by
  intro h
  cases hg : M.getLast? with
  | none => simp [tailR, hg] at h
  | some m =>
    have hm := h2 m (List.mem_of_getLast? hg)
    have hl : (tailR M e).length = m.2.length - (e - m.1) := by simp [tailR, hg]
    rw [hl] at h ⊢
    exact ⟨m, rfl, by omega⟩
/-- Where a change of bytes begins and ends among runs. -/
structure Tou (A M B : List Rn) (at_ e : Nat) : Prop where
  ris : Ris (A ++ (M ++ B))
  le : at_ ≤ e
  a : ∀ q ∈ A, q.1 + q.2.length < at_
  m1 : ∀ q ∈ M, at_ ≤ q.1 + q.2.length
  m2 : ∀ q ∈ M, q.1 ≤ e
  b : ∀ q ∈ B, e < q.1
theorem Tou.parts (h : Tou A M B at_ e) : Ris A ∧ Ris M ∧ Ris B ∧ (∀ a ∈ A, ∀ m ∈ M, a.1 + a.2.length < m.1) ∧ (∀ m ∈ M, ∀ b ∈ B, m.1 + m.2.length < b.1) := by
  obtain ⟨h1, h2, h3⟩ := (ris_append _ _).1 h.ris
  obtain ⟨h4, h5, h6⟩ := (ris_append _ _).1 h2
  exact ⟨h1, h4, h5, fun a ha m hm => h3 a ha m (List.mem_append_left _ hm), h6⟩
theorem Tou.ahead (h : Tou A M B at_ e) (p : Nat) (hp : p < at_) : cellR (A ++ (M ++ B)) p = (cellR A p).or (if at_ - (headR M at_).length ≤ p then (headR M at_)[p - (at_ - (headR M at_).length)]? else none) := by
  rw [cellR_append, cellR_append, head_cell h.parts.2.1 h.m1 p hp, cellR_none B p fun q hq => .inl (by have := h.b q hq; have := h.le; omega), Option.or_none]
theorem Tou.behind (h : Tou A M B at_ e) (p : Nat) (hp : e ≤ p) : cellR (A ++ (M ++ B)) p = ((tailR M e)[p - e]?).or (cellR B p) := by
  rw [cellR_append, cellR_append, tail_cell h.parts.2.1 h.m2 p hp, cellR_none A p fun q hq => .inr (by have := h.a q hq; have := h.le; omega), Option.none_or]
/-- Bytes are written. -/
theorem Tou.write_cell (h : Tou A M B at_ e) (b : List UInt8) (hb : e = at_ + b.length) (p : Nat) :
    cellR (A ++ ((at_ - (headR M at_).length, headR M at_ ++ b ++ tailR M e) :: B)) p = if at_ ≤ p ∧ p < e then b[p - at_]? else cellR (A ++ (M ++ B)) p := by
  have hh := (head_len h.m1).1
  rw [show A ++ ((at_ - (headR M at_).length, headR M at_ ++ b ++ tailR M e) :: B) = A ++ ([(at_ - (headR M at_).length, headR M at_ ++ b ++ tailR M e)] ++ B) from rfl]
  rcases Nat.lt_or_ge p at_ with hp | hp
  · rw [if_neg (by omega), h.ahead p hp, cellR_append, cellR_append, cellR_one, cellR_none B p fun q hq => .inl (by have := h.b q hq; have := h.le; omega), Option.or_none]
    congr 1
    split
    · rw [List.append_assoc, List.getElem?_append_left (by omega)]
    · rfl
  · rcases Nat.lt_or_ge p e with hp2 | hp2
    · rw [if_pos ⟨hp, hp2⟩, cellR_append, cellR_append, cellR_one, if_pos (by omega), cellR_none A p fun q hq => .inr (by have := h.a q hq; omega), Option.none_or, List.append_assoc, List.getElem?_append_right (by omega), List.getElem?_append_left (by omega),
        List.getElem?_eq_getElem (by omega), List.getElem?_eq_getElem (by omega), Option.some_or]
      congr 2; omega
    · rw [if_neg (by omega), h.behind p hp2, cellR_append, cellR_append, cellR_one, if_pos (by omega), cellR_none A p fun q hq => .inr (by have := h.a q hq; omega), Option.none_or, List.getElem?_append_right (by simp; omega)]
      congr 2; simp; omega
theorem Tou.write_ris (h : Tou A M B at_ e) (b : List UInt8) (hb : e = at_ + b.length) (hb0 : b ≠ []) :
    Ris (A ++ ((at_ - (headR M at_).length, headR M at_ ++ b ++ tailR M e) :: B)) := by
  obtain ⟨p1, p2, p3, p4, p5⟩ := h.parts
  have hh := head_len h.m1
  have hb1 : b.length ≠ 0 := fun e => hb0 (List.eq_nil_of_length_eq_zero e)
  refine (ris_append _ _).2 ⟨p1, ⟨?_, fun r hr => ?_, p3⟩, fun a ha r hr => ?_⟩
  · simp [hb0]
  · have h1 := h.b r hr
    simp only [List.length_append]
    by_cases ht : (tailR M e).length = 0
    · omega
    · obtain ⟨m, hm, he⟩ := tail_len h.m2 ht
      have := p5 m (List.mem_of_getLast? hm) r hr
      omega
  · rcases List.mem_cons.1 hr with rfl | hr
    · have h1 := h.a a ha
      show _ < at_ - (headR M at_).length
      by_cases ht : (headR M at_).length = 0
      · omega
      · obtain ⟨m, hm, he⟩ := hh.2 ht
        have := p4 a ha m (List.mem_of_head? hm)
        omega
    · have := h.a a ha; have := h.b r hr; have := h.le; omega
/-- What is left of runs around a hole. -/
def leftR (M : List Rn) (at_ e : Nat) : List Rn := (if (headR M at_).length > 0 then [(at_ - (headR M at_).length, headR M at_)] else []) ++ (if (tailR M e).length > 0 then [(e, tailR M e)] else [])
theorem opt_one (a : Nat) (b : List UInt8) (p : Nat) : cellR (if b.length > 0 then [(a, b)] else []) p = if a ≤ p then b[p - a]? else none := by
  split
  · exact cellR_one a b p
  · have : b = [] := List.eq_nil_of_length_eq_zero (by omega)
    subst this
    simp [cellR]
theorem Tou.hole_cell (h : Tou A M B at_ e) (p : Nat) : cellR (A ++ (leftR M at_ e ++ B)) p = if at_ ≤ p ∧ p < e then none else cellR (A ++ (M ++ B)) p := by
  have hh := (head_len h.m1).1
  have hle := h.le
  rw [cellR_append, cellR_append, leftR, cellR_append, opt_one, opt_one]
  rcases Nat.lt_or_ge p at_ with hp | hp
  · rw [if_neg (show ¬ e ≤ p by omega), if_neg (show ¬ (at_ ≤ p ∧ p < e) by omega), h.ahead p hp, cellR_none B p fun q hq => .inl (by have := h.b q hq; omega), Option.or_none, Option.or_none]
  · have e1 : (if at_ - (headR M at_).length ≤ p then (headR M at_)[p - (at_ - (headR M at_).length)]? else none) = none := by
      rw [if_pos (by omega), List.getElem?_eq_none (by omega)]
    rw [e1, Option.none_or, cellR_none A p fun q hq => .inr (by have := h.a q hq; omega), Option.none_or]
    rcases Nat.lt_or_ge p e with hp2 | hp2
    · rw [if_pos (show at_ ≤ p ∧ p < e from ⟨hp, hp2⟩), if_neg (show ¬ e ≤ p by omega), cellR_none B p fun q hq => .inl (by have := h.b q hq; omega)]; rfl
    · rw [if_neg (show ¬ (at_ ≤ p ∧ p < e) by omega), if_pos (show e ≤ p from hp2), h.behind p hp2]
theorem Tou.hole_ris (h : Tou A M B at_ e) (hlt : at_ < e) : Ris (A ++ (leftR M at_ e ++ B)) := by
  obtain ⟨p1, p2, p3, p4, p5⟩ := h.parts
  have hh := head_len h.m1
  have hb2 : ∀ r ∈ B, e + (tailR M e).length < r.1 := fun r hr => by
    have h1 := h.b r hr
    by_cases ht : (tailR M e).length = 0
    · omega
    · obtain ⟨m, hm, he⟩ := tail_len h.m2 ht
      have := p5 m (List.mem_of_getLast? hm) r hr
      omega
  have ha2 : ∀ a ∈ A, a.1 + a.2.length < at_ - (headR M at_).length := fun a ha => by
    have h1 := h.a a ha
    by_cases ht : (headR M at_).length = 0
    · omega
    · obtain ⟨m, hm, he⟩ := hh.2 ht
      have := p4 a ha m (List.mem_of_head? hm)
      omega
  have hl : ∀ r ∈ leftR M at_ e, (r = (at_ - (headR M at_).length, headR M at_) ∧ 0 < (headR M at_).length) ∨ (r = (e, tailR M e) ∧ 0 < (tailR M e).length) := fun r hr => by
    unfold leftR at hr
    rcases List.mem_append.1 hr with hr | hr
    · split at hr
      · exact .inl ⟨List.mem_singleton.1 hr, by assumption⟩
      · cases hr
    · split at hr
      · exact .inr ⟨List.mem_singleton.1 hr, by assumption⟩
      · cases hr
  have hr0 : Ris (leftR M at_ e) := by
    unfold leftR
    refine (ris_append _ _).2 ⟨?_, ?_, fun a ha b hb => ?_⟩
    · split
      · exact ⟨fun e => by simp_all, fun r hr => (by cases hr), trivial⟩
      · trivial
    · split
      · exact ⟨fun e => by simp_all, fun r hr => (by cases hr), trivial⟩
      · trivial
    · split at ha
      · split at hb
        · rw [List.mem_singleton.1 ha, List.mem_singleton.1 hb]
          show at_ - (headR M at_).length + (headR M at_).length < e
          omega
        · cases hb
      · cases ha
  refine (ris_append _ _).2 ⟨p1, (ris_append _ _).2 ⟨hr0, p3, fun a ha b hb => ?_⟩, fun a ha r hr => ?_⟩
  · have h1 := hb2 b hb
    rcases hl a ha with ⟨rfl, -⟩ | ⟨rfl, -⟩
    · show at_ - (headR M at_).length + (headR M at_).length < b.1
      omega
    · exact h1
  · have h1 := ha2 a ha
    rcases List.mem_append.1 hr with hr | hr
    · rcases hl r hr with ⟨rfl, -⟩ | ⟨rfl, -⟩
      · exact h1
      · show _ < e
        omega
    · have := h.b r hr; omega
end
/-- Runs end where the last byte is. -/
theorem ris_end : ∀ (R : List Rn) (s : Nat), Ris R → (∀ p, s ≤ p → cellR R p = none) → ∀ q ∈ R, q.1 + q.2.length ≤ s
  | [], _, _, _, q, hq => by cases hq
  | r :: R, s, h, hs, q, hq => by
    have hr : r.1 + r.2.length ≤ s := by
      have h1 : r.2.length ≠ 0 := fun e => h.1 (List.eq_nil_of_length_eq_zero e)
      rcases Nat.lt_or_ge s (r.1 + r.2.length) with h2 | h2
      · have h3 := hs (r.1 + r.2.length - 1) (by omega)
        rw [cellR, if_pos (by omega), List.getElem?_eq_getElem (by omega)] at h3
        cases h3
      · exact h2
    rcases List.mem_cons.1 hq with rfl | hq
    · exact hr
    · refine ris_end R s h.2.2 (fun p hp => ?_) q hq
      have h4 := hs p hp
      rwa [cellR, if_neg (by omega)] at h4
end Go.Proofs.Ytniodjigncicbaa.Dg

/- Whose straw is the longest: what both sides make of lists. -/
import Derived.Test.YtmnfmgdllfhmaaaStD
import Derived.Test.YtmnfmgdllfhmaaaDgH
import Derived.Test.YtmnfmgdllfhmaaaNs
namespace Go.Proofs.Ytmnfmgdllfhmaaa.Dg
open Go.RowKit
/-- The place of the longest straw among the first j. -/
def chz (d wt : Nat → Int) : Nat → Option Nat
  | 0 => none
  | j + 1 => if wt j < 1 then chz d wt j else
    match chz d wt j with
    | none => some j
    | some b => if d b < d j then some j else some b
/-- What it says: the place has a weight, none is longer, those ahead of it are shorter. -/
def Longest (d wt : Nat → Int) (n b : Nat) : Prop := b < n ∧ 1 ≤ wt b ∧ ∀ i, i < n → 1 ≤ wt i → d i ≤ d b ∧ (i < b → d i < d b)
theorem chz_none {d wt : Nat → Int} (n : Nat) : chz d wt n = none ↔ ∀ i, i < n → wt i < 1 := by
  induction n with
  | zero => simp [chz]
  | succ j ih =>
    unfold chz
    by_cases c : wt j < 1
    · rw [if_pos c, ih]
      constructor
      · intro h i hi
        by_cases e : i = j
        · subst e; exact c
        · exact h i (by omega)
      · intro h i hi; exact h i (by omega)
    · rw [if_neg c]
      constructor
      · intro h
        exfalso
        cases e : chz d wt j with
        | none => rw [e] at h; cases h
        | some b => rw [e] at h; simp only at h; split at h <;> cases h
      · intro h
        exact absurd (h j (by omega)) c
theorem chz_some {d wt : Nat → Int} (n b : Nat) (h : chz d wt n = some b) : Longest d wt n b := by
  induction n generalizing b with
  | zero => cases h
  | succ j ih =>
    unfold chz at h
    by_cases c : wt j < 1
    · rw [if_pos c] at h
      obtain ⟨h1, h2, h3⟩ := ih b h
      refine ⟨by omega, h2, fun i hi hw => ?_⟩
      by_cases e : i = j
      · subst e; omega
      · exact h3 i (by omega) hw
    · rw [if_neg c] at h
      cases e : chz d wt j with
      | none =>
        rw [e] at h
        injection h with h
        subst h
        have hn := (chz_none j).1 e
        refine ⟨by omega, by omega, fun i hi hw => ?_⟩
        by_cases e2 : i = j
        · subst e2; exact ⟨Int.le_refl _, fun h => absurd h (by omega)⟩
        · exact absurd (hn i (by omega)) (by omega)
      | some b' =>
        rw [e] at h
        obtain ⟨h1, h2, h3⟩ := ih b' e
        simp only at h
        split at h
        · rename_i hlt
          injection h with h
          subst h
          refine ⟨by omega, by omega, fun i hi hw => ?_⟩
          by_cases e2 : i = j
          · subst e2; exact ⟨Int.le_refl _, fun h => absurd h (by omega)⟩
          · have := h3 i (by omega) hw
            omega
        · rename_i hge
          injection h with h
          subst h
          refine ⟨by omega, h2, fun i hi hw => ?_⟩
          by_cases e2 : i = j
          · subst e2; omega
          · exact h3 i (by omega) hw
theorem Longest.uniq {d wt : Nat → Int} {n a b : Nat} (h : Longest d wt n a) (k : Longest d wt n b) : a = b := by
  obtain ⟨h1, h2, h3⟩ := h
  obtain ⟨k1, k2, k3⟩ := k
  have x := h3 b k1 k2
  have y := k3 a h1 h2
  omega
theorem chz_of {d wt : Nat → Int} {n b : Nat} (h : Longest d wt n b) : chz d wt n = some b := by
  cases e : chz d wt n with
  | none => exact absurd ((chz_none n).1 e b h.1) (by have := h.2.1; omega)
  | some a => rw [(chz_some n a e).uniq h]
theorem chz_lt {d wt : Nat → Int} {n b : Nat} (h : chz d wt n = some b) : b < n ∧ 1 ≤ wt b := ⟨(chz_some n b h).1, (chz_some n b h).2.1⟩
theorem chz_congr {d d' wt wt' : Nat → Int} (n : Nat) (h : ∀ i, i < n → d i = d' i) (h2 : ∀ i, i < n → wt i = wt' i) : chz d wt n = chz d' wt' n := by
  induction n with
  | zero => rfl
  | succ j ih =>
    have ih := ih (fun i hi => h i (by omega)) (fun i hi => h2 i (by omega))
    unfold chz
    rw [ih, h2 j (by omega)]
    split
    · rfl
    · cases e : chz d' wt' j with
      | none => rfl
      | some b =>
        have hb := (chz_lt e).1
        simp only
        rw [h j (by omega), h b (by omega)]
/-- A number modulo 2^32. -/
def modU (i : Int) : UInt32 := UInt32.ofNat (i % 4294967296).toNat
theorem u32_mod (i : Int) : i % (4294967296 : Int) = n32 (modU i) := by
  unfold n32 modU
  rw [UInt32.toNat_ofNat']
  omega
def strawI (x : UInt32) (r : Int) (ids ws : List Int) (k : Nat) : Int := drawI (hash3L x (modU (ids.getD k 0)) (modU r)) (ws.getD k 0)
def wtI (ws : List Int) (k : Nat) : Int := ws.getD k 0
def chooseL (ids ws : List Int) (x : UInt32) (r : Int) : Option Nat := chz (strawI x r ids ws) (wtI ws) ids.length
end Go.Proofs.Ytmnfmgdllfhmaaa.Dg

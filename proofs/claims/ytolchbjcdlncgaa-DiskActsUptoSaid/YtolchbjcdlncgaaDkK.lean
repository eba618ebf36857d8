/- Calls on a disk from place 0 on, their answers reckoned out. -/
import Derived.Test.YtolchbjcdlncgaaDkJ
namespace Go.Proofs.Ytolchbjcdlncgaa.Dg
open Go.RowKit
variable {w w' W : World} {g : Nat} {v : Value} {s y : Nat} {m : List UInt8} {L : Option Nat}
theorem St.append0 {x : Value} {B : Nat} {xs : List UInt8} (h : St W w g v ⟨s, 0, y, m, L⟩) (hx : Bs w B x xs) (hs : s ≤ 67108864) (hr : m.length + xs.length ≤ s) :
    Calls Try.prog 53 #[.pointer (some ⟨g, 0, none⟩), x] w fun e w' => e = .returned (.tuple #[.int .i64 (m.length : Int), .int .i64 0]) ∧ ∃ v', St W w' g v' ⟨s, 0, y, m ++ xs, L⟩ := by
  have hf : Dst.fits ⟨s, 0, y, m, L⟩ xs.length = true := decide_eq_true (by show xs.length ≤ s - m.length; omega)
  have := h.append hx (.inl (by show 0 + m.length + xs.length ≤ _; omega))
  rw [show Dst.appAt ⟨s, 0, y, m, L⟩ xs.length = m.length by unfold Dst.appAt; rw [hf]; exact Nat.zero_add _, show Dst.appE ⟨s, 0, y, m, L⟩ xs.length = 0 by unfold Dst.appE; rw [hf]; rfl, show Dst.app ⟨s, 0, y, m, L⟩ xs = ⟨s, 0, y, m ++ xs, L⟩ by unfold Dst.app; rw [hf]; rfl] at this
  exact this
theorem St.flip0 (h : St W w g v ⟨s, 0, y, m, L⟩) (k n : Nat) (hk : k < m.length) (hn : n < 8) :
    Calls Try.prog 69 #[.pointer (some ⟨g, 0, none⟩), .int .i64 (k : Int), .int .i64 (n : Int)] w fun e w' => e = .returned (.int .i64 0) ∧ St W w' g v ⟨s, 0, y, m.set k (Dst.turned (m.getD k 0) n), L⟩ ∧ Mv (Own g v) w w' := by
  have hf : Dst.flips ⟨s, 0, y, m, L⟩ (k : Int) (n : Int) = true := decide_eq_true ⟨by show ((0 : Nat) : Int) ≤ k; omega, by show (k : Int) < ((0 + m.length : Nat) : Int); omega, by omega, by omega⟩
  have := h.flip (k : Int) (n : Int)
  rw [show Dst.flipE ⟨s, 0, y, m, L⟩ (k : Int) (n : Int) = 0 by unfold Dst.flipE; rw [hf]; rfl, show Dst.flip ⟨s, 0, y, m, L⟩ (k : Int) (n : Int) = ⟨s, 0, y, m.set k (Dst.turned (m.getD k 0) n), L⟩ by unfold Dst.flip; rw [hf]; rfl] at this
  exact this
theorem St.flipX (h : St W w g v ⟨s, 0, y, m, L⟩) (k n : Nat) (hk : m.length ≤ k ∨ 8 ≤ n) :
    Calls Try.prog 69 #[.pointer (some ⟨g, 0, none⟩), .int .i64 (k : Int), .int .i64 (n : Int)] w fun e w' => e = .returned (.int .i64 22) ∧ St W w' g v ⟨s, 0, y, m, L⟩ ∧ Mv (Own g v) w w' := by
  have hf : Dst.flips ⟨s, 0, y, m, L⟩ (k : Int) (n : Int) = false := decide_eq_false (fun hx => by
    have h2 : (k : Int) < ((0 + m.length : Nat) : Int) := hx.2.1
    have h4 := hx.2.2.2
    omega)
  have := h.flip (k : Int) (n : Int)
  rw [show Dst.flipE ⟨s, 0, y, m, L⟩ (k : Int) (n : Int) = 22 by unfold Dst.flipE; rw [hf]; rfl, show Dst.flip ⟨s, 0, y, m, L⟩ (k : Int) (n : Int) = ⟨s, 0, y, m, L⟩ by unfold Dst.flip; rw [hf]; rfl] at this
  exact this
/-- All is read. -/
theorem St.read0 (h : St W w g v ⟨s, 0, y, m, L⟩) (N : Nat) (hN : m.length = N) (hm : N ≤ 67108864) :
    Calls Try.prog 56 #[.pointer (some ⟨g, 0, none⟩), .int .i64 0, .int .i64 (N : Int)] w fun e w' => ∃ u, e = .returned (.tuple #[u, .int .i64 0]) ∧ Ob w' W.heap.size u m ∧ St W w' g v ⟨s, 0, y, m, L⟩ ∧ Ab w w' ∧ ∀ k, u.ownBlock = some k → w.heap.size ≤ k := by
  subst hN
  have hf : Dst.has ⟨s, 0, y, m, L⟩ 0 (m.length : Int) = true := decide_eq_true ⟨by show ((0 : Nat) : Int) ≤ 0; omega, by show (0 : Int) ≤ ((0 + m.length : Nat) : Int); omega, by omega, by show (m.length : Int) ≤ ((0 + m.length : Nat) : Int) - 0; omega⟩
  have := h.read 0 (m.length : Int) (by omega)
  rw [show Dst.gotE ⟨s, 0, y, m, L⟩ 0 (m.length : Int) = 0 by unfold Dst.gotE; rw [hf]; rfl, show Dst.got ⟨s, 0, y, m, L⟩ 0 (m.length : Int) = m by unfold Dst.got; rw [hf]; show (m.drop (0 - 0)).take (m.length : Int).toNat = m; rw [Int.toNat_natCast]; simp] at this
  exact this
theorem turned_twice (x : UInt8) (n : Nat) : Dst.turned (Dst.turned x n) n = x := by
  unfold Dst.turned
  rw [UInt8.xor_assoc, UInt8.xor_self, UInt8.xor_zero]
theorem set_back (l : List UInt8) (k : Nat) (hk : k < l.length) (z : UInt8) : (l.set k z).set k (l.getD k 0) = l := by
  rw [List.set_set]
  apply List.ext_getElem
  · simp
  · intro i h1 h2
    rw [List.getElem_set]
    split
    · rename_i e
      subst e
      exact (by rw [List.getD_eq_getElem?_getD, List.getElem?_eq_getElem hk]; rfl)
    · rfl
theorem getD_set (l : List UInt8) (k : Nat) (hk : k < l.length) (z : UInt8) : (l.set k z).getD k 0 = z := by
  rw [List.getD_eq_getElem?_getD, List.getElem?_set_self hk]; rfl
end Go.Proofs.Ytolchbjcdlncgaa.Dg

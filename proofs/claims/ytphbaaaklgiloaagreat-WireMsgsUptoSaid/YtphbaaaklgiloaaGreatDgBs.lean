/- A slice of bytes that reads as a list. -/
import Derived.Test.YtphbaaaklgiloaaGreatDgAb
namespace Go.Proofs.YtphbaaaklgiloaaGreat.Dg
open Go.RowKit
/-- A slice of bytes that reads as a list: nil and empty ones too. -/
def Bs (w : World) (B : Nat) (v : Value) (l : List UInt8) : Prop :=
  ∃ A c, v = .slice A l.length c ∧ l.length ≤ c ∧ c ≤ 9223372036854775807 ∧ (l ≠ [] → ∃ b off, A = some ⟨b, off, none⟩ ∧ b < B ∧ ∀ k, k < l.length → w.cell? ⟨b, off + k, none⟩ = some (.int .u8 (n8 (l.getD k 0))))
variable {w w' : World} {B g : Nat} {v : Value} {l : List UInt8}
theorem Bs.keep (h : Bs w B v l) (hw : ∀ b o, b < B → w'.cell? ⟨b, o, none⟩ = w.cell? ⟨b, o, none⟩) : Bs w' B v l := by
  obtain ⟨A, c, hv, h1, h2, h3⟩ := h
  refine ⟨A, c, hv, h1, h2, fun hn => ?_⟩
  obtain ⟨b, off, hA, hb, hc⟩ := h3 hn
  exact ⟨b, off, hA, hb, fun k hk => (hw b _ hb).trans (hc k hk)⟩
theorem Bs.ab (h : Bs w B v l) (hb : Ab w w') (hB : B ≤ w.heap.size) : Bs w' B v l := h.keep fun b o hlt => hb.cells b o (by omega)
theorem Bs.drew (h : Bs w B v l) : Bs w.drew B v l := h
theorem Bs.more {B' : Nat} (h : Bs w B v l) (hB : B ≤ B') : Bs w B' v l := by
  obtain ⟨A, c, hv, h1, h2, h3⟩ := h
  refine ⟨A, c, hv, h1, h2, fun hn => ?_⟩
  obtain ⟨b, off, hA, hb, hc⟩ := h3 hn
  exact ⟨b, off, hA, by omega, hc⟩
theorem Bs.len (h : Bs w B v l) : l.length ≤ 9223372036854775807 := by obtain ⟨A, c, hv, h1, h2, h3⟩ := h; omega

theorem take_next (l : List UInt8) (k : Nat) (h : k < l.length) : l.take (k + 1) = l.take k ++ [l.getD k 0] := by
  rw [List.take_succ_eq_append_getElem h, List.getD_eq_getElem?_getD, List.getElem?_eq_getElem h]; rfl
end Go.Proofs.YtphbaaaklgiloaaGreat.Dg

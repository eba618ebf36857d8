/- The walk through ExtentNone. -/
import Derived.Test.YtniodjigncicbaaExQ
import Derived.Deep.RegionLaw
namespace Go.Proofs.Ytniodjigncicbaa.Dg
open Go.RowKit Go.Shelf
variable {w w' : World} {base a s B : Nat} {v u : Value} {ps : List Pr} {l : List UInt8} {c : Cel}
attribute [local go_sem ↓] Go.wp_at_zero Go.wp_at_succ
attribute [local go_sem] Oper.semAt_some
theorem OkE.cells {n₀ : Nat} {pre : List Pr} {x : Pr} {X : World} {k : Nat} (h : OkE ps n₀ pre x X) (hk : ownE x k) : ∃ o : Obj, X.heap[k]? = some o ∧ o.isCells = true := by
  rcases h.2.2 with ⟨e, _⟩ | ⟨g, cap, cur, e, _, hgg, _⟩
  · unfold ownE at hk
    rw [e] at hk
    cases hk
  · unfold ownE at hk
    rw [e] at hk
    have : g = k := by simpa [Value.ownBlock] using hk
    subst this
    exact ⟨_, hgg, rfl⟩
theorem OkE.put {n₀ : Nat} {pre : List Pr} {x : Pr} {X X' : World} {i : Nat} {o o' : Obj} (h : OkE ps n₀ pre x X) (hl : X.heap[i]? = some o) (ho : o.isCells = false) (e : X' = X.putObj i o') : OkE ps n₀ pre x X' := by
  subst e
  exact ⟨h.1, ob_own h.2 (grownBy_putObj' _ i _) (fun r e => by cases e; exact ⟨_, hl, ho⟩)⟩
end Go.Proofs.Ytniodjigncicbaa.Dg

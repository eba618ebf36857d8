/- A region that draws its order, in a round of a range over a function: as outside of it, where it holds no defer statement. -/
import Derived.Test.YtniodjigncicbaaRxA
namespace Go.Proofs.Ytniodjigncicbaa.Dg
open Go.RowKit
variable {P : Program} {F : Fence} {n : Nat} {ops : Array Oper} {Q : Exit → Act → World → Prop} {md : Region.Mode}
def noDefer (ops : Array Oper) : Bool := ops.all fun o => match o.op with
  | .defer _ => false
  | _ => true
theorem noDefer_spec (h : noDefer ops = true) (i : Nat) (o : Oper) (ho : ops[i]? = some o) (c : Call) : o.op ≠ .defer c := by
  intro e
  obtain ⟨hi, rfl⟩ := Array.getElem?_eq_some_iff.1 ho
  have := (Array.all_eq_true.1 h) i hi
  rw [e] at this
  cases this
theorem wpOpIn_round (hro : F.round = none) (l : Nat) {i : Nat} (hd : ∀ o, ops[i]? = some o → ∀ c, o.op ≠ .defer c) {K : Act → World → Prop} {a : Act} {w : World} (h : wpOpIn F n P ops Q i K a w) : wpOpIn (F.inRound l) n P ops Q i K a w := by
  unfold wpOpIn at h ⊢
  cases hi : ops[i]? with
  | none => rw [hi] at h; exact h
  | some o =>
    rw [hi] at h
    simp only at h ⊢
    split
    · next hw =>
      rw [if_pos hw] at h
      unfold Oper.wpIn at h ⊢
      rw [hro, Oper.semAt_eq _ _ _ (hd o hi)] at h
      rw [Oper.semAt_eq _ _ _ (hd o hi)]
      exact h
    · next hw =>
      rw [if_neg hw] at h
      exact h
theorem wpAnyIn_round (hro : F.round = none) (l : Nat) (hd : noDefer ops = true) : ∀ (fuel : Nat) (listed : Array Bool) (a : Act) (w : World), wpAnyIn F n P md ops Q fuel listed a w → wpAnyIn (F.inRound l) n P md ops Q fuel listed a w := by
  intro fuel
  induction fuel with
  | zero => intro listed a w h; exact h
  | succ fuel ih =>
    intro listed a w h
    exact ⟨h.1, fun i hi => wpOpIn_round hro l (fun o ho => noDefer_spec hd i o ho) (wpOpIn_mono (fun a' w' h3 => ih _ a' w' h3) (h.2 i hi))⟩
/-- copy, at a step of a region inside a fence. -/
theorem stepIn_copy2 {o : Oper} {ac : Act} {w w' : World} {K : Act → World → Prop} {E : Prop} {v' : Value} (hgd : o.guard = none) (x y : Operand) (t1 t2 : TypeId)
    (ho : o.op = .call { callee := .builtin .copy, args := #[x, y], argTypes := #[t1, t2] }) (u z : Value) (hx : ac.eval x = u) (hy : ac.eval y = z)
    (hr : (Builtin.copy_ #[t1, t2] o.type #[u, z]).run P w = .ok v' w') (k : K (ac.put o.dst v') w') :
    if Region.wanted o (yielded ops ac.tmps) = true then Oper.wpIn Fence.wide n P o ac w K Q else E := by
  have hw : Region.wanted o (yielded ops ac.tmps) = true := by simp [Region.wanted, hgd]
  rw [if_pos hw]
  refine ⟨fun _ _ => trivial, ?_⟩
  rw [show Fence.wide.round = none from rfl, Oper.semAt_none]
  unfold execOp
  simp only [ho, resolve, invoke, builtin, Sem.run_bind, Sem.run_pure, Result.andThen_ok, List.map_toArray, List.map_cons, List.map_nil, hx, hy, hr]
  exact k
end Go.Proofs.Ytniodjigncicbaa.Dg

/- An array of two numbers that came in, opened. -/
import Derived.Test.YtlbkfnmhcgildaaExOa
import Derived.Deep.Slices
namespace Go.Proofs.Ytlbkfnmhcgildaa.Dg
open Go.RowKit Go.ChangeShapes Go.WideShapes Go.ChangeAt Go.Deep
section
variable {H : Type} {enc : TypeId × Value → H} {W : World}
set_option maxRecDepth 100000 in
/-- .. of bare ones. -/
theorem xopen_two_u {fuel : Nat} {cs : List Value} {x : DataW H × List MemPlace} (hf : DataW.trod enc Try.prog W 0 (fun _ => true) true fuel 81 cs = some x) : ∃ a b, cs = [.int .u64 a, .int .u64 b] ∧ (Lit.int .u64 a).wf = true ∧ (Lit.int .u64 b).wf = true := by
  obtain ⟨xs, m, rfl, -, hlen, hxl, hfs⟩ := DataW.trod_array Try.underlying81 hf
  have h2 : Try.prog.cellsOf 81 = 2 := by kernel_rfl
  rw [h2] at hlen
  match cs, hlen with
  | [c0, c1], _ =>
    match xs, hxl with
    | [x0, x1], _ =>
      have f0 : DataW.trod enc Try.prog W 0 (fun _ => true) true m 80 [c0] = some x0 := hfs 0 (by omega)
      have f1 : DataW.trod enc Try.prog W 0 (fun _ => true) true m 80 [c1] = some x1 := hfs 1 (by omega)
      obtain ⟨a, h0, -, w0⟩ := DataW.trod_int Try.underlying80 f0
      obtain ⟨b, h1, -, w1⟩ := DataW.trod_int Try.underlying80 f1
      injection h0 with h0
      injection h1 with h1
      subst h0; subst h1
      exact ⟨a, b, rfl, w0, w1⟩
set_option maxRecDepth 100000 in
theorem xokWide_array2 {base : Nat} {v : Value} {n : Nat} {e t : TypeId} (ht : Try.prog.underlying t = some (.array n e)) (h : Value.okWide Try.prog W .any base t v) : ∃ cs, v = .agg cs := by
  unfold Value.okWide at h
  rw [ht] at h
  obtain ⟨cs, h1, -⟩ := h
  exact ⟨cs, h1⟩
end
end Go.Proofs.Ytlbkfnmhcgildaa.Dg

/- An act that came in, opened. -/
import Derived.Test.YtniodjigncicbaaDgOb
import Derived.Deep.Slices
namespace Go.Proofs.Ytniodjigncicbaa.Dg
open Go.RowKit Go.ChangeShapes Go.WideShapes Go.ChangeAt Go.Deep
section
variable {H : Type} {enc : TypeId × Value → H} {W : World}
theorem act_row5 : Try.prog.cellsOf 3 = 1 ∧ Try.prog.cellsOf 277 = 1 ∧ Try.prog.cellsOf 30 = 1 ∧ Try.prog.cellsOf 72 = 4 := ⟨by kernel_rfl, by kernel_rfl, by kernel_rfl, by kernel_rfl⟩
set_option maxRecDepth 100000 in
/-- An act's four cells. -/
theorem open_act5 {fuel : Nat} {cs : List Value} {x : DataW H × List MemPlace} (hf : DataW.trod enc Try.prog W 0 (fun _ => true) true fuel 72 cs = some x) (hlt : ∀ y ∈ x.2, y.block < W.heap.size) :
    ∃ k a b A n c, ∃ l : List UInt8, cs = [.int .i64 k, .int .i64 a, .int .i64 b, .slice A n c] ∧ (Lit.int .i64 k).wf = true ∧ (Lit.int .i64 a).wf = true ∧ (Lit.int .i64 b).wf = true ∧ Bs W W.heap.size (.slice A n c) l ∧
      (∃ d3, x.1 = .agg [.lit (.int .i64 k), .lit (.int .i64 a), .lit (.int .i64 b), d3] ∧ (l = [] ∨ ∃ es sp, d3 = .slice es sp ∧ es.length = l.length)) := by
  obtain ⟨xs, m, rfl, hx, hlen, hxl, hfs⟩ := DataW.trod_struct Try.underlying72 hf
  rw [act_row5.2.2.2] at hlen
  match cs, hlen with
  | [c0, c1, c2, c3], _ =>
    match xs, hxl with
    | [x0, x1, x2, x3], _ =>
      have f0 : DataW.trod enc Try.prog W 0 (fun _ => true) true m 3 [c0] = some x0 := hfs 0 _ rfl
      have f1 : DataW.trod enc Try.prog W 0 (fun _ => true) true m 3 [c1] = some x1 := hfs 1 _ rfl
      have f2 : DataW.trod enc Try.prog W 0 (fun _ => true) true m 3 [c2] = some x2 := hfs 2 _ rfl
      have f3 : DataW.trod enc Try.prog W 0 (fun _ => true) true m 30 [c3] = some x3 := hfs 3 _ rfl
      obtain ⟨k, h0, e0, w0⟩ := DataW.trod_int Try.underlying3 f0
      obtain ⟨a, h1, e1, w1⟩ := DataW.trod_int Try.underlying3 f1
      obtain ⟨b, h2, e2, w2⟩ := DataW.trod_int Try.underlying3 f2
      subst hx
      obtain ⟨A, n, c, l, h3, hb, hd⟩ := open_bs3 f3 (fun y hy => hlt y (by simp [hy]))
      injection h0 with h0
      injection h1 with h1
      injection h2 with h2
      injection h3 with h3
      subst h0; subst h1; subst h2; subst h3; subst e0; subst e1; subst e2
      exact ⟨k, a, b, A, n, c, l, rfl, w0, w1, w2, hb, x3.1, by simp, hd⟩
end
end Go.Proofs.Ytniodjigncicbaa.Dg

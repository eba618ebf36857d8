/- An act, an array of two numbers, a list of slices that came in, opened. -/
import Derived.Test.YtlenbcehahhmcaaDgOb
import Derived.Deep.Slices
namespace Go.Proofs.Ytlenbcehahhmcaa.Dg
open Go.RowKit Go.ChangeShapes Go.WideShapes Go.ChangeAt Go.Deep
section
variable {H : Type} {enc : TypeId × Value → H} {W : World}
theorem act_row : Try.prog.cellsOf 3 = 1 ∧ Try.prog.cellsOf 85 = 1 ∧ Try.prog.cellsOf 30 = 1 ∧ Try.prog.cellsOf 72 = 4 := ⟨by kernel_rfl, by kernel_rfl, by kernel_rfl, by kernel_rfl⟩
set_option maxRecDepth 100000 in
/-- An act's four cells. -/
theorem open_act {fuel : Nat} {cs : List Value} {x : DataW H × List MemPlace} (hf : DataW.trod enc Try.prog W 0 (fun _ => true) true fuel 72 cs = some x) (hlt : ∀ y ∈ x.2, y.block < W.heap.size) :
    ∃ k a b A n c, ∃ l : List UInt8, cs = [.int .i64 k, .int .i64 a, .int .i64 b, .slice A n c] ∧ (Lit.int .i64 k).wf = true ∧ (Lit.int .i64 a).wf = true ∧ (Lit.int .i64 b).wf = true ∧ Bs W W.heap.size (.slice A n c) l ∧
      (∃ d3, x.1 = .agg [.lit (.int .i64 k), .lit (.int .i64 a), .lit (.int .i64 b), d3] ∧ (l = [] ∨ ∃ es sp, d3 = .slice es sp ∧ es.length = l.length)) := by
  obtain ⟨xs, m, rfl, hx, hlen, hxl, hfs⟩ := DataW.trod_struct Try.underlying72 hf
  rw [act_row.2.2.2] at hlen
  match cs, hlen with
  | [c0, c1, c2, c3], _ =>
    match xs, hxl with
    | [x0, x1, x2, x3], _ =>
      have f0 : DataW.trod enc Try.prog W 0 (fun _ => true) true m 3 [c0] = some x0 := hfs 0 _ rfl
      have f1 : DataW.trod enc Try.prog W 0 (fun _ => true) true m 3 [c1] = some x1 := hfs 1 _ rfl
      have f2 : DataW.trod enc Try.prog W 0 (fun _ => true) true m 3 [c2] = some x2 := hfs 2 _ rfl
      have f3 : DataW.trod enc Try.prog W 0 (fun _ => true) true m 30 [c3] = some x3 := hfs 3 _ rfl
      obtain ⟨k, h0, e0, w0⟩ := DataW.trod_int Try.underlying3 f0
      obtain ⟨a, h1, e1, w1⟩ := DataW.trod_int Try.underlying3 f1
      obtain ⟨b, h2, e2, w2⟩ := DataW.trod_int Try.underlying3 f2
      subst hx
      obtain ⟨A, n, c, l, h3, hb, hd⟩ := open_bs3 f3 (fun y hy => hlt y (by simp [hy]))
      injection h0 with h0
      injection h1 with h1
      injection h2 with h2
      injection h3 with h3
      subst h0; subst h1; subst h2; subst h3; subst e0; subst e1; subst e2
      exact ⟨k, a, b, A, n, c, l, rfl, w0, w1, w2, hb, x3.1, by simp, hd⟩
set_option maxRecDepth 100000 in
/-- An array of two numbers. -/
theorem open_two {fuel : Nat} {cs : List Value} {x : DataW H × List MemPlace} (hf : DataW.trod enc Try.prog W 0 (fun _ => true) true fuel 76 cs = some x) : ∃ a b, cs = [.int .i64 a, .int .i64 b] ∧ (Lit.int .i64 a).wf = true ∧ (Lit.int .i64 b).wf = true := by
  obtain ⟨xs, m, rfl, -, hlen, hxl, hfs⟩ := DataW.trod_array Try.underlying76 hf
  have h2 : Try.prog.cellsOf 76 = 2 := by kernel_rfl
  rw [h2] at hlen
  match cs, hlen with
  | [c0, c1], _ =>
    match xs, hxl with
    | [x0, x1], _ =>
      have f0 : DataW.trod enc Try.prog W 0 (fun _ => true) true m 3 [c0] = some x0 := hfs 0 (by omega)
      have f1 : DataW.trod enc Try.prog W 0 (fun _ => true) true m 3 [c1] = some x1 := hfs 1 (by omega)
      obtain ⟨a, h0, -, w0⟩ := DataW.trod_int Try.underlying3 f0
      obtain ⟨b, h1, -, w1⟩ := DataW.trod_int Try.underlying3 f1
      injection h0 with h0
      injection h1 with h1
      subst h0; subst h1
      exact ⟨a, b, rfl, w0, w1⟩
set_option maxRecDepth 100000 in
/-- .. of bare ones. -/
theorem open_two_u {fuel : Nat} {cs : List Value} {x : DataW H × List MemPlace} (hf : DataW.trod enc Try.prog W 0 (fun _ => true) true fuel 86 cs = some x) : ∃ a b, cs = [.int .u64 a, .int .u64 b] ∧ (Lit.int .u64 a).wf = true ∧ (Lit.int .u64 b).wf = true := by
  obtain ⟨xs, m, rfl, -, hlen, hxl, hfs⟩ := DataW.trod_array Try.underlying86 hf
  have h2 : Try.prog.cellsOf 86 = 2 := by kernel_rfl
  rw [h2] at hlen
  match cs, hlen with
  | [c0, c1], _ =>
    match xs, hxl with
    | [x0, x1], _ =>
      have f0 : DataW.trod enc Try.prog W 0 (fun _ => true) true m 85 [c0] = some x0 := hfs 0 (by omega)
      have f1 : DataW.trod enc Try.prog W 0 (fun _ => true) true m 85 [c1] = some x1 := hfs 1 (by omega)
      obtain ⟨a, h0, -, w0⟩ := DataW.trod_int Try.underlying85 f0
      obtain ⟨b, h1, -, w1⟩ := DataW.trod_int Try.underlying85 f1
      injection h0 with h0
      injection h1 with h1
      subst h0; subst h1
      exact ⟨a, b, rfl, w0, w1⟩
set_option maxRecDepth 100000 in
theorem okWide_array2 {base : Nat} {v : Value} {n : Nat} {e t : TypeId} (ht : Try.prog.underlying t = some (.array n e)) (h : Value.okWide Try.prog W .any base t v) : ∃ cs, v = .agg cs := by
  unfold Value.okWide at h
  rw [ht] at h
  obtain ⟨cs, h1, -⟩ := h
  exact ⟨cs, h1⟩
end
end Go.Proofs.Ytlenbcehahhmcaa.Dg

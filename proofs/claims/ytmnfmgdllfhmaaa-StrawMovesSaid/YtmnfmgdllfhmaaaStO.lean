/- Straws, and arrays of two and three numbers, that came in, opened. -/
import Derived.Test.YtmnfmgdllfhmaaaStJ
import Derived.Test.YtmnfmgdllfhmaaaStN
import Derived.Deep.Slices
namespace Go.Proofs.Ytmnfmgdllfhmaaa.Dg
open Go.RowKit Go.ChangeShapes Go.WideShapes Go.ChangeAt Go.Deep
section
variable {H : Type} {enc : TypeId × Value → H} {W : World}
theorem straws_row : Try.prog.cellsOf 30 = 2 ∧ Try.prog.cellsOf 28 = 1 ∧ Try.prog.bytesOf 3 = 8 := ⟨by kernel_rfl, by kernel_rfl, by kernel_rfl⟩
set_option maxRecDepth 100000 in
theorem open_straws {fuel : Nat} {cs : List Value} {x : DataW H × List MemPlace} (hf : DataW.trod enc Try.prog W 0 (fun _ => true) true fuel 30 cs = some x) (hlt : ∀ y ∈ x.2, y.block < W.heap.size) :
    ∃ A n c A2 n2 c2, ∃ l l2 : List Int, cs = [.slice A n c, .slice A2 n2 c2] ∧ Ns W W.heap.size (.slice A n c) l ∧ Ns W W.heap.size (.slice A2 n2 c2) l2 ∧
      (∃ d0 d1, x.1 = .agg [d0, d1] ∧ (l = [] ∨ ∃ es sp, d0 = .slice es sp ∧ es.length = l.length)) := by
  obtain ⟨xs, m, rfl, hx, hlen, hxl, hfs⟩ := DataW.trod_struct Try.underlying30 hf
  rw [straws_row.1] at hlen
  match cs, hlen with
  | [c0, c1], _ =>
    match xs, hxl with
    | [x0, x1], _ =>
      have f0 : DataW.trod enc Try.prog W 0 (fun _ => true) true m 28 [c0] = some x0 := hfs 0 _ rfl
      have f1 : DataW.trod enc Try.prog W 0 (fun _ => true) true m 28 [c1] = some x1 := hfs 1 _ rfl
      subst hx
      obtain ⟨A, n, c, l, h0, hb, hd⟩ := open_ns3 f0 (fun y hy => hlt y (by simp [hy]))
      obtain ⟨A2, n2, c2, l2, h1, hb2, -⟩ := open_ns3 f1 (fun y hy => hlt y (by simp [hy]))
      injection h0 with h0
      injection h1 with h1
      subst h0; subst h1
      exact ⟨A, n, c, A2, n2, c2, l, l2, rfl, hb, hb2, x0.1, x1.1, by simp, hd⟩
theorem straws_sized {ts : List TypeId} {ds : List (DataW H)} (h : (DataW.weightsEach Try.prog ts ds).all (· ≤ reachBytes) = true) {j : Nat} (ht : ts[j]? = some 30) {d0 d1 : DataW H} (hd : ds[j]? = some (.agg [d0, d1])) {l : List Int}
    (hl : l = [] ∨ ∃ es sp, d0 = .slice es sp ∧ es.length = l.length) : l.length ≤ 17592186043904 := by
  rcases hl with rfl | ⟨es, sp, rfl, he⟩
  · simp
  · have hin : (es.length + sp.length) * 8 ∈ DataW.weights Try.prog 30 (.agg [.slice es sp, d1]) := by
      simp only [DataW.weights, Try.underlying30]
      refine DataW.weights_mem_each (j := 0) (t := 28) (d := .slice es sp) rfl rfl _ ?_
      simp [DataW.weights, Try.underlying28, straws_row.2.2]
    have h2 : (es.length + sp.length) * 8 ≤ reachBytes := by simpa using List.all_eq_true.1 h _ (DataW.weights_mem_each ht hd _ hin)
    simp only [reachBytes] at h2
    omega
set_option maxRecDepth 100000 in
theorem open_a2 {fuel : Nat} {cs : List Value} {x : DataW H × List MemPlace} (hf : DataW.trod enc Try.prog W 0 (fun _ => true) true fuel 31 cs = some x) : ∃ a b, cs = [.int .i64 a, .int .i64 b] ∧ (Lit.int .i64 a).wf = true ∧ (Lit.int .i64 b).wf = true := by
  obtain ⟨xs, m, rfl, -, hlen, hxl, hfs⟩ := DataW.trod_array Try.underlying31 hf
  have h2 : Try.prog.cellsOf 31 = 2 := by kernel_rfl
  rw [h2] at hlen
  match cs, hlen with
  | [c0, c1], _ =>
    match xs, hxl with
    | [x0, x1], _ =>
      have f0 : DataW.trod enc Try.prog W 0 (fun _ => true) true m 3 [c0] = some x0 := hfs 0 (by omega)
      have f1 : DataW.trod enc Try.prog W 0 (fun _ => true) true m 3 [c1] = some x1 := hfs 1 (by omega)
      obtain ⟨a, h0, -, w0⟩ := DataW.trod_int Try.underlying3 f0
      obtain ⟨b, h1, -, w1⟩ := DataW.trod_int Try.underlying3 f1
      injection h0 with h0
      injection h1 with h1
      subst h0; subst h1
      exact ⟨a, b, rfl, w0, w1⟩
set_option maxRecDepth 100000 in
theorem open_a3 {fuel : Nat} {cs : List Value} {x : DataW H × List MemPlace} (hf : DataW.trod enc Try.prog W 0 (fun _ => true) true fuel 40 cs = some x) : ∃ a b c, cs = [.int .i64 a, .int .i64 b, .int .i64 c] ∧ (Lit.int .i64 a).wf = true ∧ (Lit.int .i64 b).wf = true ∧ (Lit.int .i64 c).wf = true := by
  obtain ⟨xs, m, rfl, -, hlen, hxl, hfs⟩ := DataW.trod_array Try.underlying40 hf
  have h2 : Try.prog.cellsOf 40 = 3 := by kernel_rfl
  rw [h2] at hlen
  match cs, hlen with
  | [c0, c1, c2], _ =>
    match xs, hxl with
    | [x0, x1, x2], _ =>
      have f0 : DataW.trod enc Try.prog W 0 (fun _ => true) true m 3 [c0] = some x0 := hfs 0 (by omega)
      have f1 : DataW.trod enc Try.prog W 0 (fun _ => true) true m 3 [c1] = some x1 := hfs 1 (by omega)
      have f2 : DataW.trod enc Try.prog W 0 (fun _ => true) true m 3 [c2] = some x2 := hfs 2 (by omega)
      obtain ⟨a, h0, -, w0⟩ := DataW.trod_int Try.underlying3 f0
      obtain ⟨b, h1, -, w1⟩ := DataW.trod_int Try.underlying3 f1
      obtain ⟨c, h2, -, w2⟩ := DataW.trod_int Try.underlying3 f2
      injection h0 with h0
      injection h1 with h1
      injection h2 with h2
      subst h0; subst h1; subst h2
      exact ⟨a, b, c, rfl, w0, w1, w2⟩
theorem okWide_agg {base : Nat} {v : Value} {n : Nat} {e t : TypeId} (ht : Try.prog.underlying t = some (.array n e)) (h : Value.okWide Try.prog W .any base t v) : ∃ cs, v = .agg cs := by
  unfold Value.okWide at h
  rw [ht] at h
  obtain ⟨cs, h1, -⟩ := h
  exact ⟨cs, h1⟩
end
end Go.Proofs.Ytmnfmgdllfhmaaa.Dg

/- A list of acts that came in, opened, with the lengths' bound. -/
import Derived.Test.YtniodjigncicbaaExAc
import Derived.SizedLaws
namespace Go.Proofs.Ytniodjigncicbaa.Dg
open Go.RowKit Go.ChangeShapes Go.WideShapes Go.ChangeAt Go.Deep
section
variable {H : Type} {enc : TypeId × Value → H} {W : World}
theorem xweightsAll_mem {P : Program} {e : TypeId} : ∀ {l : List (DataW H)} {d : DataW H}, d ∈ l → ∀ n ∈ d.weights P e, n ∈ DataW.weightsAll P e l
  | x :: r, d, hd, n, hn => by
    simp only [DataW.weightsAll, List.mem_append]
    rcases List.mem_cons.1 hd with rfl | h
    · exact .inl hn
    · exact .inr (xweightsAll_mem h n hn)
theorem xbytes8 : Try.prog.bytesOf 5 = 1 := by kernel_rfl
theorem act_sized {ts : List TypeId} {ds : List (DataW H)} (h : (DataW.weightsEach Try.prog ts ds).all (· ≤ reachBytes) = true) {j : Nat} {elems spare es sp : List (DataW H)} {a b c : DataW H} (ht : ts[j]? = some 64) (hd : ds[j]? = some (.slice elems spare))
    (hm : DataW.agg [a, b, c, .slice es sp] ∈ elems) : es.length ≤ reachBytes := by
  have hw : (es.length + sp.length) * Try.prog.bytesOf 5 ∈ (DataW.slice es sp).weights Try.prog 30 := by simp [DataW.weights, Try.underlying30]
  have hw1 : (es.length + sp.length) * Try.prog.bytesOf 5 ∈ (DataW.agg [a, b, c, .slice es sp]).weights Try.prog 72 := by
    simp only [DataW.weights, Try.underlying72]
    exact DataW.weights_mem_each (j := 3) (t := 30) rfl rfl _ hw
  have hw2 : (es.length + sp.length) * Try.prog.bytesOf 5 ∈ (DataW.slice elems spare).weights Try.prog 64 := by
    simp only [DataW.weights, Try.underlying64, List.mem_cons, List.mem_append]
    exact .inr (.inl (xweightsAll_mem hm _ hw1))
  have := List.all_eq_true.1 h _ (DataW.weights_mem_each ht hd _ hw2)
  rw [xbytes8] at this
  have : (es.length + sp.length) * 1 ≤ reachBytes := by simpa using this
  omega
set_option maxRecDepth 100000 in
theorem open_acts5s {fuel : Nat} {cs : List Value} {x : DataW H × List MemPlace} (hf : DataW.trod enc Try.prog W 0 (fun _ => true) true fuel 64 cs = some x) (hlt : ∀ y ∈ x.2, y.block < W.heap.size)
    {ts : List TypeId} {ds : List (DataW H)} {jj : Nat} (hsz : (DataW.weightsEach Try.prog ts ds).all (· ≤ reachBytes) = true) (hts : ts[jj]? = some 64) (hds : ds[jj]? = some x.1) :
    ∃ A n cap K M N Z L, cs = [.slice A n cap] ∧ n ≤ cap ∧ cap ≤ 9223372036854775807 ∧ (n ≠ 0 → ∃ bb off, A = some ⟨bb, off, none⟩ ∧ Acts5 W bb off n K M N Z L) ∧ ∀ i, i < n → (L i).length ≤ 200000000000000 := by
  rcases open_slice Try.underlying64 hf with ⟨h, -⟩ | ⟨a, len, cap, m, k, D, Pl, h, -, hl, hm, hmm, rfl, hx⟩
  · exact ⟨none, 0, 0, fun _ => 0, fun _ => 0, fun _ => 0, fun _ => .nilIface, fun _ => [], h, Nat.le_refl _, by omega, fun h => absurd rfl h, fun i h => absurd h (by omega)⟩
  · simp only [if_true] at hmm
    subst hmm
    rw [act_row5.2.2.2] at hx hlt
    have each : ∀ i, i < len → ∃ t : Int × Int × Int × Value × List UInt8, W.cell? (a.add (i * 4)) = some (.int .i64 t.1) ∧ W.cell? (a.add (i * 4 + 1)) = some (.int .i64 t.2.1) ∧ W.cell? (a.add (i * 4 + 2)) = some (.int .i64 t.2.2.1) ∧ W.cell? (a.add (i * 4 + 3)) = some t.2.2.2.1 ∧ (Lit.int .i64 t.2.1).wf = true ∧ (Lit.int .i64 t.2.2.1).wf = true ∧ Bs W W.heap.size t.2.2.2.1 t.2.2.2.2 ∧ t.2.2.2.2.length ≤ 200000000000000 := by
      intro i hi
      obtain ⟨cs', hc, ht⟩ := hx i (by omega)
      obtain ⟨k, p, q, A, n, c, l, rfl, -, w1, w2, hb, d3, hd, hbk⟩ := open_act5 ht (fun y hy => hlt y (List.mem_append_right _ (List.mem_flatMap.2 ⟨i, List.mem_range.2 (by omega), hy⟩)))
      obtain ⟨-, -, hat⟩ := World.cells?_some hc
      have g0 := hat 0 (by omega)
      have g1 := hat 1 (by omega)
      have g2 := hat 2 (by omega)
      have g3 := hat 3 (by omega)
      rw [Go.Deep.add_add] at g0 g1 g2 g3
      refine ⟨(k, p, q, .slice A n c, l), g0, g1, g2, g3, w1, w2, hb, ?_⟩
      have hd' : D i = .agg [.lit (.int .i64 k), .lit (.int .i64 p), .lit (.int .i64 q), d3] := hd
      rcases hbk with rfl | ⟨es, sp, rfl, hes⟩
      · simp
      · have := act_sized hsz hts hds (List.mem_map.2 ⟨i, List.mem_range.2 hi, hd'⟩)
        simp only [reachBytes] at this
        show l.length ≤ _
        omega
    obtain ⟨t, ht⟩ := choose_lt each
    refine ⟨some a, len, _, fun i => (t i).1, fun i => (t i).2.1, fun i => (t i).2.2.1, fun i => (t i).2.2.2.1, fun i => (t i).2.2.2.2, h, hl, by unfold maxLen at hm; omega, fun h0 => ?_, ?_⟩
    · obtain ⟨ab, ao, spot⟩ := a
      have hspot : spot = none := by simpa [Addr.add] using World.cell?_spot (ht 0 (by omega)).1
      subst hspot
      refine ⟨ab, ao, rfl, fun _ => hlt (.cell ab (ao + 0)) (List.mem_append_left _ (by simp only [MemPlace.row, List.mem_map, List.mem_range]; exact ⟨0, by omega, rfl⟩)), fun i hi => ?_, fun i hi => ?_, fun i hi => ?_, fun i hi => ?_, fun i hi => ?_, fun i hi => bounds_i64 (ht i hi).2.2.2.2.2.1, fun i hi => (ht i hi).2.2.2.2.2.2.1⟩
      · have := (ht i hi).1; rw [Addr.add_lit] at this; exact this
      · have := (ht i hi).2.1; rw [Addr.add_lit] at this; exact this
      · have := (ht i hi).2.2.1; rw [Addr.add_lit] at this; exact this
      · have := (ht i hi).2.2.2.1; rw [Addr.add_lit] at this; exact this
      · exact (bounds_i64 (ht i hi).2.2.2.2.1).2
    · exact fun i hi => (ht i hi).2.2.2.2.2.2.2
end
end Go.Proofs.Ytniodjigncicbaa.Dg

/- A list of slices that came in, opened. -/
import Derived.Test.YtlenbcehahhmcaaKtD
import Derived.Test.YtlenbcehahhmcaaDkO
import Derived.SizedLaws
namespace Go.Proofs.Ytlenbcehahhmcaa.diskTrims
open Go.RowKit Go.ChangeShapes Go.WideShapes Go.ChangeAt Go.Deep Dg
section
variable {H : Type} {enc : TypeId × Value → H} {W : World}
theorem weightsAll_mem {P : Program} {e : TypeId} : ∀ {l : List (DataW H)} {d : DataW H}, d ∈ l → ∀ n ∈ d.weights P e, n ∈ DataW.weightsAll P e l
  | x :: r, d, hd, n, hn => by
    simp only [DataW.weightsAll, List.mem_append]
    rcases List.mem_cons.1 hd with rfl | h
    · exact .inl hn
    · exact .inr (weightsAll_mem h n hn)
theorem sized_in {P : Program} {ts : List TypeId} {ds : List (DataW H)} (h : (DataW.weightsEach P ts ds).all (· ≤ reachBytes) = true) {j : Nat} {t e e2 : TypeId} {elems spare es sp : List (DataW H)} (ht : ts[j]? = some t) (hd : ds[j]? = some (.slice elems spare))
    (hu : P.underlying t = some (.slice e)) (hm : DataW.slice es sp ∈ elems) (hue : P.underlying e = some (.slice e2)) : (es.length + sp.length) * P.bytesOf e2 ≤ reachBytes := by
  have hw : (es.length + sp.length) * P.bytesOf e2 ∈ (DataW.slice es sp).weights P e := by simp [DataW.weights, hue]
  have hw2 : (es.length + sp.length) * P.bytesOf e2 ∈ (DataW.slice elems spare).weights P t := by
    simp only [DataW.weights, hu, List.mem_cons, List.mem_append]
    exact .inr (.inl (weightsAll_mem hm _ hw))
  have := List.all_eq_true.1 h _ (DataW.weights_mem_each ht hd _ hw2)
  simpa using this
set_option maxRecDepth 100000 in
theorem open_ls {fuel : Nat} {cs : List Value} {x : DataW H × List MemPlace} (hf : DataW.trod enc Try.prog W 0 (fun _ => true) true fuel 84 cs = some x) (hlt : ∀ y ∈ x.2, y.block < W.heap.size)
    {ts : List TypeId} {ds : List (DataW H)} (hsz : (DataW.weightsEach Try.prog ts ds).all (· ≤ reachBytes) = true) (ht : ts[0]? = some 84) (hd : ds[0]? = some x.1) :
    ∃ a n c lv lb, cs = [.slice a n c] ∧ Ls W n a lv lb := by
  have h1 : Try.prog.cellsOf 30 = 1 := by kernel_rfl
  have hb1 : Try.prog.bytesOf 5 = 1 := by kernel_rfl
  rcases open_slice1 Try.underlying84 h1 hf with ⟨h, -⟩ | ⟨a, len, cap, m, k, V, D, Pl, h, -, hl, hm, hmm, rfl, hx⟩
  · exact ⟨none, 0, 0, fun _ => .nilIface, fun _ => [], h, fun h => absurd h (by omega), fun i h => absurd h (by omega), by omega, fun i h => absurd h (by omega)⟩
  · simp only [if_true] at hmm
    subst hmm
    have each : ∀ i, i < len → ∃ l : List UInt8, Bs W W.heap.size (V i) l ∧ l.length ≤ 140737488351232 := by
      intro i hi
      obtain ⟨A, n, c, l, h3, hb, hd2⟩ := open_bs3 (hx i (by omega)).2 (fun y hy => hlt y (by
        refine List.mem_append_right _ (List.mem_flatMap.2 ⟨i, List.mem_range.2 (by omega), hy⟩)))
      injection h3 with h3
      refine ⟨l, h3 ▸ hb, ?_⟩
      rcases hd2 with rfl | ⟨es, sp, he, hes⟩
      · simp
      · have he' : D i = .slice es sp := he
        have := sized_in hsz ht hd Try.underlying84 (es := es) (sp := sp) (List.mem_map.2 ⟨i, List.mem_range.2 hi, he'⟩) Try.underlying30
        rw [hb1] at this
        simp only [reachBytes] at this
        omega
    obtain ⟨lb, hlb⟩ := choose_lt each
    refine ⟨some a, len, _, V, lb, h, fun h0 => ?_, fun i hi => (hlb i hi).1, by unfold maxLen at hm; omega, fun i hi => (hlb i hi).2⟩
    obtain ⟨ab, ao, spot⟩ := a
    have hspot : spot = none := by simpa [Addr.add] using World.cell?_spot (hx 0 (by omega)).1
    subst hspot
    refine ⟨ab, ao, rfl, hlt (.cell ab (ao + 0)) (List.mem_append_left _ (by simp only [MemPlace.row, List.mem_map, List.mem_range]; exact ⟨0, by omega, rfl⟩)), fun j hj => ?_⟩
    have hc := (hx j (by omega)).1
    rw [Addr.add_lit] at hc
    exact hc
end
end Go.Proofs.Ytlenbcehahhmcaa.diskTrims

/- A list of acts that came in, opened. -/
import Derived.Test.YtniodjigncicbaaExOa
import Derived.Test.YtniodjigncicbaaDgBs
import Derived.Test.YtniodjigncicbaaRows
import Derived.Deep.Slices
namespace Go.Proofs.Ytniodjigncicbaa.Dg
open Go.RowKit Go.ChangeShapes Go.WideShapes Go.ChangeAt Go.Deep
/-- The acts that came in. -/
structure Acts5 (W : World) (bb off n : Nat) (K M N : Nat → Int) (Z : Nat → Value) (L : Nat → List UInt8) : Prop where
  lt : 0 < n → bb < W.heap.size
  c0 : ∀ i, i < n → W.cell? ⟨bb, off + i * 4, none⟩ = some (.int .i64 (K i))
  c1 : ∀ i, i < n → W.cell? ⟨bb, off + (i * 4 + 1), none⟩ = some (.int .i64 (M i))
  c2 : ∀ i, i < n → W.cell? ⟨bb, off + (i * 4 + 2), none⟩ = some (.int .i64 (N i))
  c3 : ∀ i, i < n → W.cell? ⟨bb, off + (i * 4 + 3), none⟩ = some (Z i)
  m9 : ∀ i, i < n → M i ≤ 9223372036854775807
  n9 : ∀ i, i < n → -9223372036854775808 ≤ N i ∧ N i ≤ 9223372036854775807
  bs : ∀ i, i < n → Bs W W.heap.size (Z i) (L i)
/-- How far the first j acts go. -/
def farA5 (L : Nat → List UInt8) : Nat → Nat
  | 0 => 0
  | j + 1 => farA5 L j + (L j).length
theorem farA5_mono (L : Nat → List UInt8) {i j : Nat} (h : i ≤ j) : farA5 L i ≤ farA5 L j := by
  induction j with
  | zero => have : i = 0 := by omega
            subst this; exact Nat.le_refl _
  | succ j ih =>
    by_cases e : i = j + 1
    · subst e; exact Nat.le_refl _
    · have := ih (by omega)
      show _ ≤ farA5 L j + (L j).length
      omega
section
variable {H : Type} {enc : TypeId × Value → H} {W : World}
theorem xbulk_one {H : Type} (d : DataW H) : 1 ≤ Rows.uptoBulk d := by
  cases d with
  | lit l => cases l <;> simp [Rows.uptoBulk]
  | _ => simp [Rows.uptoBulk]
theorem xbulk_length {H : Type} (l : List (DataW H)) : l.length ≤ Rows.uptoBulkAll l := by
  induction l with
  | nil => exact Nat.zero_le _
  | cons x r ih => have := xbulk_one x; simp only [Rows.uptoBulkAll, List.length_cons]; omega
theorem xbulk_append {H : Type} (l r : List (DataW H)) : Rows.uptoBulkAll (l ++ r) = Rows.uptoBulkAll l + Rows.uptoBulkAll r := by
  induction l with
  | nil => simp [Rows.uptoBulkAll]
  | cons x l ih => simp only [List.cons_append, Rows.uptoBulkAll, ih]; omega
set_option maxRecDepth 100000 in
theorem open_acts5 {fuel : Nat} {cs : List Value} {x : DataW H × List MemPlace} (hf : DataW.trod enc Try.prog W 0 (fun _ => true) true fuel 64 cs = some x) (hlt : ∀ y ∈ x.2, y.block < W.heap.size) :
    ∃ A n cap K M N Z L, cs = [.slice A n cap] ∧ n ≤ cap ∧ cap ≤ 9223372036854775807 ∧ (n ≠ 0 → ∃ bb off, A = some ⟨bb, off, none⟩ ∧ Acts5 W bb off n K M N Z L) ∧ farA5 L n ≤ Rows.uptoBulk x.1 := by
  rcases open_slice Try.underlying64 hf with ⟨h, -⟩ | ⟨a, len, cap, m, k, D, Pl, h, -, hl, hm, hmm, rfl, hx⟩
  · exact ⟨none, 0, 0, fun _ => 0, fun _ => 0, fun _ => 0, fun _ => .nilIface, fun _ => [], h, Nat.le_refl _, by omega, fun h => absurd rfl h, Nat.zero_le _⟩
  · simp only [if_true] at hmm
    subst hmm
    rw [act_row5.2.2.2] at hx hlt
    have each : ∀ i, i < len → ∃ t : Int × Int × Int × Value × List UInt8, W.cell? (a.add (i * 4)) = some (.int .i64 t.1) ∧ W.cell? (a.add (i * 4 + 1)) = some (.int .i64 t.2.1) ∧ W.cell? (a.add (i * 4 + 2)) = some (.int .i64 t.2.2.1) ∧ W.cell? (a.add (i * 4 + 3)) = some t.2.2.2.1 ∧ (Lit.int .i64 t.2.1).wf = true ∧ (Lit.int .i64 t.2.2.1).wf = true ∧ Bs W W.heap.size t.2.2.2.1 t.2.2.2.2 ∧ t.2.2.2.2.length + 1 ≤ Rows.uptoBulk (D i) := by
      intro i hi
      obtain ⟨cs', hc, ht⟩ := hx i (by omega)
      obtain ⟨k, p, q, A, n, c, l, rfl, -, w1, w2, hb, d3, hd, hbk⟩ := open_act5 ht (fun y hy => hlt y (List.mem_append_right _ (List.mem_flatMap.2 ⟨i, List.mem_range.2 (by omega), hy⟩)))
      obtain ⟨-, -, hat⟩ := World.cells?_some hc
      have g0 := hat 0 (by omega)
      have g1 := hat 1 (by omega)
      have g2 := hat 2 (by omega)
      have g3 := hat 3 (by omega)
      rw [Go.Deep.add_add] at g0 g1 g2 g3
      refine ⟨(k, p, q, .slice A n c, l), g0, g1, g2, g3, w1, w2, hb, ?_⟩
      have hd' : D i = .agg [.lit (.int .i64 k), .lit (.int .i64 p), .lit (.int .i64 q), d3] := hd
      rw [hd']
      show l.length + 1 ≤ _
      simp only [Rows.uptoBulk, Rows.uptoBulkAll]
      rcases hbk with rfl | ⟨es, sp, rfl, hes⟩
      · simp
      · have := xbulk_length es
        simp only [Rows.uptoBulk]
        omega
    obtain ⟨t, ht⟩ := choose_lt each
    have hfar : ∀ j, j ≤ len → farA5 (fun i => (t i).2.2.2.2) j ≤ Rows.uptoBulkAll ((List.range j).map D) := by
      intro j
      induction j with
      | zero => intro _; exact Nat.zero_le _
      | succ j ih =>
        intro hj
        have h1 := ih (by omega)
        have h2 := (ht j (by omega)).2.2.2.2.2.2.2
        rw [List.range_succ, List.map_append, xbulk_append]
        show farA5 _ j + (t j).2.2.2.2.length ≤ _
        simp only [List.map_cons, List.map_nil, Rows.uptoBulkAll]
        omega
    refine ⟨some a, len, _, fun i => (t i).1, fun i => (t i).2.1, fun i => (t i).2.2.1, fun i => (t i).2.2.2.1, fun i => (t i).2.2.2.2, h, hl, by unfold maxLen at hm; omega, fun h0 => ?_, ?_⟩
    · obtain ⟨ab, ao, spot⟩ := a
      have hspot : spot = none := by simpa [Addr.add] using World.cell?_spot (ht 0 (by omega)).1
      subst hspot
      refine ⟨ab, ao, rfl, fun _ => hlt (.cell ab (ao + 0)) (List.mem_append_left _ (by simp only [MemPlace.row, List.mem_map, List.mem_range]; exact ⟨0, by omega, rfl⟩)), fun i hi => ?_, fun i hi => ?_, fun i hi => ?_, fun i hi => ?_, fun i hi => ?_, fun i hi => bounds_i64 (ht i hi).2.2.2.2.2.1, fun i hi => (ht i hi).2.2.2.2.2.2.1⟩
      · have := (ht i hi).1; rw [Addr.add_lit] at this; exact this
      · have := (ht i hi).2.1; rw [Addr.add_lit] at this; exact this
      · have := (ht i hi).2.2.1; rw [Addr.add_lit] at this; exact this
      · have := (ht i hi).2.2.2.1; rw [Addr.add_lit] at this; exact this
      · exact (bounds_i64 (ht i hi).2.2.2.2.1).2
    · have h1 := hfar len (Nat.le_refl _)
      simp only [Rows.uptoBulk]
      omega
end
end Go.Proofs.Ytniodjigncicbaa.Dg

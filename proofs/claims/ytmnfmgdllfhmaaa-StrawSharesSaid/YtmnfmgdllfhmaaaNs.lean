/- A slice of numbers that reads as a list: nil and empty ones too. -/
import Derived.Test.YtmnfmgdllfhmaaaDgAb
import Derived.Carry
import Derived.ProofKit
import Derived.OpenShut
namespace Go.Proofs.Ytmnfmgdllfhmaaa.Dg
open Go.RowKit Go.ChangeShapes Go.WideShapes Go.ChangeAt
def Ns (w : World) (B : Nat) (v : Value) (l : List Int) : Prop :=
  ∃ A c, v = .slice A l.length c ∧ l.length ≤ c ∧ c ≤ 9223372036854775807 ∧ (∀ x ∈ l, -9223372036854775808 ≤ x ∧ x ≤ 9223372036854775807) ∧
    (l ≠ [] → ∃ b off, A = some ⟨b, off, none⟩ ∧ b < B ∧ ∀ k, k < l.length → w.cell? ⟨b, off + k, none⟩ = some (.int .i64 (l.getD k 0)))
variable {w w' : World} {B g : Nat} {v : Value} {l : List Int}
theorem Ns.nil (w : World) (B : Nat) : Ns w B (.slice none 0 0) [] := ⟨none, 0, rfl, by simp, by omega, by simp, fun h => absurd rfl h⟩
theorem Ns.keep (h : Ns w B v l) (hw : ∀ b o, b < B → w'.cell? ⟨b, o, none⟩ = w.cell? ⟨b, o, none⟩) : Ns w' B v l := by
  obtain ⟨A, c, hv, h1, h2, h4, h3⟩ := h
  refine ⟨A, c, hv, h1, h2, h4, fun hn => ?_⟩
  obtain ⟨b, off, hA, hb, hc⟩ := h3 hn
  exact ⟨b, off, hA, hb, fun k hk => (hw b _ hb).trans (hc k hk)⟩
theorem Ns.ab (h : Ns w B v l) (hb : Ab w w') (hB : B ≤ w.heap.size) : Ns w' B v l := h.keep fun b o hlt => hb.cells b o (by omega)
theorem Ns.drewN (h : Ns w B v l) (n : Nat) : Ns (w.drewN n) B v l := h
theorem Ns.more {B' : Nat} (h : Ns w B v l) (hB : B ≤ B') : Ns w B' v l := by
  obtain ⟨A, c, hv, h1, h2, h4, h3⟩ := h
  refine ⟨A, c, hv, h1, h2, h4, fun hn => ?_⟩
  obtain ⟨b, off, hA, hb, hc⟩ := h3 hn
  exact ⟨b, off, hA, by omega, hc⟩
theorem Ns.len (h : Ns w B v l) : l.length ≤ 9223372036854775807 := by obtain ⟨A, c, hv, h1, h2, h3⟩ := h; omega
theorem Ns.form (h : Ns w B v l) : ∃ A c, v = .slice A l.length c ∧ l.length ≤ c ∧ c ≤ 9223372036854775807 := by obtain ⟨A, c, hv, h1, h2, h3⟩ := h; exact ⟨A, c, hv, h1, h2⟩
theorem Ns.get {A : Option Addr} {n c : Nat} (h : Ns w B (.slice A n c) l) : n = l.length := by
  obtain ⟨A', c', hv, -⟩ := h
  injection hv
theorem Ns.in_ (h : Ns w B v l) (k : Nat) : -9223372036854775808 ≤ l.getD k 0 ∧ l.getD k 0 ≤ 9223372036854775807 := by
  obtain ⟨A, c, hv, h1, h2, h4, h3⟩ := h
  rw [List.getD_eq_getElem?_getD]
  cases e : l[k]? with
  | none => simp
  | some x => exact h4 x (List.mem_of_getElem? e)
/-- Its cells. -/
theorem Ns.cells {A : Option Addr} {n c : Nat} (h : Ns w B (.slice A n c) l) (hn : 0 < n) : ∃ b off, A = some ⟨b, off, none⟩ ∧ b < B ∧ ∀ k, k < n → w.cell? ⟨b, off + k, none⟩ = some (.int .i64 (l.getD k 0)) := by
  have e := h.get
  obtain ⟨A', c', hv, h1, h2, h4, h3⟩ := h
  injection hv with ha _ _
  subst ha
  subst e
  exact h3 (by intro h0; subst h0; simp at hn)
theorem cellsInt : Try.prog.cellsOf 3 = 1 := by kernel_rfl
section
variable {H : Type} {enc : TypeId × Value → H}
set_option maxRecDepth 100000 in
/-- What a slice of numbers that came in gives, out of its header's cell. -/
theorem open_ns3 {W : World} {fuel : Nat} {cs : List Value} {x : DataW H × List MemPlace} (hf : DataW.trod enc Try.prog W 0 (fun _ => true) true fuel 28 cs = some x) (hlt : ∀ y ∈ x.2, y.block < W.heap.size) :
    ∃ A n c, ∃ l : List Int, cs = [.slice A n c] ∧ Ns W W.heap.size (.slice A n c) l ∧ (l = [] ∨ ∃ es sp, x.1 = .slice es sp ∧ es.length = l.length) := by
  rcases open_ints Try.underlying28 Try.underlying3 cellsInt hf with ⟨hcs, hx⟩ | ⟨a, len, cap, zs, hcs, _, hl, hm, hz, hx, hcell, hwz⟩
  · exact ⟨none, 0, 0, [], hcs, Ns.nil _ _, .inl rfl⟩
  · subst hx
    simp only [if_true] at hz
    have hlen : (zs.take len).length = len := by simp; omega
    have hin : ∀ x ∈ zs.take len, -9223372036854775808 ≤ x ∧ x ≤ 9223372036854775807 := fun x hx => bounds_i64 (hwz x (List.mem_of_mem_take hx))
    refine ⟨some a, len, cap, zs.take len, hcs, ⟨some a, cap, by rw [hlen], by rw [hlen]; exact hl, ?_, hin, fun hn => ?_⟩, .inr ⟨_, _, rfl, by simp only [lits, List.length_map]⟩⟩
    · unfold maxLen at hm
      omega
    have hpos : 0 < len := by
      rcases Nat.eq_zero_or_pos len with h0 | h0
      · subst h0; simp at hn
      · exact h0
    obtain ⟨ab, ao, spot⟩ := a
    have hspot : spot = none := by simpa [Addr.add] using World.cell?_spot (hcell 0 (by omega))
    subst hspot
    refine ⟨ab, ao, rfl, hlt (.cell ab (ao + 0)) (by simp only [MemPlace.row, List.mem_map, List.mem_range]; exact ⟨0, by omega, rfl⟩), fun j hj => ?_⟩
    rw [hlen] at hj
    have hcj := hcell j (by omega)
    rw [Addr.add_lit] at hcj
    rw [hcj, List.getD_eq_getElem?_getD, List.getD_eq_getElem?_getD, List.getElem?_take_of_lt (by omega)]
end
end Go.Proofs.Ytmnfmgdllfhmaaa.Dg

/- Windows of slices of bytes; bytes as a string. -/
import Derived.Test.YtphbaaaklgiloaaGreatDgAq
import Derived.Laws.BytesArg
import Derived.IntWalk
namespace Go.Proofs.YtphbaaaklgiloaaGreat.Dg
open Go.RowKit
variable {w w' : World} {base B : Nat} {v : Value} {l : List UInt8}
theorem strOf_bytes (l : List UInt8) : strOfNums (l.map n8) = ⟨l.toArray⟩ := by
  unfold strOfNums
  congr 1
  rw [List.map_map]
  congr 1
  conv => rhs; rw [← List.map_id l]
  apply List.map_congr_left
  intro x _
  show UInt8.ofNat (n8 x).toNat = x
  apply UInt8.toNat_inj.1
  have := x.toNat_lt
  unfold n8
  rw [UInt8.toNat_ofNat']; omega
theorem getElem_D (l : List UInt8) (j : Nat) (h : j < l.length) : l[j] = l.getD j 0 := by rw [List.getD_eq_getElem?_getD, List.getElem?_eq_getElem h]; rfl
/-- string(b). -/
theorem conv_bs (h : Bs w B v l) : (convert 41 9 v).run Tryz.prog w = .ok (.string ⟨l.toArray⟩) w := by
  obtain ⟨A, c, rfl, h1, h2, h3⟩ := h
  by_cases hx : l = []
  · subst hx
    cases A with
    | none => exact run_convert_bytes_nil w 41 5 Tryz.underlying41 Tryz.underlying5 0 c 9 Tryz.underlying9
    | some a =>
      have h := run_bytesToString (P := Tryz.prog) w a 0 c [] (by simp [loadCells, loadCellsFrom])
      show (convert 41 9 (.slice (some a) 0 c)).run Tryz.prog w = _
      rw [run_convert_bytes_string w 41 9 5 _ 0 c Tryz.underlying41 Tryz.underlying5 Tryz.underlying9, h]
      rfl
  · obtain ⟨b, off, rfl, hb, hc⟩ := h3 hx
    rw [run_convert_bytes_arg w 41 5 Tryz.underlying41 Tryz.underlying5 b off l.length c (l.map n8) (by simp) (fun i hi => by
      rw [hc i hi, List.getD_eq_getElem?_getD, List.getD_eq_getElem?_getD, List.getElem?_map, List.getElem?_eq_getElem hi]; rfl) 9 Tryz.underlying9, strOf_bytes]
theorem cutB {A : Option Addr} {c n : Nat} (h : Bs w B (.slice A l.length c) l) (k : Nat) (hk : k ≤ l.length) (hn : n = l.length - k) :
    Bs w B (.slice (if c = k then A else Option.map (fun x => x.add k) A) n (c - k)) (l.drop k) := by
  obtain ⟨A', c', hv, h1, h2, h3⟩ := h
  injection hv with ha _ hc'
  subst ha hc'
  refine ⟨_, _, by rw [List.length_drop, hn], by rw [List.length_drop]; omega, by omega, fun hne => ?_⟩
  have hlt : k < l.length := by
    rcases Nat.lt_or_ge k l.length with h | h
    · exact h
    · exact absurd (List.drop_eq_nil_of_le h) hne
  have hl : l ≠ [] := by intro e; subst e; simp at hlt
  obtain ⟨b, off, rfl, hb, hc⟩ := h3 hl
  have hck : ¬ c = k := by omega
  refine ⟨b, off + k, by rw [if_neg hck, Option.map_some, Addr.add_lit], hb, fun i hi => ?_⟩
  rw [List.length_drop] at hi
  rw [Nat.add_assoc, hc (k + i) (by omega)]
  congr 2
  rw [List.getD_eq_getElem?_getD, List.getD_eq_getElem?_getD, List.getElem?_drop]
/-- The window of a slice. -/
def winA (A : Option Addr) (c lo : Nat) : Option Addr := if c = lo then A else Option.map (fun x => x.add lo) A
theorem run_slice_mid (A : Option Addr) (n c lo hi : Nat) (h1 : lo ≤ hi) (h2 : hi ≤ c) (w : World) :
    (Instr.slice 41 (.slice A n c) (some (.int .i64 (lo : Int))) (some (.int .i64 (hi : Int))) none).run Tryz.prog w = .ok (.slice (winA A c lo) (hi - lo) (c - lo)) w := by
  have g1 : (0 : Int) ≤ (lo : Int) := by omega
  have g2 : (0 : Int) ≤ (hi : Int) := by omega
  have g3 : (lo : Int) ≤ (hi : Int) := by omega
  have g4 : (hi : Int) ≤ (c : Int) := by omega
  simp only [Instr.slice, Instr.sliceBounds, Instr.sliceBound, asIntOf, run_underlying Tryz.underlying41, Sem.run_bind, Sem.run_pure, Result.andThen_ok, g1, g2, g4, and_self, if_true, Option.isSome_none, Bool.false_eq_true, if_false, Int.toNat_natCast, g3]
  have hs : (sizeOf 5).run Tryz.prog w = .ok 1 w := by kernel_rfl
  rw [hs]
  simp [winA]
theorem midB {A : Option Addr} {c : Nat} (h : Bs w B (.slice A l.length c) l) (lo hi : Nat) (h1 : lo ≤ hi) (h2 : hi ≤ l.length) :
    Bs w B (.slice (winA A c lo) (hi - lo) (c - lo)) ((l.drop lo).take (hi - lo)) :=
  take_bs (cutB h lo (by omega) (n := (l.drop lo).length) (by rw [List.length_drop])) (hi - lo) (by rw [List.length_drop]; omega)
theorem run_slice_tail (A : Option Addr) (n c k : Nat) (hk : k ≤ n) (w : World) :
    (Instr.slice 41 (.slice A n c) (some (.int .i64 (k : Int))) none none).run Tryz.prog w = .ok (.slice (if c = k then A else Option.map (fun x => x.add k) A) (n - k) (c - k)) w := by
  have h1 : (0 : Int) ≤ (k : Int) := by omega
  simp [Instr.slice, Instr.sliceBounds, Instr.sliceBound, asIntOf, run_underlying Tryz.underlying41, h1, Sem.run_bind]
  omega
end Go.Proofs.YtphbaaaklgiloaaGreat.Dg

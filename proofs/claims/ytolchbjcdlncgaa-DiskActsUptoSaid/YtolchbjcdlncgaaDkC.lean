/- The program's disk in memory: its small functions. -/
import Derived.Test.YtolchbjcdlncgaaDkB
import Derived.IntWalk
import Derived.Lib.Hide
import Derived.BigQuiet
import Derived.OwnWalk
import Derived.Deep.QuietTactic
import Derived.Deep.RegionHeld3
import Derived.Deep.DrawnRows
namespace Go.Proofs.Ytolchbjcdlncgaa.Dg
open Go.RowKit
variable {w w' : World} {base g : Nat} {v : Value} {d : Dst}
/-- The same memory: only draws lie between. -/
abbrev Stl (w w' : World) : Prop := ∃ n, w' = w.drewN n
theorem Stl.ab {w w' : World} (h : Stl w w') : Ab w w' := by obtain ⟨n, rfl⟩ := h; exact (Ab.refl w).drewN n
theorem Stl.heap {w w' : World} (h : Stl w w') : w'.heap = w.heap := by obtain ⟨n, rfl⟩ := h; rfl
attribute [local go_sem ↓] Go.wp_at_zero Go.wp_at_succ
/-- ready. -/
theorem ready_any (w : World) (g : Nat) (b : Bool) (h0 : w.cell? ⟨g, 0, none⟩ = some (.bool b)) :
    Calls Try.prog 119 #[.pointer (some ⟨g, 0, none⟩)] w fun e w' => e = .returned (.bool b) ∧ w = w' := by
  go_enter Try.func119, Try.ntmps119
  go_wp2
  go_ret
  exact ⟨rfl, rfl⟩
theorem ready_nil (w : World) :
    Calls Try.prog 119 #[.pointer none] w fun e w' => e = .returned (.bool false) ∧ w = w' := by
  go_enter Try.func119, Try.ntmps119
  go_wp2
  go_ret
  exact ⟨rfl, rfl⟩
/-- end. -/
theorem end_any (w : World) (g : Nat) (b : Nat) {A : Option Addr} {n c : Nat} (h2 : w.cell? ⟨g, 2, none⟩ = some (.int .i64 (b : Int))) (h4 : w.cell? ⟨g, 4, none⟩ = some (.slice A n c)) (hr : b + n ≤ 9223372036854775807) :
    Calls Try.prog 120 #[.pointer (some ⟨g, 0, none⟩)] w fun e w' => e = .returned (.int .i64 ((b + n : Nat) : Int)) ∧ Stl w w' := by
  have e : IntKind.i64.wrap ((b : Int) + (n : Int)) = ((b + n : Nat) : Int) := by rw [IntWalk.i64_in _ (by omega)]; omega
  go_enter Try.func120, Try.ntmps120
  go_wp2_with fail
  go_quiet (fail)
  go_wp2
  go_ret
  exact ⟨rfl, _, rfl⟩
/-- sum. -/
theorem sum_any (w : World) (x : Nat) (k : Nat) (hx : x ≤ 9223372036854775807) (hk : k ≤ 9223372036854775807) :
    Calls Try.prog 124 #[.int .i64 (x : Int), .int .i64 (k : Int)] w fun e w' => e = .returned (.int .i64 ((min (x + k) 9223372036854775807 : Nat) : Int)) ∧ w = w' := by
  by_cases h : 9223372036854775807 - (x : Int) < (k : Int)
  · have e : min (x + k) 9223372036854775807 = 9223372036854775807 := by omega
    rw [e]
    go_enter Try.func124, Try.ntmps124
    go_wp2
    go_ret
    exact ⟨rfl, rfl⟩
  · have e : ((min (x + k) 9223372036854775807 : Nat) : Int) = (x : Int) + (k : Int) := by omega
    rw [e]
    go_enter Try.func124, Try.ntmps124
    go_wp2
    go_ret
    exact ⟨rfl, rfl⟩
theorem within_some (l x : Nat) : ((Dst.within (some l) x : Nat) : Int) = min (x : Int) (l : Int) := by
  show ((min x l : Nat) : Int) = _
  omega
/-- limit.within: the limit is boxed, in a block of its own. -/
theorem within_any (w : World) (L : Option Nat) (x : Nat) :
    Calls Try.prog 122 #[.agg #[.bool L.isSome, .int .i64 ((L.getD 0 : Nat) : Int)], .int .i64 (x : Int)] w fun e w' => e = .returned (.int .i64 ((Dst.within L x : Nat) : Int)) ∧ Ab w w' := by
  cases L with
  | none =>
    go_enter Try.func122, Try.ntmps122
    go_wp2
    go_ret
    exact ⟨rfl, (Ab.refl w).alloc _⟩
  | some l =>
    rw [within_some]
    go_enter Try.func122, Try.ntmps122
    go_wp2
    go_ret
    exact ⟨rfl, (Ab.refl w).alloc _⟩
/-- frozen. -/
theorem frozen_any (w : World) (g : Nat) (L : Option Nat) (b : Nat) {A : Option Addr} {n c : Nat} (h2 : w.cell? ⟨g, 2, none⟩ = some (.int .i64 (b : Int))) (h4 : w.cell? ⟨g, 4, none⟩ = some (.slice A n c))
    (h5 : w.cell? ⟨g, 5, none⟩ = some (.bool L.isSome)) (h6 : w.cell? ⟨g, 6, none⟩ = some (.int .i64 ((L.getD 0 : Nat) : Int))) (hr : b + n ≤ 9223372036854775807) :
    Calls Try.prog 121 #[.pointer (some ⟨g, 0, none⟩)] w fun e w' => e = .returned (.bool (Dst.coldL (b + n) L)) ∧ Stl w w' := by
  cases L with
  | none =>
    replace h5 : w.cell? ⟨g, 5, none⟩ = some (.bool false) := h5
    go_enter Try.func121, Try.ntmps121
    go_wp2_with fail
    go_quiet (fail)
    go_wp2
    go_ret
    exact ⟨rfl, _, rfl⟩
  | some l =>
    replace h5 : w.cell? ⟨g, 5, none⟩ = some (.bool true) := h5
    replace h6 : w.cell? ⟨g, 6, none⟩ = some (.int .i64 (l : Int)) := h6
    have H2 := Lib.hid h2
    have H4 := Lib.hid h4
    clear h2 h4
    go_enter Try.func121, Try.ntmps121
    go_wp2_with fail
    go_quiet ((go_at_call 120; exact Calls.quiet_of (end_any _ g b H2.out H4.out hr)))
    go_wp2
    go_ret
    refine ⟨?_, _, rfl⟩
    show Ending.returned (.bool (decide ((l : Int) < ((b + n : Nat) : Int)))) = .returned (.bool (decide (l < b + n)))
    congr 2
    simp only [Int.ofNat_lt]
/-- piece. -/
theorem piece_any (w : World) (g : Nat) (b lo hi : Nat) (i j : Int) {A : Option Addr} {n c : Nat} (h2 : w.cell? ⟨g, 2, none⟩ = some (.int .i64 (b : Int))) (h4 : w.cell? ⟨g, 4, none⟩ = some (.slice A n c))
    (hi' : i - (b : Int) = (lo : Int)) (hj' : j - (b : Int) = (hi : Int)) (h1 : lo ≤ hi) (hc : hi ≤ c) (hm : c ≤ 9223372036854775807) :
    Calls Try.prog 125 #[.pointer (some ⟨g, 0, none⟩), .int .i64 i, .int .i64 j] w fun e w' => e = .returned (.slice (winA A hi lo) (hi - lo) (hi - lo)) ∧ Stl w w' := by
  have e1 : IntKind.i64.wrap (lo : Int) = (lo : Int) := IntWalk.i64_in _ (by omega)
  have e2 : IntKind.i64.wrap (hi : Int) = (hi : Int) := IntWalk.i64_in _ (by omega)
  have hs := run_slice_three A n c lo hi h1 hc
  clear h1 hc hm
  go_enter Try.func125, Try.ntmps125
  go_wp2_with fail
  go_quiet (fail)
  go_wp2
  go_ret
  exact ⟨rfl, _, rfl⟩
/-- empty: a new block. -/
theorem empty_any (w : World) (n : Nat) :
    Calls Try.prog 52 #[.int .i64 (n : Int)] w fun e w' => e = .returned (.pointer (some ⟨w.heap.size, 0, none⟩)) ∧
      w' = w.alloc (.cells #[.bool true, .int .i64 (n : Int), .int .i64 0, .int .i64 0, .slice none 0 0, .bool false, .int .i64 0] 209) := by
  go_enter Try.func52, Try.ntmps52
  go_wp2
  go_ret
  exact ⟨rfl, rfl⟩
end Go.Proofs.Ytolchbjcdlncgaa.Dg

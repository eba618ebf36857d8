/- The engine's count. -/
import Derived.Test.YtpikhfgpdebomaaDoorDgE
namespace Go.Proofs.YtpikhfgpdebomaaDoor.Dg
open Go.RowKit
variable {w w' : World} {g : Nat} {d m n : Int} {tab : Nat → UInt32}
set_option maxHeartbeats 400000 in
theorem load64 (a : Addr) (w : World) (x : Int) (h : w.cell? a = some (.int .i64 x)) : (callFunc 35 #[.pointer (some a)]).run Tryd.prog w = .ok (.value (.int .i64 x)) w :=
  run_call_load (P := Tryd.prog) Tryd.func35 (by kernel_rfl) (by kernel_rfl) (by kernel_rfl) .i64 (by kernel_rfl) h
set_option maxHeartbeats 400000 in
theorem Calls_eng (g : Nat) (w : World) (h : Eng w g d m tab n) :
    Calls Tryd.prog 11 #[.pointer (some ⟨g, 0, none⟩)] w fun e w' => e = .returned (.int .i64 n) ∧ w = w' := by
  have hl := load64 ⟨g, 260, none⟩ w n h.count
  go_enter Tryd.func11, Tryd.ntmps11
  have hnot : ∀ (x : Bool) (w : World), (Op.unary .not (.bool x)).run Tryd.prog w = .ok (.bool (!x)) w := fun _ _ => rfl
  go_wp2_with fail
  refine (eng_ready_any g _ h).mono ?_
  rintro e w1 ⟨rfl, rfl⟩
  go_wp2
  go_ret
  exact ⟨rfl, rfl⟩
set_option maxHeartbeats 400000 in
theorem Calls_nil (w : World) :
    Calls Tryd.prog 11 #[.pointer none] w fun e w' => e = .returned (.int .i64 0) ∧ w = w' := by
  go_enter Tryd.func11, Tryd.ntmps11
  have hnot : ∀ (x : Bool) (w : World), (Op.unary .not (.bool x)).run Tryd.prog w = .ok (.bool (!x)) w := fun _ _ => rfl
  go_wp2_with fail
  refine (eng_ready_nil _).mono ?_
  rintro e w1 ⟨rfl, rfl⟩
  go_wp2_with fail
  go_ret
  exact ⟨rfl, rfl⟩
end Go.Proofs.YtpikhfgpdebomaaDoor.Dg

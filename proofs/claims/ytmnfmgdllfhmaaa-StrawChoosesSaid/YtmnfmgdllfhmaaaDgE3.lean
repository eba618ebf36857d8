/- The engine's hash of three numbers. -/
import Derived.Test.YtmnfmgdllfhmaaaDgE
import Derived.Test.YtmnfmgdllfhmaaaDgH
namespace Go.Proofs.Ytmnfmgdllfhmaaa.Dg
open Go.RowKit
variable {w w' : World} {g : Nat} {d m n : Int} {tab : Nat → UInt32}
set_option maxHeartbeats 400000 in
theorem Hash3_eng (a b c : UInt32) (g : Nat) (w : World) (h : Eng w g d m tab n) :
    Calls Try.prog 25 #[.pointer (some ⟨g, 0, none⟩), .int .u32 (n32 a), .int .u32 (n32 b), .int .u32 (n32 c)] w fun e w' => e = .returned (.int .u32 (n32 (hash3L a b c))) ∧ w = w' := by
  go_enter Try.func25, Try.ntmps25
  have hnot : ∀ (x : Bool) (w : World), (Op.unary .not (.bool x)).run Try.prog w = .ok (.bool (!x)) w := fun _ _ => rfl
  go_wp2_with fail
  refine (eng_ready_any g _ h).mono ?_
  rintro e w1 ⟨rfl, rfl⟩
  go_wp2_with fail
  refine (hash3_any _ _ _ _).mono ?_
  rintro e w1 ⟨rfl, rfl⟩
  go_wp2_with fail
  go_ret
  exact ⟨rfl, rfl⟩
set_option maxHeartbeats 400000 in
theorem Hash3_nil (a b c : Int) (w : World) :
    Calls Try.prog 25 #[.pointer none, .int .u32 a, .int .u32 b, .int .u32 c] w fun e w' => e = .returned (.int .u32 0) ∧ w = w' := by
  go_enter Try.func25, Try.ntmps25
  have hnot : ∀ (x : Bool) (w : World), (Op.unary .not (.bool x)).run Try.prog w = .ok (.bool (!x)) w := fun _ _ => rfl
  go_wp2_with fail
  refine (eng_ready_nil _).mono ?_
  rintro e w1 ⟨rfl, rfl⟩
  go_wp2_with fail
  go_ret
  exact ⟨rfl, rfl⟩
end Go.Proofs.Ytmnfmgdllfhmaaa.Dg

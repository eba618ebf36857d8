import Derived.Test.YtmnfmgdllfhmaaaDgA
namespace Go.Proofs.Ytmnfmgdllfhmaaa.Dg
open Go.RowKit
section
attribute [local go_sem] sub32 sub32' xor32 shr32_13 shr32_12 shr32_5 shr32_3 shr32_15 shl32_8 shl32_16 shl32_10
set_option maxHeartbeats 400000 in
theorem mix_any (a b c : UInt32) (w : World) :
    Calls Try.prog 29 #[.int .u32 (n32 a), .int .u32 (n32 b), .int .u32 (n32 c)] w fun e w' =>
      e = .returned (.tuple #[.int .u32 (n32 (mixL a b c).1), .int .u32 (n32 (mixL a b c).2.1), .int .u32 (n32 (mixL a b c).2.2)]) ∧ w = w' := by
  go_enter Try.func29, Try.ntmps29
  go_wp2
  go_ret3
  exact ⟨rfl, rfl⟩
end
end Go.Proofs.Ytmnfmgdllfhmaaa.Dg

/- The small functions of SHA-256. -/
import Derived.Test.YtpikhfgpdebomaaDoorDgK
namespace Go.Proofs.YtpikhfgpdebomaaDoor.Dg
open Go.RowKit
/-- Turned to the right. -/
def rtr (x : UInt32) (l r : Nat) : UInt32 := x <<< UInt32.ofNat l ||| x >>> UInt32.ofNat r
theorem low5_2 : bits .and .u64 (IntKind.u64.wrap (-2)) 31 = 30 := by kernel_rfl
theorem low5_13 : bits .and .u64 (IntKind.u64.wrap (-13)) 31 = 19 := by kernel_rfl
theorem low5_22 : bits .and .u64 (IntKind.u64.wrap (-22)) 31 = 10 := by kernel_rfl
theorem low5_6 : bits .and .u64 (IntKind.u64.wrap (-6)) 31 = 26 := by kernel_rfl
theorem low5_11 : bits .and .u64 (IntKind.u64.wrap (-11)) 31 = 21 := by kernel_rfl
theorem low5_25 : bits .and .u64 (IntKind.u64.wrap (-25)) 31 = 7 := by kernel_rfl
theorem low5_7 : bits .and .u64 (IntKind.u64.wrap (-7)) 31 = 25 := by kernel_rfl
theorem low5_18 : bits .and .u64 (IntKind.u64.wrap (-18)) 31 = 14 := by kernel_rfl
theorem low5_17 : bits .and .u64 (IntKind.u64.wrap (-17)) 31 = 15 := by kernel_rfl
theorem low5_19 : bits .and .u64 (IntKind.u64.wrap (-19)) 31 = 13 := by kernel_rfl
section
attribute [local go_sem] or32 shr32_2 shl32_30 low5_2
set_option maxHeartbeats 400000 in
theorem rot_2 (x : UInt32) (w : World) :
    Calls Tryd.prog 60 #[.int .u32 (n32 x), .int .i64 2] w fun e w' => e = .returned (.int .u32 (n32 (rtr x 30 2))) ∧ w = w' := by
  go_enter Tryd.func60, Tryd.ntmps60
  go_wp2
  go_ret
  exact ⟨rfl, rfl⟩
end
section
attribute [local go_sem] or32 shr32_13 shl32_19 low5_13
set_option maxHeartbeats 400000 in
theorem rot_13 (x : UInt32) (w : World) :
    Calls Tryd.prog 60 #[.int .u32 (n32 x), .int .i64 13] w fun e w' => e = .returned (.int .u32 (n32 (rtr x 19 13))) ∧ w = w' := by
  go_enter Tryd.func60, Tryd.ntmps60
  go_wp2
  go_ret
  exact ⟨rfl, rfl⟩
end
section
attribute [local go_sem] or32 shr32_22 shl32_10 low5_22
set_option maxHeartbeats 400000 in
theorem rot_22 (x : UInt32) (w : World) :
    Calls Tryd.prog 60 #[.int .u32 (n32 x), .int .i64 22] w fun e w' => e = .returned (.int .u32 (n32 (rtr x 10 22))) ∧ w = w' := by
  go_enter Tryd.func60, Tryd.ntmps60
  go_wp2
  go_ret
  exact ⟨rfl, rfl⟩
end
section
attribute [local go_sem] or32 shr32_6 shl32_26 low5_6
set_option maxHeartbeats 400000 in
theorem rot_6 (x : UInt32) (w : World) :
    Calls Tryd.prog 60 #[.int .u32 (n32 x), .int .i64 6] w fun e w' => e = .returned (.int .u32 (n32 (rtr x 26 6))) ∧ w = w' := by
  go_enter Tryd.func60, Tryd.ntmps60
  go_wp2
  go_ret
  exact ⟨rfl, rfl⟩
end
section
attribute [local go_sem] or32 shr32_11 shl32_21 low5_11
set_option maxHeartbeats 400000 in
theorem rot_11 (x : UInt32) (w : World) :
    Calls Tryd.prog 60 #[.int .u32 (n32 x), .int .i64 11] w fun e w' => e = .returned (.int .u32 (n32 (rtr x 21 11))) ∧ w = w' := by
  go_enter Tryd.func60, Tryd.ntmps60
  go_wp2
  go_ret
  exact ⟨rfl, rfl⟩
end
section
attribute [local go_sem] or32 shr32_25 shl32_7 low5_25
set_option maxHeartbeats 400000 in
theorem rot_25 (x : UInt32) (w : World) :
    Calls Tryd.prog 60 #[.int .u32 (n32 x), .int .i64 25] w fun e w' => e = .returned (.int .u32 (n32 (rtr x 7 25))) ∧ w = w' := by
  go_enter Tryd.func60, Tryd.ntmps60
  go_wp2
  go_ret
  exact ⟨rfl, rfl⟩
end
section
attribute [local go_sem] or32 shr32_7 shl32_25 low5_7
set_option maxHeartbeats 400000 in
theorem rot_7 (x : UInt32) (w : World) :
    Calls Tryd.prog 60 #[.int .u32 (n32 x), .int .i64 7] w fun e w' => e = .returned (.int .u32 (n32 (rtr x 25 7))) ∧ w = w' := by
  go_enter Tryd.func60, Tryd.ntmps60
  go_wp2
  go_ret
  exact ⟨rfl, rfl⟩
end
section
attribute [local go_sem] or32 shr32_18 shl32_14 low5_18
set_option maxHeartbeats 400000 in
theorem rot_18 (x : UInt32) (w : World) :
    Calls Tryd.prog 60 #[.int .u32 (n32 x), .int .i64 18] w fun e w' => e = .returned (.int .u32 (n32 (rtr x 14 18))) ∧ w = w' := by
  go_enter Tryd.func60, Tryd.ntmps60
  go_wp2
  go_ret
  exact ⟨rfl, rfl⟩
end
section
attribute [local go_sem] or32 shr32_17 shl32_15 low5_17
set_option maxHeartbeats 400000 in
theorem rot_17 (x : UInt32) (w : World) :
    Calls Tryd.prog 60 #[.int .u32 (n32 x), .int .i64 17] w fun e w' => e = .returned (.int .u32 (n32 (rtr x 15 17))) ∧ w = w' := by
  go_enter Tryd.func60, Tryd.ntmps60
  go_wp2
  go_ret
  exact ⟨rfl, rfl⟩
end
section
attribute [local go_sem] or32 shr32_19 shl32_13 low5_19
set_option maxHeartbeats 400000 in
theorem rot_19 (x : UInt32) (w : World) :
    Calls Tryd.prog 60 #[.int .u32 (n32 x), .int .i64 19] w fun e w' => e = .returned (.int .u32 (n32 (rtr x 13 19))) ∧ w = w' := by
  go_enter Tryd.func60, Tryd.ntmps60
  go_wp2
  go_ret
  exact ⟨rfl, rfl⟩
end
def bs0 (x : UInt32) : UInt32 := rtr x 30 2 ^^^ rtr x 19 13 ^^^ rtr x 10 22
def bs1 (x : UInt32) : UInt32 := rtr x 26 6 ^^^ rtr x 21 11 ^^^ rtr x 7 25
def ss0 (x : UInt32) : UInt32 := rtr x 25 7 ^^^ rtr x 14 18 ^^^ x >>> 3
def ss1 (x : UInt32) : UInt32 := rtr x 15 17 ^^^ rtr x 13 19 ^^^ x >>> 10
def chc (x y z : UInt32) : UInt32 := x &&& y ^^^ ~~~x &&& z
def maj (x y z : UInt32) : UInt32 := x &&& y ^^^ x &&& z ^^^ y &&& z
section
attribute [local go_sem] xor32 and32 not32 shr32_3 shr32_10
set_option maxHeartbeats 400000 in
theorem bs0_any (x : UInt32) (w : World) :
    Calls Tryd.prog 48 #[.int .u32 (n32 x)] w fun e w' => e = .returned (.int .u32 (n32 (bs0 x))) ∧ w = w' := by
  go_enter Tryd.func48, Tryd.ntmps48
  go_wp2_with fail
  refine (rot_2 _ _).mono ?_
  rintro e w' ⟨rfl, rfl⟩
  go_wp2_with fail
  refine (rot_13 _ _).mono ?_
  rintro e w' ⟨rfl, rfl⟩
  go_wp2_with fail
  refine (rot_22 _ _).mono ?_
  rintro e w' ⟨rfl, rfl⟩
  go_wp2_with fail
  go_ret
  exact ⟨rfl, rfl⟩
set_option maxHeartbeats 400000 in
theorem bs1_any (x : UInt32) (w : World) :
    Calls Tryd.prog 46 #[.int .u32 (n32 x)] w fun e w' => e = .returned (.int .u32 (n32 (bs1 x))) ∧ w = w' := by
  go_enter Tryd.func46, Tryd.ntmps46
  go_wp2_with fail
  refine (rot_6 _ _).mono ?_
  rintro e w' ⟨rfl, rfl⟩
  go_wp2_with fail
  refine (rot_11 _ _).mono ?_
  rintro e w' ⟨rfl, rfl⟩
  go_wp2_with fail
  refine (rot_25 _ _).mono ?_
  rintro e w' ⟨rfl, rfl⟩
  go_wp2_with fail
  go_ret
  exact ⟨rfl, rfl⟩
set_option maxHeartbeats 400000 in
theorem ss0_any (x : UInt32) (w : World) :
    Calls Tryd.prog 59 #[.int .u32 (n32 x)] w fun e w' => e = .returned (.int .u32 (n32 (ss0 x))) ∧ w = w' := by
  go_enter Tryd.func59, Tryd.ntmps59
  go_wp2_with fail
  refine (rot_7 _ _).mono ?_
  rintro e w' ⟨rfl, rfl⟩
  go_wp2_with fail
  refine (rot_18 _ _).mono ?_
  rintro e w' ⟨rfl, rfl⟩
  go_wp2_with fail
  go_ret
  exact ⟨rfl, rfl⟩
set_option maxHeartbeats 400000 in
theorem ss1_any (x : UInt32) (w : World) :
    Calls Tryd.prog 58 #[.int .u32 (n32 x)] w fun e w' => e = .returned (.int .u32 (n32 (ss1 x))) ∧ w = w' := by
  go_enter Tryd.func58, Tryd.ntmps58
  go_wp2_with fail
  refine (rot_17 _ _).mono ?_
  rintro e w' ⟨rfl, rfl⟩
  go_wp2_with fail
  refine (rot_19 _ _).mono ?_
  rintro e w' ⟨rfl, rfl⟩
  go_wp2_with fail
  go_ret
  exact ⟨rfl, rfl⟩
set_option maxHeartbeats 400000 in
theorem chc_any (x y z : UInt32) (w : World) :
    Calls Tryd.prog 47 #[.int .u32 (n32 x), .int .u32 (n32 y), .int .u32 (n32 z)] w fun e w' => e = .returned (.int .u32 (n32 (chc x y z))) ∧ w = w' := by
  go_enter Tryd.func47, Tryd.ntmps47
  go_wp2
  go_ret
  exact ⟨rfl, rfl⟩
set_option maxHeartbeats 400000 in
theorem maj_any (x y z : UInt32) (w : World) :
    Calls Tryd.prog 49 #[.int .u32 (n32 x), .int .u32 (n32 y), .int .u32 (n32 z)] w fun e w' => e = .returned (.int .u32 (n32 (maj x y z))) ∧ w = w' := by
  go_enter Tryd.func49, Tryd.ntmps49
  go_wp2
  go_ret
  exact ⟨rfl, rfl⟩
end
end Go.Proofs.YtpikhfgpdebomaaDoor.Dg

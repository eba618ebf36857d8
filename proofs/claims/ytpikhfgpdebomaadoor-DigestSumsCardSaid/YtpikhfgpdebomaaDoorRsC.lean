/- The reference's SHA-256: turned numbers. -/
import Derived.Test.YtpikhfgpdebomaaDoorRsB
import Derived.Test.YtpikhfgpdebomaaDoorDgL
namespace Go.Proofs.YtpikhfgpdebomaaDoor.Dg
open Go.RowKit
theorem turn_eq (x : UInt32) (n : Nat) (h1 : 0 < n) (h2 : n < 32) : bits .or .u32 (n32 x / 2 ^ n) (n32 x * 2 ^ (32 - n) % 4294967296) = n32 (rtr x (32 - n) n) := by
  have hs : n32 x / 2 ^ n = n32 (x >>> UInt32.ofNat n) := by
    unfold n32
    rw [UInt32.toNat_shiftRight, UInt32.toNat_ofNat', Nat.shiftRight_eq_div_pow, Nat.mod_eq_of_lt (by omega : n < 2 ^ 32), Nat.mod_eq_of_lt h2, Int.natCast_ediv, Int.natCast_pow]
    rfl
  have hl : n32 x * 2 ^ (32 - n) % 4294967296 = n32 (x <<< UInt32.ofNat (32 - n)) := by
    unfold n32
    rw [UInt32.toNat_shiftLeft, UInt32.toNat_ofNat', Nat.shiftLeft_eq, Nat.mod_eq_of_lt (by omega : 32 - n < 2 ^ 32), Nat.mod_eq_of_lt (by omega : 32 - n < 32), Int.natCast_emod, Int.natCast_mul, Int.natCast_pow]
    rfl
  rw [hs, hl, or32, rtr, UInt32.or_comm]
theorem turn_any (x : UInt32) (n : Nat) (h1 : 0 < n) (h2 : n < 32) (w : World) :
    Calls Tryd.prog 34 #[.int .u32 (n32 x), .int .u64 (n : Int)] w fun e w' => e = .returned (.int .u32 (n32 (rtr x (32 - n) n))) ∧ w = w' := by
  have he := turn_eq x n h1 h2
  have hw : IntKind.u64.wrap (32 - (n : Int)) = 32 - (n : Int) := by rw [IntKind.wrap_u64]; omega
  go_enter Tryd.func34, Tryd.ntmps34
  go_wp2_with fail
  go_ret
  exact ⟨by rw [← he]; rfl, rfl⟩
end Go.Proofs.YtpikhfgpdebomaaDoor.Dg

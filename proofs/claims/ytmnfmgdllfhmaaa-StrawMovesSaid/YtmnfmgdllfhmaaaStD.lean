/- The length of a straw, on both sides. -/
import Derived.Test.YtmnfmgdllfhmaaaStC
namespace Go.Proofs.Ytmnfmgdllfhmaaa.Dg
open Go.RowKit
/-- P7.2: the length of a straw. -/
def drawI (h : UInt32) (n : Int) : Int := if n < 1 then -9223372036854775808 else ((lnI (n32 h % 65536) : Int) - 281474976710656).tdiv n
theorem lnI_le (u : Int) : (lnI u : Int) ≤ 281474976710656 := by
  have := lnX_le (x := clampU u + 1) (by omega) (by have := clampU_le u; omega)
  unfold lnI
  omega
theorem and16 (a : UInt32) : bits .and .u32 (n32 a) 65535 = n32 a % 65536 := by
  have ha := a.toNat_lt
  unfold n32
  rw [show (65535 : Int) = ((65535 : Nat) : Int) from rfl, u32_and_nat _ _ ha (by omega), show (65535 : Nat) = 2 ^ 16 - 1 from rfl, Nat.and_two_pow_sub_one_eq_mod]
  omega
attribute [local go_sem] and16
set_option maxRecDepth 100000 in
set_option maxHeartbeats 1000000 in
theorem draw_any (h : UInt32) (n : Int) (w : World) : Calls Try.prog 12 #[.int .u32 (n32 h), .int .i64 n] w fun e w' => e = .returned (.int .i64 (drawI h n)) ∧ w = w' := by
  have hb1 := n32_nn h
  by_cases c : n < 1
  · rw [show drawI h n = -9223372036854775808 from if_pos c]
    go_enter Try.func12, Try.ntmps12
    go_wp2_with fail
    go_ret
    exact ⟨rfl, rfl⟩
  · rw [show drawI h n = ((lnI (n32 h % 65536) : Int) - 281474976710656).tdiv n from if_neg c]
    have hl := lnI_le (n32 h % 65536)
    go_enter Try.func12, Try.ntmps12
    go_wp2_with fail
    refine (ln_any _ _).mono ?_
    rintro e w1 ⟨rfl, rfl⟩
    go_wp2_with fail
    go_ret
    exact ⟨rfl, rfl⟩
set_option maxRecDepth 100000 in
set_option maxHeartbeats 1000000 in
theorem rdraw_any (h : UInt32) (n : Int) (w : World) : Calls Try.prog 13 #[.int .u32 (n32 h), .int .i64 n] w fun e w' => e = .returned (.int .i64 (drawI h n)) ∧ w = w' := by
  have hb1 := n32_nn h
  by_cases c : n < 1
  · rw [show drawI h n = -9223372036854775808 from if_pos c]
    go_enter Try.func13, Try.ntmps13
    go_wp2_with fail
    go_ret
    exact ⟨rfl, rfl⟩
  · rw [show drawI h n = ((lnI (n32 h % 65536) : Int) - 281474976710656).tdiv n from if_neg c]
    have hl := lnI_le (n32 h % 65536)
    go_enter Try.func13, Try.ntmps13
    go_wp2_with fail
    refine (rln_any _ _).mono ?_
    rintro e w1 ⟨rfl, rfl⟩
    go_wp2_with fail
    go_ret
    exact ⟨rfl, rfl⟩
end Go.Proofs.Ytmnfmgdllfhmaaa.Dg

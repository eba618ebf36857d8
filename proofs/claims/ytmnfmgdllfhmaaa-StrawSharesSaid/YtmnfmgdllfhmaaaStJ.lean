/- Walks: StrawLn, StrawDraws, StrawRises. -/
import Derived.Test.YtmnfmgdllfhmaaaStI
import Derived.Test.YtmnfmgdllfhmaaaStH
import Derived.ProofKit
import Derived.OpenShut
import Derived.Deep.DeepHandedRow
import Derived.Lib.LaidTab
import Derived.SizedLaws
namespace Go.Proofs.Ytmnfmgdllfhmaaa.Dg
open Go.RowKit
theorem sown : ownKnob Try.prog.godebug = none := by kernel_rfl
noncomputable def slaidWorld (os : Os) : World := World.holding Try.prog os ⟨#[], #[], []⟩
def LawPost (w : World) (e : Ending) (w' : World) : Prop := e = .returned (.bool true) ∧ Ab w w'
set_option maxRecDepth 100000 in
set_option maxHeartbeats 1000000 in
theorem ln_walk (w : World) (u : Int) : Calls Try.prog 3 #[.int .i64 u] w (LawPost w) := by
  go_enter Try.func3, Try.ntmps3
  go_wp2_with (first
    | (go_at_call 9; (with_reducible refine (ln_any _ _).mono ?_); rintro e w3 ⟨rfl, rfl⟩)
    | (go_at_call 10; (with_reducible refine (rln_any _ _).mono ?_); rintro e w3 ⟨rfl, rfl⟩)
    | (go_at_call 11; (with_reducible refine (lives7 _).mono ?_); rintro e w4 ⟨rfl, h4⟩; (have H4 := Lib.hid h4); clear h4))
  go_ret
  exact ⟨rfl, H4.out⟩
set_option maxRecDepth 100000 in
set_option maxHeartbeats 1000000 in
theorem draws_walk (w : World) (h : UInt32) (n : Int) : Calls Try.prog 4 #[.int .u32 (n32 h), .int .i64 n] w (LawPost w) := by
  go_enter Try.func4, Try.ntmps4
  go_wp2_with (first
    | (go_at_call 12; (with_reducible refine (draw_any _ _ _).mono ?_); rintro e w3 ⟨rfl, rfl⟩)
    | (go_at_call 13; (with_reducible refine (rdraw_any _ _ _).mono ?_); rintro e w3 ⟨rfl, rfl⟩)
    | (go_at_call 11; (with_reducible refine (lives7 _).mono ?_); rintro e w4 ⟨rfl, h4⟩; (have H4 := Lib.hid h4); clear h4))
  go_ret
  exact ⟨rfl, H4.out⟩
theorem lnI_nat (k : Nat) (h : k ≤ 65535) : lnI (k : Int) = lnX (k + 1) := by
  unfold lnI
  congr 1
  unfold clampU
  omega
theorem rise_facts (K : Nat) (h : K < 65535) : ∃ a b : Int, (lnI (K : Int) : Int) = a ∧ (lnI ((K : Int) + 1) : Int) = b ∧ 0 ≤ a ∧ a < b ∧ b ≤ 281474976710656 ∧ (K < 32767 → (lnI ((K : Int) * 2 + 1) : Int) = a + 17592186044416) := by
  refine ⟨_, _, rfl, rfl, by omega, ?_, ?_, ?_⟩
  · have e := lnI_nat (K + 1) (by omega)
    rw [Int.natCast_add] at e
    rw [lnI_nat K (by omega)]
    rw [show ((K : Int) + 1) = (K : Int) + ((1 : Nat) : Int) from rfl, e]
    have := lnX_rises (x := K + 1) (by omega) (by omega)
    omega
  · exact lnI_le _
  · intro h2
    have e := lnI_nat (2 * K + 1) (by omega)
    rw [show ((2 * K + 1 : Nat) : Int) = (K : Int) * 2 + 1 by omega] at e
    rw [e, lnI_nat K (by omega), show 2 * K + 1 + 1 = 2 * (K + 1) by omega, lnX_dbl (by omega) (by omega)]
    omega
set_option maxRecDepth 100000 in
set_option maxHeartbeats 1000000 in
theorem rises_walk (w : World) (n : Int) (h0 : 0 ≤ n) : Calls Try.prog 7 #[.int .u64 n] w (LawPost w) := by
  obtain ⟨K, hK, hK2⟩ : ∃ K : Nat, n % 65535 = (K : Int) ∧ K < 65535 := ⟨(n % 65535).toNat, by omega, by omega⟩
  have hK3 : (K : Int) < 65535 := by omega
  obtain ⟨a, b, ha, hb, hab0, hab, hb2, hd⟩ := rise_facts K hK2
  have C1 : ∀ w, Hid (Calls Try.prog 9 #[.int .i64 (K : Int)] w fun e w' => e = .returned (.int .i64 a) ∧ w = w') := fun w => Lib.hid (by have := ln_any (K : Int) w; rw [ha] at this; exact this)
  have C2 : ∀ w, Hid (Calls Try.prog 9 #[.int .i64 ((K : Int) + 1)] w fun e w' => e = .returned (.int .i64 b) ∧ w = w') := fun w => Lib.hid (by have := ln_any ((K : Int) + 1) w; rw [hb] at this; exact this)
  have C3 : ∀ w, Hid (Calls Try.prog 9 #[.int .i64 0] w fun e w' => e = .returned (.int .i64 0) ∧ w = w') := fun w => Lib.hid (by have := ln_any 0 w; rw [show lnI 0 = 0 by decide +kernel] at this; exact this)
  have C4 : ∀ w, Hid (Calls Try.prog 9 #[.int .i64 65535] w fun e w' => e = .returned (.int .i64 281474976710656) ∧ w = w') := fun w => Lib.hid (by have := ln_any 65535 w; rw [show lnI 65535 = 281474976710656 by decide +kernel] at this; exact this)
  have hd1 : decide (b ≤ a) = false := by simpa using hab
  have hd2 : decide (a < 0) = false := by simpa using hab0
  have hd3 : decide (281474976710656 < b) = false := by simpa using hb2
  by_cases c : K < 32767
  · have C5 : ∀ w, Hid (Calls Try.prog 9 #[.int .i64 ((K : Int) * 2 + 1)] w fun e w' => e = .returned (.int .i64 (a + 17592186044416)) ∧ w = w') := fun w => Lib.hid (by have := ln_any ((K : Int) * 2 + 1) w; rw [hd c] at this; exact this)
    have c' : decide ((32767 : Int) ≤ (K : Int)) = false := by simpa using (show (K : Int) < 32767 by omega)
    have C6 : ∀ w, Hid (Calls Try.prog 9 #[.int .i64 (2 * (K : Int) + 1)] w fun e w' => e = .returned (.int .i64 (a + 17592186044416)) ∧ w = w') := fun w => Lib.hid (by have := (C5 w).out; rw [Int.mul_comm] at this; exact this)
    clear hd ha hb hK2 c
    go_enter Try.func7, Try.ntmps7
    go_wp2_with (first
      | (go_at_call 9; (with_reducible refine (C1 _).out.mono ?_); rintro e w3 ⟨rfl, rfl⟩)
      | (go_at_call 9; (with_reducible refine (C2 _).out.mono ?_); rintro e w3 ⟨rfl, rfl⟩)
      | (go_at_call 9; (with_reducible refine (C3 _).out.mono ?_); rintro e w3 ⟨rfl, rfl⟩)
      | (go_at_call 9; (with_reducible refine (C4 _).out.mono ?_); rintro e w3 ⟨rfl, rfl⟩)
      | (go_at_call 9; (with_reducible refine (C5 _).out.mono ?_); rintro e w3 ⟨rfl, rfl⟩)
      | (go_at_call 9; (with_reducible refine (C6 _).out.mono ?_); rintro e w3 ⟨rfl, rfl⟩)
      | (go_at_call 11; (with_reducible refine (lives7 _).mono ?_); rintro e w4 ⟨rfl, h4⟩; (have H4 := Lib.hid h4); clear h4))
    go_ret
    exact ⟨rfl, H4.out⟩
  · have c' : (32767 : Int) ≤ (K : Int) := by omega
    clear hd ha hb hK2 c
    go_enter Try.func7, Try.ntmps7
    go_wp2_with (first
      | (go_at_call 9; (with_reducible refine (C1 _).out.mono ?_); rintro e w3 ⟨rfl, rfl⟩)
      | (go_at_call 9; (with_reducible refine (C2 _).out.mono ?_); rintro e w3 ⟨rfl, rfl⟩)
      | (go_at_call 9; (with_reducible refine (C3 _).out.mono ?_); rintro e w3 ⟨rfl, rfl⟩)
      | (go_at_call 9; (with_reducible refine (C4 _).out.mono ?_); rintro e w3 ⟨rfl, rfl⟩)
      | (go_at_call 11; (with_reducible refine (lives7 _).mono ?_); rintro e w4 ⟨rfl, h4⟩; (have H4 := Lib.hid h4); clear h4))
    go_ret
    exact ⟨rfl, H4.out⟩
end Go.Proofs.Ytmnfmgdllfhmaaa.Dg

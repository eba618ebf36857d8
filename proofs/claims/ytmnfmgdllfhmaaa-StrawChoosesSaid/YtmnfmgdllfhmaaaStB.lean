/- The program's logarithm. -/
import Derived.Test.YtmnfmgdllfhmaaaStL
import Derived.Test.YtmnfmgdllfhmaaaDgA
import Derived.Lib.Hide
namespace Go.Proofs.Ytmnfmgdllfhmaaa.Dg
open Go.RowKit
theorem sq_int (y : Nat) : (y : Int) * (y : Int) / (2147483648 : Int) = (sq y : Int) := by unfold sq; omega
theorem yy_le {y : Nat} (h : y < 4294967296) : y * y ≤ 18446744065119617025 := Nat.mul_le_mul (show y ≤ 4294967295 by omega) (show y ≤ 4294967295 by omega)
theorem yy_int {z : Nat} (h : z < 4294967296) : (z : Int) * (z : Int) ≤ 18446744065119617025 := by have := yy_le h; omega
theorem pow_le {i : Nat} (h : i < 44) : 2 ^ i ≤ 8796093022208 := Nat.pow_le_pow_right (by omega) (show i ≤ 43 by omega)
theorem pow_int {i : Nat} (h : i < 44) : (2 : Int) ^ i ≤ 8796093022208 ∧ 0 ≤ (2 : Int) ^ i := by
  have h1 := pow_le h
  have e : ((2 ^ i : Nat) : Int) = (2 : Int) ^ i := by simp
  rw [← e]
  exact ⟨Int.ofNat_le.2 h1, Int.natCast_nonneg _⟩
set_option maxRecDepth 100000 in
set_option maxHeartbeats 1000000 in
theorem fraction_any (y : Nat) (h1 : 2147483648 ≤ y) (h2 : y < 4294967296) (w : World) :
    Calls Try.prog 20 #[.int .u64 (y : Int)] w fun e w' => e = .returned (.int .i64 ((fr 44 y : Nat) : Int)) ∧ w = w' := by
  obtain ⟨F, hF⟩ : ∃ F, fr 44 y = F := ⟨_, rfl⟩
  have hF2 := fr44 y
  rw [hF] at hF2 ⊢
  have HF := Lib.hid hF
  clear hF
  go_enter Try.func20, Try.ntmps20
  go_wp2
  go_step3
  go_wp2
  go_step3
  go_wp2
  go_loop [0, 3, 4] (fun yy ln k => ∃ (j z L : Nat), j ≤ 44 ∧ 2147483648 ≤ z ∧ z < 4294967296 ∧ yy = .int .u64 (z : Int) ∧ ln = .int .i64 (L : Int) ∧ k = .int .i64 ((j : Int) - 1) ∧ Hid (L + fr j z = F))
    (fun _ _ k => (intOf k + 1).toNat)
  case atStart => exact ⟨44, y, 0, by omega, h1, h2, rfl, rfl, rfl, Lib.hid (by rw [HF.out]; omega)⟩
  case round =>
    obtain ⟨j, z, L, hj, hz1, hz2, rfl, rfl, rfl, HL⟩ := hrel
    cases j with
    | zero =>
      have hL : L = F := by have := HL.out; simpa [fr] using this
      subst hL
      clear HL HF
      go_wp2
      go_ret
      exact ⟨rfl, rfl⟩
    | succ i =>
      have hyy := yy_le hz2
      have hs1 := sq_lo hz1
      have hs2 := sq_hi hz2
      have hb := stp_in hz1 hz2
      have hp := pow_le (show i < 44 by omega)
      have hLF : L ≤ F := by have := HL.out; omega
      have HS := sq_int z
      have hk : ((i + 1 : Nat) : Int) - 1 = (i : Int) := by omega
      rw [hk]
      by_cases c1 : sq z = 2147483648
      · have hL : L = F := by
          have := HL.out
          have e1 : stp z = 2147483648 := by unfold stp; rw [if_neg (by omega)]; exact c1
          have e2 : bit z = 0 := if_neg (by omega)
          rw [fr, e1, e2, fr_one] at this
          omega
        rw [c1] at HS
        subst hL
        clear HL HF
        go_wp2
        go_ret
        exact ⟨rfl, rfl⟩
      · have hsq : ∀ s, sq z = s → s ≠ 2147483648 → (L + (if 4294967296 ≤ s then 2 ^ i else 0) + fr i (if 4294967296 ≤ s then s / 2 else s) = F) ∧ 2147483648 ≤ (if 4294967296 ≤ s then s / 2 else s) ∧ (if 4294967296 ≤ s then s / 2 else s) < 4294967296 := by
          intro s e _
          have := HL.out
          unfold stp at hb
          rw [fr] at this
          unfold stp bit at this
          rw [e] at this hb
          refine ⟨?_, hb⟩
          rw [← this]
          split <;> omega
        have hs3 := hsq (sq z) rfl c1
        clear HL HF hk hsq hb
        generalize sq z = s at *
        have hne : ((s : Int) == 2147483648) = false := by simpa using (show (s : Int) ≠ 2147483648 by omega)
        have hz1' : (2147483648 : Int) ≤ (z : Int) := by omega
        have hz2' : (z : Int) < 4294967296 := by omega
        have hyy' : (z : Int) * (z : Int) ≤ 18446744065119617025 := yy_int hz2
        have hs2' : (s : Int) < 8589934592 := by omega
        obtain ⟨hp', hp0⟩ := pow_int (show i < 44 by omega)
        have hL' : (L : Int) < 17592186044416 := by omega
        by_cases c2 : 4294967296 ≤ s
        · simp only [if_pos c2] at hs3
          have HL := Lib.hid hs3
          have c2' : (4294967296 : Int) ≤ (s : Int) := by omega
          clear hs3 c1 hs1 hz1 hz2 hyy hs2 hp hF2 hLF c2 h1 h2
          go_wp2
          go_round
          case rel => exact ⟨i, s / 2, L + 2 ^ i, by omega, HL.out.2.1, HL.out.2.2, rfl, by go_num, by go_num, Lib.hid HL.out.1⟩
          case measure => simp [intOf]
        · simp only [if_neg c2] at hs3
          have HL := Lib.hid hs3
          have c2' : decide ((4294967296 : Int) ≤ (s : Int)) = false := by simpa using (show (s : Int) < 4294967296 by omega)
          clear hs3 c1 hs1 hz1 hz2 hyy hs2 hp hF2 hLF c2 h1 h2
          go_wp2
          go_round
          case rel => exact ⟨i, s, L, by omega, HL.out.2.1, HL.out.2.2, rfl, rfl, by go_num, Lib.hid (by have := HL.out.1; omega)⟩
          case measure => simp [intOf]
set_option maxRecDepth 100000 in
set_option maxHeartbeats 1000000 in
theorem ln_any (u : Int) (w : World) : Calls Try.prog 9 #[.int .i64 u] w fun e w' => e = .returned (.int .i64 (lnI u : Int)) ∧ w = w' := by
  obtain ⟨X, hX, hx1, hx2⟩ : ∃ X : Nat, clampU u + 1 = X ∧ 1 ≤ X ∧ X ≤ 65536 := ⟨_, rfl, by omega, by have := clampU_le u; omega⟩
  have HX : min (max u 0) 65535 + 1 = (X : Int) := by rw [← hX]; unfold clampU; omega
  unfold lnI
  rw [hX]
  clear hX
  have hE := lg_le hx1 hx2
  have hy := y0_in hx1 hx2
  have hl : len64_any X hx1 hx2 w = len64_any X hx1 hx2 w := rfl
  clear hl
  have hc := len64_any X hx1 hx2 w
  unfold lnX
  unfold y0 at hy ⊢
  generalize lg X = E at *
  have HC := Lib.hid hc
  clear hc
  obtain ⟨Y, hY⟩ : ∃ Y, X * 2 ^ (31 - E) = Y := ⟨_, rfl⟩
  rw [hY] at hy ⊢
  have hyn := Lib.hid hy
  have hF2 := fr44 Y
  have hF3 : ((fr 44 Y : Nat) : Int) < 17592186044416 := by omega
  have HW : IntKind.u64.wrap ((X : Int) * 2 ^ (31 - E)) = (Y : Int) := by
    rw [show (X : Int) * 2 ^ (31 - E) = (Y : Int) by rw [← hY]; simp]
    exact IntWalk.u64_in _ (by omega)
  clear hF2 hy hY
  go_enter Try.func9, Try.ntmps9
  go_wp2_with fail
  refine HC.out.mono ?_
  rintro e w1 ⟨rfl, rfl⟩
  go_wp2_with fail
  refine (fraction_any Y hyn.out.1 hyn.out.2 w).mono ?_
  rintro e w1 ⟨rfl, rfl⟩
  go_wp2_with fail
  go_ret
  exact ⟨by rw [Int.natCast_add, Int.natCast_mul]; rfl, rfl⟩
end Go.Proofs.Ytmnfmgdllfhmaaa.Dg

/- The reference's logarithm. -/
import Derived.Test.YtmnfmgdllfhmaaaStB
import Derived.Deep.Cut
import Derived.Deep.DeepCutAuto
namespace Go.Proofs.Ytmnfmgdllfhmaaa.Dg
open Go.RowKit
theorem ret_i {k : IntKind} {a b : Int} (h : a = b) : Ending.returned (.int k a) = .returned (.int k b) := by rw [h]
theorem div_pos {X k : Nat} (h : k < lg X) (hx : 1 ≤ X) : ∃ Q : Nat, (X : Int) / 2 ^ (k + 1) = (Q : Int) ∧ (0 : Int) < (Q : Int) := by
  have h1 := lg_in hx
  have h2 : 2 ^ (k + 1) ≤ X := Nat.le_trans (Nat.pow_le_pow_right (by omega) (by omega)) h1.1
  refine ⟨X / 2 ^ (k + 1), by simp, ?_⟩
  have : 1 ≤ X / 2 ^ (k + 1) := (Nat.le_div_iff_mul_le (Nat.two_pow_pos _)).2 (by omega)
  omega
theorem div_zero {X : Nat} (hx : 1 ≤ X) : (X : Int) / 2 ^ (lg X + 1) = 0 := by
  have h1 := lg_in hx
  have : X / 2 ^ (lg X + 1) = 0 := Nat.div_eq_of_lt h1.2
  have e : ((X / 2 ^ (lg X + 1) : Nat) : Int) = (X : Int) / 2 ^ (lg X + 1) := by simp
  rw [← e, this]
  rfl
set_option maxRecDepth 100000 in
set_option maxHeartbeats 1000000 in
theorem rln_any (u : Int) (w : World) : Calls Try.prog 10 #[.int .i64 u] w fun e w' => e = .returned (.int .i64 (lnI u : Int)) ∧ w = w' := by
  obtain ⟨X, hX, hx1, hx2⟩ : ∃ X : Nat, clampU u + 1 = X ∧ 1 ≤ X ∧ X ≤ 65536 := ⟨_, rfl, by omega, by have := clampU_le u; omega⟩
  have HX : min (max u 0) 65535 + 1 = (X : Int) := by rw [← hX]; unfold clampU; omega
  unfold lnI
  rw [hX]
  clear hX
  have HX2 := Lib.hid HX
  clear HX
  have HX := HX2
  clear HX2
  have hX1 : (1 : Int) ≤ (X : Int) := by omega
  have hX2 : (X : Int) ≤ 65536 := by omega
  go_enter Try.func10, Try.ntmps10
  go_upto_if 9 with fail
  go_cut [0] (fun s wx => s = .int .i64 (max u 0) ∧ w = wx)
  case first =>
    by_cases c : u < 0
    · go_wp2
      go_meet
      exact ⟨congrArg (Value.int IntKind.i64) (by omega), rfl⟩
    · go_wp2
      go_meet
      exact ⟨congrArg (Value.int IntKind.i64) (by omega), rfl⟩
  case rest =>
  obtain ⟨rfl, rfl⟩ := hcut
  go_upto_if 11 with fail
  go_cut [0] (fun s wx => s = .int .i64 ((X : Int) - 1) ∧ w = wx)
  case first =>
    by_cases c : 65535 < max u 0
    · go_wp2
      go_meet
      exact ⟨congrArg (Value.int IntKind.i64) (by have := HX.out; omega), rfl⟩
    · go_wp2
      go_meet
      exact ⟨congrArg (Value.int IntKind.i64) (by have := HX.out; omega), rfl⟩
  case rest =>
  obtain ⟨rfl, rfl⟩ := hcut
  go_wp2
  go_loop [4] (fun ee => ∃ k : Nat, k ≤ lg X ∧ ee = .int .i64 (k : Int)) (fun ee => lg X - (intOf ee).toNat)
  case atStart => exact ⟨0, Nat.zero_le _, rfl⟩
  case round =>
    obtain ⟨k, hk, rfl⟩ := hrel
    have h16 := lg_le hx1 hx2
    clear HX
    by_cases hlt : k < lg X
    · obtain ⟨Q, hQ, hQ0⟩ := div_pos hlt hx1
      go_wp2
      go_round
      case rel => exact ⟨k + 1, by omega, by go_num⟩
      case measure => simp [intOf]; omega
    · have hQ := div_zero hx1
      rw [show lg X = k by omega] at hQ
      have hy := y0_in hx1 hx2
      obtain ⟨G, hG⟩ : ∃ G, lnX X = G := ⟨_, rfl⟩
      have hG2 := hG
      unfold lnX at hG2
      unfold y0 at hy hG2
      rw [show lg X = k by omega] at hy h16 hG2
      clear hlt hk
      obtain ⟨Y, hY⟩ : ∃ Y, X * 2 ^ (31 - k) = Y := ⟨_, rfl⟩
      rw [hY] at hy hG2
      have HW : IntKind.u64.wrap ((X : Int) * 2 ^ (31 - k)) = (Y : Int) := by
        rw [show (X : Int) * 2 ^ (31 - k) = (Y : Int) by rw [← hY]; simp]
        exact IntWalk.u64_in _ (by omega)
      have hG3 : (G : Int) < 1125899906842624 := by have := fr44 Y; omega
      have HY := Lib.hid (And.intro hy (And.intro hG hG2))
      clear hY hy hG hG2
      go_wp2
      go_loop [5, 6, 7] (fun yy ln kk => ∃ (j z L : Nat), j ≤ 44 ∧ Hid (2147483648 ≤ z ∧ z < 4294967296 ∧ L + fr j z = G) ∧ yy = .int .u64 (z : Int) ∧ ln = .int .i64 (L : Int) ∧ kk = .int .i64 ((j : Int) - 1))
        (fun _ _ kk => (intOf kk + 1).toNat)
      case atStart => exact ⟨44, Y, k * 17592186044416, by omega, Lib.hid ⟨HY.out.1.1, HY.out.1.2, HY.out.2.2⟩, rfl, by go_num, rfl⟩
      case round =>
        obtain ⟨j, z, L, hj, HL, rfl, rfl, rfl⟩ := hrel
        clear HW hQ
        cases j with
        | zero =>
          have hL : L = G := by have := HL.out; simpa [fr] using this.2.2
          subst hL
          have HZ := Lib.hid HY.out.2.1
          clear HL HY
          go_wp2
          go_ret
          exact ⟨ret_i (by rw [HZ.out]), rfl⟩
        | succ i =>
          have hs3 : ∀ s, sq z = s → (L + (if 4294967296 ≤ s then 2 ^ i else 0) + fr i (if 4294967296 ≤ s then s / 2 else s) = G) ∧ 2147483648 ≤ (if 4294967296 ≤ s then s / 2 else s) ∧ (if 4294967296 ≤ s then s / 2 else s) < 4294967296 := by
            intro s e
            have hb := stp_in HL.out.1 HL.out.2.1
            have := HL.out.2.2
            unfold stp at hb
            rw [fr] at this
            unfold stp bit at this
            rw [e] at this hb
            refine ⟨?_, hb⟩
            rw [← this]
            split <;> omega
          have hs3 := hs3 (sq z) rfl
          have hk : ((i + 1 : Nat) : Int) - 1 = (i : Int) := by omega
          rw [hk]
          have HS := sq_int z
          have hz1' : (2147483648 : Int) ≤ (z : Int) := by have := HL.out; omega
          have hz2' : (z : Int) < 4294967296 := by have := HL.out; omega
          have hyy' : (z : Int) * (z : Int) ≤ 18446744065119617025 := yy_int HL.out.2.1
          have hs2' : (sq z : Int) < 8589934592 := by have := sq_hi HL.out.2.1; omega
          obtain ⟨hp', hp0⟩ := pow_int (show i < 44 by omega)
          have hL' : (L : Int) < 1125899906842624 := by have := HL.out; omega
          clear hk HL
          generalize sq z = s at *
          by_cases c2 : 4294967296 ≤ s
          · simp only [if_pos c2] at hs3
            have HL := Lib.hid hs3
            have c2' : (4294967296 : Int) ≤ (s : Int) := by omega
            clear hs3 c2
            go_wp2
            go_round
            case rel => exact ⟨i, s / 2, L + 2 ^ i, by omega, Lib.hid ⟨HL.out.2.1, HL.out.2.2, HL.out.1⟩, rfl, by go_num, by go_num⟩
            case measure => simp [intOf]
          · simp only [if_neg c2] at hs3
            have HL := Lib.hid hs3
            have c2' : decide ((4294967296 : Int) ≤ (s : Int)) = false := by simpa using (show (s : Int) < 4294967296 by omega)
            clear hs3 c2
            go_wp2
            go_round
            case rel => exact ⟨i, s, L, by omega, Lib.hid ⟨HL.out.2.1, HL.out.2.2, by have := HL.out.1; omega⟩, rfl, rfl, by go_num⟩
            case measure => simp [intOf]
end Go.Proofs.Ytmnfmgdllfhmaaa.Dg

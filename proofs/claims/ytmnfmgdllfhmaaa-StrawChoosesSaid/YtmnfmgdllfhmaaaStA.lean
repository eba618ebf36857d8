/- The logarithm of P7.1, by numbers: its digits, and that it rises. -/
import Derived.WalkKit
namespace Go.Proofs.Ytmnfmgdllfhmaaa.Dg
/-- Squared, in 2^31ths. -/
def sq (y : Nat) : Nat := y * y / 2147483648
def stp (y : Nat) : Nat := if 4294967296 ≤ sq y then sq y / 2 else sq y
def bit (y : Nat) : Nat := if 4294967296 ≤ sq y then 1 else 0
/-- The digits of k places that a number in 2^31ths brings out. -/
def fr : Nat → Nat → Nat
  | 0, _ => 0
  | k + 1, y => bit y * 2 ^ k + fr k (stp y)
theorem sq_lo {y : Nat} (h : 2147483648 ≤ y) : 2147483648 ≤ sq y := by
  unfold sq
  rw [Nat.le_div_iff_mul_le (by omega)]
  exact Nat.mul_le_mul h h
theorem sq_hi {y : Nat} (h : y < 4294967296) : sq y < 8589934592 := by
  unfold sq
  rw [Nat.div_lt_iff_lt_mul (by omega)]
  have : y * y ≤ 4294967295 * 4294967295 := Nat.mul_le_mul (by omega) (by omega)
  omega
theorem stp_in {y : Nat} (h : 2147483648 ≤ y) (h2 : y < 4294967296) : 2147483648 ≤ stp y ∧ stp y < 4294967296 := by
  have := sq_lo h
  have := sq_hi h2
  unfold stp
  split <;> omega
theorem bit_le (y : Nat) : bit y ≤ 1 := by unfold bit; split <;> omega
theorem fr_lt (k : Nat) : ∀ y, fr k y < 2 ^ k := by
  induction k with
  | zero => intro y; simp [fr]
  | succ k ih =>
    intro y
    have h1 := ih (stp y)
    have h2 := bit_le y
    have h3 : bit y * 2 ^ k ≤ 1 * 2 ^ k := Nat.mul_le_mul_right _ h2
    unfold fr
    rw [Nat.pow_succ]
    omega
theorem fr_one (k : Nat) : fr k 2147483648 = 0 := by
  induction k with
  | zero => rfl
  | succ k ih =>
    have e1 : bit 2147483648 = 0 := by decide
    have e2 : stp 2147483648 = 2147483648 := by decide
    unfold fr
    rw [e1, e2, ih]
    simp
theorem sq_mono {a b : Nat} (h : a ≤ b) : sq a ≤ sq b := Nat.div_le_div_right (Nat.mul_le_mul h h)
/-- What is greater by d has digits that are not smaller; and if they are the same, the distance has grown. -/
theorem fr_mono (k : Nat) : ∀ a b, a ≤ b → 2147483648 ≤ a → b < 4294967296 → fr k a ≤ fr k b := by
  induction k with
  | zero => intro a b _ _ _; exact Nat.le_refl _
  | succ k ih =>
    intro a b h h1 h2
    have hs := sq_mono h
    have ha := stp_in h1 (by omega)
    have hb := stp_in (y := b) (by omega) h2
    unfold fr
    by_cases c1 : 4294967296 ≤ sq a
    · have c2 : 4294967296 ≤ sq b := by omega
      have e1 : bit a = 1 := if_pos c1
      have e2 : bit b = 1 := if_pos c2
      have e3 : stp a = sq a / 2 := if_pos c1
      have e4 : stp b = sq b / 2 := if_pos c2
      have := ih (stp a) (stp b) (by omega) ha.1 hb.2
      rw [e1, e2]
      omega
    · have e1 : bit a = 0 := if_neg c1
      have e3 : stp a = sq a := if_neg c1
      by_cases c2 : 4294967296 ≤ sq b
      · have e2 : bit b = 1 := if_pos c2
        have := fr_lt k (stp a)
        rw [e1, e2]
        omega
      · have e2 : bit b = 0 := if_neg c2
        have e4 : stp b = sq b := if_neg c2
        have := ih (stp a) (stp b) (by omega) ha.1 hb.2
        rw [e1, e2]
        omega
/-- The distance of two, behind a step in which they have the same digit. -/
theorem far (a d : Nat) (h1 : 2147483648 ≤ a) (h2 : a + d < 4294967296) (hd : 64 ≤ d) (he : bit a = bit (a + d)) : stp a + (d + 3 * d / 8) ≤ stp (a + d) := by
  have e0 : (a + d) * (a + d) = a * a + (2 * a + d) * d := by
    rw [Nat.add_mul, Nat.mul_add, Nat.mul_add, Nat.add_mul, Nat.mul_comm d a, Nat.mul_assoc 2 a d]; omega
  have hm : (2 * 2147483648) * d ≤ (2 * a + d) * d := Nat.mul_le_mul_right _ (by omega)
  by_cases c1 : 4294967296 ≤ sq a
  · have c2 : 4294967296 ≤ sq (a + d) := Nat.le_trans c1 (sq_mono (by omega))
    have e3 : stp a = sq a / 2 := if_pos c1
    have e4 : stp (a + d) = sq (a + d) / 2 := if_pos c2
    have h3 : 4294967296 * 2147483648 ≤ a * a := by
      unfold sq at c1
      have := (Nat.le_div_iff_mul_le (by omega)).1 c1
      omega
    have h4 : 3037000498 < a := by
      apply Nat.lt_of_not_le
      intro hle
      have := Nat.mul_le_mul hle hle
      omega
    have hm2 : (2 * 3037000498) * d ≤ (2 * a + d) * d := Nat.mul_le_mul_right _ (by omega)
    rw [e3, e4]
    unfold sq
    rw [e0]
    generalize a * a = A at *
    generalize (2 * a + d) * d = D at *
    omega
  · have c2 : ¬ 4294967296 ≤ sq (a + d) := by
      intro c2
      have e1 : bit a = 0 := if_neg c1
      have e2 : bit (a + d) = 1 := if_pos c2
      omega
    have e3 : stp a = sq a := if_neg c1
    have e4 : stp (a + d) = sq (a + d) := if_neg c2
    rw [e3, e4]
    unfold sq
    rw [e0]
    generalize a * a = A at *
    generalize (2 * a + d) * d = D at *
    omega
/-- How far they are apart behind k steps. -/
def gw : Nat → Nat → Nat
  | 0, d => d
  | k + 1, d => gw k (d + 3 * d / 8)
theorem gw_mono (k : Nat) : ∀ a b, a ≤ b → gw k a ≤ gw k b := by
  induction k with
  | zero => intro a b h; exact h
  | succ k ih => intro a b h; exact ih _ _ (by omega)
theorem fr_strict (k : Nat) : ∀ a b d, 2147483648 ≤ a → b < 4294967296 → a + d ≤ b → 64 ≤ d → 4294967296 ≤ gw k d + 2147483648 → fr k a < fr k b := by
  induction k with
  | zero => intro a b d h1 h2 h3 _ h5; simp only [gw] at h5; omega
  | succ k ih =>
    intro a b d h1 h2 h3 h4 h5
    obtain ⟨d2, rfl⟩ : ∃ d2, b = a + d2 := ⟨b - a, by omega⟩
    have hs := sq_mono (show a ≤ a + d2 by omega)
    have ha := stp_in h1 (by omega)
    have hb := stp_in (y := a + d2) (by omega) h2
    by_cases he : bit a = bit (a + d2)
    · have hf := far a d2 h1 h2 (by omega) he
      have := ih (stp a) (stp (a + d2)) (d2 + 3 * d2 / 8) ha.1 hb.2 hf (by omega) (by
        have : gw (k + 1) d ≤ gw (k + 1) d2 := gw_mono _ _ _ (by omega)
        simp only [gw] at this h5
        omega)
      unfold fr
      rw [← he]
      omega
    · by_cases c1 : 4294967296 ≤ sq a
      · exact absurd (show bit a = bit (a + d2) by rw [show bit a = 1 from if_pos c1, show bit (a + d2) = 1 from if_pos (by omega)]) he
      · have e1 : bit a = 0 := if_neg c1
        by_cases c2 : 4294967296 ≤ sq (a + d2)
        · have e2 : bit (a + d2) = 1 := if_pos c2
          have := fr_lt k (stp a)
          unfold fr
          rw [e1, e2]
          omega
        · exact absurd (show bit a = bit (a + d2) by rw [e1, show bit (a + d2) = 0 from if_neg c2]) he
/-- The greatest power of two in a number of 1 to 65536. -/
def lg (x : Nat) : Nat := Nat.log2 x
theorem lg_in {x : Nat} (h : 1 ≤ x) : 2 ^ lg x ≤ x ∧ x < 2 ^ (lg x + 1) := ⟨Nat.log2_self_le (by omega), Nat.lt_log2_self⟩
theorem lg_of {x e : Nat} (h1 : 2 ^ e ≤ x) (h2 : x < 2 ^ (e + 1)) : lg x = e := by
  have hx : 1 ≤ x := Nat.le_trans (Nat.one_le_two_pow) h1
  have hl := lg_in hx
  have a1 : e < lg x + 1 := (Nat.pow_lt_pow_iff_right (a := 2) (by omega)).1 (by omega)
  have a2 : lg x < e + 1 := (Nat.pow_lt_pow_iff_right (a := 2) (by omega)).1 (by omega)
  omega
theorem lg_le {x : Nat} (h : 1 ≤ x) (hx : x ≤ 65536) : lg x ≤ 16 := by
  have hl := lg_in h
  have : 2 ^ lg x < 2 ^ 17 := by omega
  have := (Nat.pow_lt_pow_iff_right (a := 2) (by omega)).1 this
  omega
/-- The number that Ln takes the digits of. -/
def y0 (x : Nat) : Nat := x * 2 ^ (31 - lg x)
theorem y0_in {x : Nat} (h : 1 ≤ x) (hx : x ≤ 65536) : 2147483648 ≤ y0 x ∧ y0 x < 4294967296 := by
  have hl := lg_in h
  have h16 := lg_le h hx
  unfold y0
  have e1 : 2 ^ lg x * 2 ^ (31 - lg x) = 2147483648 := by rw [← Nat.pow_add, show lg x + (31 - lg x) = 31 by omega]
  have e2 : 2 ^ (lg x + 1) * 2 ^ (31 - lg x) = 4294967296 := by rw [← Nat.pow_add, show lg x + 1 + (31 - lg x) = 32 by omega]
  have m1 := Nat.mul_le_mul_right (2 ^ (31 - lg x)) hl.1
  have m2 := Nat.mul_lt_mul_of_pos_right hl.2 (Nat.two_pow_pos (31 - lg x))
  omega
def lnX (x : Nat) : Nat := lg x * 17592186044416 + fr 44 (y0 x)
/-- The logarithm of u + 1, of any u. -/
def clampU (u : Int) : Nat := (min (max u 0) 65535).toNat
def lnI (u : Int) : Nat := lnX (clampU u + 1)
theorem clampU_le (u : Int) : clampU u ≤ 65535 := by unfold clampU; omega
theorem fr44 (y : Nat) : fr 44 y < 17592186044416 := fr_lt 44 y
theorem lnX_rises {x : Nat} (h : 1 ≤ x) (hx : x < 65536) : lnX x < lnX (x + 1) := by
  have hl := lg_in h
  have h16 : lg x ≤ 15 := by
    have : 2 ^ lg x < 2 ^ 16 := by omega
    have := (Nat.pow_lt_pow_iff_right (a := 2) (by omega)).1 this
    omega
  by_cases c : x + 1 < 2 ^ (lg x + 1)
  · have e : lg (x + 1) = lg x := lg_of (by omega) c
    have i1 := y0_in h (by omega)
    have i2 := y0_in (x := x + 1) (by omega) (by omega)
    have hy : y0 (x + 1) = y0 x + 2 ^ (31 - lg x) := by unfold y0; rw [e, Nat.add_mul, Nat.one_mul]
    have hp : 2 ^ 16 ≤ 2 ^ (31 - lg x) := Nat.pow_le_pow_right (by omega) (by omega)
    have := fr_strict 44 (y0 x) (y0 (x + 1)) 65536 i1.1 i2.2 (by omega) (by omega) (by decide +kernel)
    unfold lnX
    rw [e]
    omega
  · have e : lg (x + 1) = lg x + 1 := lg_of (by omega) (by rw [Nat.pow_succ 2 (lg x + 1)]; omega)
    have := fr44 (y0 x)
    unfold lnX
    rw [e]
    omega
theorem lnX_mono {a b : Nat} (h : 1 ≤ a) (hab : a ≤ b) (hb : b ≤ 65536) : lnX a ≤ lnX b := by
  obtain ⟨d, rfl⟩ : ∃ d, b = a + d := ⟨b - a, by omega⟩
  induction d with
  | zero => exact Nat.le_refl _
  | succ d ih =>
    have h1 := ih (by omega) (by omega)
    have h2 := lnX_rises (x := a + d) (by omega) (by omega)
    show lnX a ≤ lnX (a + d + 1)
    omega
theorem lnX_1 : lnX 1 = 0 := by decide +kernel
theorem lnX_all : lnX 65536 = 281474976710656 := by decide +kernel
theorem lnX_le {x : Nat} (h : 1 ≤ x) (hx : x ≤ 65536) : lnX x ≤ 281474976710656 := by
  have := lnX_mono h hx (Nat.le_refl _)
  rw [lnX_all] at this
  exact this
theorem lg_dbl {x : Nat} (h : 1 ≤ x) : lg (2 * x) = lg x + 1 := by
  have hl := lg_in h
  exact lg_of (by rw [Nat.pow_succ]; omega) (by rw [Nat.pow_succ]; omega)
theorem lnX_dbl {x : Nat} (h : 1 ≤ x) (hx : x ≤ 32768) : lnX (2 * x) = lnX x + 17592186044416 := by
  have h16 : lg x ≤ 15 := by
    have hl := lg_in h
    have : 2 ^ lg x < 2 ^ 16 := by omega
    have := (Nat.pow_lt_pow_iff_right (a := 2) (by omega)).1 this
    omega
  have e : y0 (2 * x) = y0 x := by
    unfold y0
    rw [lg_dbl h, Nat.mul_comm 2 x, Nat.mul_assoc, show 2 * 2 ^ (31 - (lg x + 1)) = 2 ^ (31 - lg x) by rw [← Nat.pow_succ', show (31 - (lg x + 1)).succ = 31 - lg x by omega]]
  unfold lnX
  rw [lg_dbl h, e]
  omega
end Go.Proofs.Ytmnfmgdllfhmaaa.Dg

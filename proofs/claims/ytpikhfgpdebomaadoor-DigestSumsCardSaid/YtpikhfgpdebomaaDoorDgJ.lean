/- CRC-32C: the register by a table and the register bit by bit are one; a changed byte is told. Numbers alone, no program. -/
import Derived.Test.YtpikhfgpdebomaaDoorDgI
namespace Go.Proofs.YtpikhfgpdebomaaDoor.Dg
theorem shr1_nat (a : UInt32) : (a >>> 1).toNat = a.toNat / 2 := by have := shr_nat a 1 (by omega); rw [show (1 : UInt32) = UInt32.ofNat 1 from rfl, this]
theorem shr8_nat (a : UInt32) : (a >>> 8).toNat = a.toNat / 256 := by have := shr_nat a 8 (by omega); rw [show (8 : UInt32) = UInt32.ofNat 8 from rfl, this]
theorem and1_nat (a : UInt32) : (a &&& 1).toNat = a.toNat % 2 := by rw [UInt32.toNat_and]; exact nat_mask1 _
theorem odd_iff (a : UInt32) : a &&& 1 = 1 ↔ a.toNat % 2 = 1 := by
  rw [← and1_nat]; constructor
  · intro h; rw [h]; rfl
  · intro h; exact UInt32.toNat_inj.1 h
theorem shr1_xor (a b : UInt32) : (a ^^^ b) >>> 1 = (a >>> 1) ^^^ (b >>> 1) := by
  apply UInt32.toNat_inj.1
  rw [shr1_nat, UInt32.toNat_xor, UInt32.toNat_xor, shr1_nat, shr1_nat]
  exact Nat.xor_div_two
theorem odd_xor (a b : UInt32) : (a ^^^ b).toNat % 2 = (a.toNat + b.toNat) % 2 := by
  have h : (a.toNat ^^^ b.toNat) % 2 ^ 1 = a.toNat % 2 ^ 1 ^^^ b.toNat % 2 ^ 1 := Nat.xor_mod_two_pow
  rw [UInt32.toNat_xor, show (2 : Nat) = 2 ^ 1 from rfl, h]
  have ha : a.toNat % 2 ^ 1 = 0 ∨ a.toNat % 2 ^ 1 = 1 := by omega
  have hb : b.toNat % 2 ^ 1 = 0 ∨ b.toNat % 2 ^ 1 = 1 := by omega
  rcases ha with ha | ha <;> rcases hb with hb | hb <;> rw [ha, hb, Nat.add_mod, ha, hb] <;> rfl
theorem xor_cancel (a b c : UInt32) (h : a ^^^ c = b ^^^ c) : a = b := by
  have : (a ^^^ c) ^^^ c = (b ^^^ c) ^^^ c := by rw [h]
  rwa [UInt32.xor_assoc, UInt32.xor_assoc, UInt32.xor_self, UInt32.xor_zero, UInt32.xor_zero] at this
theorem s1_xor (a b : UInt32) : s1 (a ^^^ b) = s1 a ^^^ s1 b := by
  unfold s1
  simp only [odd_iff, odd_xor, shr1_xor]
  by_cases ha : a.toNat % 2 = 1 <;> by_cases hb : b.toNat % 2 = 1
  · rw [if_neg (by omega), if_pos ha, if_pos hb, UInt32.xor_assoc, UInt32.xor_comm (2197175160 : UInt32), UInt32.xor_assoc, UInt32.xor_self, UInt32.xor_zero]
  · rw [if_pos (by omega), if_pos ha, if_neg hb, UInt32.xor_assoc, UInt32.xor_assoc, UInt32.xor_comm (b >>> 1)]
  · rw [if_pos (by omega), if_neg ha, if_pos hb, UInt32.xor_assoc]
  · rw [if_neg (by omega), if_neg ha, if_neg hb]
theorem s1n_xor (a b : UInt32) : ∀ k, s1n (a ^^^ b) k = s1n a k ^^^ s1n b k
  | 0 => rfl
  | k + 1 => by rw [s1n, s1n, s1n, s1n_xor a b k, s1_xor]
theorem s1_even (a : UInt32) (h : a.toNat % 2 = 0) : (s1 a).toNat = a.toNat / 2 := by
  unfold s1; rw [if_neg (by rw [odd_iff]; omega), shr1_nat]
theorem s1n_hi (a : UInt32) (h : a.toNat % 256 = 0) : (s1n a 8).toNat = a.toNat / 256 := by
  have h1 : (s1n a 1).toNat = a.toNat / 2 := s1_even a (by omega)
  have h2 : (s1n a 2).toNat = a.toNat / 4 := by show (s1 (s1n a 1)).toNat = _; rw [s1_even _ (by omega), h1]; omega
  have h3 : (s1n a 3).toNat = a.toNat / 8 := by show (s1 (s1n a 2)).toNat = _; rw [s1_even _ (by omega), h2]; omega
  have h4 : (s1n a 4).toNat = a.toNat / 16 := by show (s1 (s1n a 3)).toNat = _; rw [s1_even _ (by omega), h3]; omega
  have h5 : (s1n a 5).toNat = a.toNat / 32 := by show (s1 (s1n a 4)).toNat = _; rw [s1_even _ (by omega), h4]; omega
  have h6 : (s1n a 6).toNat = a.toNat / 64 := by show (s1 (s1n a 5)).toNat = _; rw [s1_even _ (by omega), h5]; omega
  have h7 : (s1n a 7).toNat = a.toNat / 128 := by show (s1 (s1n a 6)).toNat = _; rw [s1_even _ (by omega), h6]; omega
  show (s1 (s1n a 7)).toNat = _; rw [s1_even _ (by omega), h7]; omega
/-- A number's low byte and the rest. -/
theorem split256 (r : UInt32) (x : UInt8) : r ^^^ x.toUInt32 = UInt32.ofNat (r.toNat / 256 * 256) ^^^ UInt32.ofNat (r.toUInt8 ^^^ x).toNat := by
  have hr := r.toNat_lt
  have hx := x.toNat_lt
  have hl := (r.toUInt8 ^^^ x).toNat_lt
  apply UInt32.toNat_inj.1
  rw [UInt32.toNat_xor, UInt32.toNat_xor, UInt8.toNat_toUInt32, UInt32.toNat_ofNat', UInt32.toNat_ofNat', Nat.mod_eq_of_lt (by omega : r.toNat / 256 * 256 < 2 ^ 32), Nat.mod_eq_of_lt (by omega : (r.toUInt8 ^^^ x).toNat < 2 ^ 32)]
  have e1 : (r.toNat ^^^ x.toNat) / 2 ^ 8 = r.toNat / 2 ^ 8 ^^^ x.toNat / 2 ^ 8 := Nat.xor_div_two_pow
  have e2 : (r.toNat ^^^ x.toNat) % 2 ^ 8 = (r.toNat % 2 ^ 8) ^^^ (x.toNat % 2 ^ 8) := Nat.xor_mod_two_pow
  have e3 : (r.toNat / 256 * 256 ^^^ (r.toUInt8 ^^^ x).toNat) / 2 ^ 8 = (r.toNat / 256 * 256) / 2 ^ 8 ^^^ (r.toUInt8 ^^^ x).toNat / 2 ^ 8 := Nat.xor_div_two_pow
  have e4 : (r.toNat / 256 * 256 ^^^ (r.toUInt8 ^^^ x).toNat) % 2 ^ 8 = ((r.toNat / 256 * 256) % 2 ^ 8) ^^^ ((r.toUInt8 ^^^ x).toNat % 2 ^ 8) := Nat.xor_mod_two_pow
  have e5 : (r.toUInt8 ^^^ x).toNat = r.toNat % 2 ^ 8 ^^^ x.toNat := by rw [UInt8.toNat_xor, UInt32.toNat_toUInt8]
  have z1 : x.toNat / 2 ^ 8 = 0 := by omega
  have z2 : (r.toUInt8 ^^^ x).toNat / 2 ^ 8 = 0 := by omega
  have z3 : (r.toNat / 256 * 256) % 2 ^ 8 = 0 := by omega
  have z4 : x.toNat % 2 ^ 8 = x.toNat := by omega
  have z5 : (r.toUInt8 ^^^ x).toNat % 2 ^ 8 = (r.toUInt8 ^^^ x).toNat := by omega
  have z6 : r.toNat / 256 * 256 / 2 ^ 8 = r.toNat / 2 ^ 8 := by omega
  rw [z1, Nat.xor_zero] at e1
  rw [z2, z6, Nat.xor_zero] at e3
  rw [z3, z5, Nat.zero_xor] at e4
  rw [z4] at e2
  omega
theorem s8_split (r : UInt32) (x : UInt8) : s8 (r ^^^ x.toUInt32) = (r >>> 8) ^^^ crcTab (r.toUInt8 ^^^ x).toNat := by
  have hr := r.toNat_lt
  rw [split256]
  unfold s8 crcTab s8
  rw [s1n_xor]
  have : s1n (UInt32.ofNat (r.toNat / 256 * 256)) 8 = r >>> 8 := by
    apply UInt32.toNat_inj.1
    have hn : (UInt32.ofNat (r.toNat / 256 * 256)).toNat = r.toNat / 256 * 256 := by rw [UInt32.toNat_ofNat', Nat.mod_eq_of_lt (by omega)]
    rw [s1n_hi _ (by rw [hn]; omega), hn, shr8_nat]; omega
  rw [this]
theorem half (n : Nat) (hn : n < 4294967296) : UInt32.ofNat n >>> 1 = UInt32.ofNat (n / 2) := by
  apply UInt32.toNat_inj.1
  rw [shr1_nat, UInt32.toNat_ofNat', UInt32.toNat_ofNat', Nat.mod_eq_of_lt hn, Nat.mod_eq_of_lt (by omega)]
theorem sr8_up (x : UInt8) (k : Nat) (hk : k < 8) : (sr8 x k).toUInt32 = UInt32.ofNat (x.toNat / 2 ^ k) := by
  have hx := x.toNat_lt
  have : x.toNat / 2 ^ k ≤ x.toNat := Nat.div_le_self _ _
  apply UInt32.toNat_inj.1
  rw [UInt8.toNat_toUInt32, UInt32.toNat_ofNat', Nat.mod_eq_of_lt (by omega)]
  exact shr_nat8 x k hk
theorem rbits_s1n (c : UInt32) (x : UInt8) : ∀ k, k ≤ 8 → rbits c x k ^^^ UInt32.ofNat (x.toNat / 2 ^ k) = s1n (c ^^^ x.toUInt32) k
  | 0, _ => by
    show c ^^^ UInt32.ofNat (x.toNat / 1) = c ^^^ x.toUInt32
    rw [Nat.div_one]
    have hx := x.toNat_lt
    rw [show UInt32.ofNat x.toNat = x.toUInt32 from UInt32.toNat_inj.1 (by rw [UInt32.toNat_ofNat', UInt8.toNat_toUInt32, Nat.mod_eq_of_lt (by omega)])]
  | k + 1, hk => by
    have ih := rbits_s1n c x k (by omega)
    have hx := x.toNat_lt
    have hle : x.toNat / 2 ^ k ≤ x.toNat := Nat.div_le_self _ _
    rw [s1n, ← ih]
    unfold s1
    rw [shr1_xor, half _ (by omega)]
    have e : x.toNat / 2 ^ k / 2 = x.toNat / 2 ^ (k + 1) := by rw [Nat.div_div_eq_div_mul, Nat.pow_succ]
    rw [e]
    show rbit (rbits c x k) x k ^^^ _ = _
    unfold rbit
    rw [sr8_up x k (by omega)]
    by_cases h : (rbits c x k ^^^ UInt32.ofNat (x.toNat / 2 ^ k)) &&& 1 = 1
    · rw [if_pos h, if_pos h, UInt32.xor_assoc, UInt32.xor_assoc, UInt32.xor_comm (2197175160 : UInt32)]
    · rw [if_neg h, if_neg h]
theorem rbits_8 (c : UInt32) (x : UInt8) : rbits c x 8 = s8 (c ^^^ x.toUInt32) := by
  have h := rbits_s1n c x 8 (by omega)
  have hx := x.toNat_lt
  rw [show x.toNat / 2 ^ 8 = 0 by omega] at h
  rw [← show rbits c x 8 ^^^ UInt32.ofNat 0 = rbits c x 8 from UInt32.xor_zero]
  exact h
theorem crcT_r : ∀ (l : List UInt8) (r : UInt32), crcT crcTab r l = rcrcT r l
  | [], _ => rfl
  | x :: xs, r => by rw [crcT, rcrcT, rbits_8, s8_split, crcT_r xs]
/-- BOTH SIDES' CRC IS ONE. -/
theorem crcL_r (l : List UInt8) : crcL l = rcrcL l := by
  unfold crcL rcrcL; rw [crcT_r, ← not_xor, UInt32.xor_comm]

/-! A changed byte is told. -/
theorem top_bit (a : UInt32) : (s1 a).toNat / 2147483648 = a.toNat % 2 := by
  have ha := a.toNat_lt
  unfold s1
  by_cases h : a.toNat % 2 = 1
  · rw [if_pos ((odd_iff a).2 h), UInt32.toNat_xor, shr1_nat]
    have e : (a.toNat / 2 ^^^ 2197175160) / 2 ^ 31 = a.toNat / 2 / 2 ^ 31 ^^^ 2197175160 / 2 ^ 31 := Nat.xor_div_two_pow
    have z : a.toNat / 2 / 2 ^ 31 = 0 := by omega
    rw [z] at e
    rw [h]
    exact e
  · rw [if_neg (by rw [odd_iff]; exact h), shr1_nat]; omega
theorem s1_inj {a b : UInt32} (h : s1 a = s1 b) : a = b := by
  have ha := a.toNat_lt
  have hb := b.toNat_lt
  have e : a.toNat % 2 = b.toNat % 2 := by rw [← top_bit, ← top_bit, h]
  have e2 : a >>> 1 = b >>> 1 := by
    unfold s1 at h
    by_cases h1 : a.toNat % 2 = 1
    · rw [if_pos ((odd_iff a).2 h1), if_pos ((odd_iff b).2 (by omega))] at h
      exact xor_cancel _ _ _ h
    · rw [if_neg (by rw [odd_iff]; omega), if_neg (by rw [odd_iff]; omega)] at h
      exact h
  apply UInt32.toNat_inj.1
  have e3 : a.toNat / 2 = b.toNat / 2 := by rw [← shr1_nat, ← shr1_nat, e2]
  omega
theorem s1n_inj {a b : UInt32} : ∀ k, s1n a k = s1n b k → a = b
  | 0, h => h
  | k + 1, h => s1n_inj k (s1_inj h)
theorem rcrcT_inj : ∀ (l : List UInt8) {r q : UInt32}, rcrcT r l = rcrcT q l → r = q
  | [], _, _, h => h
  | x :: xs, r, q, h => by
    have := rcrcT_inj xs h
    rw [rbits_8, rbits_8] at this
    exact xor_cancel _ _ _ (s1n_inj 8 this)
theorem up_inj {x y : UInt8} (h : x.toUInt32 = y.toUInt32) : x = y := by
  apply UInt8.toNat_inj.1
  rw [← UInt8.toNat_toUInt32, ← UInt8.toNat_toUInt32 y, h]
theorem rcrcT_set : ∀ (l : List UInt8) (k : Nat) (hk : k < l.length) (y : UInt8) (r : UInt32), rcrcT r l = rcrcT r (l.set k y) → l[k] = y
  | x :: xs, 0, _, y, r, h => by
    have h1 : rcrcT (rbits r x 8) xs = rcrcT (rbits r y 8) xs := h
    have h2 := rcrcT_inj xs h1
    rw [rbits_8, rbits_8] at h2
    have h3 := s1n_inj 8 h2
    rw [UInt32.xor_comm r, UInt32.xor_comm r] at h3
    exact up_inj (xor_cancel _ _ _ h3)
  | x :: xs, k + 1, hk, y, r, h => rcrcT_set xs k (by simpa using hk) y (rbits r x 8) h
/-- A BYTE THAT IS ANOTHER ONE IS TOLD. -/
theorem crcL_set (l : List UInt8) (k : Nat) (hk : k < l.length) (y : UInt8) : crcL l = crcL (l.set k y) ↔ l[k] = y := by
  constructor
  · intro h
    rw [crcL_r, crcL_r] at h
    exact rcrcT_set l k hk y _ (xor_cancel _ _ _ h)
  · intro h
    subst h
    rw [List.set_getElem_self]
end Go.Proofs.YtpikhfgpdebomaaDoor.Dg

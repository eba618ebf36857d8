/- Texts joined: WrJ. -/
import Derived.Test.YtolchbjcdlncgaaGreatMgDgJ
import Derived.Test.YtolchbjcdlncgaaGreatMgWrC
/- wire: what Unframe makes of a frame, whatever stands behind; of one whose content is another; of a beginning. -/
namespace Go.Proofs.YtolchbjcdlncgaaGreat.Dg
/-- The head of a frame. -/
def hdr (n cr : Nat) : List UInt8 := lowL n 4 ++ lowL cr 4
theorem hdr_length (n cr : Nat) : (hdr n cr).length = 8 := by simp [hdr, lowL_length]
theorem hdr_take (n cr : Nat) (m : List UInt8) : (hdr n cr ++ m).take 4 = lowL n 4 := by
  rw [hdr, List.append_assoc, List.take_append_of_le_length (by rw [lowL_length]; omega)]
  exact List.take_of_length_le (by rw [lowL_length]; omega)
theorem hdr_mid (n cr : Nat) (m : List UInt8) : ((hdr n cr ++ m).drop 4).take 4 = lowL cr 4 := by
  have e : (hdr n cr ++ m).drop 4 = lowL cr 4 ++ m := by
    rw [hdr, List.append_assoc, List.drop_append_of_le_length (by rw [lowL_length]; omega), List.drop_of_length_le (by rw [lowL_length]; omega), List.nil_append]
  rw [e, List.take_append_of_le_length (by rw [lowL_length]; omega)]
  exact List.take_of_length_le (by rw [lowL_length]; omega)
theorem hdr_drop (n cr : Nat) (m : List UInt8) : (hdr n cr ++ m).drop 8 = m := by
  rw [List.drop_append_of_le_length (by rw [hdr_length]; omega), List.drop_of_length_le (by rw [hdr_length]; omega), List.nil_append]
theorem val4 (n : Nat) (hn : n < 4294967296) : valL (lowL n 4) = n := by rw [valL_lowL]; omega
theorem ufE_frame (n cr : Nat) (m bh : List UInt8) (hm : m.length = n) (hn : n ≤ 524288) (hc : cr < 4294967296) :
    ufE (hdr n cr ++ (m ++ bh)) = if (crcL m).toNat = cr then 0 else 74 := by
  unfold ufE
  rw [hdr_take, hdr_mid, hdr_drop, val4 n (by omega), val4 cr hc, if_neg (by rw [List.length_append, hdr_length]; omega), if_neg (by omega), if_neg (by rw [List.length_append, List.length_append, hdr_length]; omega)]
  rw [List.take_append_of_le_length (by omega), List.take_of_length_le (by omega)]
theorem ufC_frame (n cr : Nat) (m bh : List UInt8) (hm : m.length = n) (hn : n ≤ 524288) (hc : cr < 4294967296) (h : (crcL m).toNat = cr) :
    ufC (hdr n cr ++ (m ++ bh)) = m ∧ ufN (hdr n cr ++ (m ++ bh)) = 8 + n := by
  have h0 : ufE (hdr n cr ++ (m ++ bh)) = 0 := by rw [ufE_frame n cr m bh hm hn hc, if_pos h]
  unfold ufC ufN
  rw [if_pos h0, if_pos h0, hdr_take, hdr_drop, val4 n (by omega), List.take_append_of_le_length (by omega), List.take_of_length_le (by omega)]
  exact ⟨rfl, rfl⟩
theorem ufE_short (n cr : Nat) (m : List UInt8) (hm : m.length < n) (hn : n ≤ 524288) : ufE (hdr n cr ++ m) = 11 := by
  unfold ufE
  rw [hdr_take, val4 n (by omega), if_neg (by rw [List.length_append, hdr_length]; omega), if_neg (by omega), if_pos (by rw [List.length_append, hdr_length]; omega)]
theorem frameL_hdr (l : List UInt8) : frameL l = hdr l.length (crcL l).toNat ++ l := rfl
theorem frame_set (l : List UInt8) (i : Nat) (x : UInt8) : (frameL l).set (8 + i) x = hdr l.length (crcL l).toNat ++ (l.set i x ++ []) := by
  rw [frameL_hdr, List.set_append_right _ _ (by rw [hdr_length]; omega), hdr_length, List.append_nil]
  congr 2
  omega
theorem frame_take (l : List UInt8) (i : Nat) : (frameL l).take (8 + i) = hdr l.length (crcL l).toNat ++ l.take i := by
  rw [frameL_hdr, List.take_append, hdr_length, List.take_of_length_le (by rw [hdr_length]; omega)]
  congr 2
  omega
theorem broken_told (l : List UInt8) (i : Nat) (hi : i < l.length) (hl : l.length ≤ 524288) (x : UInt8) (hx : l[i] ≠ x) : ufE ((frameL l).set (8 + i) x) = 74 := by
  rw [frame_set, ufE_frame _ _ _ _ (by rw [List.length_set]) hl (by have := (crcL l).toNat_lt; omega), if_neg]
  intro h
  exact hx ((crcL_set l i hi x).1 (UInt32.toNat_inj.1 h).symm)
theorem begin_told (l : List UInt8) (i : Nat) (hi : i < l.length) (hl : l.length ≤ 524288) : ufE ((frameL l).take (8 + i)) = 11 := by
  rw [frame_take]
  exact ufE_short _ _ _ (by rw [List.length_take]; omega) hl
theorem whole_told (l bh : List UInt8) (hl : l.length ≤ 524288) : ufE (frameL l ++ bh) = 0 ∧ ufC (frameL l ++ bh) = l ∧ ufN (frameL l ++ bh) = 8 + l.length := by
  have hc : (crcL l).toNat < 4294967296 := by have := (crcL l).toNat_lt; omega
  rw [frameL_hdr, List.append_assoc]
  exact ⟨by rw [ufE_frame _ _ _ _ rfl hl hc, if_pos rfl], (ufC_frame _ _ _ _ rfl hl hc rfl).1, (ufC_frame _ _ _ _ rfl hl hc rfl).2⟩
theorem xor_bit (y : UInt8) (j : Nat) (hj : j < 8) : y ^^^ UInt8.ofNat (2 ^ j) ≠ y := by
  intro h
  have h2 : UInt8.ofNat (2 ^ j) = 0 := by
    have h3 : y ^^^ (y ^^^ UInt8.ofNat (2 ^ j)) = y ^^^ y := by rw [h]
    rwa [← UInt8.xor_assoc, UInt8.xor_self, UInt8.zero_xor] at h3
  have hk : j = 0 ∨ j = 1 ∨ j = 2 ∨ j = 3 ∨ j = 4 ∨ j = 5 ∨ j = 6 ∨ j = 7 := by omega
  rcases hk with rfl | rfl | rfl | rfl | rfl | rfl | rfl | rfl <;> exact absurd h2 (by decide)
end Go.Proofs.YtolchbjcdlncgaaGreat.Dg

/- The reference's CRC, bit by bit. -/
import Derived.Test.YtpikhfgpdebomaaDoorDgG
namespace Go.Proofs.YtpikhfgpdebomaaDoor.Dg
open Go.RowKit
theorem shr_nat8 (a : UInt8) (k : Nat) (hk : k < 8) : (a >>> (UInt8.ofNat k)).toNat = a.toNat / 2 ^ k := by
  rw [UInt8.toNat_shiftRight, UInt8.toNat_ofNat', Nat.shiftRight_eq_div_pow, Nat.mod_eq_of_lt (by omega : k < 2 ^ 8), Nat.mod_eq_of_lt hk]
def sr8 (a : UInt8) (k : Nat) : UInt8 := a >>> UInt8.ofNat k
theorem shr8_1 (a : UInt8) : n8 a / (2 : Int) = n8 (sr8 a 1) := by have := shr_nat8 a 1 (by omega); unfold n8 sr8; rw [this]; omega
theorem shr8_2 (a : UInt8) : n8 a / (4 : Int) = n8 (sr8 a 2) := by have := shr_nat8 a 2 (by omega); unfold n8 sr8; rw [this]; omega
theorem shr8_3 (a : UInt8) : n8 a / (8 : Int) = n8 (sr8 a 3) := by have := shr_nat8 a 3 (by omega); unfold n8 sr8; rw [this]; omega
theorem shr8_4 (a : UInt8) : n8 a / (16 : Int) = n8 (sr8 a 4) := by have := shr_nat8 a 4 (by omega); unfold n8 sr8; rw [this]; omega
theorem shr8_5 (a : UInt8) : n8 a / (32 : Int) = n8 (sr8 a 5) := by have := shr_nat8 a 5 (by omega); unfold n8 sr8; rw [this]; omega
theorem shr8_6 (a : UInt8) : n8 a / (64 : Int) = n8 (sr8 a 6) := by have := shr_nat8 a 6 (by omega); unfold n8 sr8; rw [this]; omega
theorem shr8_7 (a : UInt8) : n8 a / (128 : Int) = n8 (sr8 a 7) := by have := shr_nat8 a 7 (by omega); unfold n8 sr8; rw [this]; omega
theorem shr8_0 (a : UInt8) : sr8 a 0 = a := UInt8.toNat_inj.1 (by unfold sr8; rw [shr_nat8 a 0 (by omega)]; omega)
theorem up32 (y : UInt8) : n8 y % (4294967296 : Int) = n32 y.toUInt32 := by
  unfold n8 n32; rw [UInt8.toNat_toUInt32]; have := y.toNat_lt; omega
def rbit (c : UInt32) (x : UInt8) (k : Nat) : UInt32 := if (c ^^^ (sr8 x k).toUInt32) &&& 1 = 1 then (c >>> 1) ^^^ 0x82f63b78 else c >>> 1
def rbits (c : UInt32) (x : UInt8) : Nat → UInt32
  | 0 => c
  | k + 1 => rbit (rbits c x k) x k
def rcrcT : UInt32 → List UInt8 → UInt32
  | r, [] => r
  | r, x :: xs => rcrcT (rbits r x 8) xs
theorem rcrcT_snoc (x : UInt8) : ∀ (l : List UInt8) (r : UInt32), rcrcT r (l ++ [x]) = rbits (rcrcT r l) x 8
  | [], _ => rfl
  | _ :: ys, _ => rcrcT_snoc x ys _
def rcrcL (l : List UInt8) : UInt32 := rcrcT 0xffffffff l ^^^ 0xffffffff
theorem xorF (r : UInt32) : bits .xor .u32 (n32 r) 4294967295 = n32 (r ^^^ 0xffffffff) := by
  rw [show (4294967295 : Int) = n32 0xffffffff from rfl, xor32]
section
attribute [local go_sem] and1 xorP xor32 shr32_1 up32 xorF shr8_1 shr8_2 shr8_3 shr8_4 shr8_5 shr8_6 shr8_7
set_option maxRecDepth 100000 in
set_option maxHeartbeats 400000 in
theorem rcrc_nil (c : Nat) (A : Option Addr) (w : World) :
    Calls Tryd.prog 8 #[.slice A 0 c] w fun e w' => e = .returned (.int .u32 (n32 (rcrcL []))) ∧ w = w' := by
  go_enter Tryd.func8, Tryd.ntmps8
  go_wp2
  refine wp_loop_rounds 1 ?_
  rw [rounds_succ]
  go_wp2
  go_ret
  exact ⟨congrArg (fun z => Ending.returned (.int .u32 z)) (by kernel_rfl), rfl⟩
set_option maxRecDepth 100000 in
set_option maxHeartbeats 1600000 in
theorem rcrc_some (b off c : Nat) (l : List UInt8) (hl : l.length ≤ 9223372036854775807) (w : World) 
    (hc : ∀ k, k < l.length → w.cell? ⟨b, off + k, none⟩ = some (.int .u8 (n8 (l.getD k 0)))) :
    Calls Tryd.prog 8 #[.slice (some ⟨b, off, none⟩) l.length c] w fun e w' => e = .returned (.int .u32 (n32 (rcrcL l))) ∧ w = w' := by
  go_enter Tryd.func8, Tryd.ntmps8
  go_wp2
  go_loop [3, 10] (fun r i => ∃ k : Nat, k ≤ l.length ∧ i = .int .i64 k ∧ r = .int .u32 (n32 (rcrcT 0xffffffff (l.take k)))) (fun _ i => l.length - (intOf i).toNat)
  case atStart => exact ⟨0, by omega, rfl, rfl⟩
  case round =>
    obtain ⟨k, hk, rfl, rfl⟩ := hrel
    by_cases hlt : k < l.length
    · have hx := hc k hlt
      have e : rcrcT 0xffffffff (l.take (k + 1)) = rbits (rcrcT 0xffffffff (l.take k)) (l.getD k 0) 8 := by rw [take_next l k hlt]; exact rcrcT_snoc _ _ _
      have E := Lib.hid e
      clear e hc
      generalize rcrcT 0xffffffff (l.take k) = r at *
      generalize l.getD k 0 = x at *
      go_wp2
      go_loop [3, 6] (fun c j => ∃ i : Nat, i ≤ 8 ∧ j = .int .i64 i ∧ c = .int .u32 (n32 (rbits r x i))) (fun _ j => 8 - (intOf j).toNat)
      case atStart => exact ⟨0, by omega, rfl, rfl⟩
      case round =>
        obtain ⟨i, hi, rfl, rfl⟩ := hrel
        by_cases hlt8 : i < 8
        · have h8 : i = 0 ∨ i = 1 ∨ i = 2 ∨ i = 3 ∨ i = 4 ∨ i = 5 ∨ i = 6 ∨ i = 7 := by omega
          clear hlt hk hx E
          rcases h8 with rfl | rfl | rfl | rfl | rfl | rfl | rfl | rfl
          · have hs : rbits r x 1 = rbit (rbits r x 0) x 0 := rfl
            rw [rbit, shr8_0] at hs
            by_cases hb : (rbits r x 0 ^^^ x.toUInt32) &&& 1 = 1
            · rw [if_pos hb] at hs
              have hb1 : (n32 ((rbits r x 0 ^^^ x.toUInt32) &&& 1) == 1) = true := by rw [is1, hb]; rfl
              have HS := Lib.hid hs
              clear hs hb
              generalize rbits r x 0 = c at *
              go_wp2
              go_round
              case rel => exact ⟨1, by omega, by go_num, by rw [HS.out]⟩
              case measure => simp [intOf]
            · rw [if_neg hb] at hs
              have hb1 : (n32 ((rbits r x 0 ^^^ x.toUInt32) &&& 1) == 1) = false := by rw [is1]; exact decide_eq_false hb
              have HS := Lib.hid hs
              clear hs hb
              generalize rbits r x 0 = c at *
              go_wp2
              go_round
              case rel => exact ⟨1, by omega, by go_num, by rw [HS.out]⟩
              case measure => simp [intOf]
          · have hs : rbits r x 2 = rbit (rbits r x 1) x 1 := rfl
            rw [rbit] at hs
            by_cases hb : (rbits r x 1 ^^^ (sr8 x 1).toUInt32) &&& 1 = 1
            · rw [if_pos hb] at hs
              have hb1 : (n32 ((rbits r x 1 ^^^ (sr8 x 1).toUInt32) &&& 1) == 1) = true := by rw [is1, hb]; rfl
              have HS := Lib.hid hs
              clear hs hb
              generalize rbits r x 1 = c at *
              go_wp2
              go_round
              case rel => exact ⟨2, by omega, by go_num, by rw [HS.out]⟩
              case measure => simp [intOf]
            · rw [if_neg hb] at hs
              have hb1 : (n32 ((rbits r x 1 ^^^ (sr8 x 1).toUInt32) &&& 1) == 1) = false := by rw [is1]; exact decide_eq_false hb
              have HS := Lib.hid hs
              clear hs hb
              generalize rbits r x 1 = c at *
              go_wp2
              go_round
              case rel => exact ⟨2, by omega, by go_num, by rw [HS.out]⟩
              case measure => simp [intOf]
          · have hs : rbits r x 3 = rbit (rbits r x 2) x 2 := rfl
            rw [rbit] at hs
            by_cases hb : (rbits r x 2 ^^^ (sr8 x 2).toUInt32) &&& 1 = 1
            · rw [if_pos hb] at hs
              have hb1 : (n32 ((rbits r x 2 ^^^ (sr8 x 2).toUInt32) &&& 1) == 1) = true := by rw [is1, hb]; rfl
              have HS := Lib.hid hs
              clear hs hb
              generalize rbits r x 2 = c at *
              go_wp2
              go_round
              case rel => exact ⟨3, by omega, by go_num, by rw [HS.out]⟩
              case measure => simp [intOf]
            · rw [if_neg hb] at hs
              have hb1 : (n32 ((rbits r x 2 ^^^ (sr8 x 2).toUInt32) &&& 1) == 1) = false := by rw [is1]; exact decide_eq_false hb
              have HS := Lib.hid hs
              clear hs hb
              generalize rbits r x 2 = c at *
              go_wp2
              go_round
              case rel => exact ⟨3, by omega, by go_num, by rw [HS.out]⟩
              case measure => simp [intOf]
          · have hs : rbits r x 4 = rbit (rbits r x 3) x 3 := rfl
            rw [rbit] at hs
            by_cases hb : (rbits r x 3 ^^^ (sr8 x 3).toUInt32) &&& 1 = 1
            · rw [if_pos hb] at hs
              have hb1 : (n32 ((rbits r x 3 ^^^ (sr8 x 3).toUInt32) &&& 1) == 1) = true := by rw [is1, hb]; rfl
              have HS := Lib.hid hs
              clear hs hb
              generalize rbits r x 3 = c at *
              go_wp2
              go_round
              case rel => exact ⟨4, by omega, by go_num, by rw [HS.out]⟩
              case measure => simp [intOf]
            · rw [if_neg hb] at hs
              have hb1 : (n32 ((rbits r x 3 ^^^ (sr8 x 3).toUInt32) &&& 1) == 1) = false := by rw [is1]; exact decide_eq_false hb
              have HS := Lib.hid hs
              clear hs hb
              generalize rbits r x 3 = c at *
              go_wp2
              go_round
              case rel => exact ⟨4, by omega, by go_num, by rw [HS.out]⟩
              case measure => simp [intOf]
          · have hs : rbits r x 5 = rbit (rbits r x 4) x 4 := rfl
            rw [rbit] at hs
            by_cases hb : (rbits r x 4 ^^^ (sr8 x 4).toUInt32) &&& 1 = 1
            · rw [if_pos hb] at hs
              have hb1 : (n32 ((rbits r x 4 ^^^ (sr8 x 4).toUInt32) &&& 1) == 1) = true := by rw [is1, hb]; rfl
              have HS := Lib.hid hs
              clear hs hb
              generalize rbits r x 4 = c at *
              go_wp2
              go_round
              case rel => exact ⟨5, by omega, by go_num, by rw [HS.out]⟩
              case measure => simp [intOf]
            · rw [if_neg hb] at hs
              have hb1 : (n32 ((rbits r x 4 ^^^ (sr8 x 4).toUInt32) &&& 1) == 1) = false := by rw [is1]; exact decide_eq_false hb
              have HS := Lib.hid hs
              clear hs hb
              generalize rbits r x 4 = c at *
              go_wp2
              go_round
              case rel => exact ⟨5, by omega, by go_num, by rw [HS.out]⟩
              case measure => simp [intOf]
          · have hs : rbits r x 6 = rbit (rbits r x 5) x 5 := rfl
            rw [rbit] at hs
            by_cases hb : (rbits r x 5 ^^^ (sr8 x 5).toUInt32) &&& 1 = 1
            · rw [if_pos hb] at hs
              have hb1 : (n32 ((rbits r x 5 ^^^ (sr8 x 5).toUInt32) &&& 1) == 1) = true := by rw [is1, hb]; rfl
              have HS := Lib.hid hs
              clear hs hb
              generalize rbits r x 5 = c at *
              go_wp2
              go_round
              case rel => exact ⟨6, by omega, by go_num, by rw [HS.out]⟩
              case measure => simp [intOf]
            · rw [if_neg hb] at hs
              have hb1 : (n32 ((rbits r x 5 ^^^ (sr8 x 5).toUInt32) &&& 1) == 1) = false := by rw [is1]; exact decide_eq_false hb
              have HS := Lib.hid hs
              clear hs hb
              generalize rbits r x 5 = c at *
              go_wp2
              go_round
              case rel => exact ⟨6, by omega, by go_num, by rw [HS.out]⟩
              case measure => simp [intOf]
          · have hs : rbits r x 7 = rbit (rbits r x 6) x 6 := rfl
            rw [rbit] at hs
            by_cases hb : (rbits r x 6 ^^^ (sr8 x 6).toUInt32) &&& 1 = 1
            · rw [if_pos hb] at hs
              have hb1 : (n32 ((rbits r x 6 ^^^ (sr8 x 6).toUInt32) &&& 1) == 1) = true := by rw [is1, hb]; rfl
              have HS := Lib.hid hs
              clear hs hb
              generalize rbits r x 6 = c at *
              go_wp2
              go_round
              case rel => exact ⟨7, by omega, by go_num, by rw [HS.out]⟩
              case measure => simp [intOf]
            · rw [if_neg hb] at hs
              have hb1 : (n32 ((rbits r x 6 ^^^ (sr8 x 6).toUInt32) &&& 1) == 1) = false := by rw [is1]; exact decide_eq_false hb
              have HS := Lib.hid hs
              clear hs hb
              generalize rbits r x 6 = c at *
              go_wp2
              go_round
              case rel => exact ⟨7, by omega, by go_num, by rw [HS.out]⟩
              case measure => simp [intOf]
          · have hs : rbits r x 8 = rbit (rbits r x 7) x 7 := rfl
            rw [rbit] at hs
            by_cases hb : (rbits r x 7 ^^^ (sr8 x 7).toUInt32) &&& 1 = 1
            · rw [if_pos hb] at hs
              have hb1 : (n32 ((rbits r x 7 ^^^ (sr8 x 7).toUInt32) &&& 1) == 1) = true := by rw [is1, hb]; rfl
              have HS := Lib.hid hs
              clear hs hb
              generalize rbits r x 7 = c at *
              go_wp2
              go_round
              case rel => exact ⟨8, by omega, by go_num, by rw [HS.out]⟩
              case measure => simp [intOf]
            · rw [if_neg hb] at hs
              have hb1 : (n32 ((rbits r x 7 ^^^ (sr8 x 7).toUInt32) &&& 1) == 1) = false := by rw [is1]; exact decide_eq_false hb
              have HS := Lib.hid hs
              clear hs hb
              generalize rbits r x 7 = c at *
              go_wp2
              go_round
              case rel => exact ⟨8, by omega, by go_num, by rw [HS.out]⟩
              case measure => simp [intOf]
        · obtain rfl : i = 8 := by omega
          go_wp2
          go_round
          case rel => exact ⟨k + 1, by omega, by go_num, by rw [E.out]⟩
          case measure => simp [intOf]; omega
    · obtain rfl : k = l.length := by omega
      clear hc
      rw [List.take_length]
      go_wp2
      go_ret
      exact ⟨rfl, rfl⟩
end
end Go.Proofs.YtpikhfgpdebomaaDoor.Dg

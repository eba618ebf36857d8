/- The numbers of 8, 32 and 64 bits as the walks spell them, behind names that the walk's own set leaves alone: laws for that set. -/
import Derived.Test.YtphbaaaklgiloaaGreatRows
import Derived.WalkKit
import Derived.WalkSpells
import Derived.WalkLawsBesides
namespace Go.Proofs.YtphbaaaklgiloaaGreat.Dg
open Go.RowKit

def n8 (a : UInt8) : Int := a.toNat
def n32 (a : UInt32) : Int := a.toNat
def n64 (a : UInt64) : Int := a.toNat
theorem n8_lt (a : UInt8) : n8 a < 256 := by have := a.toNat_lt; unfold n8; omega
theorem n32_lt (a : UInt32) : n32 a < 4294967296 := by have := a.toNat_lt; unfold n32; omega
theorem n64_lt (a : UInt64) : n64 a < 18446744073709551616 := by have := a.toNat_lt; unfold n64; omega
theorem n8_nn (a : UInt8) : 0 ≤ n8 a := by unfold n8; omega
theorem n32_nn (a : UInt32) : 0 ≤ n32 a := by unfold n32; omega
theorem n64_nn (a : UInt64) : 0 ≤ n64 a := by unfold n64; omega
theorem n8_inj {a b : UInt8} (h : n8 a = n8 b) : a = b := by unfold n8 at h; exact UInt8.toNat_inj.1 (by omega)
theorem n32_inj {a b : UInt32} (h : n32 a = n32 b) : a = b := by unfold n32 at h; exact UInt32.toNat_inj.1 (by omega)
theorem n64_inj {a b : UInt64} (h : n64 a = n64 b) : a = b := by unfold n64 at h; exact UInt64.toNat_inj.1 (by omega)
theorem n32_beq (a b : UInt32) : (n32 a == n32 b) = (a == b) := by
  rw [Bool.eq_iff_iff, beq_iff_eq, beq_iff_eq]; exact ⟨n32_inj, fun h => h ▸ rfl⟩

theorem sub32 (a b : UInt32) : (n32 a - n32 b) % (4294967296 : Int) = n32 (a - b) := by
  have ha := a.toNat_lt; have hb := b.toNat_lt
  unfold n32; rw [UInt32.toNat_sub]; omega
theorem sub32' (a b c : UInt32) : (n32 a - n32 b - n32 c) % (4294967296 : Int) = n32 (a - b - c) := by
  have ha := a.toNat_lt; have hb := b.toNat_lt; have hc := c.toNat_lt
  unfold n32; rw [UInt32.toNat_sub, UInt32.toNat_sub]; omega
theorem add32 (a b : UInt32) : (n32 a + n32 b) % (4294967296 : Int) = n32 (a + b) := by
  have ha := a.toNat_lt; have hb := b.toNat_lt
  unfold n32; rw [UInt32.toNat_add]; omega
theorem xor32 (a b : UInt32) : bits .xor .u32 (n32 a) (n32 b) = n32 (a ^^^ b) := by
  unfold n32; rw [u32_xor_nat _ _ a.toNat_lt b.toNat_lt, UInt32.toNat_xor]
theorem and32 (a b : UInt32) : bits .and .u32 (n32 a) (n32 b) = n32 (a &&& b) := by
  unfold n32; rw [u32_and_nat _ _ a.toNat_lt b.toNat_lt, UInt32.toNat_and]
theorem or32 (a b : UInt32) : bits .or .u32 (n32 a) (n32 b) = n32 (a ||| b) := by
  unfold n32; rw [u32_or_nat _ _ a.toNat_lt b.toNat_lt, UInt32.toNat_or]
theorem xor8 (a b : UInt8) : bits .xor .u8 (n8 a) (n8 b) = n8 (a ^^^ b) := by
  unfold n8; rw [u8_xor_nat _ _ a.toNat_lt b.toNat_lt, UInt8.toNat_xor]
theorem shr_nat (a : UInt32) (k : Nat) (hk : k < 32) : (a >>> (UInt32.ofNat k)).toNat = a.toNat / 2 ^ k := by
  rw [UInt32.toNat_shiftRight, UInt32.toNat_ofNat', Nat.shiftRight_eq_div_pow, Nat.mod_eq_of_lt (by omega : k < 2 ^ 32), Nat.mod_eq_of_lt hk]
theorem shl_nat (a : UInt32) (k : Nat) (hk : k < 32) : (a <<< (UInt32.ofNat k)).toNat = a.toNat * 2 ^ k % 4294967296 := by
  rw [UInt32.toNat_shiftLeft, UInt32.toNat_ofNat', Nat.shiftLeft_eq, Nat.mod_eq_of_lt (by omega : k < 2 ^ 32), Nat.mod_eq_of_lt hk]
theorem shr32_1 (a : UInt32) : n32 a / (2 : Int) = n32 (a >>> 1) := by have := shr_nat a 1 (by omega); unfold n32; rw [show (1 : UInt32) = UInt32.ofNat 1 from rfl, this]; omega
theorem shl32_1 (a : UInt32) : n32 a * (2 : Int) % (4294967296 : Int) = n32 (a <<< 1) := by have := shl_nat a 1 (by omega); unfold n32; rw [show (1 : UInt32) = UInt32.ofNat 1 from rfl, this]; omega
theorem shr32_2 (a : UInt32) : n32 a / (4 : Int) = n32 (a >>> 2) := by have := shr_nat a 2 (by omega); unfold n32; rw [show (2 : UInt32) = UInt32.ofNat 2 from rfl, this]; omega
theorem shl32_2 (a : UInt32) : n32 a * (4 : Int) % (4294967296 : Int) = n32 (a <<< 2) := by have := shl_nat a 2 (by omega); unfold n32; rw [show (2 : UInt32) = UInt32.ofNat 2 from rfl, this]; omega
theorem shr32_3 (a : UInt32) : n32 a / (8 : Int) = n32 (a >>> 3) := by have := shr_nat a 3 (by omega); unfold n32; rw [show (3 : UInt32) = UInt32.ofNat 3 from rfl, this]; omega
theorem shl32_3 (a : UInt32) : n32 a * (8 : Int) % (4294967296 : Int) = n32 (a <<< 3) := by have := shl_nat a 3 (by omega); unfold n32; rw [show (3 : UInt32) = UInt32.ofNat 3 from rfl, this]; omega
theorem shr32_4 (a : UInt32) : n32 a / (16 : Int) = n32 (a >>> 4) := by have := shr_nat a 4 (by omega); unfold n32; rw [show (4 : UInt32) = UInt32.ofNat 4 from rfl, this]; omega
theorem shl32_4 (a : UInt32) : n32 a * (16 : Int) % (4294967296 : Int) = n32 (a <<< 4) := by have := shl_nat a 4 (by omega); unfold n32; rw [show (4 : UInt32) = UInt32.ofNat 4 from rfl, this]; omega
theorem shr32_5 (a : UInt32) : n32 a / (32 : Int) = n32 (a >>> 5) := by have := shr_nat a 5 (by omega); unfold n32; rw [show (5 : UInt32) = UInt32.ofNat 5 from rfl, this]; omega
theorem shl32_5 (a : UInt32) : n32 a * (32 : Int) % (4294967296 : Int) = n32 (a <<< 5) := by have := shl_nat a 5 (by omega); unfold n32; rw [show (5 : UInt32) = UInt32.ofNat 5 from rfl, this]; omega
theorem shr32_6 (a : UInt32) : n32 a / (64 : Int) = n32 (a >>> 6) := by have := shr_nat a 6 (by omega); unfold n32; rw [show (6 : UInt32) = UInt32.ofNat 6 from rfl, this]; omega
theorem shl32_6 (a : UInt32) : n32 a * (64 : Int) % (4294967296 : Int) = n32 (a <<< 6) := by have := shl_nat a 6 (by omega); unfold n32; rw [show (6 : UInt32) = UInt32.ofNat 6 from rfl, this]; omega
theorem shr32_7 (a : UInt32) : n32 a / (128 : Int) = n32 (a >>> 7) := by have := shr_nat a 7 (by omega); unfold n32; rw [show (7 : UInt32) = UInt32.ofNat 7 from rfl, this]; omega
theorem shl32_7 (a : UInt32) : n32 a * (128 : Int) % (4294967296 : Int) = n32 (a <<< 7) := by have := shl_nat a 7 (by omega); unfold n32; rw [show (7 : UInt32) = UInt32.ofNat 7 from rfl, this]; omega
theorem shr32_8 (a : UInt32) : n32 a / (256 : Int) = n32 (a >>> 8) := by have := shr_nat a 8 (by omega); unfold n32; rw [show (8 : UInt32) = UInt32.ofNat 8 from rfl, this]; omega
theorem shl32_8 (a : UInt32) : n32 a * (256 : Int) % (4294967296 : Int) = n32 (a <<< 8) := by have := shl_nat a 8 (by omega); unfold n32; rw [show (8 : UInt32) = UInt32.ofNat 8 from rfl, this]; omega
theorem shr32_9 (a : UInt32) : n32 a / (512 : Int) = n32 (a >>> 9) := by have := shr_nat a 9 (by omega); unfold n32; rw [show (9 : UInt32) = UInt32.ofNat 9 from rfl, this]; omega
theorem shl32_9 (a : UInt32) : n32 a * (512 : Int) % (4294967296 : Int) = n32 (a <<< 9) := by have := shl_nat a 9 (by omega); unfold n32; rw [show (9 : UInt32) = UInt32.ofNat 9 from rfl, this]; omega
theorem shr32_10 (a : UInt32) : n32 a / (1024 : Int) = n32 (a >>> 10) := by have := shr_nat a 10 (by omega); unfold n32; rw [show (10 : UInt32) = UInt32.ofNat 10 from rfl, this]; omega
theorem shl32_10 (a : UInt32) : n32 a * (1024 : Int) % (4294967296 : Int) = n32 (a <<< 10) := by have := shl_nat a 10 (by omega); unfold n32; rw [show (10 : UInt32) = UInt32.ofNat 10 from rfl, this]; omega
theorem shr32_11 (a : UInt32) : n32 a / (2048 : Int) = n32 (a >>> 11) := by have := shr_nat a 11 (by omega); unfold n32; rw [show (11 : UInt32) = UInt32.ofNat 11 from rfl, this]; omega
theorem shl32_11 (a : UInt32) : n32 a * (2048 : Int) % (4294967296 : Int) = n32 (a <<< 11) := by have := shl_nat a 11 (by omega); unfold n32; rw [show (11 : UInt32) = UInt32.ofNat 11 from rfl, this]; omega
theorem shr32_12 (a : UInt32) : n32 a / (4096 : Int) = n32 (a >>> 12) := by have := shr_nat a 12 (by omega); unfold n32; rw [show (12 : UInt32) = UInt32.ofNat 12 from rfl, this]; omega
theorem shl32_12 (a : UInt32) : n32 a * (4096 : Int) % (4294967296 : Int) = n32 (a <<< 12) := by have := shl_nat a 12 (by omega); unfold n32; rw [show (12 : UInt32) = UInt32.ofNat 12 from rfl, this]; omega
theorem shr32_13 (a : UInt32) : n32 a / (8192 : Int) = n32 (a >>> 13) := by have := shr_nat a 13 (by omega); unfold n32; rw [show (13 : UInt32) = UInt32.ofNat 13 from rfl, this]; omega
theorem shl32_13 (a : UInt32) : n32 a * (8192 : Int) % (4294967296 : Int) = n32 (a <<< 13) := by have := shl_nat a 13 (by omega); unfold n32; rw [show (13 : UInt32) = UInt32.ofNat 13 from rfl, this]; omega
theorem shr32_14 (a : UInt32) : n32 a / (16384 : Int) = n32 (a >>> 14) := by have := shr_nat a 14 (by omega); unfold n32; rw [show (14 : UInt32) = UInt32.ofNat 14 from rfl, this]; omega
theorem shl32_14 (a : UInt32) : n32 a * (16384 : Int) % (4294967296 : Int) = n32 (a <<< 14) := by have := shl_nat a 14 (by omega); unfold n32; rw [show (14 : UInt32) = UInt32.ofNat 14 from rfl, this]; omega
theorem shr32_15 (a : UInt32) : n32 a / (32768 : Int) = n32 (a >>> 15) := by have := shr_nat a 15 (by omega); unfold n32; rw [show (15 : UInt32) = UInt32.ofNat 15 from rfl, this]; omega
theorem shl32_15 (a : UInt32) : n32 a * (32768 : Int) % (4294967296 : Int) = n32 (a <<< 15) := by have := shl_nat a 15 (by omega); unfold n32; rw [show (15 : UInt32) = UInt32.ofNat 15 from rfl, this]; omega
theorem shr32_16 (a : UInt32) : n32 a / (65536 : Int) = n32 (a >>> 16) := by have := shr_nat a 16 (by omega); unfold n32; rw [show (16 : UInt32) = UInt32.ofNat 16 from rfl, this]; omega
theorem shl32_16 (a : UInt32) : n32 a * (65536 : Int) % (4294967296 : Int) = n32 (a <<< 16) := by have := shl_nat a 16 (by omega); unfold n32; rw [show (16 : UInt32) = UInt32.ofNat 16 from rfl, this]; omega
theorem shr32_17 (a : UInt32) : n32 a / (131072 : Int) = n32 (a >>> 17) := by have := shr_nat a 17 (by omega); unfold n32; rw [show (17 : UInt32) = UInt32.ofNat 17 from rfl, this]; omega
theorem shl32_17 (a : UInt32) : n32 a * (131072 : Int) % (4294967296 : Int) = n32 (a <<< 17) := by have := shl_nat a 17 (by omega); unfold n32; rw [show (17 : UInt32) = UInt32.ofNat 17 from rfl, this]; omega
theorem shr32_18 (a : UInt32) : n32 a / (262144 : Int) = n32 (a >>> 18) := by have := shr_nat a 18 (by omega); unfold n32; rw [show (18 : UInt32) = UInt32.ofNat 18 from rfl, this]; omega
theorem shl32_18 (a : UInt32) : n32 a * (262144 : Int) % (4294967296 : Int) = n32 (a <<< 18) := by have := shl_nat a 18 (by omega); unfold n32; rw [show (18 : UInt32) = UInt32.ofNat 18 from rfl, this]; omega
theorem shr32_19 (a : UInt32) : n32 a / (524288 : Int) = n32 (a >>> 19) := by have := shr_nat a 19 (by omega); unfold n32; rw [show (19 : UInt32) = UInt32.ofNat 19 from rfl, this]; omega
theorem shl32_19 (a : UInt32) : n32 a * (524288 : Int) % (4294967296 : Int) = n32 (a <<< 19) := by have := shl_nat a 19 (by omega); unfold n32; rw [show (19 : UInt32) = UInt32.ofNat 19 from rfl, this]; omega
theorem shr32_20 (a : UInt32) : n32 a / (1048576 : Int) = n32 (a >>> 20) := by have := shr_nat a 20 (by omega); unfold n32; rw [show (20 : UInt32) = UInt32.ofNat 20 from rfl, this]; omega
theorem shl32_20 (a : UInt32) : n32 a * (1048576 : Int) % (4294967296 : Int) = n32 (a <<< 20) := by have := shl_nat a 20 (by omega); unfold n32; rw [show (20 : UInt32) = UInt32.ofNat 20 from rfl, this]; omega
theorem shr32_21 (a : UInt32) : n32 a / (2097152 : Int) = n32 (a >>> 21) := by have := shr_nat a 21 (by omega); unfold n32; rw [show (21 : UInt32) = UInt32.ofNat 21 from rfl, this]; omega
theorem shl32_21 (a : UInt32) : n32 a * (2097152 : Int) % (4294967296 : Int) = n32 (a <<< 21) := by have := shl_nat a 21 (by omega); unfold n32; rw [show (21 : UInt32) = UInt32.ofNat 21 from rfl, this]; omega
theorem shr32_22 (a : UInt32) : n32 a / (4194304 : Int) = n32 (a >>> 22) := by have := shr_nat a 22 (by omega); unfold n32; rw [show (22 : UInt32) = UInt32.ofNat 22 from rfl, this]; omega
theorem shl32_22 (a : UInt32) : n32 a * (4194304 : Int) % (4294967296 : Int) = n32 (a <<< 22) := by have := shl_nat a 22 (by omega); unfold n32; rw [show (22 : UInt32) = UInt32.ofNat 22 from rfl, this]; omega
theorem shr32_23 (a : UInt32) : n32 a / (8388608 : Int) = n32 (a >>> 23) := by have := shr_nat a 23 (by omega); unfold n32; rw [show (23 : UInt32) = UInt32.ofNat 23 from rfl, this]; omega
theorem shl32_23 (a : UInt32) : n32 a * (8388608 : Int) % (4294967296 : Int) = n32 (a <<< 23) := by have := shl_nat a 23 (by omega); unfold n32; rw [show (23 : UInt32) = UInt32.ofNat 23 from rfl, this]; omega
theorem shr32_24 (a : UInt32) : n32 a / (16777216 : Int) = n32 (a >>> 24) := by have := shr_nat a 24 (by omega); unfold n32; rw [show (24 : UInt32) = UInt32.ofNat 24 from rfl, this]; omega
theorem shl32_24 (a : UInt32) : n32 a * (16777216 : Int) % (4294967296 : Int) = n32 (a <<< 24) := by have := shl_nat a 24 (by omega); unfold n32; rw [show (24 : UInt32) = UInt32.ofNat 24 from rfl, this]; omega
theorem shr32_25 (a : UInt32) : n32 a / (33554432 : Int) = n32 (a >>> 25) := by have := shr_nat a 25 (by omega); unfold n32; rw [show (25 : UInt32) = UInt32.ofNat 25 from rfl, this]; omega
theorem shl32_25 (a : UInt32) : n32 a * (33554432 : Int) % (4294967296 : Int) = n32 (a <<< 25) := by have := shl_nat a 25 (by omega); unfold n32; rw [show (25 : UInt32) = UInt32.ofNat 25 from rfl, this]; omega
theorem shr32_26 (a : UInt32) : n32 a / (67108864 : Int) = n32 (a >>> 26) := by have := shr_nat a 26 (by omega); unfold n32; rw [show (26 : UInt32) = UInt32.ofNat 26 from rfl, this]; omega
theorem shl32_26 (a : UInt32) : n32 a * (67108864 : Int) % (4294967296 : Int) = n32 (a <<< 26) := by have := shl_nat a 26 (by omega); unfold n32; rw [show (26 : UInt32) = UInt32.ofNat 26 from rfl, this]; omega
theorem shr32_27 (a : UInt32) : n32 a / (134217728 : Int) = n32 (a >>> 27) := by have := shr_nat a 27 (by omega); unfold n32; rw [show (27 : UInt32) = UInt32.ofNat 27 from rfl, this]; omega
theorem shl32_27 (a : UInt32) : n32 a * (134217728 : Int) % (4294967296 : Int) = n32 (a <<< 27) := by have := shl_nat a 27 (by omega); unfold n32; rw [show (27 : UInt32) = UInt32.ofNat 27 from rfl, this]; omega
theorem shr32_28 (a : UInt32) : n32 a / (268435456 : Int) = n32 (a >>> 28) := by have := shr_nat a 28 (by omega); unfold n32; rw [show (28 : UInt32) = UInt32.ofNat 28 from rfl, this]; omega
theorem shl32_28 (a : UInt32) : n32 a * (268435456 : Int) % (4294967296 : Int) = n32 (a <<< 28) := by have := shl_nat a 28 (by omega); unfold n32; rw [show (28 : UInt32) = UInt32.ofNat 28 from rfl, this]; omega
theorem shr32_29 (a : UInt32) : n32 a / (536870912 : Int) = n32 (a >>> 29) := by have := shr_nat a 29 (by omega); unfold n32; rw [show (29 : UInt32) = UInt32.ofNat 29 from rfl, this]; omega
theorem shl32_29 (a : UInt32) : n32 a * (536870912 : Int) % (4294967296 : Int) = n32 (a <<< 29) := by have := shl_nat a 29 (by omega); unfold n32; rw [show (29 : UInt32) = UInt32.ofNat 29 from rfl, this]; omega
theorem shr32_30 (a : UInt32) : n32 a / (1073741824 : Int) = n32 (a >>> 30) := by have := shr_nat a 30 (by omega); unfold n32; rw [show (30 : UInt32) = UInt32.ofNat 30 from rfl, this]; omega
theorem shl32_30 (a : UInt32) : n32 a * (1073741824 : Int) % (4294967296 : Int) = n32 (a <<< 30) := by have := shl_nat a 30 (by omega); unfold n32; rw [show (30 : UInt32) = UInt32.ofNat 30 from rfl, this]; omega
theorem shr32_31 (a : UInt32) : n32 a / (2147483648 : Int) = n32 (a >>> 31) := by have := shr_nat a 31 (by omega); unfold n32; rw [show (31 : UInt32) = UInt32.ofNat 31 from rfl, this]; omega
theorem shl32_31 (a : UInt32) : n32 a * (2147483648 : Int) % (4294967296 : Int) = n32 (a <<< 31) := by have := shl_nat a 31 (by omega); unfold n32; rw [show (31 : UInt32) = UInt32.ofNat 31 from rfl, this]; omega
/-- MIX (P1.2). -/
def mixL (a b c : UInt32) : UInt32 × UInt32 × UInt32 :=
  let a := (a - b - c) ^^^ c >>> 13
  let b := (b - c - a) ^^^ a <<< 8
  let c := (c - a - b) ^^^ b >>> 13
  let a := (a - b - c) ^^^ c >>> 12
  let b := (b - c - a) ^^^ a <<< 16
  let c := (c - a - b) ^^^ b >>> 5
  let a := (a - b - c) ^^^ c >>> 3
  let b := (b - c - a) ^^^ a <<< 10
  let c := (c - a - b) ^^^ b >>> 15
  (a, b, c)
theorem len32 (n : Nat) : (n : Int) % (4294967296 : Int) = n32 (UInt32.ofNat n) := by
  unfold n32; rw [UInt32.toNat_ofNat']; omega
theorem byte32 (x : UInt8) : (x.toNat : Int) % (4294967296 : Int) = n32 x.toUInt32 := by
  unfold n32; have := x.toNat_lt; rw [UInt8.toNat_toUInt32]; omega
theorem addw32 (a b : UInt32) : IntKind.u32.wrap (n32 a + n32 b) = n32 (a + b) := by rw [IntKind.wrap_u32', add32]
end Go.Proofs.YtphbaaaklgiloaaGreat.Dg

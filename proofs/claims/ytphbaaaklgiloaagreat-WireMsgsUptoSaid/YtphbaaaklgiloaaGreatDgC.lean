/- CRC-32C: the table, made once, and the register. -/
import Derived.Test.YtphbaaaklgiloaaGreatDgE
import Derived.StillTailTactics
namespace Go.Proofs.YtphbaaaklgiloaaGreat.Dg
open Go.RowKit
/-- A register's next state behind one bit that falls out. -/
def s1 (r : UInt32) : UInt32 := if r &&& 1 = 1 then (r >>> 1) ^^^ 0x82f63b78 else r >>> 1
def s1n (r : UInt32) : Nat → UInt32
  | 0 => r
  | k + 1 => s1 (s1n r k)
def s8 (r : UInt32) : UInt32 := s1n r 8
theorem and1 (r : UInt32) : bits .and .u32 (n32 r) 1 = n32 (r &&& 1) := by
  rw [show (1 : Int) = n32 1 from rfl, and32]
theorem xorP (r : UInt32) : bits .xor .u32 (n32 r) 2197175160 = n32 (r ^^^ 0x82f63b78) := by
  rw [show (2197175160 : Int) = n32 0x82f63b78 from rfl, xor32]
theorem is1 (r : UInt32) : (n32 r == 1) = decide (r = 1) := by
  rw [show (1 : Int) = n32 1 from rfl, n32_beq]; rfl
section
attribute [local go_sem] and1 xorP shr32_1
set_option maxHeartbeats 400000 in
theorem shiftByte_any (r : UInt32) (w : World) :
    Calls Tryz.prog 158 #[.int .u32 (n32 r)] w fun e w' => e = .returned (.int .u32 (n32 (s8 r))) ∧ w = w' := by
  go_enter Tryz.func158, Tryz.ntmps158
  go_wp2
  go_loop [0, 4] (fun x i => ∃ k : Nat, k ≤ 8 ∧ i = .int .i64 k ∧ x = .int .u32 (n32 (s1n r k))) (fun _ i => 8 - (intOf i).toNat)
  case atStart => exact ⟨0, by omega, rfl, rfl⟩
  case round =>
    obtain ⟨k, hk, rfl, rfl⟩ := hrel
    have hs : s1n r (k + 1) = s1 (s1n r k) := rfl
    by_cases hlt : k < 8
    · by_cases hx : s1n r k &&& 1 = 1
      · have e : s1n r (k + 1) = (s1n r k >>> 1) ^^^ 0x82f63b78 := by rw [hs]; unfold s1; rw [if_pos hx]
        have hb : (n32 (s1n r k &&& 1) == 1) = true := by rw [is1, hx]; rfl
        have E := Lib.hid e
        clear hs hx e
        generalize s1n r k = x at *
        go_wp2
        go_round
        case rel => exact ⟨k + 1, by omega, by go_num, by rw [E.out]⟩
        case measure => simp [intOf]; omega
      · have e : s1n r (k + 1) = s1n r k >>> 1 := by rw [hs]; unfold s1; rw [if_neg hx]
        have hb : (n32 (s1n r k &&& 1) == 1) = false := by rw [is1]; exact decide_eq_false hx
        have E := Lib.hid e
        clear hs hx e
        generalize s1n r k = x at *
        go_wp2
        go_round
        case rel => exact ⟨k + 1, by omega, by go_num, by rw [E.out]⟩
        case measure => simp [intOf]; omega
    · obtain rfl : k = 8 := by omega
      clear hs
      go_wp2
      go_ret
      exact ⟨rfl, rfl⟩
end
def crcTab (i : Nat) : UInt32 := s8 (UInt32.ofNat i)
def upTo (k : Nat) (tab : Nat → UInt32) : Nat → UInt32 := fun i => if i < k then crcTab i else tab i
theorem Eng.next {w : World} {g : Nat} {d m n : Int} {tab : Nat → UInt32} {k : Nat} (h : Eng w g d m (upTo k tab) n) (hk : k < 256) :
    Eng (w.setCell ⟨g, 4 + k, none⟩ (.int .u32 (n32 (s8 (UInt32.ofNat k))))) g d m (upTo (k + 1) tab) n := by
  refine (h.setTab k hk _).tabs fun i _ => ?_
  show (if i = k then s8 (UInt32.ofNat k) else upTo k tab i) = upTo (k + 1) tab i
  unfold upTo crcTab
  by_cases h1 : i = k
  · subst h1; rw [if_pos rfl, if_pos (by omega)]
  · by_cases h2 : i < k
    · rw [if_neg h1, if_pos h2, if_pos (by omega)]
    · rw [if_neg h1, if_neg h2, if_neg (by omega)]
theorem wlen32 (n : Nat) : IntKind.u32.wrap (n : Int) = n32 (UInt32.ofNat n) := by rw [IntKind.wrap_u32', len32]
section
attribute [local go_sem] len32 wlen32
set_option maxRecDepth 100000 in
set_option maxHeartbeats 400000 in
theorem fill_any (g : Nat) (w : World) {d m n : Int} {tab : Nat → UInt32} (h : Eng w g d m tab n) :
    Calls Tryz.prog 151 #[.pointer (some ⟨g, 0, none⟩)] w fun e w' => e = .returned (.tuple #[]) ∧ Eng w' g d m crcTab n ∧ Gw g w w' := by
  go_enter Tryz.func151, Tryz.ntmps151
  go_wp2
  go_loopw [3] (fun i wr => ∃ k : Nat, k ≤ 256 ∧ i = .int .i64 k ∧ Eng wr g d m (upTo k tab) n ∧ Gw g w wr) (fun i _ => 256 - (intOf i).toNat)
  case atStart => exact ⟨0, by omega, rfl, h.tabs (fun i _ => by unfold upTo; rw [if_neg (by omega)]), Gw.refl _ _⟩
  case round =>
    obtain ⟨k, hk, rfl, he, hg⟩ := hrel
    by_cases hlt : k < 256
    · have hc := he.at_ k hlt
      have hf := he.free (4 + k)
      go_wp2
      refine wp_region_still_tail 8 (by kernel_rfl) (by kernel_rfl) ?_
      simp only [List.take_succ_cons, List.take_zero, List.drop_succ_cons, List.drop_zero]
      change wpStill _ _ wr.drew (fun a' => wpList _ _ _ _ a' wr.drew) _ _
      repeat still_step
      still_call ((shiftByte_any _ _).mono fun _ _ h => ⟨h.1, h.2.symm⟩)
      repeat still_step
      try refine wpStill_nil ?_
      go_wp2
      go_roundw
      case rel => exact ⟨k + 1, by omega, by go_num, he.drew.next hlt, hg.drew.set _ _⟩
      case measure => simp [intOf]; omega
    · obtain rfl : k = 256 := by omega
      go_wp2
      go_end0
      exact ⟨rfl, he.tabs (fun i hi => by unfold upTo; rw [if_pos hi]), hg⟩
end
end Go.Proofs.YtphbaaaklgiloaaGreat.Dg

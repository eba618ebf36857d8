/- The register's way over bytes; the Once; Engine.Crc. -/
import Derived.Test.YtphbaaaklgiloaaGreatDgC
import Derived.Test.YtphbaaaklgiloaaGreatDgBs
namespace Go.Proofs.YtphbaaaklgiloaaGreat.Dg
open Go.RowKit
variable {w w' : World} {B g : Nat} {v : Value} {l : List UInt8}
theorem Bs.gw (h : Bs w B v l) (hb : Gw g w w') (hB : B ≤ w.heap.size) (hg : B ≤ g) : Bs w' B v l := h.keep fun b o hlt => hb.cells b o (by omega) (by omega)
def crcT (tab : Nat → UInt32) : UInt32 → List UInt8 → UInt32
  | r, [] => r
  | r, x :: xs => crcT tab ((r >>> 8) ^^^ tab (r.toUInt8 ^^^ x).toNat) xs
theorem crcT_snoc (tab : Nat → UInt32) (x : UInt8) : ∀ (l : List UInt8) (r : UInt32), crcT tab r (l ++ [x]) = (crcT tab r l >>> 8) ^^^ tab ((crcT tab r l).toUInt8 ^^^ x).toNat
  | [], _ => rfl
  | _ :: ys, _ => crcT_snoc tab x ys _
theorem lo8 (r : UInt32) : n32 r % (256 : Int) = n8 r.toUInt8 := by
  unfold n32 n8; rw [UInt32.toNat_toUInt8]; omega
theorem n8_toNat (y : UInt8) : (n8 y).toNat = y.toNat := by unfold n8; omega
theorem not_xor (r : UInt32) : 0xffffffff ^^^ r = ~~~ r := by
  apply UInt32.toBitVec_inj.1
  show BitVec.allOnes 32 ^^^ r.toBitVec = ~~~ r.toBitVec
  exact BitVec.allOnes_xor
theorem not32 (r : UInt32) : bits .xor .u32 IntKind.u32.max (n32 r) = n32 (~~~ r) := by
  rw [show IntKind.u32.max = n32 0xffffffff from rfl, xor32, not_xor]
section
attribute [local go_sem] lo8 xor8 xor32 shr32_8 not32
set_option maxRecDepth 100000 in
set_option maxHeartbeats 400000 in
theorem crc_nil (c g : Nat) (A : Option Addr) (w : World) :
    Calls Tryz.prog 152 #[.pointer (some ⟨g, 0, none⟩), .slice A 0 c] w fun e w' => e = .returned (.int .u32 (n32 (~~~ (crcT noTab 0xffffffff [])))) ∧ w = w' := by
  go_enter Tryz.func152, Tryz.ntmps152
  go_wp2
  refine wp_loop_rounds 1 ?_
  rw [rounds_succ]
  go_wp2
  go_ret
  exact ⟨congrArg (fun z => Ending.returned (.int .u32 z)) (by kernel_rfl), rfl⟩
set_option maxRecDepth 100000 in
set_option maxHeartbeats 400000 in
theorem crc_some (b off c g : Nat) (l : List UInt8) (hl : l.length ≤ 9223372036854775807) (w : World) {d m n : Int} {tab : Nat → UInt32} (h : Eng w g d m tab n)
    (hc : ∀ k, k < l.length → w.cell? ⟨b, off + k, none⟩ = some (.int .u8 (n8 (l.getD k 0)))) :
    Calls Tryz.prog 152 #[.pointer (some ⟨g, 0, none⟩), .slice (some ⟨b, off, none⟩) l.length c] w fun e w' => e = .returned (.int .u32 (n32 (~~~ (crcT tab 0xffffffff l)))) ∧ w = w' := by
  go_enter Tryz.func152, Tryz.ntmps152
  go_wp2
  go_loop [5, 10] (fun r i => ∃ k : Nat, k ≤ l.length ∧ i = .int .i64 k ∧ r = .int .u32 (n32 (crcT tab 0xffffffff (l.take k)))) (fun _ i => l.length - (intOf i).toNat)
  case atStart => exact ⟨0, by omega, rfl, rfl⟩
  case round =>
    obtain ⟨k, hk, rfl, rfl⟩ := hrel
    by_cases hlt : k < l.length
    · have hx := hc k hlt
      have e : crcT tab 0xffffffff (l.take (k + 1)) = (crcT tab 0xffffffff (l.take k) >>> 8) ^^^ tab ((crcT tab 0xffffffff (l.take k)).toUInt8 ^^^ l.getD k 0).toNat := by rw [take_next l k hlt]; exact crcT_snoc tab _ _ _
      have E := Lib.hid e
      clear e hc
      generalize crcT tab 0xffffffff (l.take k) = r at *
      generalize l.getD k 0 = x at *
      have y1 := n8_nn (r.toUInt8 ^^^ x)
      have y2 := n8_lt (r.toUInt8 ^^^ x)
      have hy : w.cell? ⟨g, 4 + (n8 (r.toUInt8 ^^^ x)).toNat, none⟩ = some (.int .u32 (n32 (tab (n8 (r.toUInt8 ^^^ x)).toNat))) := h.at_ _ (by omega)
      clear h
      go_wp2
      go_round
      case rel => exact ⟨k + 1, by omega, by go_num, by rw [E.out, n8_toNat]⟩
      case measure => simp [intOf]; omega
    · obtain rfl : k = l.length := by omega
      clear hc h
      rw [List.take_length]
      go_wp2
      go_ret
      exact ⟨rfl, rfl⟩
end
end Go.Proofs.YtphbaaaklgiloaaGreat.Dg

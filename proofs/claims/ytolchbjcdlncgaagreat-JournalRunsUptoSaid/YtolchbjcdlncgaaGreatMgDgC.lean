/- Texts joined: DgC DgD DgF. -/
import Derived.StillTailTactics
import Derived.Test.YtolchbjcdlncgaaGreatMgDgE
import Derived.Test.YtolchbjcdlncgaaGreatMgDgW
/- CRC-32C: the table, made once, and the register. -/
namespace Go.Proofs.YtolchbjcdlncgaaGreat.Dg
open Go.RowKit
/-- A register's next state behind one bit that falls out. -/
def s1 (r : UInt32) : UInt32 := if r &&& 1 = 1 then (r >>> 1) ^^^ 0x82f63b78 else r >>> 1
def s1n (r : UInt32) : Nat → UInt32
  | 0 => r
  | k + 1 => s1 (s1n r k)
def s8 (r : UInt32) : UInt32 := s1n r 8
theorem and1 (r : UInt32) : bits .and .u32 (n32 r) 1 = n32 (r &&& 1) := by
  rw [show (1 : Int) = n32 1 from rfl, and32]
theorem xorP (r : UInt32) : bits .xor .u32 (n32 r) 2197175160 = n32 (r ^^^ 0x82f63b78) := by
  rw [show (2197175160 : Int) = n32 0x82f63b78 from rfl, xor32]
theorem is1 (r : UInt32) : (n32 r == 1) = decide (r = 1) := by
  rw [show (1 : Int) = n32 1 from rfl, n32_beq]; rfl
section
attribute [local go_sem] and1 xorP shr32_1
set_option maxHeartbeats 400000 in
theorem shiftByte_any (r : UInt32) (w : World) :
    Calls Tryz.prog 93 #[.int .u32 (n32 r)] w fun e w' => e = .returned (.int .u32 (n32 (s8 r))) ∧ w = w' := by
  go_enter Tryz.func93, Tryz.ntmps93
  go_wp2
  go_loop [0, 4] (fun x i => ∃ k : Nat, k ≤ 8 ∧ i = .int .i64 k ∧ x = .int .u32 (n32 (s1n r k))) (fun _ i => 8 - (intOf i).toNat)
  case atStart => exact ⟨0, by omega, rfl, rfl⟩
  case round =>
    obtain ⟨k, hk, rfl, rfl⟩ := hrel
    have hs : s1n r (k + 1) = s1 (s1n r k) := rfl
    by_cases hlt : k < 8
    · by_cases hx : s1n r k &&& 1 = 1
      · have e : s1n r (k + 1) = (s1n r k >>> 1) ^^^ 0x82f63b78 := by rw [hs]; unfold s1; rw [if_pos hx]
        have hb : (n32 (s1n r k &&& 1) == 1) = true := by rw [is1, hx]; rfl
        have E := Lib.hid e
        clear hs hx e
        generalize s1n r k = x at *
        go_wp2
        go_round
        case rel => exact ⟨k + 1, by omega, by go_num, by rw [E.out]⟩
        case measure => simp [intOf]; omega
      · have e : s1n r (k + 1) = s1n r k >>> 1 := by rw [hs]; unfold s1; rw [if_neg hx]
        have hb : (n32 (s1n r k &&& 1) == 1) = false := by rw [is1]; exact decide_eq_false hx
        have E := Lib.hid e
        clear hs hx e
        generalize s1n r k = x at *
        go_wp2
        go_round
        case rel => exact ⟨k + 1, by omega, by go_num, by rw [E.out]⟩
        case measure => simp [intOf]; omega
    · obtain rfl : k = 8 := by omega
      clear hs
      go_wp2
      go_ret
      exact ⟨rfl, rfl⟩
end
def crcTab (i : Nat) : UInt32 := s8 (UInt32.ofNat i)
def upTo (k : Nat) (tab : Nat → UInt32) : Nat → UInt32 := fun i => if i < k then crcTab i else tab i
theorem Eng.next {w : World} {g : Nat} {d m n : Int} {tab : Nat → UInt32} {k : Nat} (h : Eng w g d m (upTo k tab) n) (hk : k < 256) :
    Eng (w.setCell ⟨g, 4 + k, none⟩ (.int .u32 (n32 (s8 (UInt32.ofNat k))))) g d m (upTo (k + 1) tab) n := by
  refine (h.setTab k hk _).tabs fun i _ => ?_
  show (if i = k then s8 (UInt32.ofNat k) else upTo k tab i) = upTo (k + 1) tab i
  unfold upTo crcTab
  by_cases h1 : i = k
  · subst h1; rw [if_pos rfl, if_pos (by omega)]
  · by_cases h2 : i < k
    · rw [if_neg h1, if_pos h2, if_pos (by omega)]
    · rw [if_neg h1, if_neg h2, if_neg (by omega)]
theorem wlen32 (n : Nat) : IntKind.u32.wrap (n : Int) = n32 (UInt32.ofNat n) := by rw [IntKind.wrap_u32', len32]
section
attribute [local go_sem] len32 wlen32
set_option maxRecDepth 100000 in
set_option maxHeartbeats 400000 in
theorem fill_any (g : Nat) (w : World) {d m n : Int} {tab : Nat → UInt32} (h : Eng w g d m tab n) :
    Calls Tryz.prog 86 #[.pointer (some ⟨g, 0, none⟩)] w fun e w' => e = .returned (.tuple #[]) ∧ Eng w' g d m crcTab n ∧ Gw g w w' := by
  go_enter Tryz.func86, Tryz.ntmps86
  go_wp2
  go_loopw [3] (fun i wr => ∃ k : Nat, k ≤ 256 ∧ i = .int .i64 k ∧ Eng wr g d m (upTo k tab) n ∧ Gw g w wr) (fun i _ => 256 - (intOf i).toNat)
  case atStart => exact ⟨0, by omega, rfl, h.tabs (fun i _ => by unfold upTo; rw [if_neg (by omega)]), Gw.refl _ _⟩
  case round =>
    obtain ⟨k, hk, rfl, he, hg⟩ := hrel
    by_cases hlt : k < 256
    · have hc := he.at_ k hlt
      have hf := he.free (4 + k)
      go_wp2
      refine wp_region_still_tail 8 (by kernel_rfl) (by kernel_rfl) ?_
      simp only [List.take_succ_cons, List.take_zero, List.drop_succ_cons, List.drop_zero]
      change wpStill _ _ wr.drew (fun a' => wpList _ _ _ _ a' wr.drew) _ _
      repeat still_step
      still_call ((shiftByte_any _ _).mono fun _ _ h => ⟨h.1, h.2.symm⟩)
      repeat still_step
      try refine wpStill_nil ?_
      go_wp2
      go_roundw
      case rel => exact ⟨k + 1, by omega, by go_num, he.drew.next hlt, hg.drew.set _ _⟩
      case measure => simp [intOf]; omega
    · obtain rfl : k = 256 := by omega
      go_wp2
      go_end0
      exact ⟨rfl, he.tabs (fun i hi => by unfold upTo; rw [if_pos hi]), hg⟩
end
end Go.Proofs.YtolchbjcdlncgaaGreat.Dg

/- The register's way over bytes; the Once; Engine.Crc. -/
namespace Go.Proofs.YtolchbjcdlncgaaGreat.Dg
open Go.RowKit
variable {w w' : World} {B g : Nat} {v : Value} {l : List UInt8}
theorem Bs.gw (h : Bs w B v l) (hb : Gw g w w') (hB : B ≤ w.heap.size) (hg : B ≤ g) : Bs w' B v l := h.keep fun b o hlt => hb.cells b o (by omega) (by omega)
def crcT (tab : Nat → UInt32) : UInt32 → List UInt8 → UInt32
  | r, [] => r
  | r, x :: xs => crcT tab ((r >>> 8) ^^^ tab (r.toUInt8 ^^^ x).toNat) xs
theorem crcT_snoc (tab : Nat → UInt32) (x : UInt8) : ∀ (l : List UInt8) (r : UInt32), crcT tab r (l ++ [x]) = (crcT tab r l >>> 8) ^^^ tab ((crcT tab r l).toUInt8 ^^^ x).toNat
  | [], _ => rfl
  | _ :: ys, _ => crcT_snoc tab x ys _
theorem lo8 (r : UInt32) : n32 r % (256 : Int) = n8 r.toUInt8 := by
  unfold n32 n8; rw [UInt32.toNat_toUInt8]; omega
theorem n8_toNat (y : UInt8) : (n8 y).toNat = y.toNat := by unfold n8; omega
theorem not_xor (r : UInt32) : 0xffffffff ^^^ r = ~~~ r := by
  apply UInt32.toBitVec_inj.1
  show BitVec.allOnes 32 ^^^ r.toBitVec = ~~~ r.toBitVec
  exact BitVec.allOnes_xor
theorem not32 (r : UInt32) : bits .xor .u32 IntKind.u32.max (n32 r) = n32 (~~~ r) := by
  rw [show IntKind.u32.max = n32 0xffffffff from rfl, xor32, not_xor]
section
attribute [local go_sem] lo8 xor8 xor32 shr32_8 not32
set_option maxRecDepth 100000 in
set_option maxHeartbeats 400000 in
theorem crc_nil (c g : Nat) (A : Option Addr) (w : World) :
    Calls Tryz.prog 87 #[.pointer (some ⟨g, 0, none⟩), .slice A 0 c] w fun e w' => e = .returned (.int .u32 (n32 (~~~ (crcT noTab 0xffffffff [])))) ∧ w = w' := by
  go_enter Tryz.func87, Tryz.ntmps87
  go_wp2
  refine wp_loop_rounds 1 ?_
  rw [rounds_succ]
  go_wp2
  go_ret
  exact ⟨congrArg (fun z => Ending.returned (.int .u32 z)) (by kernel_rfl), rfl⟩
set_option maxRecDepth 100000 in
set_option maxHeartbeats 400000 in
theorem crc_some (b off c g : Nat) (l : List UInt8) (hl : l.length ≤ 9223372036854775807) (w : World) {d m n : Int} {tab : Nat → UInt32} (h : Eng w g d m tab n)
    (hc : ∀ k, k < l.length → w.cell? ⟨b, off + k, none⟩ = some (.int .u8 (n8 (l.getD k 0)))) :
    Calls Tryz.prog 87 #[.pointer (some ⟨g, 0, none⟩), .slice (some ⟨b, off, none⟩) l.length c] w fun e w' => e = .returned (.int .u32 (n32 (~~~ (crcT tab 0xffffffff l)))) ∧ w = w' := by
  go_enter Tryz.func87, Tryz.ntmps87
  go_wp2
  go_loop [5, 10] (fun r i => ∃ k : Nat, k ≤ l.length ∧ i = .int .i64 k ∧ r = .int .u32 (n32 (crcT tab 0xffffffff (l.take k)))) (fun _ i => l.length - (intOf i).toNat)
  case atStart => exact ⟨0, by omega, rfl, rfl⟩
  case round =>
    obtain ⟨k, hk, rfl, rfl⟩ := hrel
    by_cases hlt : k < l.length
    · have hx := hc k hlt
      have e : crcT tab 0xffffffff (l.take (k + 1)) = (crcT tab 0xffffffff (l.take k) >>> 8) ^^^ tab ((crcT tab 0xffffffff (l.take k)).toUInt8 ^^^ l.getD k 0).toNat := by rw [take_next l k hlt]; exact crcT_snoc tab _ _ _
      have E := Lib.hid e
      clear e hc
      generalize crcT tab 0xffffffff (l.take k) = r at *
      generalize l.getD k 0 = x at *
      have y1 := n8_nn (r.toUInt8 ^^^ x)
      have y2 := n8_lt (r.toUInt8 ^^^ x)
      have hy : w.cell? ⟨g, 4 + (n8 (r.toUInt8 ^^^ x)).toNat, none⟩ = some (.int .u32 (n32 (tab (n8 (r.toUInt8 ^^^ x)).toNat))) := h.at_ _ (by omega)
      clear h
      go_wp2
      go_round
      case rel => exact ⟨k + 1, by omega, by go_num, by rw [E.out, n8_toNat]⟩
      case measure => simp [intOf]; omega
    · obtain rfl : k = l.length := by omega
      clear hc h
      rw [List.take_length]
      go_wp2
      go_ret
      exact ⟨rfl, rfl⟩
end
end Go.Proofs.YtolchbjcdlncgaaGreat.Dg

/- The Once in an engine, one goroutine: the table is made by whoever asks first. -/
namespace Go.Proofs.YtolchbjcdlncgaaGreat.Dg
open Go.RowKit
theorem m_disable (w : World) : (callFunc 103 #[]).run Tryz.prog w = .ok (.value (.tuple #[])) w := run_call_mark0 Tryz.func103 (by kernel_rfl) (by kernel_rfl) (by kernel_rfl) .disable (by kernel_rfl) w
theorem m_enable (w : World) : (callFunc 105 #[]).run Tryz.prog w = .ok (.value (.tuple #[])) w := run_call_mark0 Tryz.func105 (by kernel_rfl) (by kernel_rfl) (by kernel_rfl) .enable (by kernel_rfl) w
theorem m_acquire (a : Addr) (w : World) : (callFunc 106 #[.pointer (some a)]).run Tryz.prog w = .ok (.value (.tuple #[])) w := run_call_marked Tryz.func106 (by kernel_rfl) (by kernel_rfl) (by kernel_rfl) .acquire (by kernel_rfl) a w
theorem m_release (a : Addr) (w : World) : (callFunc 108 #[.pointer (some a)]).run Tryz.prog w = .ok (.value (.tuple #[])) w := run_call_marked Tryz.func108 (by kernel_rfl) (by kernel_rfl) (by kernel_rfl) .releaseMerge (by kernel_rfl) a w
theorem m_not (x : Bool) (w : World) : (Op.unary .not (.bool x)).run Tryz.prog w = .ok (.bool (!x)) w := rfl
theorem m_fun (fn : Fn) (first cap : Array Value) (w : World) : (Instr.makeFunc fn first cap).run Tryz.prog w = .ok (.func fn first cap) w := rfl

/-- The done mark is stored, as a deferred call. -/
theorem stored (a : Addr) (x : Value) (u : FrameMode) (w : World) (hc : w.cell? a = some x) (hz : w.frozen? a = false) :
    CallsD Tryz.prog 98 #[.pointer (some a), .bool true] u w fun e u' w' => u' = u ∧ (e = .returned (.tuple #[]) ∧ w' = w.drew.setCell a (.int .u32 1)) := by
  have hc' : w.drew.cell? a = some x := by go_simp
  have hz' : w.drew.frozen? a = false := by go_simp
  have hst := run_call_store (P := Tryz.prog) Tryz.func101 (by kernel_rfl) (by kernel_rfl) (by kernel_rfl) (by kernel_rfl) (k := .u32) (y := 1) hc' hz'
  go_enter_d Tryz.func98, Tryz.ntmps98
  go_wp2
  go_region_calls
  all_goals (go_end0; exact ⟨rfl, rfl⟩)
set_option maxRecDepth 100000 in
/-- The lock is let go, as a deferred call. -/
theorem unlocked (a : Addr) (u : FrameMode) (w : World) (hc : w.cell? a = some (.int .i32 1)) (hz : w.frozen? a = false) :
    CallsD Tryz.prog 97 #[.pointer (some a)] u w fun e u' w' => u' = u ∧ (e = .returned (.tuple #[]) ∧ w' = w.setCell a (.int .i32 0)) := by
  have hd := m_disable
  have he := m_enable
  have hr := m_release
  have hadd := run_call_add (P := Tryz.prog) Tryz.func109 (by kernel_rfl) (by kernel_rfl) (by kernel_rfl) .i32 (by kernel_rfl) (y := -1) (s := 0) hc hz (by simp [go_sem]; rfl)
  have hcv := run_convert_to_unsafe (P := Tryz.prog) (src := 161) (dst := 165) Tryz.underlying161 Tryz.underlying165 (by kernel_rfl) hc
  go_enter_d Tryz.func97, Tryz.ntmps97
  go_wp2
  go_end0
  go_wp2
  go_end0
  exact ⟨rfl, rfl⟩
set_option maxRecDepth 100000 in
/-- The lock is taken, nobody holding it. -/
theorem locked (a : Addr) (w : World) (hc : w.cell? a = some (.int .i32 0)) (hz : w.frozen? a = false) :
    Calls Tryz.prog 96 #[.pointer (some a)] w fun e w' => e = .returned (.tuple #[]) ∧ w.setCell a (.int .i32 1) = w' := by
  have hd := m_disable
  have he := m_enable
  have ha := m_acquire
  have hcas := run_call_cas_hit (P := Tryz.prog) Tryz.func104 (by kernel_rfl) (by kernel_rfl) (by kernel_rfl) .i32 (by kernel_rfl) (y := 1) hc hz
  have hc' : (w.setCell a (.int .i32 1)).cell? a = some (.int .i32 1) := World.cell?_setCell_same w a _ hc
  have hcv := run_convert_to_unsafe (P := Tryz.prog) (src := 161) (dst := 165) Tryz.underlying161 Tryz.underlying165 (by kernel_rfl) hc'
  go_enter Tryz.func96, Tryz.ntmps96
  go_wp2
  first | go_end0 | (simp only [Exit.inBlock, Exit.then]; refine bodyPost_ret (results_none rfl _ _ _) rfl ?_) | refine bodyPost_ret (results_none rfl _ _ _) rfl ?_
  go_wp2
  go_end0
  exact ⟨rfl, rfl⟩
end Go.Proofs.YtolchbjcdlncgaaGreat.Dg

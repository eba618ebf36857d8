/- ending: what stands behind the last whole block. -/
import Derived.Test.YtpikhfgpdebomaaDoorDgS
namespace Go.Proofs.YtpikhfgpdebomaaDoor.Dg
open Go.RowKit
theorem shr_nat64 (a : UInt64) (k : Nat) (hk : k < 64) : (a >>> (UInt64.ofNat k)).toNat = a.toNat / 2 ^ k := by
  rw [UInt64.toNat_shiftRight, UInt64.toNat_ofNat', Nat.shiftRight_eq_div_pow, Nat.mod_eq_of_lt (by omega : k < 2 ^ 64), Nat.mod_eq_of_lt hk]
/-- Byte k of a number, the lowest one first. -/
def lb (x : UInt64) (k : Nat) : UInt8 := (x >>> UInt64.ofNat (8 * k)).toUInt8
theorem lb_0 (x : UInt64) : n64 x % (256 : Int) = n8 (lb x 0) := by
  unfold n64 n8 lb; rw [UInt64.toNat_toUInt8, shr_nat64 x (8 * 0) (by omega)]; omega
theorem lb_1 (x : UInt64) : n64 x / (256 : Int) % (256 : Int) = n8 (lb x 1) := by
  unfold n64 n8 lb; rw [UInt64.toNat_toUInt8, shr_nat64 x (8 * 1) (by omega)]; omega
theorem lb_2 (x : UInt64) : n64 x / (65536 : Int) % (256 : Int) = n8 (lb x 2) := by
  unfold n64 n8 lb; rw [UInt64.toNat_toUInt8, shr_nat64 x (8 * 2) (by omega)]; omega
theorem lb_3 (x : UInt64) : n64 x / (16777216 : Int) % (256 : Int) = n8 (lb x 3) := by
  unfold n64 n8 lb; rw [UInt64.toNat_toUInt8, shr_nat64 x (8 * 3) (by omega)]; omega
theorem lb_4 (x : UInt64) : n64 x / (4294967296 : Int) % (256 : Int) = n8 (lb x 4) := by
  unfold n64 n8 lb; rw [UInt64.toNat_toUInt8, shr_nat64 x (8 * 4) (by omega)]; omega
theorem lb_5 (x : UInt64) : n64 x / (1099511627776 : Int) % (256 : Int) = n8 (lb x 5) := by
  unfold n64 n8 lb; rw [UInt64.toNat_toUInt8, shr_nat64 x (8 * 5) (by omega)]; omega
theorem lb_6 (x : UInt64) : n64 x / (281474976710656 : Int) % (256 : Int) = n8 (lb x 6) := by
  unfold n64 n8 lb; rw [UInt64.toNat_toUInt8, shr_nat64 x (8 * 6) (by omega)]; omega
theorem lb_7 (x : UInt64) : n64 x / (72057594037927936 : Int) % (256 : Int) = n8 (lb x 7) := by
  unfold n64 n8 lb; rw [UInt64.toNat_toUInt8, shr_nat64 x (8 * 7) (by omega)]; omega
theorem mul8_64 (n : Nat) : (n : Int) * 8 % (18446744073709551616 : Int) = n64 (UInt64.ofNat n * 8) := by
  unfold n64; rw [UInt64.toNat_mul, UInt64.toNat_ofNat']
  have : (8 : UInt64).toNat = 8 := rfl
  rw [this]; omega
theorem wlen64 (n : Nat) : IntKind.u64.wrap (n : Int) = n64 (UInt64.ofNat n) := by
  rw [IntKind.wrap_u64]; unfold n64; rw [UInt64.toNat_ofNat']; omega
theorem mul8w (x : UInt64) : IntKind.u64.wrap (n64 x * 8) = n64 (x * 8) := by
  rw [IntKind.wrap_u64]; unfold n64; rw [UInt64.toNat_mul]; have : (8 : UInt64).toNat = 8 := rfl; rw [this]; omega
theorem lbw_0 (x : UInt64) : IntKind.u8.wrap (n64 x) = n8 (lb x 0) := by rw [IntKind.wrap_u8', lb_0]
theorem lbw_1 (x : UInt64) : IntKind.u8.wrap (n64 x / (256 : Int)) = n8 (lb x 1) := by rw [IntKind.wrap_u8', lb_1]
theorem lbw_2 (x : UInt64) : IntKind.u8.wrap (n64 x / (65536 : Int)) = n8 (lb x 2) := by rw [IntKind.wrap_u8', lb_2]
theorem lbw_3 (x : UInt64) : IntKind.u8.wrap (n64 x / (16777216 : Int)) = n8 (lb x 3) := by rw [IntKind.wrap_u8', lb_3]
theorem lbw_4 (x : UInt64) : IntKind.u8.wrap (n64 x / (4294967296 : Int)) = n8 (lb x 4) := by rw [IntKind.wrap_u8', lb_4]
theorem lbw_5 (x : UInt64) : IntKind.u8.wrap (n64 x / (1099511627776 : Int)) = n8 (lb x 5) := by rw [IntKind.wrap_u8', lb_5]
theorem lbw_6 (x : UInt64) : IntKind.u8.wrap (n64 x / (281474976710656 : Int)) = n8 (lb x 6) := by rw [IntKind.wrap_u8', lb_6]
theorem lbw_7 (x : UInt64) : IntKind.u8.wrap (n64 x / (72057594037927936 : Int)) = n8 (lb x 7) := by rw [IntKind.wrap_u8', lb_7]
/-- The byte at place j of the last n bytes: what is left, the mark, noughts, the length (k bytes of it). -/
def enB (l : List UInt8) (x : UInt64) (n k j : Nat) : UInt8 := if n - k ≤ j then lb x (n - 1 - j) else if j = l.length then 0x80 else l.getD j 0
def enL (l : List UInt8) (x : UInt64) (n : Nat) : List UInt8 := (List.range n).map (enB l x n 8)
theorem enB_0 (l : List UInt8) (x : UInt64) (n j : Nat) (hj : j < n) : (if j = l.length then (128 : UInt8) else l.getD j 0) = enB l x n 0 j := by
  have h3 : ¬ n - 0 ≤ j := by omega
  unfold enB; simp only [if_neg h3]
theorem enB_next (l : List UInt8) (x : UInt64) (n k j : Nat) (hk : k < n) (hj : j < n) : (if j = n - 1 - k then lb x k else enB l x n k j) = enB l x n (k + 1) j := by
  unfold enB
  by_cases h : j = n - 1 - k
  · rw [if_pos h, if_pos (by omega), show n - 1 - j = k by omega]
  · by_cases h2 : n - k ≤ j
    · rw [if_neg h, if_pos h2, if_pos (by omega)]
    · have h3 : ¬ n - (k + 1) ≤ j := by omega
      simp only [if_neg h, if_neg h2, if_neg h3]
section
attribute [local go_sem] wlen64 mul8w lbw_0 lbw_1 lbw_2 lbw_3 lbw_4 lbw_5 lbw_6 lbw_7 lb_0 lb_1 lb_2 lb_3 lb_4 lb_5 lb_6 lb_7 mul8_64
set_option maxRecDepth 100000 in
set_option maxHeartbeats 1600000 in
theorem ending_64 (v : Value) (l : List UInt8) (hl : l.length < 56) (size : Nat) (w : World) (hv : Bs w w.heap.size v l) :
    Calls Tryd.prog 31 #[v, .int .i64 size] w fun e w' => ∃ ds, e = .returned (.slice (some ⟨w.heap.size, 0, none⟩) 64 64) ∧ Bk w' w.heap.size 5 ds ∧ U8s ds 64 (enB l (UInt64.ofNat size * 8) 64 8) ∧ Ab w w' := by
  have hmk : ∀ w : World, (Instr.makeSlice 22 (.int .i64 64) (.int .i64 64)).run Tryd.prog w = .ok (.slice (some ⟨w.heap.size, 0, none⟩) 64 64) (w.alloc (.cells (Array.replicate 64 (.int .u8 0)) 5)) := fun _ => by kernel_rfl
  obtain ⟨A, c, rfl, r1, r2, r3⟩ := id hv
  clear r3
  have hv1 : ∀ o : Obj, Bs (w.alloc o) w.heap.size (.slice A l.length c) l := fun o => hv.ab ((Ab.refl w).alloc o) (Nat.le_refl _)
  have HV1 := Lib.hid hv1
  clear hv1 hv
  go_enter Tryd.func31, Tryd.ntmps31
  go_wp2_with (first | ((with_reducible refine wpList_copy_bs rfl (.tmp 16) (.tmp 17) _ _ rfl 5 Tryd.underlying22 (by kernel_rfl) w.heap.size 64 64 rfl _ rfl l w.heap.size (HV1.out _) _ 5 (Bk.made _ _ _) (zeros8' (by kernel_rfl)) ?_); intro w2 ds hd hds hg; have hab2 : Ab w w2 := hg.ab ((Ab.refl w).alloc _) (Nat.le_refl _); have hcl := hd.cell (hds.2 l.length (by omega)); have hfr := hd.free l.length; clear hg))
  have hs0 := hd.store l.length (.int .u8 (n8 128))
  have hu0 : U8s _ 64 (enB l (UInt64.ofNat size * 8) 64 0) := (hds.set l.length 128).eqv fun j hj => enB_0 l _ 64 j hj
  have ha0 := hab2.set (p := ⟨w.heap.size, l.length, none⟩) (Nat.le_refl _) (.int .u8 (n8 128))
  clear hd hds hab2 hcl hfr hmk HV1
  generalize hx : UInt64.ofNat size * 8 = x at *
  have HX := Lib.hid hx
  clear hx
  go_loopw [26] (fun i wr => ∃ (k : Nat) (cur : Array Value), k ≤ 8 ∧ i = .int .i64 k ∧ Bk wr w.heap.size 5 cur ∧ U8s cur 64 (enB l x 64 k) ∧ Ab w wr) (fun i _ => 8 - (intOf i).toNat)
  case atStart => exact ⟨0, _, by omega, rfl, hs0, hu0, ha0⟩
  case round =>
    clear hs0 hu0 ha0
    obtain ⟨k, cur, hk, rfl, hbk, hu, ha⟩ := hrel
    by_cases hlt : k < 8
    · have h8 : k = 0 ∨ k = 1 ∨ k = 2 ∨ k = 3 ∨ k = 4 ∨ k = 5 ∨ k = 6 ∨ k = 7 := by omega
      clear hlt hk
      rcases h8 with rfl | rfl | rfl | rfl | rfl | rfl | rfl | rfl
      · have hf := hbk.free 63
        have hcl := hbk.cell (hu.2 63 (by omega))
        have hs := hbk.store 63 (.int .u8 (n8 (lb x 0)))
        have hu2 : U8s _ 64 (enB l x 64 1) := (hu.set 63 (lb x 0)).eqv fun j hj => enB_next l x 64 0 j (by omega) hj
        have ha2 := ha.set (p := ⟨w.heap.size, 63, none⟩) (Nat.le_refl _) (.int .u8 (n8 (lb x 0)))
        clear hbk hu ha
        go_wp2
        go_roundw
        case rel => exact ⟨1, _, by omega, by go_num, hs, hu2, ha2⟩
        case measure => simp [intOf]
      · have hf := hbk.free 62
        have hcl := hbk.cell (hu.2 62 (by omega))
        have hs := hbk.store 62 (.int .u8 (n8 (lb x 1)))
        have hu2 : U8s _ 64 (enB l x 64 2) := (hu.set 62 (lb x 1)).eqv fun j hj => enB_next l x 64 1 j (by omega) hj
        have ha2 := ha.set (p := ⟨w.heap.size, 62, none⟩) (Nat.le_refl _) (.int .u8 (n8 (lb x 1)))
        clear hbk hu ha
        go_wp2
        go_roundw
        case rel => exact ⟨2, _, by omega, by go_num, hs, hu2, ha2⟩
        case measure => simp [intOf]
      · have hf := hbk.free 61
        have hcl := hbk.cell (hu.2 61 (by omega))
        have hs := hbk.store 61 (.int .u8 (n8 (lb x 2)))
        have hu2 : U8s _ 64 (enB l x 64 3) := (hu.set 61 (lb x 2)).eqv fun j hj => enB_next l x 64 2 j (by omega) hj
        have ha2 := ha.set (p := ⟨w.heap.size, 61, none⟩) (Nat.le_refl _) (.int .u8 (n8 (lb x 2)))
        clear hbk hu ha
        go_wp2
        go_roundw
        case rel => exact ⟨3, _, by omega, by go_num, hs, hu2, ha2⟩
        case measure => simp [intOf]
      · have hf := hbk.free 60
        have hcl := hbk.cell (hu.2 60 (by omega))
        have hs := hbk.store 60 (.int .u8 (n8 (lb x 3)))
        have hu2 : U8s _ 64 (enB l x 64 4) := (hu.set 60 (lb x 3)).eqv fun j hj => enB_next l x 64 3 j (by omega) hj
        have ha2 := ha.set (p := ⟨w.heap.size, 60, none⟩) (Nat.le_refl _) (.int .u8 (n8 (lb x 3)))
        clear hbk hu ha
        go_wp2
        go_roundw
        case rel => exact ⟨4, _, by omega, by go_num, hs, hu2, ha2⟩
        case measure => simp [intOf]
      · have hf := hbk.free 59
        have hcl := hbk.cell (hu.2 59 (by omega))
        have hs := hbk.store 59 (.int .u8 (n8 (lb x 4)))
        have hu2 : U8s _ 64 (enB l x 64 5) := (hu.set 59 (lb x 4)).eqv fun j hj => enB_next l x 64 4 j (by omega) hj
        have ha2 := ha.set (p := ⟨w.heap.size, 59, none⟩) (Nat.le_refl _) (.int .u8 (n8 (lb x 4)))
        clear hbk hu ha
        go_wp2
        go_roundw
        case rel => exact ⟨5, _, by omega, by go_num, hs, hu2, ha2⟩
        case measure => simp [intOf]
      · have hf := hbk.free 58
        have hcl := hbk.cell (hu.2 58 (by omega))
        have hs := hbk.store 58 (.int .u8 (n8 (lb x 5)))
        have hu2 : U8s _ 64 (enB l x 64 6) := (hu.set 58 (lb x 5)).eqv fun j hj => enB_next l x 64 5 j (by omega) hj
        have ha2 := ha.set (p := ⟨w.heap.size, 58, none⟩) (Nat.le_refl _) (.int .u8 (n8 (lb x 5)))
        clear hbk hu ha
        go_wp2
        go_roundw
        case rel => exact ⟨6, _, by omega, by go_num, hs, hu2, ha2⟩
        case measure => simp [intOf]
      · have hf := hbk.free 57
        have hcl := hbk.cell (hu.2 57 (by omega))
        have hs := hbk.store 57 (.int .u8 (n8 (lb x 6)))
        have hu2 : U8s _ 64 (enB l x 64 7) := (hu.set 57 (lb x 6)).eqv fun j hj => enB_next l x 64 6 j (by omega) hj
        have ha2 := ha.set (p := ⟨w.heap.size, 57, none⟩) (Nat.le_refl _) (.int .u8 (n8 (lb x 6)))
        clear hbk hu ha
        go_wp2
        go_roundw
        case rel => exact ⟨7, _, by omega, by go_num, hs, hu2, ha2⟩
        case measure => simp [intOf]
      · have hf := hbk.free 56
        have hcl := hbk.cell (hu.2 56 (by omega))
        have hs := hbk.store 56 (.int .u8 (n8 (lb x 7)))
        have hu2 : U8s _ 64 (enB l x 64 8) := (hu.set 56 (lb x 7)).eqv fun j hj => enB_next l x 64 7 j (by omega) hj
        have ha2 := ha.set (p := ⟨w.heap.size, 56, none⟩) (Nat.le_refl _) (.int .u8 (n8 (lb x 7)))
        clear hbk hu ha
        go_wp2
        go_roundw
        case rel => exact ⟨8, _, by omega, by go_num, hs, hu2, ha2⟩
        case measure => simp [intOf]
    · obtain rfl : k = 8 := by omega
      go_wp2
      go_ret
      exact ⟨cur, rfl, hbk, by rw [HX.out]; exact hu, ha⟩
end
section
attribute [local go_sem] wlen64 mul8w lbw_0 lbw_1 lbw_2 lbw_3 lbw_4 lbw_5 lbw_6 lbw_7 lb_0 lb_1 lb_2 lb_3 lb_4 lb_5 lb_6 lb_7 mul8_64
set_option maxRecDepth 100000 in
set_option maxHeartbeats 1600000 in
theorem ending_128 (v : Value) (l : List UInt8) (hl : 56 ≤ l.length) (hl2 : l.length < 64) (size : Nat) (w : World) (hv : Bs w w.heap.size v l) :
    Calls Tryd.prog 31 #[v, .int .i64 size] w fun e w' => ∃ ds, e = .returned (.slice (some ⟨w.heap.size, 0, none⟩) 128 128) ∧ Bk w' w.heap.size 5 ds ∧ U8s ds 128 (enB l (UInt64.ofNat size * 8) 128 8) ∧ Ab w w' := by
  have hmk : ∀ w : World, (Instr.makeSlice 22 (.int .i64 128) (.int .i64 128)).run Tryd.prog w = .ok (.slice (some ⟨w.heap.size, 0, none⟩) 128 128) (w.alloc (.cells (Array.replicate 128 (.int .u8 0)) 5)) := fun _ => by kernel_rfl
  obtain ⟨A, c, rfl, r1, r2, r3⟩ := id hv
  clear r3
  have hv1 : ∀ o : Obj, Bs (w.alloc o) w.heap.size (.slice A l.length c) l := fun o => hv.ab ((Ab.refl w).alloc o) (Nat.le_refl _)
  have HV1 := Lib.hid hv1
  clear hv1 hv
  go_enter Tryd.func31, Tryd.ntmps31
  go_wp2_with (first | ((with_reducible refine wpList_copy_bs rfl (.tmp 16) (.tmp 17) _ _ rfl 5 Tryd.underlying22 (by kernel_rfl) w.heap.size 128 128 rfl _ rfl l w.heap.size (HV1.out _) _ 5 (Bk.made _ _ _) (zeros8' (by kernel_rfl)) ?_); intro w2 ds hd hds hg; have hab2 : Ab w w2 := hg.ab ((Ab.refl w).alloc _) (Nat.le_refl _); have hcl := hd.cell (hds.2 l.length (by omega)); have hfr := hd.free l.length; clear hg))
  have hs0 := hd.store l.length (.int .u8 (n8 128))
  have hu0 : U8s _ 128 (enB l (UInt64.ofNat size * 8) 128 0) := (hds.set l.length 128).eqv fun j hj => enB_0 l _ 128 j hj
  have ha0 := hab2.set (p := ⟨w.heap.size, l.length, none⟩) (Nat.le_refl _) (.int .u8 (n8 128))
  clear hd hds hab2 hcl hfr hmk HV1
  generalize hx : UInt64.ofNat size * 8 = x at *
  have HX := Lib.hid hx
  clear hx
  go_loopw [26] (fun i wr => ∃ (k : Nat) (cur : Array Value), k ≤ 8 ∧ i = .int .i64 k ∧ Bk wr w.heap.size 5 cur ∧ U8s cur 128 (enB l x 128 k) ∧ Ab w wr) (fun i _ => 8 - (intOf i).toNat)
  case atStart => exact ⟨0, _, by omega, rfl, hs0, hu0, ha0⟩
  case round =>
    clear hs0 hu0 ha0
    obtain ⟨k, cur, hk, rfl, hbk, hu, ha⟩ := hrel
    by_cases hlt : k < 8
    · have h8 : k = 0 ∨ k = 1 ∨ k = 2 ∨ k = 3 ∨ k = 4 ∨ k = 5 ∨ k = 6 ∨ k = 7 := by omega
      clear hlt hk
      rcases h8 with rfl | rfl | rfl | rfl | rfl | rfl | rfl | rfl
      · have hf := hbk.free 127
        have hcl := hbk.cell (hu.2 127 (by omega))
        have hs := hbk.store 127 (.int .u8 (n8 (lb x 0)))
        have hu2 : U8s _ 128 (enB l x 128 1) := (hu.set 127 (lb x 0)).eqv fun j hj => enB_next l x 128 0 j (by omega) hj
        have ha2 := ha.set (p := ⟨w.heap.size, 127, none⟩) (Nat.le_refl _) (.int .u8 (n8 (lb x 0)))
        clear hbk hu ha
        go_wp2
        go_roundw
        case rel => exact ⟨1, _, by omega, by go_num, hs, hu2, ha2⟩
        case measure => simp [intOf]
      · have hf := hbk.free 126
        have hcl := hbk.cell (hu.2 126 (by omega))
        have hs := hbk.store 126 (.int .u8 (n8 (lb x 1)))
        have hu2 : U8s _ 128 (enB l x 128 2) := (hu.set 126 (lb x 1)).eqv fun j hj => enB_next l x 128 1 j (by omega) hj
        have ha2 := ha.set (p := ⟨w.heap.size, 126, none⟩) (Nat.le_refl _) (.int .u8 (n8 (lb x 1)))
        clear hbk hu ha
        go_wp2
        go_roundw
        case rel => exact ⟨2, _, by omega, by go_num, hs, hu2, ha2⟩
        case measure => simp [intOf]
      · have hf := hbk.free 125
        have hcl := hbk.cell (hu.2 125 (by omega))
        have hs := hbk.store 125 (.int .u8 (n8 (lb x 2)))
        have hu2 : U8s _ 128 (enB l x 128 3) := (hu.set 125 (lb x 2)).eqv fun j hj => enB_next l x 128 2 j (by omega) hj
        have ha2 := ha.set (p := ⟨w.heap.size, 125, none⟩) (Nat.le_refl _) (.int .u8 (n8 (lb x 2)))
        clear hbk hu ha
        go_wp2
        go_roundw
        case rel => exact ⟨3, _, by omega, by go_num, hs, hu2, ha2⟩
        case measure => simp [intOf]
      · have hf := hbk.free 124
        have hcl := hbk.cell (hu.2 124 (by omega))
        have hs := hbk.store 124 (.int .u8 (n8 (lb x 3)))
        have hu2 : U8s _ 128 (enB l x 128 4) := (hu.set 124 (lb x 3)).eqv fun j hj => enB_next l x 128 3 j (by omega) hj
        have ha2 := ha.set (p := ⟨w.heap.size, 124, none⟩) (Nat.le_refl _) (.int .u8 (n8 (lb x 3)))
        clear hbk hu ha
        go_wp2
        go_roundw
        case rel => exact ⟨4, _, by omega, by go_num, hs, hu2, ha2⟩
        case measure => simp [intOf]
      · have hf := hbk.free 123
        have hcl := hbk.cell (hu.2 123 (by omega))
        have hs := hbk.store 123 (.int .u8 (n8 (lb x 4)))
        have hu2 : U8s _ 128 (enB l x 128 5) := (hu.set 123 (lb x 4)).eqv fun j hj => enB_next l x 128 4 j (by omega) hj
        have ha2 := ha.set (p := ⟨w.heap.size, 123, none⟩) (Nat.le_refl _) (.int .u8 (n8 (lb x 4)))
        clear hbk hu ha
        go_wp2
        go_roundw
        case rel => exact ⟨5, _, by omega, by go_num, hs, hu2, ha2⟩
        case measure => simp [intOf]
      · have hf := hbk.free 122
        have hcl := hbk.cell (hu.2 122 (by omega))
        have hs := hbk.store 122 (.int .u8 (n8 (lb x 5)))
        have hu2 : U8s _ 128 (enB l x 128 6) := (hu.set 122 (lb x 5)).eqv fun j hj => enB_next l x 128 5 j (by omega) hj
        have ha2 := ha.set (p := ⟨w.heap.size, 122, none⟩) (Nat.le_refl _) (.int .u8 (n8 (lb x 5)))
        clear hbk hu ha
        go_wp2
        go_roundw
        case rel => exact ⟨6, _, by omega, by go_num, hs, hu2, ha2⟩
        case measure => simp [intOf]
      · have hf := hbk.free 121
        have hcl := hbk.cell (hu.2 121 (by omega))
        have hs := hbk.store 121 (.int .u8 (n8 (lb x 6)))
        have hu2 : U8s _ 128 (enB l x 128 7) := (hu.set 121 (lb x 6)).eqv fun j hj => enB_next l x 128 6 j (by omega) hj
        have ha2 := ha.set (p := ⟨w.heap.size, 121, none⟩) (Nat.le_refl _) (.int .u8 (n8 (lb x 6)))
        clear hbk hu ha
        go_wp2
        go_roundw
        case rel => exact ⟨7, _, by omega, by go_num, hs, hu2, ha2⟩
        case measure => simp [intOf]
      · have hf := hbk.free 120
        have hcl := hbk.cell (hu.2 120 (by omega))
        have hs := hbk.store 120 (.int .u8 (n8 (lb x 7)))
        have hu2 : U8s _ 128 (enB l x 128 8) := (hu.set 120 (lb x 7)).eqv fun j hj => enB_next l x 128 7 j (by omega) hj
        have ha2 := ha.set (p := ⟨w.heap.size, 120, none⟩) (Nat.le_refl _) (.int .u8 (n8 (lb x 7)))
        clear hbk hu ha
        go_wp2
        go_roundw
        case rel => exact ⟨8, _, by omega, by go_num, hs, hu2, ha2⟩
        case measure => simp [intOf]
    · obtain rfl : k = 8 := by omega
      go_wp2
      go_ret
      exact ⟨cur, rfl, hbk, by rw [HX.out]; exact hu, ha⟩
end
end Go.Proofs.YtpikhfgpdebomaaDoor.Dg

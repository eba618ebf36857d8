/- chainBytes; firstChain; sha; Engine.Sha. -/
import Derived.Test.YtpikhfgpdebomaaDoorDgT
namespace Go.Proofs.YtpikhfgpdebomaaDoor.Dg
open Go.RowKit
theorem index_chain (cs : Array Value) (k : Nat) (v : Value) (hk : k < 8) (h : cs[k]? = some v) (w : World) : (Instr.index 68 (.agg cs) (.int .i64 k)).run Tryd.prog w = .ok v w := by
  have hs : (sizeOf 28).run Tryd.prog w = .ok 1 w := by kernel_rfl
  have hk2 : (0 : Int) ≤ (k : Int) ∧ (k : Int) < 8 := by omega
  simp [Instr.index, asIntOf, run_underlying Tryd.underlying68, part, hs, hk2, h, Sem.run_bind]
  intro hx; omega
/-- Byte j of a chain. -/
def cb (h : Nat → UInt32) (j : Nat) : UInt8 :=
  if j % 4 = 0 then (h (j / 4) >>> 24).toUInt8 else if j % 4 = 1 then (h (j / 4) >>> 16).toUInt8 else if j % 4 = 2 then (h (j / 4) >>> 8).toUInt8 else (h (j / 4)).toUInt8
def cbTo (h : Nat → UInt32) (k j : Nat) : UInt8 := if j < 4 * k then cb h j else 0
theorem cbTo_next (h : Nat → UInt32) (k j : Nat) : (if j = 4 * k + 3 then (h k).toUInt8 else if j = 4 * k + 2 then (h k >>> 8).toUInt8 else if j = 4 * k + 1 then (h k >>> 16).toUInt8 else if j = 4 * k then (h k >>> 24).toUInt8 else cbTo h k j) = cbTo h (k + 1) j := by
  unfold cbTo
  by_cases h3 : j = 4 * k + 3
  · subst h3; rw [if_pos rfl, if_pos (by omega)]; unfold cb
    rw [if_neg (by omega), if_neg (by omega), if_neg (by omega), show (4 * k + 3) / 4 = k by omega]
  · rw [if_neg h3]
    by_cases h2 : j = 4 * k + 2
    · subst h2; rw [if_pos rfl, if_pos (by omega)]; unfold cb
      rw [if_neg (by omega), if_neg (by omega), if_pos (by omega), show (4 * k + 2) / 4 = k by omega]
    · rw [if_neg h2]
      by_cases h1 : j = 4 * k + 1
      · subst h1; rw [if_pos rfl, if_pos (by omega)]; unfold cb
        rw [if_neg (by omega), if_pos (by omega), show (4 * k + 1) / 4 = k by omega]
      · rw [if_neg h1]
        by_cases h0 : j = 4 * k
        · subst h0; rw [if_pos rfl, if_pos (by omega)]; unfold cb
          rw [if_pos (by omega), show (4 * k) / 4 = k by omega]
        · rw [if_neg h0]
          by_cases hl : j < 4 * k
          · rw [if_pos hl, if_pos (by omega)]
          · rw [if_neg hl, if_neg (by omega)]
section
attribute [local go_sem] shr32_24 shr32_16 shr32_8 lo8
set_option maxRecDepth 100000 in
set_option maxHeartbeats 1600000 in
theorem chainBytes_any (cs : Array Value) (h : Nat → UInt32) (hc : U32s cs 8 h) (w : World) :
    Calls Tryd.prog 30 #[.agg cs] w fun e w' => ∃ ds, e = .returned (.agg ds) ∧ U8s ds 32 (cb h) ∧ Ab w w' := by
  have hr1 : Bk (w.alloc (.cells cs 68)) w.heap.size 68 cs := Bk.made _ _ _
  go_enter Tryd.func30, Tryd.ntmps30
  go_wp2_with (refine wpList_load_row rfl 68 _ rfl w.heap.size rfl 68 cs (0, 0) _ ((hr1.alloc _).alloc _) Tryd.underlying68 rfl (by rw [hc.1]; kernel_rfl) ?_)
  clear hr1
  go_loopw [7] (fun i wr => ∃ (k : Nat) (cur : Array Value), k ≤ 8 ∧ i = .int .i64 k ∧ Bk wr (w.heap.size + 1 + 1) 30 cur ∧ U8s cur 32 (cbTo h k) ∧ (∃ es, Bk wr (w.heap.size + 1) 30 es ∧ es.size = 32) ∧ Ab w wr)
    (fun i _ => 8 - (intOf i).toNat)
  case atStart =>
    exact ⟨0, _, by omega, rfl, Bk.new (by simp), (zeros8' (by kernel_rfl)).eqv (fun j _ => by unfold cbTo; rw [if_neg (by omega)]), ⟨_, (Bk.new (by simp)).alloc _, rfl⟩, (((Ab.refl w).alloc _).alloc _).alloc _⟩
  case round =>
    obtain ⟨k, cur, hk, rfl, hbk, hu, ⟨es, hes, hsz⟩, hab⟩ := hrel
    by_cases hlt : k < 8
    · have hix := index_chain cs k _ hlt (hc.2 k hlt)
      have c0 := hbk.cell (hu.2 (4 * k) (by omega))
      have c1 := hbk.cell (hu.2 (4 * k + 1) (by omega))
      have c2 := hbk.cell (hu.2 (4 * k + 2) (by omega))
      have c3 := hbk.cell (hu.2 (4 * k + 3) (by omega))
      have f0 := hbk.free (4 * k)
      have f1 := hbk.free (4 * k + 1)
      have f2 := hbk.free (4 * k + 2)
      have f3 := hbk.free (4 * k + 3)
      go_wp2
      have hu2 := ((((hu.set (4 * k) ((h k >>> 24).toUInt8)).set (4 * k + 1) ((h k >>> 16).toUInt8)).set (4 * k + 2) ((h k >>> 8).toUInt8)).set (4 * k + 3) ((h k).toUInt8)).eqv fun j _ => cbTo_next h k j
      have hb2 := (((hbk.store (4 * k) (.int .u8 (n8 (h k >>> 24).toUInt8))).store (4 * k + 1) (.int .u8 (n8 (h k >>> 16).toUInt8))).store (4 * k + 2) (.int .u8 (n8 (h k >>> 8).toUInt8))).store (4 * k + 3) (.int .u8 (n8 (h k).toUInt8))
      have ne : w.heap.size + 1 ≠ w.heap.size + 1 + 1 := by omega
      have le : w.heap.size ≤ w.heap.size + 1 + 1 := by omega
      go_roundw
      case rel => exact ⟨k + 1, _, by omega, by go_num, hb2, hu2, ⟨es, (((hes.far ne _).far ne _).far ne _).far ne _, hsz⟩, (((hab.set le _).set le _).set le _).set le _⟩
      case measure => simp [intOf]; omega
    · obtain rfl : k = 8 := by omega
      have hu2 : U8s cur 32 (cb h) := hu.eqv fun j hj => by unfold cbTo; rw [if_pos (by omega)]
      clear hu
      go_wp2_with (first | (refine wpList_load_row rfl 30 _ rfl (w.heap.size + 1 + 1) rfl 30 cur (0, 0) _ hbk Tryd.underlying30 rfl (by rw [hu2.1]; kernel_rfl) ?_) | (refine wpList_store_row rfl rfl 30 _ _ rfl (w.heap.size + 1) rfl cur es rfl 30 hes (by rw [hu2.1, hsz]) (by rw [hu2.1]; kernel_rfl) hu2.ones ?_; rintro wf rfl))
      refine bodyPost_ret (results_cell_row (P := Tryd.prog) Tryd.results30 _ _ (w.heap.size + 1) 30 _ (0, 0) _ rfl (hes.row _) Tryd.underlying30 rfl (by rw [hu2.1]; kernel_rfl)) rfl ⟨_, rfl, hu2, hab.row (by omega) _⟩
end
def h0List : List UInt32 := [0x6a09e667, 0xbb67ae85, 0x3c6ef372, 0xa54ff53a, 0x510e527f, 0x9b05688c, 0x1f83d9ab, 0x5be0cd19]
def h0 (i : Nat) : UInt32 := h0List.getD i 0
set_option maxRecDepth 100000 in
set_option maxHeartbeats 1600000 in
theorem firstChain_any (w : World) : Calls Tryd.prog 29 #[] w fun e w' => ∃ ds, e = .returned (.agg ds) ∧ U32s ds 8 h0 ∧ Ab w w' := by
  go_enter Tryd.func29, Tryd.ntmps29
  go_wp2
  refine bodyPost_ret (results_cell_row (P := Tryd.prog) Tryd.results29 _ _ w.heap.size 68 _ (0, 0) _ rfl (Bk.made _ _ _) Tryd.underlying68 rfl (by kernel_rfl)) rfl ⟨_, rfl, ⟨rfl, fun i hi => ?_⟩, (Ab.refl w).alloc _⟩
  have : i = 0 ∨ i = 1 ∨ i = 2 ∨ i = 3 ∨ i = 4 ∨ i = 5 ∨ i = 6 ∨ i = 7 := by omega
  rcases this with rfl | rfl | rfl | rfl | rfl | rfl | rfl | rfl <;> rfl
end Go.Proofs.YtpikhfgpdebomaaDoor.Dg

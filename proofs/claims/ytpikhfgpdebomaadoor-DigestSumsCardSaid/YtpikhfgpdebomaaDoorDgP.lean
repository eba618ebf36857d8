/- schedule: a block's words. -/
import Derived.Test.YtpikhfgpdebomaaDoorDgL
import Derived.Test.YtpikhfgpdebomaaDoorDgI
namespace Go.Proofs.YtpikhfgpdebomaaDoor.Dg
open Go.RowKit
def W0 (f : Nat → UInt8) (i : Nat) : UInt32 := (((f (4 * i)).toUInt32 <<< 24 ||| (f (4 * i + 1)).toUInt32 <<< 16) ||| (f (4 * i + 2)).toUInt32 <<< 8) ||| (f (4 * i + 3)).toUInt32
def wExt (l : List UInt32) : UInt32 := ss1 (l.getD (l.length - 2) 0) + l.getD (l.length - 7) 0 + ss0 (l.getD (l.length - 15) 0) + l.getD (l.length - 16) 0
def wList (f : Nat → UInt8) : Nat → List UInt32
  | 0 => (List.range 16).map (W0 f)
  | k + 1 => wList f k ++ [wExt (wList f k)]
/-- The words of a block. -/
def wL (f : Nat → UInt8) (i : Nat) : UInt32 := (wList f 48).getD i 0
theorem wList_length (f : Nat → UInt8) : ∀ k, (wList f k).length = 16 + k
  | 0 => by simp [wList]
  | k + 1 => by rw [wList, List.length_append, wList_length f k]; rfl
theorem wList_more (f : Nat → UInt8) (k i : Nat) (hi : i < 16 + k) : ∀ m, (wList f (k + m)).getD i 0 = (wList f k).getD i 0
  | 0 => rfl
  | m + 1 => by
    rw [← wList_more f k i hi m, ← Nat.add_assoc, wList]
    have := wList_length f (k + m)
    rw [List.getD_eq_getElem?_getD, List.getElem?_append_left (by omega), ← List.getD_eq_getElem?_getD]
theorem wL_at (f : Nat → UInt8) (k i : Nat) (hk : k ≤ 48) (hi : i < 16 + k) : (wList f k).getD i 0 = wL f i := by
  unfold wL
  have := wList_more f k i hi (48 - k)
  rw [show k + (48 - k) = 48 by omega] at this
  exact this.symm
theorem wL_first (f : Nat → UInt8) (i : Nat) (hi : i < 16) : wL f i = W0 f i := by
  rw [← wL_at f 0 i (by omega) (by omega)]
  simp [wList, hi]
theorem wL_next (f : Nat → UInt8) (i : Nat) (h1 : 16 ≤ i) (h2 : i < 64) : wL f i = ss1 (wL f (i - 2)) + wL f (i - 7) + ss0 (wL f (i - 15)) + wL f (i - 16) := by
  have hl := wList_length f (i - 16)
  rw [← wL_at f (i - 16 + 1) i (by omega) (by omega), wList, List.getD_eq_getElem?_getD, List.getElem?_append_right (by omega), show i - (wList f (i - 16)).length = 0 by omega]
  show wExt (wList f (i - 16)) = _
  unfold wExt
  rw [hl, show 16 + (i - 16) - 2 = i - 2 by omega, show 16 + (i - 16) - 7 = i - 7 by omega, show 16 + (i - 16) - 15 = i - 15 by omega, show 16 + (i - 16) - 16 = i - 16 by omega,
    wL_at f _ _ (by omega) (by omega), wL_at f _ _ (by omega) (by omega), wL_at f _ _ (by omega) (by omega), wL_at f _ _ (by omega) (by omega)]
/-- The world amid schedule: the block, the result, the first k words. -/
def Sch (w wr : World) (cs : Array Value) (f : Nat → UInt8) (k : Nat) : Prop :=
  Bk wr w.heap.size 84 cs ∧ (∃ es, Bk wr (w.heap.size + 1) 60 es ∧ es.size = 64) ∧
    (∃ ds, Bk wr (w.heap.size + 1 + 1) 60 ds ∧ ds.size = 64 ∧ ∀ j, j < k → ds[j]? = some (.int .u32 (n32 (wL f j)))) ∧ Ab w wr
theorem Sch.next {w wr : World} {cs : Array Value} {f : Nat → UInt8} {k : Nat} (h : Sch w wr cs f k) (hk : k < 64) : Sch w (wr.setCell ⟨w.heap.size + 1 + 1, k, none⟩ (.int .u32 (n32 (wL f k)))) cs f (k + 1) := by
  obtain ⟨h1, ⟨es, h2, h3⟩, ⟨ds, h4, h5, h6⟩, h7⟩ := h
  refine ⟨h1.far (show w.heap.size ≠ w.heap.size + 1 + 1 by omega) _, ⟨es, h2.far (show w.heap.size + 1 ≠ w.heap.size + 1 + 1 by omega) _, h3⟩, ⟨_, h4.store k _, by simp [h5], fun j hj => ?_⟩, h7.set (show w.heap.size ≤ w.heap.size + 1 + 1 by omega) _⟩
  by_cases hjk : j = k
  · subst hjk; exact set_eq (by omega)
  · exact set_ne (by omega) (h6 j (by omega))
theorem Sch.word {w wr : World} {cs : Array Value} {f : Nat → UInt8} {k : Nat} (h : Sch w wr cs f k) (j : Nat) (hj : j < k) : wr.cell? ⟨w.heap.size + 1 + 1, j, none⟩ = some (.int .u32 (n32 (wL f j))) := by
  obtain ⟨h1, ⟨es, h2, h3⟩, ⟨ds, h4, h5, h6⟩, h7⟩ := h
  exact h4.cell (h6 j hj)
theorem Sch.any_ {w wr : World} {cs : Array Value} {f : Nat → UInt8} {k : Nat} (h : Sch w wr cs f k) (j : Nat) (hj : j < 64) : ∃ v, wr.cell? ⟨w.heap.size + 1 + 1, j, none⟩ = some v := by
  obtain ⟨h1, ⟨es, h2, h3⟩, ⟨ds, h4, h5, h6⟩, h7⟩ := h
  have hj' : j < ds.size := by omega
  exact ⟨ds[j]'hj', (h4.get j).trans (Array.getElem?_eq_getElem hj')⟩
theorem Sch.free {w wr : World} {cs : Array Value} {f : Nat → UInt8} {k : Nat} (h : Sch w wr cs f k) (j : Nat) : wr.frozen? ⟨w.heap.size + 1 + 1, j, none⟩ = false := by
  obtain ⟨h1, ⟨es, h2, h3⟩, ⟨ds, h4, h5, h6⟩, h7⟩ := h
  exact h4.free j
theorem Sch.drew {w wr : World} {cs : Array Value} {f : Nat → UInt8} {k : Nat} (h : Sch w wr cs f k) : Sch w wr.drew cs f k := ⟨h.1, h.2.1, h.2.2.1, h.2.2.2.drew⟩
theorem up32w (y : UInt8) : IntKind.u32.wrap (n8 y) = n32 y.toUInt32 := by rw [IntKind.wrap_u32', up32]
theorem shlw_8 (x : UInt32) : IntKind.u32.wrap (n32 x * 256) = n32 (x <<< 8) := by rw [IntKind.wrap_u32', shl32_8]
theorem shlw_16 (x : UInt32) : IntKind.u32.wrap (n32 x * 65536) = n32 (x <<< 16) := by rw [IntKind.wrap_u32', shl32_16]
theorem shlw_24 (x : UInt32) : IntKind.u32.wrap (n32 x * 16777216) = n32 (x <<< 24) := by rw [IntKind.wrap_u32', shl32_24]
/-- The place of byte j of word k. -/
def idx (k j : Nat) : Nat := 4 * k + j
def Sm16 (k : Nat) : Prop := k < 16
theorem idx_lt (k j : Nat) (h : k < 16) (hj : j < 4) : ((idx k j : Nat) : Int) < 64 := by unfold idx; omega
theorem idx0 (k : Nat) (h : Sm16 k) : IntKind.i64.wrap (4 * (k : Int)) = ((idx k 0 : Nat) : Int) := by unfold Sm16 at h; unfold idx; rw [IntWalk.i64_in _ (by omega)]; omega
theorem idx1 (k : Nat) (h : Sm16 k) : IntKind.i64.wrap (((idx k 0 : Nat) : Int) + 1) = ((idx k 1 : Nat) : Int) := by unfold Sm16 at h; unfold idx; rw [IntWalk.i64_in _ (by omega)]; omega
theorem idx2 (k : Nat) (h : Sm16 k) : IntKind.i64.wrap (((idx k 0 : Nat) : Int) + 2) = ((idx k 2 : Nat) : Int) := by unfold Sm16 at h; unfold idx; rw [IntWalk.i64_in _ (by omega)]; omega
theorem idx3 (k : Nat) (h : Sm16 k) : IntKind.i64.wrap (((idx k 0 : Nat) : Int) + 3) = ((idx k 3 : Nat) : Int) := by unfold Sm16 at h; unfold idx; rw [IntWalk.i64_in _ (by omega)]; omega
/-- Some words back. -/
def bck (k j : Nat) : Nat := k - j
def Md (k : Nat) : Prop := 16 ≤ k ∧ k < 64
theorem bck_lt (k j : Nat) (h : k < 64) : ((bck k j : Nat) : Int) < 64 := by unfold bck; omega
theorem bck2 (k : Nat) (h : Md k) : IntKind.i64.wrap ((k : Int) - 2) = ((bck k 2 : Nat) : Int) := by unfold Md at h; unfold bck; rw [IntWalk.i64_in _ (by omega)]; omega
theorem bck7 (k : Nat) (h : Md k) : IntKind.i64.wrap ((k : Int) - 7) = ((bck k 7 : Nat) : Int) := by unfold Md at h; unfold bck; rw [IntWalk.i64_in _ (by omega)]; omega
theorem bck15 (k : Nat) (h : Md k) : IntKind.i64.wrap ((k : Int) - 15) = ((bck k 15 : Nat) : Int) := by unfold Md at h; unfold bck; rw [IntWalk.i64_in _ (by omega)]; omega
theorem bck16 (k : Nat) (h : Md k) : IntKind.i64.wrap ((k : Int) - 16) = ((bck k 16 : Nat) : Int) := by unfold Md at h; unfold bck; rw [IntWalk.i64_in _ (by omega)]; omega
section
attribute [local go_sem] bck2 bck7 bck15 bck16 idx0 idx1 idx2 idx3 up32 up32w or32 add32 addw32 shl32_8 shl32_16 shl32_24 shlw_8 shlw_16 shlw_24
set_option maxRecDepth 100000 in
set_option maxHeartbeats 1600000 in
theorem schedule_any (cs : Array Value) (f : Nat → UInt8) (h : U8s cs 64 f) (w : World) :
    Calls Tryd.prog 45 #[.agg cs] w fun e w' => ∃ ds, e = .returned (.agg ds) ∧ U32s ds 64 (wL f) ∧ Ab w w' := by
  go_enter Tryd.func45, Tryd.ntmps45
  go_wp2
  go_loopw [6] (fun i wr => ∃ k : Nat, k ≤ 16 ∧ i = .int .i64 k ∧ Sch w wr cs f k) (fun i _ => 16 - (intOf i).toNat)
  case atStart =>
    refine ⟨0, by omega, rfl, ((Bk.made _ _ _).alloc _).alloc _, ⟨_, (Bk.new (by simp)).alloc _, ?_⟩, ⟨_, Bk.new (by simp), ?_, fun j hj => absurd hj (by omega)⟩, (((Ab.refl _).alloc _).alloc _).alloc _⟩ <;> rfl
  case round =>
    obtain ⟨k, hk, rfl, hs⟩ := hrel
    by_cases hlt : k < 16
    · go_wp2
      have hW : wL f k = (((f (idx k 0)).toUInt32 <<< 24 ||| (f (idx k 1)).toUInt32 <<< 16) ||| (f (idx k 2)).toUInt32 <<< 8) ||| (f (idx k 3)).toUInt32 := wL_first f k hlt
      have hsm : Sm16 k := hlt
      have b0 := idx_lt k 0 hlt (by omega)
      have b1 := idx_lt k 1 hlt (by omega)
      have b2 := idx_lt k 2 hlt (by omega)
      have b3 := idx_lt k 3 hlt (by omega)
      have bk : (k : Int) < 64 := by omega
      have c0 := hs.1.cell (h.2 (idx k 0) (by unfold idx; omega))
      have c1 := hs.1.cell (h.2 (idx k 1) (by unfold idx; omega))
      have c2 := hs.1.cell (h.2 (idx k 2) (by unfold idx; omega))
      have c3 := hs.1.cell (h.2 (idx k 3) (by unfold idx; omega))
      have HW := Lib.hid hW
      clear hW
      obtain ⟨v, hv⟩ := hs.any_ k (by omega)
      have hf := hs.free k
      refine wp_region_still_tail 31 (by kernel_rfl) (by kernel_rfl) ?_
      simp only [List.take_succ_cons, List.take_zero, List.drop_succ_cons, List.drop_zero]
      change wpStill _ _ wr.drew (fun a' => wpList _ _ _ _ a' wr.drew) _ _
      repeat still_step
      try refine wpStill_nil ?_
      have hs2 := hs.drew.next (show k < 64 by omega)
      rw [HW.out] at hs2
      clear b0 b1 b2 b3 c0 c1 c2 c3 hs HW hsm
      go_wp2
      go_roundw
      case rel => exact ⟨k + 1, by omega, by go_num, hs2⟩
      case measure => simp [intOf]; omega
    · obtain rfl : k = 16 := by omega
      go_wp2
      go_loopw [5] (fun i wr => ∃ k : Nat, 16 ≤ k ∧ k ≤ 64 ∧ i = .int .i64 k ∧ Sch w wr cs f k) (fun i _ => 64 - (intOf i).toNat)
      case atStart => exact ⟨16, by omega, by omega, rfl, hs⟩
      case round =>
        clear hs
        obtain ⟨k, hk1, hk, rfl, hs⟩ := hrel
        by_cases hlt : k < 64
        · go_wp2
          have hW : wL f k = ss1 (wL f (bck k 2)) + wL f (bck k 7) + ss0 (wL f (bck k 15)) + wL f (bck k 16) := wL_next f k hk1 hlt
          have hmd : Md k := ⟨hk1, hlt⟩
          have b2 := bck_lt k 2 hlt
          have b7 := bck_lt k 7 hlt
          have b15 := bck_lt k 15 hlt
          have b16 := bck_lt k 16 hlt
          have bk : (k : Int) < 64 := by omega
          have c2 := hs.word (bck k 2) (by unfold bck; omega)
          have c7 := hs.word (bck k 7) (by unfold bck; omega)
          have c15 := hs.word (bck k 15) (by unfold bck; omega)
          have c16 := hs.word (bck k 16) (by unfold bck; omega)
          have HW := Lib.hid hW
          clear hW
          obtain ⟨v, hv⟩ := hs.any_ k hlt
          have hf := hs.free k
          refine wp_region_still_tail 23 (by kernel_rfl) (by kernel_rfl) ?_
          simp only [List.take_succ_cons, List.take_zero, List.drop_succ_cons, List.drop_zero]
          change wpStill _ _ wr.drew (fun a' => wpList _ _ _ _ a' wr.drew) _ _
          repeat still_step
          still_call ((ss1_any _ _).mono fun _ _ h => ⟨h.1, h.2.symm⟩)
          repeat still_step
          still_call ((ss0_any _ _).mono fun _ _ h => ⟨h.1, h.2.symm⟩)
          repeat still_step
          try refine wpStill_nil ?_
          have hs2 := hs.drew.next (show k < 64 by omega)
          rw [HW.out] at hs2
          clear b2 b7 b15 b16 c2 c7 c15 c16 hs HW hmd
          go_wp2
          go_roundw
          case rel =>
            (repeat apply Exists.intro)
            exact ⟨⟨k + 1, by omega, by omega, by go_num, hs2⟩, rfl⟩
          case measure => simp [intOf]; omega
        · obtain rfl : k = 64 := by omega
          obtain ⟨h1, ⟨es, h2, h3⟩, ⟨ds, h4, h5, h6⟩, h7⟩ := hs
          have hU : U32s ds 64 (wL f) := ⟨h5, h6⟩
          go_wp2_with (first | (refine wpList_load_row rfl 60 _ rfl (w.heap.size + 1 + 1) rfl 60 ds (0, 0) _ h4 Tryd.underlying60 rfl (by rw [h5]; kernel_rfl) ?_) | (refine wpList_store_row rfl rfl 60 _ _ rfl (w.heap.size + 1) rfl ds es rfl 60 h2 (by omega) (by rw [h5]; kernel_rfl) hU.ones ?_; rintro wf rfl))
          refine bodyPost_ret (results_cell_row (P := Tryd.prog) Tryd.results45 _ _ (w.heap.size + 1) 60 ds (0, 0) _ rfl (h2.row ds) Tryd.underlying60 rfl (by rw [h5]; kernel_rfl)) rfl ⟨ds, rfl, hU, h7.row (by omega) ds⟩
end
end Go.Proofs.YtpikhfgpdebomaaDoor.Dg

/- The reference's Mix and its three hashes of numbers. -/
import Derived.Test.YtmnfmgdllfhmaaaDgH
import Derived.Test.YtmnfmgdllfhmaaaDgAb
namespace Go.Proofs.Ytmnfmgdllfhmaaa.Dg
open Go.RowKit
structure U3 where
  a : UInt32
  b : UInt32
  c : UInt32
def rndA (t : U3) : U3 :=
  let a := (t.a - t.b - t.c) ^^^ t.c >>> 13
  let b := (t.b - t.c - a) ^^^ a <<< 8
  ⟨a, b, (t.c - a - b) ^^^ b >>> 13⟩
def rndB (t : U3) : U3 :=
  let a := (t.a - t.b - t.c) ^^^ t.c >>> 12
  let b := (t.b - t.c - a) ^^^ a <<< 16
  ⟨a, b, (t.c - a - b) ^^^ b >>> 5⟩
def rndC (t : U3) : U3 :=
  let a := (t.a - t.b - t.c) ^^^ t.c >>> 3
  let b := (t.b - t.c - a) ^^^ a <<< 10
  ⟨a, b, (t.c - a - b) ^^^ b >>> 15⟩
theorem mixL_rnd (a b c : UInt32) : mixL a b c = ((rndC (rndB (rndA ⟨a, b, c⟩))).a, (rndC (rndB (rndA ⟨a, b, c⟩))).b, (rndC (rndB (rndA ⟨a, b, c⟩))).c) := rfl
def st (t : U3) : Nat → U3
  | 0 => t
  | 1 => rndA t
  | 2 => rndB (rndA t)
  | _ => rndC (rndB (rndA t))
def Mxd (w wr : World) : Prop := Bk wr (w.heap.size + 1) 51 #[.int .u32 0, .int .u32 0, .int .u32 0] ∧ Below w.heap.size w wr
theorem Mxd.alloc {w wr : World} (h : Mxd w wr) (o : Obj) : Mxd w (wr.alloc o) := ⟨h.1.alloc o, h.2.alloc h.2.size o⟩
section
attribute [local go_sem] sub32 sub32' xor32 shr32_13 shr32_12 shr32_5 shr32_3 shr32_15 shl32_8 shl32_16 shl32_10
set_option maxRecDepth 100000 in
set_option maxHeartbeats 400000 in
theorem rmix_any (a b c : UInt32) (w : World) :
    Calls Try.prog 26 #[.agg #[.int .u32 (n32 a), .int .u32 (n32 b), .int .u32 (n32 c)]] w fun e w' =>
      e = .returned (.agg #[.int .u32 (n32 (mixL a b c).1), .int .u32 (n32 (mixL a b c).2.1), .int .u32 (n32 (mixL a b c).2.2)]) ∧ Below w.heap.size w w' := by
  have i0 : ∀ w : World, (Instr.index 71 (.agg #[.int .u64 13, .int .u64 8, .int .u64 13, .int .u64 12, .int .u64 16, .int .u64 5, .int .u64 3, .int .u64 10, .int .u64 15]) (.int .i64 0)).run Try.prog w = .ok (.agg #[.int .u64 13, .int .u64 8, .int .u64 13]) w := fun _ => by kernel_rfl
  have i1 : ∀ w : World, (Instr.index 71 (.agg #[.int .u64 13, .int .u64 8, .int .u64 13, .int .u64 12, .int .u64 16, .int .u64 5, .int .u64 3, .int .u64 10, .int .u64 15]) (.int .i64 1)).run Try.prog w = .ok (.agg #[.int .u64 12, .int .u64 16, .int .u64 5]) w := fun _ => by kernel_rfl
  have i2 : ∀ w : World, (Instr.index 71 (.agg #[.int .u64 13, .int .u64 8, .int .u64 13, .int .u64 12, .int .u64 16, .int .u64 5, .int .u64 3, .int .u64 10, .int .u64 15]) (.int .i64 2)).run Try.prog w = .ok (.agg #[.int .u64 3, .int .u64 10, .int .u64 15]) w := fun _ => by kernel_rfl
  go_enter Try.func26, Try.ntmps26
  go_wp2
  go_quiet (fail)
  go_wp2
  go_loopw [3, 4, 5, 18] (fun x y z i wr => ∃ k : Nat, k ≤ 3 ∧ i = .int .i64 k ∧ x = .int .u32 (n32 (st ⟨a, b, c⟩ k).a) ∧ y = .int .u32 (n32 (st ⟨a, b, c⟩ k).b) ∧ z = .int .u32 (n32 (st ⟨a, b, c⟩ k).c) ∧ Mxd w wr)
    (fun _ _ _ i _ => 3 - (intOf i).toNat)
  case atStart =>
    refine ⟨0, by omega, rfl, rfl, rfl, rfl, ?_⟩
    refine ⟨?_, ?_⟩
    · exact (Bk.new (by simp)).drewN _
    · exact below_drewN (((Below.refl _ _).alloc (Nat.le_refl _) _).alloc (by simp) _) _
  case round =>
    obtain ⟨k, hk, rfl, rfl, rfl, rfl, hm⟩ := hrel
    have hk4 : k = 0 ∨ k = 1 ∨ k = 2 ∨ k = 3 := by omega
    rcases hk4 with rfl | rfl | rfl | rfl
    · go_wp2
      go_roundw
      case rel => exact ⟨1, by omega, rfl, rfl, rfl, rfl, hm.alloc _⟩
      case measure => simp [intOf]
    · go_wp2
      go_roundw
      case rel => exact ⟨2, by omega, rfl, rfl, rfl, rfl, hm.alloc _⟩
      case measure => simp [intOf]
    · go_wp2
      go_roundw
      case rel => exact ⟨3, by omega, rfl, rfl, rfl, rfl, hm.alloc _⟩
      case measure => simp [intOf]
    · have h0 := hm.1.cell (i := 0) rfl
      have h1 := hm.1.cell (i := 1) rfl
      have h2 := hm.1.cell (i := 2) rfl
      have f0 := hm.1.free 0
      have f1 := hm.1.free 1
      have f2 := hm.1.free 2
      go_wp2
      refine bodyPost_ret (v := .agg #[.int .u32 (n32 (mixL a b c).1), .int .u32 (n32 (mixL a b c).2.1), .int .u32 (n32 (mixL a b c).2.2)]) ?_ rfl ⟨rfl, ((hm.2.setCell (by simp) _).setCell (by simp) _).setCell (by simp) _⟩
      rw [mixL_rnd]
      simp [results, Try.results26, go_sem, h0, h1, h2, st]
theorem field72 (x y z : Value) (w : World) : (Instr.field 51 (.agg #[x, y, z]) 2).run Try.prog w = .ok z w := by kernel_rfl
end
section
attribute [local go_sem] xor32 lit_seed field72
set_option maxRecDepth 100000 in
set_option maxHeartbeats 400000 in
theorem rhash3_any (a b c : UInt32) (w : World) :
    Calls Try.prog 22 #[.int .u32 (n32 a), .int .u32 (n32 b), .int .u32 (n32 c)] w fun e w' => e = .returned (.int .u32 (n32 (hash3L a b c))) ∧ Below w.heap.size w w' := by
  go_enter Try.func22, Try.ntmps22
  go_wp2_with fail
  refine (rmix_any _ _ _ _).mono ?_
  rintro e w1 ⟨rfl, hb1⟩
  have hd1 : Ab w w1 := hb1
  have hc1 := Ab.cells hb1
  have hs1 := Ab.size hb1
  clear hs1
  clear hb1
  go_wp2_with fail
  refine (rmix_any _ 231232 _ _).mono ?_
  rintro e w2 ⟨rfl, hb2⟩
  have hd2 := hd1.trans (Ab.trans (Ab.alloc (Ab.refl _) _) hb2)
  have hc2 := Ab.cells hb2
  have hs2 := Ab.size hb2
  simp only [World.size_alloc] at hs2
  have hl12 : w1.heap.size < w2.heap.size := by omega
  clear hs2
  clear hb2
  go_wp2_with fail
  refine (rmix_any 1232 _ _ _).mono ?_
  rintro e w3 ⟨rfl, hb3⟩
  have hd3 := hd2.trans (Ab.trans (Ab.alloc (Ab.refl _) _) hb3)
  have hc3 := Ab.cells hb3
  have hs3 := Ab.size hb3
  simp only [World.size_alloc] at hs3
  have hl13 : w1.heap.size < w3.heap.size := by omega
  have hl23 : w2.heap.size < w3.heap.size := by omega
  clear hs3
  clear hb3
  go_wp2_with fail
  refine (rmix_any _ _ _ _).mono ?_
  rintro e w4 ⟨rfl, hb4⟩
  have hd4 := hd3.trans (Ab.trans (Ab.alloc (Ab.refl _) _) hb4)
  have hc4 := Ab.cells hb4
  have hs4 := Ab.size hb4
  simp only [World.size_alloc] at hs4
  have hl14 : w1.heap.size < w4.heap.size := by omega
  have hl24 : w2.heap.size < w4.heap.size := by omega
  have hl34 : w3.heap.size < w4.heap.size := by omega
  clear hs4
  clear hb4
  go_wp2_with fail
  refine (rmix_any _ _ _ _).mono ?_
  rintro e w5 ⟨rfl, hb5⟩
  have hd5 := hd4.trans (Ab.trans (Ab.alloc (Ab.refl _) _) hb5)
  have hc5 := Ab.cells hb5
  have hs5 := Ab.size hb5
  simp only [World.size_alloc] at hs5
  have hl15 : w1.heap.size < w5.heap.size := by omega
  have hl25 : w2.heap.size < w5.heap.size := by omega
  have hl35 : w3.heap.size < w5.heap.size := by omega
  have hl45 : w4.heap.size < w5.heap.size := by omega
  clear hs5
  clear hb5
  go_wp2_with fail
  go_ret
  exact ⟨rfl, hd5⟩
end
end Go.Proofs.Ytmnfmgdllfhmaaa.Dg

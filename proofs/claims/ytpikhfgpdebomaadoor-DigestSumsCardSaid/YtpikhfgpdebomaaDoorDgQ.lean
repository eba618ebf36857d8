/- takeBlock. -/
import Derived.Test.YtpikhfgpdebomaaDoorDgP
namespace Go.Proofs.YtpikhfgpdebomaaDoor.Dg
open Go.RowKit
structure S8 where
  a : UInt32
  b : UInt32
  c : UInt32
  d : UInt32
  e : UInt32
  f : UInt32
  g : UInt32
  h : UInt32
def rndL (k w : UInt32) (s : S8) : S8 :=
  let t1 := s.h + bs1 s.e + chc s.e s.f s.g + k + w
  let t2 := bs0 s.a + maj s.a s.b s.c
  ⟨t1 + t2, s.a, s.b, s.c, s.d + t1, s.e, s.f, s.g⟩
def rnds (k w : Nat → UInt32) (s : S8) : Nat → S8
  | 0 => s
  | i + 1 => rndL (k i) (w i) (rnds k w s i)
def ofFun (h : Nat → UInt32) : S8 := ⟨h 0, h 1, h 2, h 3, h 4, h 5, h 6, h 7⟩
def S8.list (s : S8) : List UInt32 := [s.a, s.b, s.c, s.d, s.e, s.f, s.g, s.h]
def kList : List UInt32 := [
  0x428a2f98, 0x71374491, 0xb5c0fbcf, 0xe9b5dba5, 0x3956c25b, 0x59f111f1, 0x923f82a4, 0xab1c5ed5,
  0xd807aa98, 0x12835b01, 0x243185be, 0x550c7dc3, 0x72be5d74, 0x80deb1fe, 0x9bdc06a7, 0xc19bf174,
  0xe49b69c1, 0xefbe4786, 0x0fc19dc6, 0x240ca1cc, 0x2de92c6f, 0x4a7484aa, 0x5cb0a9dc, 0x76f988da,
  0x983e5152, 0xa831c66d, 0xb00327c8, 0xbf597fc7, 0xc6e00bf3, 0xd5a79147, 0x06ca6351, 0x14292967,
  0x27b70a85, 0x2e1b2138, 0x4d2c6dfc, 0x53380d13, 0x650a7354, 0x766a0abb, 0x81c2c92e, 0x92722c85,
  0xa2bfe8a1, 0xa81a664b, 0xc24b8b70, 0xc76c51a3, 0xd192e819, 0xd6990624, 0xf40e3585, 0x106aa070,
  0x19a4c116, 0x1e376c08, 0x2748774c, 0x34b0bcb5, 0x391c0cb3, 0x4ed8aa4a, 0x5b9cca4f, 0x682e6ff3,
  0x748f82ee, 0x78a5636f, 0x84c87814, 0x8cc70208, 0x90befffa, 0xa4506ceb, 0xbef9a3f7, 0xc67178f2]
def kk (i : Nat) : UInt32 := kList.getD i 0
def blk (h : Nat → UInt32) (f : Nat → UInt8) (i : Nat) : UInt32 := h i + (rnds kk (wL f) (ofFun h) 64).list.getD i 0
theorem blk_cells (h : Nat → UInt32) (f : Nat → UInt8) (s : S8) (hs : rnds kk (wL f) (ofFun h) 64 = s) : U32s #[.int .u32 (n32 (h 0 + s.a)), .int .u32 (n32 (h 1 + s.b)), .int .u32 (n32 (h 2 + s.c)),
    .int .u32 (n32 (h 3 + s.d)), .int .u32 (n32 (h 4 + s.e)), .int .u32 (n32 (h 5 + s.f)), .int .u32 (n32 (h 6 + s.g)), .int .u32 (n32 (h 7 + s.h))] 8 (blk h f) := by
  refine ⟨rfl, fun i hi => ?_⟩
  unfold blk
  rw [hs]
  have : i = 0 ∨ i = 1 ∨ i = 2 ∨ i = 3 ∨ i = 4 ∨ i = 5 ∨ i = 6 ∨ i = 7 := by omega
  rcases this with rfl | rfl | rfl | rfl | rfl | rfl | rfl | rfl <;> rfl
/-- The table of the rounds' numbers lies in block 0. -/
def Tab (w : World) : Prop := ∀ i, i < 64 → w.cell? ⟨0, i, none⟩ = some (.int .u32 (n32 (kk i)))
theorem Tab.pos {w : World} (h : Tab w) : 0 < w.heap.size := block_lt_of_cell (a := ⟨0, 0, none⟩) (h 0 (by omega))
theorem Tab.ab {w w' : World} (h : Tab w) (hb : Ab w w') : Tab w' := fun i hi => (hb.cells _ i h.pos).trans (h i hi)
theorem Tab.gw {w w' : World} {g : Nat} (h : Tab w) (hb : Gw g w w') (hg : 0 ≠ g) : Tab w' := fun i hi => (hb.cells _ i h.pos hg).trans (h i hi)
/-- The world amid takeBlock: the chain, the result, the words. -/
def Tb (w wr : World) (g : Nat) (cs : Array Value) (W : Nat → UInt32) : Prop :=
  Bk wr w.heap.size 68 cs ∧ (∃ es, Bk wr (w.heap.size + 1 + 1) 68 es ∧ es.size = 8) ∧ (∃ ws, Bk wr g 60 ws ∧ U32s ws 64 W) ∧ Ab w wr
theorem Tb.drewN {w wr : World} {g : Nat} {cs : Array Value} {W : Nat → UInt32} (h : Tb w wr g cs W) (n : Nat) : Tb w (wr.drewN n) g cs W := ⟨h.1, h.2.1, h.2.2.1, h.2.2.2.drewN n⟩
theorem Tab.drewN {w : World} (h : Tab w) (n : Nat) : Tab (w.drewN n) := h
theorem Tb.word {w wr : World} {g : Nat} {cs : Array Value} {W : Nat → UInt32} (h : Tb w wr g cs W) (i : Nat) (hi : i < 64) : wr.cell? ⟨g, i, none⟩ = some (.int .u32 (n32 (W i))) := by
  obtain ⟨_, _, ⟨ws, hb, hw⟩, _⟩ := h; exact hb.cell (hw.2 i hi)
theorem Tb.link {w wr : World} {g : Nat} {cs : Array Value} {W h : Nat → UInt32} (hb : Tb w wr g cs W) (hc : U32s cs 8 h) (i : Nat) (hi : i < 8) : wr.cell? ⟨w.heap.size, i, none⟩ = some (.int .u32 (n32 (h i))) := hb.1.cell (hc.2 i hi)
section
attribute [local go_sem] add32 addw32
set_option maxRecDepth 100000 in
set_option maxHeartbeats 1600000 in
theorem takeBlock_any (cs ms : Array Value) (h : Nat → UInt32) (f : Nat → UInt8) (hc : U32s cs 8 h) (hm : U8s ms 64 f) (w : World) (ht : Tab w) :
    Calls Tryd.prog 40 #[.agg cs, .agg ms] w fun e w' => ∃ ds, e = .returned (.agg ds) ∧ U32s ds 8 (blk h f) ∧ Ab w w' := by
  go_enter Tryd.func40, Tryd.ntmps40
  have hbm : Bk ((w.alloc (.cells cs 68)).alloc (.cells ms 84)) (w.heap.size + 1) 84 ms := Bk.new (by simp)
  go_wp2_with (first | (refine wpList_load_row rfl 84 _ rfl (w.heap.size + 1) rfl 84 ms (0, 0) _ (hbm.alloc _) Tryd.underlying84 rfl (by rw [hm.1]; kernel_rfl) ?_))
  have k1 : Bk (((w.alloc (.cells cs 68)).alloc (.cells ms 84)).alloc (.cells #[.int .u32 0, .int .u32 0, .int .u32 0, .int .u32 0, .int .u32 0, .int .u32 0, .int .u32 0, .int .u32 0] 68)) w.heap.size 68 cs := ((Bk.made _ _ _).alloc _).alloc _
  have k2 : Bk (((w.alloc (.cells cs 68)).alloc (.cells ms 84)).alloc (.cells #[.int .u32 0, .int .u32 0, .int .u32 0, .int .u32 0, .int .u32 0, .int .u32 0, .int .u32 0, .int .u32 0] 68)) (w.heap.size + 1 + 1) 68 #[.int .u32 0, .int .u32 0, .int .u32 0, .int .u32 0, .int .u32 0, .int .u32 0, .int .u32 0, .int .u32 0] := Bk.new (by simp)
  have k3 : Ab w (((w.alloc (.cells cs 68)).alloc (.cells ms 84)).alloc (.cells #[.int .u32 0, .int .u32 0, .int .u32 0, .int .u32 0, .int .u32 0, .int .u32 0, .int .u32 0, .int .u32 0] 68)) := (((Ab.refl w).alloc _).alloc _).alloc _
  clear hbm
  refine (schedule_any ms f hm _).mono ?_
  rintro e w3 ⟨ws, rfl, hws, hb3⟩
  have k4 := hb3.bk k1
  have k5 := hb3.bk k2
  have k6 := k3.trans hb3
  clear k1 k2 k3 hb3
  go_wp2_with (first | (refine wpList_store_row rfl rfl 60 _ _ rfl w3.heap.size rfl ws _ rfl 60 (Bk.made _ _ _) (by rw [hws.1]; kernel_rfl) (by rw [hws.1]; kernel_rfl) hws.ones ?_; intro w4 hw4))
  have ht0 : Tb w w4 w3.heap.size cs (wL f) := by
    have l4 := k4.lt
    have l5 := k5.lt
    rw [← hw4]
    exact ⟨(k4.alloc _).row_far (by omega) _, ⟨_, (k5.alloc _).row_far (by omega) _, rfl⟩, ⟨ws, (Bk.made _ _ _).row ws, hws⟩, (k6.alloc _).row (by omega) _⟩
  clear hw4 k4 k5 k6
  have ht4 : Tab w4 := ht.ab ht0.2.2.2
  clear ht
  generalize w3.heap.size = g at *
  have c0 := ht0.link hc 0 (by omega)
  have c1 := ht0.link hc 1 (by omega)
  have c2 := ht0.link hc 2 (by omega)
  have c3 := ht0.link hc 3 (by omega)
  have c4 := ht0.link hc 4 (by omega)
  have c5 := ht0.link hc 5 (by omega)
  have c6 := ht0.link hc 6 (by omega)
  have c7 := ht0.link hc 7 (by omega)
  go_quiet (fail)
  have ht5 := ht0.drewN nq
  have ht6 := ht4.drewN nq
  clear ht0 ht4 c0 c1 c2 c3 c4 c5 c6 c7
  generalize w4.drewN nq = w5 at *
  go_wp2
  go_loopw [6, 7, 8, 9, 10, 11, 12, 13, 35] (fun xa xb xc xd xe xf xg xh i wr => ∃ k : Nat, k ≤ 64 ∧ i = .int .i64 k ∧ xa = .int .u32 (n32 (rnds kk (wL f) (ofFun h) k).a) ∧ xb = .int .u32 (n32 (rnds kk (wL f) (ofFun h) k).b) ∧
      xc = .int .u32 (n32 (rnds kk (wL f) (ofFun h) k).c) ∧ xd = .int .u32 (n32 (rnds kk (wL f) (ofFun h) k).d) ∧ xe = .int .u32 (n32 (rnds kk (wL f) (ofFun h) k).e) ∧ xf = .int .u32 (n32 (rnds kk (wL f) (ofFun h) k).f) ∧
      xg = .int .u32 (n32 (rnds kk (wL f) (ofFun h) k).g) ∧ xh = .int .u32 (n32 (rnds kk (wL f) (ofFun h) k).h) ∧ Tb w wr g cs (wL f) ∧ Tab wr)
    (fun _ _ _ _ _ _ _ _ i _ => 64 - (intOf i).toNat)
  case atStart => exact ⟨0, by omega, rfl, rfl, rfl, rfl, rfl, rfl, rfl, rfl, rfl, ht5, ht6⟩
  case round =>
    clear ht5 ht6
    obtain ⟨k, hk, rfl, rfl, rfl, rfl, rfl, rfl, rfl, rfl, rfl, hb, ht⟩ := hrel
    by_cases hlt : k < 64
    · go_wp2
      have e : rnds kk (wL f) (ofFun h) (k + 1) = rndL (kk k) (wL f k) (rnds kk (wL f) (ofFun h) k) := rfl
      have E := Lib.hid e
      clear e
      generalize rnds kk (wL f) (ofFun h) k = s at *
      have cw := hb.word k hlt
      have ck := ht k hlt
      have bk : (k : Int) < 64 := by omega
      go_quiet ((first | (go_at_call 46; exact quietL (bs1_any _ _)) | (go_at_call 47; exact quietL (chc_any _ _ _ _))))
      have hb2 := hb.drewN nq
      have ht2 := ht.drewN nq
      clear hb ht cw ck bk
      generalize wr.drewN nq = w6 at *
      go_wp2_with (first | (go_at_call 48; refine (bs0_any _ _).mono ?_; rintro e w7 ⟨rfl, rfl⟩) | (go_at_call 49; refine (maj_any _ _ _ _).mono ?_; rintro e w7 ⟨rfl, rfl⟩))
      go_roundw
      case rel => exact ⟨k + 1, by omega, by go_num, by rw [E.out]; rfl, by rw [E.out]; rfl, by rw [E.out]; rfl, by rw [E.out]; rfl, by rw [E.out]; rfl, by rw [E.out]; rfl, by rw [E.out]; rfl, by rw [E.out]; rfl, hb2, ht2⟩
      case measure => simp [intOf]; omega
    · obtain rfl : k = 64 := by omega
      have e : U32s #[.int .u32 (n32 (h 0 + (rnds kk (wL f) (ofFun h) 64).a)), .int .u32 (n32 (h 1 + (rnds kk (wL f) (ofFun h) 64).b)), .int .u32 (n32 (h 2 + (rnds kk (wL f) (ofFun h) 64).c)),
          .int .u32 (n32 (h 3 + (rnds kk (wL f) (ofFun h) 64).d)), .int .u32 (n32 (h 4 + (rnds kk (wL f) (ofFun h) 64).e)), .int .u32 (n32 (h 5 + (rnds kk (wL f) (ofFun h) 64).f)),
          .int .u32 (n32 (h 6 + (rnds kk (wL f) (ofFun h) 64).g)), .int .u32 (n32 (h 7 + (rnds kk (wL f) (ofFun h) 64).h))] 8 (blk h f) := blk_cells h f _ rfl
      generalize rnds kk (wL f) (ofFun h) 64 = s at *
      have c0 := hb.link hc 0 (by omega)
      have c1 := hb.link hc 1 (by omega)
      have c2 := hb.link hc 2 (by omega)
      have c3 := hb.link hc 3 (by omega)
      have c4 := hb.link hc 4 (by omega)
      have c5 := hb.link hc 5 (by omega)
      have c6 := hb.link hc 6 (by omega)
      have c7 := hb.link hc 7 (by omega)
      obtain ⟨es, hes, hsz⟩ := hb.2.1
      have hE := Lib.hid e
      clear e
      go_wp2_with (first | (refine wpList_store_row rfl rfl 68 _ _ rfl (w.heap.size + 1 + 1) rfl _ es rfl 68 hes (by rw [hE.out.1]; exact hsz) (by rw [hE.out.1]; kernel_rfl) hE.out.ones ?_; rintro wf rfl))
      refine bodyPost_ret (results_cell_row (P := Tryd.prog) Tryd.results40 _ _ (w.heap.size + 1 + 1) 68 _ (0, 0) _ rfl (hes.row _) Tryd.underlying68 rfl (by rw [hE.out.1]; kernel_rfl)) rfl ⟨_, rfl, hE.out, hb.2.2.2.row (by omega) _⟩
end
end Go.Proofs.YtpikhfgpdebomaaDoor.Dg

/- The reference's SHA-256: a block. -/
import Derived.Test.YtpikhfgpdebomaaDoorRsC
import Derived.Test.YtpikhfgpdebomaaDoorDgV
import Derived.Test.YtpikhfgpdebomaaDoorDgQ
import Derived.StillTailTactics
import Derived.Deep.RegionHeld3
namespace Go.Proofs.YtpikhfgpdebomaaDoor.Dg
open Go.RowKit
/-- A word as its bytes come. -/
def pw (f : Nat → UInt8) (i : Nat) : Nat → UInt32
  | 0 => 0
  | k + 1 => pw f i k <<< 8 ||| (f (4 * i + k)).toUInt32
theorem pw_four (f : Nat → UInt8) (i : Nat) : pw f i 4 = W0 f i := by
  have sh : ∀ a b : UInt32, (a ||| b) <<< 8 = a <<< 8 ||| b <<< 8 := fun a b => by
    apply UInt32.eq_of_toBitVec_eq
    simp [UInt32.toBitVec_shiftLeft, UInt32.toBitVec_or, BitVec.shiftLeft_or_distrib]
  have s2 : ∀ a : UInt32, (a <<< 8) <<< 8 = a <<< 16 := fun a => by
    apply UInt32.eq_of_toBitVec_eq
    simp [UInt32.toBitVec_shiftLeft, ← BitVec.shiftLeft_add]
  have s3 : ∀ a : UInt32, (a <<< 16) <<< 8 = a <<< 24 := fun a => by
    apply UInt32.eq_of_toBitVec_eq
    simp [UInt32.toBitVec_shiftLeft, ← BitVec.shiftLeft_add]
  have s0 : (0 : UInt32) <<< 8 = 0 := by decide
  simp only [pw, W0, sh, s2, s3, s0, Nat.add_zero]
  simp
def gw (f : Nat → UInt8) (i k : Nat) (j : Nat) : UInt32 := if j < i then W0 f j else if j = i then pw f i k else 0
theorem gw_next (f : Nat → UInt8) (i j : Nat) : gw f i 4 j = gw f (i + 1) 0 j := by
  unfold gw
  rw [pw_four]
  by_cases h1 : j < i
  · rw [if_pos h1, if_pos (by omega)]
  · by_cases h2 : j = i
    · rw [if_neg h1, if_pos h2, if_pos (by omega), h2]
    · rw [if_neg h1, if_neg h2, if_neg (by omega)]
      by_cases h3 : j = i + 1
      · rw [if_pos h3]; rfl
      · rw [if_neg h3]
theorem U32s.put {cs : Array Value} {n : Nat} {g g' : Nat → UInt32} (h : U32s cs n g) (i : Nat) (hi : i < n) (hg : ∀ j, j < n → j ≠ i → g' j = g j) : U32s (cs.setIfInBounds i (.int .u32 (n32 (g' i)))) n g' := by
  refine ⟨by simp [h.1], fun j hj => ?_⟩
  by_cases hji : j = i
  · subst hji
    exact Array.getElem?_setIfInBounds_self_of_lt (by rw [h.1]; exact hi)
  · rw [Array.getElem?_setIfInBounds, if_neg (fun e => hji e.symm), h.2 j hj, hg j hj hji]
theorem U32s.same {cs : Array Value} {n : Nat} {g g' : Nat → UInt32} (h : U32s cs n g) (hg : ∀ j, j < n → g' j = g j) : U32s cs n g' := ⟨h.1, fun j hj => by rw [hg j hj]; exact h.2 j hj⟩
/-- The world amid a block: the chain, the rounds' numbers, the words. -/
structure Rb (w wr : World) (cs ks : Array Value) (g : Nat → UInt32) : Prop where
  chain : Bk wr w.heap.size 57 cs
  keys : Bk wr (w.heap.size + 1) 60 ks
  words : ∃ ds, Bk wr (w.heap.size + 3) 60 ds ∧ U32s ds 64 g
  res : ∃ es, Bk wr (w.heap.size + 2) 57 es ∧ es.size = 8
  ab : Ab w wr
theorem Rb.drew {w wr : World} {cs ks : Array Value} {g : Nat → UInt32} (h : Rb w wr cs ks g) : Rb w wr.drew cs ks g := ⟨h.chain, h.keys, h.words, h.res, h.ab.drew⟩
theorem Rb.drewN {w wr : World} {cs ks : Array Value} {g : Nat → UInt32} (h : Rb w wr cs ks g) (n : Nat) : Rb w (wr.drewN n) cs ks g := ⟨h.chain, h.keys, h.words, h.res, h.ab.drewN n⟩
theorem Rb.put {w wr : World} {cs ks : Array Value} {g g' : Nat → UInt32} (h : Rb w wr cs ks g) (i : Nat) (hi : i < 64) (hg : ∀ j, j < 64 → j ≠ i → g' j = g j) : Rb w (wr.setCell ⟨w.heap.size + 3, i, none⟩ (.int .u32 (n32 (g' i)))) cs ks g' := by
  obtain ⟨ds, h1, h2⟩ := h.words
  obtain ⟨es, h3, h4⟩ := h.res
  exact ⟨h.chain.far (show w.heap.size ≠ w.heap.size + 3 by omega) _, h.keys.far (show w.heap.size + 1 ≠ w.heap.size + 3 by omega) _, ⟨_, h1.store i _, h2.put i hi hg⟩, ⟨es, h3.far (show w.heap.size + 2 ≠ w.heap.size + 3 by omega) _, h4⟩, h.ab.set (show w.heap.size ≤ w.heap.size + 3 by omega) _⟩
theorem Rb.word {w wr : World} {cs ks : Array Value} {g : Nat → UInt32} (h : Rb w wr cs ks g) (i : Nat) (hi : i < 64) : wr.cell? ⟨w.heap.size + 3, i, none⟩ = some (.int .u32 (n32 (g i))) ∧ wr.frozen? ⟨w.heap.size + 3, i, none⟩ = false := by
  obtain ⟨ds, h1, h2⟩ := h.words
  exact ⟨h1.cell (h2.2 i hi), h1.free i⟩
theorem Rb.same {w wr : World} {cs ks : Array Value} {g g' : Nat → UInt32} (h : Rb w wr cs ks g) (hg : ∀ j, j < 64 → g' j = g j) : Rb w wr cs ks g' := by
  obtain ⟨ds, h1, h2⟩ := h.words
  exact ⟨h.chain, h.keys, ⟨ds, h1, h2.same hg⟩, h.res, h.ab⟩
theorem Rb.alloc {w wr : World} {cs ks : Array Value} {g : Nat → UInt32} (h : Rb w wr cs ks g) (o : Obj) : Rb w (wr.alloc o) cs ks g := by
  obtain ⟨ds, h1, h2⟩ := h.words
  obtain ⟨es, h3, h4⟩ := h.res
  exact ⟨h.chain.alloc o, h.keys.alloc o, ⟨ds, h1.alloc o, h2⟩, ⟨es, h3.alloc o, h4⟩, h.ab.alloc o⟩
def sl (s : S8) (i : Nat) : UInt32 := s.list.getD i 0
/-- .. and amid the rounds. -/
def Rl (w wr : World) (cs ks : Array Value) (g : Nat → UInt32) (G : Nat) (s : S8) : Prop := Rb w wr cs ks g ∧ Bk wr G 57 (lit8 (sl s))
theorem Rb.out {w wr : World} {cs ks : Array Value} {g : Nat → UInt32} {G : Nat} (h : Rb w wr cs ks g) (hG : w.heap.size + 4 ≤ G) (i : Nat) (u : Value) : Rb w (wr.setCell ⟨G, i, none⟩ u) cs ks g := by
  obtain ⟨ds, h1, h2⟩ := h.words
  obtain ⟨es, h3, h4⟩ := h.res
  exact ⟨h.chain.far (show w.heap.size ≠ G by omega) u, h.keys.far (show w.heap.size + 1 ≠ G by omega) u, ⟨ds, h1.far (show w.heap.size + 3 ≠ G by omega) u, h2⟩, ⟨es, h3.far (show w.heap.size + 2 ≠ G by omega) u, h4⟩, h.ab.set (show w.heap.size ≤ G by omega) u⟩
theorem Rl.step {w wr : World} {cs ks : Array Value} {g : Nat → UInt32} {G : Nat} {s : S8} (h : Rl w wr cs ks g G s) (hG : w.heap.size + 4 ≤ G) (s' : S8) : Rl w (st8 wr G (sl s')).drew.drew cs ks g G s' := by
  refine ⟨Rb.drew (Rb.drew ?_), (stored8 (sl s') h.2 rfl).drew.drew⟩
  unfold st8
  repeat (refine Rb.out ?_ hG _ _)
  exact h.1
theorem Rl.stepx {w wr : World} {cs ks : Array Value} {g : Nat → UInt32} {G : Nat} {s : S8} (h : Rl w wr cs ks g G s) (hG : w.heap.size + 4 ≤ G) (x0 x1 x2 x3 x4 x5 x6 x7 : UInt32) :
    Rl w ((((((((wr.setCell ⟨G, 0, none⟩ (.int .u32 (n32 x0))).setCell ⟨G, 1, none⟩ (.int .u32 (n32 x1))).setCell ⟨G, 2, none⟩ (.int .u32 (n32 x2))).setCell ⟨G, 3, none⟩ (.int .u32 (n32 x3))).setCell ⟨G, 4, none⟩ (.int .u32 (n32 x4))).setCell ⟨G, 5, none⟩ (.int .u32 (n32 x5))).setCell ⟨G, 6, none⟩ (.int .u32 (n32 x6))).setCell ⟨G, 7, none⟩ (.int .u32 (n32 x7))).drew.drew cs ks g G ⟨x0, x1, x2, x3, x4, x5, x6, x7⟩ :=
  Rl.step h hG ⟨x0, x1, x2, x3, x4, x5, x6, x7⟩
theorem rndL_eq (k w : UInt32) (s : S8) : rndL k w s = ⟨s.h + (rtr s.e 26 6 ^^^ rtr s.e 21 11 ^^^ rtr s.e 7 25) + (s.e &&& s.f ^^^ ~~~s.e &&& s.g) + k + w + ((rtr s.a 30 2 ^^^ rtr s.a 19 13 ^^^ rtr s.a 10 22) + (s.a &&& s.b ^^^ s.a &&& s.c ^^^ s.b &&& s.c)), s.a, s.b, s.c,
    s.d + (s.h + (rtr s.e 26 6 ^^^ rtr s.e 21 11 ^^^ rtr s.e 7 25) + (s.e &&& s.f ^^^ ~~~s.e &&& s.g) + k + w), s.e, s.f, s.g⟩ := rfl
theorem Rl.drew {w wr : World} {cs ks : Array Value} {g : Nat → UInt32} {G : Nat} {s : S8} (h : Rl w wr cs ks g G s) : Rl w wr.drew cs ks g G s := ⟨h.1.drew, h.2.drew⟩
/-- The chain's numbers amid the last sums. -/
def hks (h : Nat → UInt32) (s : S8) (k i : Nat) : UInt32 := if i < k then h i + sl s i else h i
theorem Rl.add {w wr : World} {ks : Array Value} {g h : Nat → UInt32} {G k : Nat} {s : S8} (hr : Rl w wr (lit8 (hks h s k)) ks g G s) (hk : k < 8) (hG : w.heap.size + 4 ≤ G) :
    Rl w (wr.setCell ⟨w.heap.size, k, none⟩ (.int .u32 (n32 (h k + sl s k)))) (lit8 (hks h s (k + 1))) ks g G s := by
  have e : (lit8 (hks h s k)).setIfInBounds k (.int .u32 (n32 (h k + sl s k))) = lit8 (hks h s (k + 1)) := by
    have h1 := (lit8_u (hks h s k)).put (g' := hks h s (k + 1)) k hk (fun j _ hj => by
      unfold hks
      by_cases c : j < k
      · rw [if_pos c, if_pos (by omega)]
      · rw [if_neg c, if_neg (by omega)])
    rw [show hks h s (k + 1) k = h k + sl s k from if_pos (by omega)] at h1
    exact h1.lit
  obtain ⟨ds, h1, h2⟩ := hr.1.words
  obtain ⟨es, h3, h4⟩ := hr.1.res
  refine ⟨⟨?_, hr.1.keys.far (show w.heap.size + 1 ≠ w.heap.size by omega) _, ⟨ds, h1.far (show w.heap.size + 3 ≠ w.heap.size by omega) _, h2⟩, ⟨es, h3.far (show w.heap.size + 2 ≠ w.heap.size by omega) _, h4⟩, hr.1.ab.set (Nat.le_refl _) _⟩, hr.2.far (show G ≠ w.heap.size by omega) _⟩
  rw [← e]
  exact hr.1.chain.store k _
theorem flip32 (a : UInt32) : bits .xor .u32 (n32 a) 4294967295 = n32 (~~~ a) := by
  rw [show (4294967295 : Int) = n32 0xffffffff from rfl, xor32, UInt32.xor_comm, not_xor]
theorem turn_lit (x : UInt32) (n m : Nat) (k : Int) (hk : k = (n : Int)) (h1 : 0 < n) (h2 : n < 32) (hm : m = 32 - n) (w : World) :
    Calls Tryd.prog 34 #[.int .u32 (n32 x), .int .u64 k] w fun e w' => e = .returned (.int .u32 (n32 (rtr x m n))) ∧ w = w' := by
  subst hk; subst hm
  exact turn_any x n h1 h2 w
theorem sum_eq (a b c d x y : UInt32) : (n32 a + bits .xor .u32 (n32 b) (n32 x / 8) + n32 c + bits .xor .u32 (n32 d) (n32 y / 1024)) % (4294967296 : Int) = n32 (a + (b ^^^ x >>> 3) + c + (d ^^^ y >>> 10)) := by
  rw [shr32_3, shr32_10, xor32, xor32]
  unfold n32
  rw [UInt32.toNat_add, UInt32.toNat_add, UInt32.toNat_add]
  omega
def gs (f : Nat → UInt8) (i j : Nat) : UInt32 := if j < i then wL f j else 0
theorem gs_first (f : Nat → UInt8) (j : Nat) : gs f 16 j = gw f 16 0 j := by
  unfold gs gw
  by_cases h : j < 16
  · rw [if_pos h, if_pos h, wL_first f j h]
  · rw [if_neg h, if_neg h]
    by_cases h2 : j = 16
    · rw [if_pos h2]; rfl
    · rw [if_neg h2]
theorem gs_put (f : Nat → UInt8) (i j : Nat) (h : j ≠ i) : gs f (i + 1) j = gs f i j := by
  unfold gs
  by_cases h1 : j < i
  · rw [if_pos h1, if_pos (by omega)]
  · rw [if_neg h1, if_neg (by omega)]
theorem word_ac (f : Nat → UInt8) (i : Nat) (h1 : 16 ≤ i) (h2 : i < 64) (x2 x7 x15 x16 : UInt32) (e2 : wL f (i - 2) = x2) (e7 : wL f (i - 7) = x7) (e15 : wL f (i - 15) = x15) (e16 : wL f (i - 16) = x16) :
    wL f i = x16 + (rtr x15 25 7 ^^^ rtr x15 14 18 ^^^ x15 >>> 3) + x7 + (rtr x2 15 17 ^^^ rtr x2 13 19 ^^^ x2 >>> 10) := by
  rw [wL_next f i h1 h2, e2, e7, e15, e16]
  unfold ss0 ss1
  ac_rfl
section
attribute [local go_sem] up32 up32w or32 xor32 add32 addw32 shl32_8 shlw_8 and32 flip32
set_option maxRecDepth 100000 in
set_option maxHeartbeats 40000000 in
theorem block_any (cs ks : Array Value) (h : Nat → UInt32) (hc : U32s cs 8 h) (hk : U32s ks 64 kk) (v : Value) (l : List UInt8) (hl : l.length = 64) (w : World) (hv : Bs w w.heap.size v l) :
    Calls Tryd.prog 22 #[.agg cs, .agg ks, v] w fun e w' => ∃ ds, e = .returned (.agg ds) ∧ U32s ds 8 (blk h (fun i => l.getD i 0)) ∧ Ab w w' := by
  obtain ⟨A, c, rfl, hlc, hcm, hb⟩ := id hv
  obtain ⟨bb, off, rfl, hbb, hbs⟩ := hb (by intro e; rw [e] at hl; cases hl)
  rw [hl] at hlc hbs ⊢
  have HB := Lib.hid (And.intro hbb hbs)
  have HC := Lib.hid (And.intro hc hk)
  clear hv hb hbs hc hk hbb
  go_enter Tryd.func22, Tryd.ntmps22
  go_wp2_with fail
  have h0 : Rb w ((((w.alloc (.cells cs 57)).alloc (.cells ks 60)).alloc (.cells #[.int .u32 0, .int .u32 0, .int .u32 0, .int .u32 0, .int .u32 0, .int .u32 0, .int .u32 0, .int .u32 0] 57)).alloc (.cells (Array.replicate 64 (.int .u32 0)) 60)) cs ks (gw (fun i => l.getD i 0) 0 0) :=
    ⟨(((Bk.made w _ _).alloc _).alloc _).alloc _, ((Bk.new (by simp)).alloc _).alloc _, ⟨_, Bk.new (by simp), by simp, fun j hj => by
      rw [Array.getElem?_replicate, if_pos hj]
      unfold gw
      rw [if_neg (Nat.not_lt_zero j)]
      by_cases e : j = 0
      · rw [if_pos e]; rfl
      · rw [if_neg e]; rfl⟩, ⟨_, (Bk.new (by simp)).alloc _, rfl⟩, ((((Ab.refl w).alloc _).alloc _).alloc _).alloc _⟩
  have H0 := Lib.hid h0
  clear h0
  go_loopw [8] (fun i wr => ∃ k : Nat, k ≤ 16 ∧ i = .int .i64 (k : Int) ∧ Hid (Rb w wr cs ks (gw (fun i => l.getD i 0) k 0))) (fun i _ => 16 - (intOf i).toNat)
  case atStart => exact ⟨0, by omega, rfl, H0⟩
  case round =>
    obtain ⟨i, hi, rfl, HR⟩ := hrel
    by_cases hlt : i < 16
    · have i1 : (i : Int) < 16 := by omega
      go_wp2_with fail
      go_loopw [9] (fun q wx => ∃ k : Nat, k ≤ 4 ∧ q = .int .i64 (k : Int) ∧ Hid (Rb w wx cs ks (gw (fun i => l.getD i 0) i k))) (fun q _ => 4 - (intOf q).toNat)
      case atStart => exact ⟨0, by omega, rfl, HR⟩
      case round =>
        obtain ⟨k, hk, rfl, HX⟩ := hrel
        by_cases hk4 : k < 4
        · have k1 : (k : Int) < 4 := by omega
          have hx := HX.out.word i (by omega)
          have hgi : gw (fun i => l.getD i 0) i k i = pw (fun i => l.getD i 0) i k := by unfold gw; rw [if_neg (Nat.lt_irrefl i), if_pos rfl]
          rw [hgi] at hx
          have y0 : wr.cell? ⟨w.heap.size + 1 + 1 + 1, i, none⟩ = some (.int .u32 (n32 (pw (fun i => l.getD i 0) i k))) := hx.1
          have z0 : wr.frozen? ⟨w.heap.size + 1 + 1 + 1, i, none⟩ = false := hx.2
          have hby := (HX.out.ab.cells bb (off + (4 * i + k)) HB.out.1).trans (HB.out.2 (4 * i + k) (by omega))
          obtain ⟨a4, ha4⟩ : ∃ a4, 4 * i = a4 := ⟨_, rfl⟩
          obtain ⟨p, hp⟩ : ∃ p, 4 * i + k = p := ⟨_, rfl⟩
          have e1 : IntKind.i64.wrap (4 * (i : Int)) = (a4 : Int) := by rw [IntWalk.i64_in _ (by omega)]; omega
          have e2 : IntKind.i64.wrap ((a4 : Int) + (k : Int)) = (p : Int) := by rw [IntWalk.i64_in _ (by omega)]; omega
          have p0 : (0 : Int) ≤ (p : Int) := by omega
          have p1 : (p : Int) < 64 := by omega
          have i0 : (0 : Int) ≤ (i : Int) := by omega
          have i64 : (i : Int) < 64 := by omega
          have HV := Lib.hid (HX.out.drew.put (g' := gw (fun i => l.getD i 0) i (k + 1)) i (by omega) (fun j _ hj => by
            unfold gw
            by_cases h1 : j < i
            · rw [if_pos h1, if_pos h1]
            · rw [if_neg h1, if_neg h1, if_neg hj, if_neg hj]))
          have hgk : gw (fun i => l.getD i 0) i (k + 1) i = pw (fun i => l.getD i 0) i k <<< 8 ||| (l.getD (4 * i + k) 0).toUInt32 := by unfold gw; rw [if_neg (Nat.lt_irrefl i), if_pos rfl]; rfl
          rw [hgk] at HV
          rw [hp] at hby HV
          generalize l.getD p 0 = yb at *
          generalize pw (fun i => l.getD i 0) i k = xw at *
          have HKK := Lib.hid (And.intro hk4 hi)
          clear hx hgi ha4 hp hgk HX
          go_wp2_with fail
          refine wp_region_still_tail 15 (by kernel_rfl) (by kernel_rfl) ?_
          simp only [List.take_succ_cons, List.take_zero, List.drop_succ_cons, List.drop_zero]
          change wpStill _ _ wr.drew (fun a' => wpList _ _ _ _ a' wr.drew) _ _
          repeat still_step
          try refine wpStill_nil ?_
          go_wp2_with fail
          go_roundw
          case rel => exact ⟨k + 1, HKK.out.1, by go_num, HV⟩
          case measure => have := HKK.out.1; simp [intOf]; omega
        · obtain rfl : k = 4 := by omega
          have HN := Lib.hid (HX.out.same (fun j _ => (gw_next (fun i => l.getD i 0) i j).symm))
          go_wp2_with fail
          go_roundw
          case rel => exact ⟨i + 1, by omega, by go_num, HN⟩
          case measure => simp [intOf]; omega
    · obtain rfl : i = 16 := by omega
      have HG := Lib.hid (HR.out.same (fun j _ => gs_first (fun i => l.getD i 0) j))
      clear HR
      go_wp2_with fail
      go_loopw [10] (fun q wx => ∃ k : Nat, 16 ≤ k ∧ k ≤ 64 ∧ q = .int .i64 (k : Int) ∧ Hid (Rb w wx cs ks (gs (fun i => l.getD i 0) k))) (fun q _ => 64 - (intOf q).toNat)
      case atStart => exact ⟨16, by omega, by omega, rfl, HG⟩
      case round =>
        obtain ⟨k, hk1, hk2, rfl, HX⟩ := hrel
        by_cases hk4 : k < 64
        · have k1 : (k : Int) < 64 := by omega
          have k0 : (0 : Int) ≤ (k : Int) := by omega
          have g : ∀ j, j < k → gs (fun i => l.getD i 0) k j = wL (fun i => l.getD i 0) j := fun j hj => by unfold gs; rw [if_pos hj]
          have w2 := (HX.out.word (k - 2) (by omega)).1
          have w15 := (HX.out.word (k - 15) (by omega)).1
          rw [g _ (by omega)] at w2 w15
          obtain ⟨x2, hx2⟩ : ∃ x, wL (fun i => l.getD i 0) (k - 2) = x := ⟨_, rfl⟩
          obtain ⟨x7, hx7⟩ : ∃ x, wL (fun i => l.getD i 0) (k - 7) = x := ⟨_, rfl⟩
          obtain ⟨x15, hx15⟩ : ∃ x, wL (fun i => l.getD i 0) (k - 15) = x := ⟨_, rfl⟩
          obtain ⟨x16, hx16⟩ : ∃ x, wL (fun i => l.getD i 0) (k - 16) = x := ⟨_, rfl⟩
          have hW := word_ac (fun i => l.getD i 0) k hk1 hk4 x2 x7 x15 x16 hx2 hx7 hx15 hx16
          rw [hx2] at w2
          rw [hx15] at w15
          obtain ⟨j2, hj2⟩ : ∃ j, k - 2 = j := ⟨_, rfl⟩
          obtain ⟨j7, hj7⟩ : ∃ j, k - 7 = j := ⟨_, rfl⟩
          obtain ⟨j15, hj15⟩ : ∃ j, k - 15 = j := ⟨_, rfl⟩
          obtain ⟨j16, hj16⟩ : ∃ j, k - 16 = j := ⟨_, rfl⟩
          rw [hj2] at w2
          rw [hj15] at w15
          have e2 : IntKind.i64.wrap ((k : Int) - 2) = (j2 : Int) := by rw [IntWalk.i64_in _ (by omega)]; omega
          have e7 : IntKind.i64.wrap ((k : Int) - 7) = (j7 : Int) := by rw [IntWalk.i64_in _ (by omega)]; omega
          have e15 : IntKind.i64.wrap ((k : Int) - 15) = (j15 : Int) := by rw [IntWalk.i64_in _ (by omega)]; omega
          have e16 : IntKind.i64.wrap ((k : Int) - 16) = (j16 : Int) := by rw [IntWalk.i64_in _ (by omega)]; omega
          have b2 : (j2 : Int) < 64 := by omega
          have b7 : (j7 : Int) < 64 := by omega
          have b15 : (j15 : Int) < 64 := by omega
          have b16 : (j16 : Int) < 64 := by omega
          have c2 : wr.cell? ⟨w.heap.size + 1 + 1 + 1, j2, none⟩ = some (.int .u32 (n32 x2)) := w2
          have c15 : wr.cell? ⟨w.heap.size + 1 + 1 + 1, j15, none⟩ = some (.int .u32 (n32 x15)) := w15
          have HK := Lib.hid (And.intro hk4 (And.intro hk1 (And.intro hW (And.intro g (And.intro hx7 (And.intro hx16 (And.intro hj7 hj16)))))))
          clear w2 w15 g hW hx2 hx7 hx15 hx16 hj2 hj7 hj15 hj16
          go_wp2_with fail
          go_quiet (fail)
          rename_i nq
          have HQ := HX.out.drewN nq
          generalize wr.drewN nq = wq at *
          obtain ⟨hk4, hk1, hW, g, hx7, hx16, hj7, hj16⟩ := HK.out
          have c7 : wq.cell? ⟨w.heap.size + 1 + 1 + 1, j7, none⟩ = some (.int .u32 (n32 x7)) := by
            have h := (HQ.word (k - 7) (by omega)).1
            rw [g _ (by omega), hx7, hj7] at h
            exact h
          have c16 : wq.cell? ⟨w.heap.size + 1 + 1 + 1, j16, none⟩ = some (.int .u32 (n32 x16)) := by
            have h := (HQ.word (k - 16) (by omega)).1
            rw [g _ (by omega), hx16, hj16] at h
            exact h
          have ck : wq.cell? ⟨w.heap.size + 1 + 1 + 1, k, none⟩ = some (.int .u32 (n32 (gs (fun i => l.getD i 0) k k))) := (HQ.word k hk4).1
          have zk : wq.frozen? ⟨w.heap.size + 1 + 1 + 1, k, none⟩ = false := (HQ.word k hk4).2
          have HV0 := HQ.drew.put (g' := gs (fun i => l.getD i 0) (k + 1)) k hk4 (fun j _ hj => gs_put _ k j hj)
          have hgk : gs (fun i => l.getD i 0) (k + 1) k = wL (fun i => l.getD i 0) k := by unfold gs; rw [if_pos (by omega)]
          rw [hgk, hW] at HV0
          have g1 : ∀ j, j < k → gs (fun i => l.getD i 0) (k + 1) j = wL (fun i => l.getD i 0) j := fun j hj => by unfold gs; rw [if_pos (by omega)]
          have p7 := (HV0.word (k - 7) (by omega)).1
          rw [g1 _ (by omega), hx7, hj7] at p7
          have p16 := (HV0.word (k - 16) (by omega)).1
          rw [g1 _ (by omega), hx16, hj16] at p16
          have HV := Lib.hid HV0
          clear g1
          clear hk4 hk1 hW g hx7 hx16 hj7 hj16 HQ HV0 hgk c2 c15
          go_wp2_with fail
          clear p7 p16
          refine wp_region_still_tail 29 (by kernel_rfl) (by kernel_rfl) ?_
          simp only [List.take_succ_cons, List.take_zero, List.drop_succ_cons, List.drop_zero]
          change wpStill _ _ wq.drew (fun a' => wpList _ _ _ _ a' wq.drew) _ _
          repeat still_step
          still_call ((turn_lit x15 7 25 7 rfl (by omega) (by omega) rfl _).mono fun _ _ h => ⟨h.1, h.2.symm⟩)
          repeat still_step
          still_call ((turn_lit x15 18 14 18 rfl (by omega) (by omega) rfl _).mono fun _ _ h => ⟨h.1, h.2.symm⟩)
          repeat still_step
          still_call ((turn_lit x2 17 15 17 rfl (by omega) (by omega) rfl _).mono fun _ _ h => ⟨h.1, h.2.symm⟩)
          repeat still_step
          still_call ((turn_lit x2 19 13 19 rfl (by omega) (by omega) rfl _).mono fun _ _ h => ⟨h.1, h.2.symm⟩)
          repeat still_step
          try refine wpStill_nil ?_
          go_wp2_with fail
          go_roundw
          case rel =>
            repeat (apply Exists.intro)
            refine And.intro ?ra ?rb
            case rb => rfl
            case ra =>
              refine ⟨k + 1, by omega, by omega, by go_num, ?_⟩
              rw [sum_eq]
              exact HV
          case measure => simp [intOf]; omega
        · obtain rfl : k = 64 := by omega
          have HW := Lib.hid (HX.out.same (fun j hj => show wL (fun i => l.getD i 0) j = gs (fun i => l.getD i 0) 64 j by unfold gs; rw [if_pos hj]))
          clear HX
          have hlit := HC.out.1.lit
          unfold lit8 at hlit
          subst hlit
          have c0 := HW.out.chain.cell (i := 0) rfl
          have c1 := HW.out.chain.cell (i := 1) rfl
          have c2 := HW.out.chain.cell (i := 2) rfl
          have c3 := HW.out.chain.cell (i := 3) rfl
          have c4 := HW.out.chain.cell (i := 4) rfl
          have c5 := HW.out.chain.cell (i := 5) rfl
          have c6 := HW.out.chain.cell (i := 6) rfl
          have c7 := HW.out.chain.cell (i := 7) rfl
          go_wp2_with fail
          have hG : w.heap.size + 4 ≤ wr.heap.size := by
            obtain ⟨ds, h1, -⟩ := HW.out.words
            have := h1.lt
            omega
          have HL := Lib.hid (And.intro (HW.out.alloc (.cells #[.int .u32 (n32 (h 0)), .int .u32 (n32 (h 1)), .int .u32 (n32 (h 2)), .int .u32 (n32 (h 3)), .int .u32 (n32 (h 4)), .int .u32 (n32 (h 5)), .int .u32 (n32 (h 6)), .int .u32 (n32 (h 7))] 57)) (Bk.made wr 57 #[.int .u32 (n32 (h 0)), .int .u32 (n32 (h 1)), .int .u32 (n32 (h 2)), .int .u32 (n32 (h 3)), .int .u32 (n32 (h 4)), .int .u32 (n32 (h 5)), .int .u32 (n32 (h 6)), .int .u32 (n32 (h 7))]))
          have HGl := Lib.hid hG
          clear hG c0 c1 c2 c3 c4 c5 c6 c7 HW
          generalize wr.alloc (.cells #[.int .u32 (n32 (h 0)), .int .u32 (n32 (h 1)), .int .u32 (n32 (h 2)), .int .u32 (n32 (h 3)), .int .u32 (n32 (h 4)), .int .u32 (n32 (h 5)), .int .u32 (n32 (h 6)), .int .u32 (n32 (h 7))] 57) = w5 at *
          generalize wr.heap.size = G at *
          go_loopw [14] (fun q wx => ∃ k : Nat, k ≤ 64 ∧ q = .int .i64 (k : Int) ∧ Hid (Rl w wx (lit8 h) ks (wL (fun i => l.getD i 0)) G (rnds kk (wL (fun i => l.getD i 0)) (ofFun h) k))) (fun q _ => 64 - (intOf q).toNat)
          case atStart => exact ⟨0, by omega, rfl, HL⟩
          case round =>
            obtain ⟨k, hk, rfl, HR⟩ := hrel
            by_cases hk4 : k < 64
            · have k1 : (k : Int) < 64 := by omega
              have k0 : (0 : Int) ≤ (k : Int) := by omega
              have e : rnds kk (wL (fun i => l.getD i 0)) (ofFun h) (k + 1) = rndL (kk k) (wL (fun i => l.getD i 0) k) (rnds kk (wL (fun i => l.getD i 0)) (ofFun h) k) := rfl
              have E := Lib.hid e
              clear e
              generalize rnds kk (wL (fun i => l.getD i 0)) (ofFun h) k = s at *
              have g0 : wr.cell? ⟨G, 0, none⟩ = some (.int .u32 (n32 s.a)) := HR.out.2.cell rfl
              have g1 : wr.cell? ⟨G, 1, none⟩ = some (.int .u32 (n32 s.b)) := HR.out.2.cell rfl
              have g2 : wr.cell? ⟨G, 2, none⟩ = some (.int .u32 (n32 s.c)) := HR.out.2.cell rfl
              have g3 : wr.cell? ⟨G, 3, none⟩ = some (.int .u32 (n32 s.d)) := HR.out.2.cell rfl
              have g4 : wr.cell? ⟨G, 4, none⟩ = some (.int .u32 (n32 s.e)) := HR.out.2.cell rfl
              have g5 : wr.cell? ⟨G, 5, none⟩ = some (.int .u32 (n32 s.f)) := HR.out.2.cell rfl
              have g6 : wr.cell? ⟨G, 6, none⟩ = some (.int .u32 (n32 s.g)) := HR.out.2.cell rfl
              have g7 : wr.cell? ⟨G, 7, none⟩ = some (.int .u32 (n32 s.h)) := HR.out.2.cell rfl
              have ck := HR.out.1.keys.cell (HC.out.2.2 k hk4)
              have cw : wr.cell? ⟨w.heap.size + 1 + 1 + 1, k, none⟩ = some (.int .u32 (n32 (wL (fun i => l.getD i 0) k))) := (HR.out.1.word k hk4).1
              have f0 : wr.frozen? ⟨G, 0, none⟩ = false := HR.out.2.free 0
              have f1 : wr.frozen? ⟨G, 1, none⟩ = false := HR.out.2.free 1
              have f2 : wr.frozen? ⟨G, 2, none⟩ = false := HR.out.2.free 2
              have f3 : wr.frozen? ⟨G, 3, none⟩ = false := HR.out.2.free 3
              have f4 : wr.frozen? ⟨G, 4, none⟩ = false := HR.out.2.free 4
              have f5 : wr.frozen? ⟨G, 5, none⟩ = false := HR.out.2.free 5
              have f6 : wr.frozen? ⟨G, 6, none⟩ = false := HR.out.2.free 6
              have f7 : wr.frozen? ⟨G, 7, none⟩ = false := HR.out.2.free 7
              have HK := Lib.hid hk4
              generalize wL (fun i => l.getD i 0) k = wk at *
              clear hk4
              go_wp2_with fail
              refine wp_region_still_tail 30 (by kernel_rfl) (by kernel_rfl) ?_
              simp only [List.take_succ_cons, List.take_zero, List.drop_succ_cons, List.drop_zero]
              change wpStill _ _ wr.drew (fun a' => wpList _ _ _ _ a' wr.drew) _ _
              repeat still_step
              still_call ((turn_lit s.e 6 26 6 rfl (by omega) (by omega) rfl _).mono fun _ _ h => ⟨h.1, h.2.symm⟩)
              repeat still_step
              still_call ((turn_lit s.e 11 21 11 rfl (by omega) (by omega) rfl _).mono fun _ _ h => ⟨h.1, h.2.symm⟩)
              repeat still_step
              still_call ((turn_lit s.e 25 7 25 rfl (by omega) (by omega) rfl _).mono fun _ _ h => ⟨h.1, h.2.symm⟩)
              repeat still_step
              try refine wpStill_nil ?_
              go_wp2_with fail
              refine wp_region_still_tail 24 (by kernel_rfl) (by kernel_rfl) ?_
              simp only [List.take_succ_cons, List.take_zero, List.drop_succ_cons, List.drop_zero]
              change wpStill _ _ wr.drew.drew (fun a' => wpList _ _ _ _ a' wr.drew.drew) _ _
              repeat still_step
              still_call ((turn_lit s.a 2 30 2 rfl (by omega) (by omega) rfl _).mono fun _ _ h => ⟨h.1, h.2.symm⟩)
              repeat still_step
              still_call ((turn_lit s.a 13 19 13 rfl (by omega) (by omega) rfl _).mono fun _ _ h => ⟨h.1, h.2.symm⟩)
              repeat still_step
              still_call ((turn_lit s.a 22 10 22 rfl (by omega) (by omega) rfl _).mono fun _ _ h => ⟨h.1, h.2.symm⟩)
              repeat still_step
              try refine wpStill_nil ?_
              go_wp2_with fail
              go_roundw
              case rel =>
                repeat (apply Exists.intro)
                refine And.intro ?ra ?rb
                case rb => rfl
                case ra =>
                  refine ⟨k + 1, HK.out, by go_num, ?_⟩
                  rw [E.out, rndL_eq]
                  exact Lib.hid (Rl.stepx HR.out HGl.out _ _ _ _ _ _ _ _)
              case measure => have := HK.out; simp [intOf]; omega
            · obtain rfl : k = 64 := by omega
              have e : U32s #[.int .u32 (n32 (h 0 + (rnds kk (wL (fun i => l.getD i 0)) (ofFun h) 64).a)), .int .u32 (n32 (h 1 + (rnds kk (wL (fun i => l.getD i 0)) (ofFun h) 64).b)), .int .u32 (n32 (h 2 + (rnds kk (wL (fun i => l.getD i 0)) (ofFun h) 64).c)),
                  .int .u32 (n32 (h 3 + (rnds kk (wL (fun i => l.getD i 0)) (ofFun h) 64).d)), .int .u32 (n32 (h 4 + (rnds kk (wL (fun i => l.getD i 0)) (ofFun h) 64).e)), .int .u32 (n32 (h 5 + (rnds kk (wL (fun i => l.getD i 0)) (ofFun h) 64).f)),
                  .int .u32 (n32 (h 6 + (rnds kk (wL (fun i => l.getD i 0)) (ofFun h) 64).g)), .int .u32 (n32 (h 7 + (rnds kk (wL (fun i => l.getD i 0)) (ofFun h) 64).h))] 8 (blk h (fun i => l.getD i 0)) := blk_cells h _ _ rfl
              have HE := Lib.hid e
              clear e
              generalize rnds kk (wL (fun i => l.getD i 0)) (ofFun h) 64 = s at *
              go_wp2_with fail
              go_loopw [19, 167] (fun _ q wx => ∃ k : Nat, k ≤ 8 ∧ q = .int .i64 (k : Int) ∧ Hid (Rl w wx (lit8 (hks h s k)) ks (wL (fun i => l.getD i 0)) G s)) (fun _ q _ => 8 - (intOf q).toNat)
              case atStart => exact ⟨0, by omega, rfl, HR⟩
              case round =>
                obtain ⟨k, hk, rfl, HX⟩ := hrel
                by_cases hk8 : k < 8
                · have k1 : (k : Int) < 8 := by omega
                  have k0 : (0 : Int) ≤ (k : Int) := by omega
                  have cc : wr.cell? ⟨w.heap.size, k, none⟩ = some (.int .u32 (n32 (h k))) := by
                    have := HX.out.1.chain.cell ((lit8_u (hks h s k)).2 k hk8)
                    rw [show hks h s k k = h k from if_neg (Nat.lt_irrefl k)] at this
                    exact this
                  have cf : wr.frozen? ⟨w.heap.size, k, none⟩ = false := HX.out.1.chain.free k
                  have cg : wr.cell? ⟨G, k, none⟩ = some (.int .u32 (n32 (sl s k))) := HX.out.2.cell ((lit8_u (sl s)).2 k hk8)
                  have HV := Lib.hid (Rl.add HX.out.drew hk8 HGl.out)
                  have HK := Lib.hid hk8
                  clear hk8
                  generalize sl s k = y at *
                  generalize h k = hh at *
                  go_wp2_with fail
                  refine wp_region_still_tail 8 (by kernel_rfl) (by kernel_rfl) ?_
                  simp only [List.take_succ_cons, List.take_zero, List.drop_succ_cons, List.drop_zero]
                  change wpStill _ _ wr.drew (fun a' => wpList _ _ _ _ a' wr.drew) _ _
                  repeat still_step
                  try refine wpStill_nil ?_
                  go_wp2_with fail
                  go_roundw
                  case rel =>
                    repeat (apply Exists.intro)
                    refine And.intro ?ra ?rb
                    case rb => rfl
                    case ra => exact ⟨k + 1, HK.out, by go_num, HV⟩
                  case measure => have := HK.out; simp [intOf]; omega
                · obtain rfl : k = 8 := by omega
                  have c0 : wr.cell? ⟨w.heap.size, 0, none⟩ = some (.int .u32 (n32 (h 0 + s.a))) := HX.out.1.chain.cell rfl
                  have c1 : wr.cell? ⟨w.heap.size, 1, none⟩ = some (.int .u32 (n32 (h 1 + s.b))) := HX.out.1.chain.cell rfl
                  have c2 : wr.cell? ⟨w.heap.size, 2, none⟩ = some (.int .u32 (n32 (h 2 + s.c))) := HX.out.1.chain.cell rfl
                  have c3 : wr.cell? ⟨w.heap.size, 3, none⟩ = some (.int .u32 (n32 (h 3 + s.d))) := HX.out.1.chain.cell rfl
                  have c4 : wr.cell? ⟨w.heap.size, 4, none⟩ = some (.int .u32 (n32 (h 4 + s.e))) := HX.out.1.chain.cell rfl
                  have c5 : wr.cell? ⟨w.heap.size, 5, none⟩ = some (.int .u32 (n32 (h 5 + s.f))) := HX.out.1.chain.cell rfl
                  have c6 : wr.cell? ⟨w.heap.size, 6, none⟩ = some (.int .u32 (n32 (h 6 + s.g))) := HX.out.1.chain.cell rfl
                  have c7 : wr.cell? ⟨w.heap.size, 7, none⟩ = some (.int .u32 (n32 (h 7 + s.h))) := HX.out.1.chain.cell rfl
                  obtain ⟨es, hes, hsz⟩ := HX.out.1.res
                  have hes : Bk wr (w.heap.size + 1 + 1) 57 es := hes
                  go_wp2_with (first | (refine wpList_store_row rfl rfl 57 _ _ rfl (w.heap.size + 1 + 1) rfl _ es rfl 57 hes (by rw [HE.out.1]; exact hsz) (by rw [HE.out.1]; kernel_rfl) HE.out.ones ?_; rintro wf rfl))
                  refine bodyPost_ret (results_cell_row (P := Tryd.prog) Tryd.results22 _ _ (w.heap.size + 1 + 1) 57 _ (0, 0) _ rfl (hes.row _) Tryd.underlying57 rfl (by rw [HE.out.1]; kernel_rfl)) rfl ⟨_, rfl, HE.out, HX.out.1.ab.row (by omega) _⟩
end
end Go.Proofs.YtpikhfgpdebomaaDoor.Dg

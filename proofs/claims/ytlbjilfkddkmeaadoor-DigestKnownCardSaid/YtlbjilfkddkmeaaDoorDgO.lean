import Derived.Test.YtlbjilfkddkmeaaDoorDgN
import Derived.StillTailTactics
namespace Go.Proofs.YtlbjilfkddkmeaaDoor.Dg
open Go.RowKit
def fT (l : List UInt8) : Nat → UInt32
  | 0 => 0
  | 1 => (0 : UInt32) + bt l 0
  | 2 => ((0 : UInt32) + bt l 0) + bt l 1 <<< 8
  | 3 => (((0 : UInt32) + bt l 0) + bt l 1 <<< 8) + bt l 2 <<< 16
  | _ => ((((0 : UInt32) + bt l 0) + bt l 1 <<< 8) + bt l 2 <<< 16) + bt l 3 <<< 24
def fT8 (l : List UInt8) : Nat → UInt32
  | 0 => 0
  | 1 => (0 : UInt32) + bt l 0 <<< 8
  | 2 => ((0 : UInt32) + bt l 0 <<< 8) + bt l 1 <<< 16
  | _ => (((0 : UInt32) + bt l 0 <<< 8) + bt l 1 <<< 16) + bt l 2 <<< 24
set_option maxHeartbeats 400000 in
theorem four0_any (s : ByteArray) (hs : s.size ≤ 4) (w : World) :
    Calls Tryd.prog 43 #[.string s, .int .u64 0] w fun e w' => e = .returned (.int .u32 (n32 (fT s.data.toList s.size))) ∧ w = w' := by
  go_enter Tryd.func43, Tryd.ntmps43
  go_wp2
  go_loop [5, 6] (fun n i => ∃ k : Nat, k ≤ s.size ∧ i = .int .i64 k ∧ n = .int .u32 (n32 (fT s.data.toList k))) (fun _ i => s.size - (intOf i).toNat)
  case atStart => exact ⟨0, Nat.zero_le _, rfl, rfl⟩
  case round =>
    obtain ⟨k, hk, rfl, rfl⟩ := hrel
    by_cases hlt : k < s.size
    · have hk4 : k = 0 ∨ k = 1 ∨ k = 2 ∨ k = 3 := by omega
      rcases hk4 with rfl | rfl | rfl | rfl
      · go_wp2
        go_round
        case rel => exact ⟨1, by omega, by go_num, by rw [bt_get' s 0 hlt, add32]; rfl⟩
        case measure => simp [intOf]; omega
      · go_wp2
        go_round
        case rel => exact ⟨2, by omega, by go_num, by rw [bt_get' s 1 hlt, shl32_8, add32]; rfl⟩
        case measure => simp [intOf]; omega
      · go_wp2
        go_round
        case rel => exact ⟨3, by omega, by go_num, by rw [bt_get' s 2 hlt, shl32_16, add32]; rfl⟩
        case measure => simp [intOf]; omega
      · go_wp2
        go_round
        case rel => exact ⟨4, by omega, by go_num, by rw [bt_get' s 3 hlt, shl32_24, add32]; rfl⟩
        case measure => simp [intOf]; omega
    · go_wp2
      go_ret
      have : k = s.size := by omega
      subst this
      exact ⟨rfl, rfl⟩
set_option maxHeartbeats 400000 in
theorem four8_any (s : ByteArray) (hs : s.size ≤ 3) (w : World) :
    Calls Tryd.prog 43 #[.string s, .int .u64 8] w fun e w' => e = .returned (.int .u32 (n32 (fT8 s.data.toList s.size))) ∧ w = w' := by
  go_enter Tryd.func43, Tryd.ntmps43
  go_wp2
  go_loop [5, 6] (fun n i => ∃ k : Nat, k ≤ s.size ∧ i = .int .i64 k ∧ n = .int .u32 (n32 (fT8 s.data.toList k))) (fun _ i => s.size - (intOf i).toNat)
  case atStart => exact ⟨0, Nat.zero_le _, rfl, rfl⟩
  case round =>
    obtain ⟨k, hk, rfl, rfl⟩ := hrel
    by_cases hlt : k < s.size
    · have hk4 : k = 0 ∨ k = 1 ∨ k = 2 := by omega
      rcases hk4 with rfl | rfl | rfl
      · go_wp2
        go_round
        case rel => exact ⟨1, by omega, by go_num, by rw [bt_get' s 0 hlt, shl32_8, add32]; rfl⟩
        case measure => simp [intOf]; omega
      · go_wp2
        go_round
        case rel => exact ⟨2, by omega, by go_num, by rw [bt_get' s 1 hlt, shl32_16, add32]; rfl⟩
        case measure => simp [intOf]; omega
      · go_wp2
        go_round
        case rel => exact ⟨3, by omega, by go_num, by rw [bt_get' s 2 hlt, shl32_24, add32]; rfl⟩
        case measure => simp [intOf]; omega
    · go_wp2
      go_ret
      have : k = s.size := by omega
      subst this
      exact ⟨rfl, rfl⟩
/-- Two texts: the first n bytes of a text, and the rest. -/
def Cut4 (s x y : ByteArray) : Prop := x.data.toList = s.data.toList.take 4 ∧ y.data.toList = s.data.toList.drop 4 ∧ x.size = min 4 s.size ∧ y.size = s.size - 4
def CutPost (s : ByteArray) (w : World) (e : Ending) (w' : World) : Prop := ∃ x y, e = .returned (.tuple #[.string x, .string y]) ∧ Cut4 s x y ∧ ∃ n, w' = w.drewN n
theorem cut4_short (s : ByteArray) (h : (s.size : Int) < 4) : Cut4 s s ByteArray.empty := by
  have hl := Lib.size_eq s
  refine ⟨?_, ?_, by omega, ?_⟩
  · rw [List.take_of_length_le (by omega)]
  · rw [List.drop_eq_nil_of_le (by omega)]; rfl
  · rw [show s.size - 4 = 0 by omega]; rfl
theorem cut4_long (s : ByteArray) (h : (4 : Int) ≤ s.size) : Cut4 s (s.extract 0 4) (s.extract 4 s.size) := by
  refine ⟨by rw [Lib.extract_data]; rfl, by rw [Lib.extract_to_end], by simp, by simp⟩
set_option maxHeartbeats 400000 in
theorem cut_any (s : ByteArray) (hs : s.size ≤ maxLen) (w : World) :
    Calls Tryd.prog 44 #[.string s, .int .i64 4] w (CutPost s w) := by
  unfold maxLen at hs
  go_enter Tryd.func44, Tryd.ntmps44
  go_wp2
  all_goals go_quiet (fail)
  all_goals go_wp2
  all_goals go_ret2
  · exact ⟨_, _, rfl, cut4_short s (by assumption), _, rfl⟩
  · exact ⟨_, _, rfl, cut4_long s (by assumption), _, rfl⟩
theorem fT_take (l m : List UInt8) (k : Nat) (hk : k ≤ 4) (h : ∀ i, i < k → l[i]? = m[i]?) : fT l k = fT m k := by
  have hb : ∀ i, i < k → bt l i = bt m i := fun i hi => by unfold bt; rw [h i hi]
  have hk5 : k = 0 ∨ k = 1 ∨ k = 2 ∨ k = 3 ∨ k = 4 := by omega
  rcases hk5 with rfl | rfl | rfl | rfl | rfl <;> simp only [fT, hb 0, hb 1, hb 2, hb 3, Nat.lt_irrefl, Nat.reduceLT]
theorem four0_at (r : ByteArray) (i j : Nat) (hij : i ≤ j) (hj : j ≤ r.size) (h4 : j - i ≤ 4) (w : World) :
    Calls Tryd.prog 43 #[.string (r.extract i j), .int .u64 0] w fun e w' => e = .returned (.int .u32 (n32 (fT (r.data.toList.drop i) (j - i)))) ∧ w' = w := by
  have hsz : (r.extract i j).size = j - i := by rw [ByteArray.size_extract]; omega
  have := four0_any (r.extract i j) (by omega) w
  rw [hsz, fT_take (r.extract i j).data.toList (r.data.toList.drop i) (j - i) (by omega) ?_] at this
  · exact this.mono fun _ _ ⟨h1, h2⟩ => ⟨h1, h2.symm⟩
  · intro k hk
    rw [ByteArray.data_extract, Array.toList_extract, List.extract_eq_take_drop, List.getElem?_take_of_lt (by omega)]
def strLen : Value → Nat
  | .string b => b.size
  | _ => 0
def rblkL (l : List UInt8) (t : U3) : U3 :=
  let m := mixL (t.a + fT l 4) (t.b + fT (l.drop 4) 4) (t.c + fT (l.drop 8) 4)
  ⟨m.1, m.2.1, m.2.2⟩
def rblks (l : List UInt8) : Nat → U3
  | 0 => ⟨0x9e3779b9, 0x9e3779b9, 0⟩
  | k + 1 => rblkL (l.drop (12 * k)) (rblks l k)
def rendL (n : Nat) (l : List UInt8) (t : U3) : UInt32 :=
  (mixL (t.a + fT l (min 4 l.length)) (t.b + fT (l.drop 4) (min 4 (l.length - 4))) (t.c + UInt32.ofNat n + fT8 (l.drop 8) (min 3 (l.length - 8)))).2.2
def rnameL (l : List UInt8) : UInt32 := rendL l.length (l.drop (12 * (l.length / 12))) (rblks l (l.length / 12))
theorem rname_end (s b x y x2 y2 : ByteArray) (k : Nat) (hk : 12 * k ≤ s.size) (hb : b.data.toList = s.data.toList.drop (12 * k)) (h12 : ¬ 12 ≤ b.size) (h1 : Cut4 b x y) (h2 : Cut4 y x2 y2) :
    rnameL s.data.toList = (mixL ((rblks s.data.toList k).a + fT x.data.toList x.size) ((rblks s.data.toList k).b + fT x2.data.toList x2.size)
      ((rblks s.data.toList k).c + UInt32.ofNat s.size + fT8 y2.data.toList y2.size)).2.2 := by
  have hls := Lib.size_eq s
  have hlb := Lib.size_eq b
  have hl : b.size = s.size - 12 * k := by rw [hlb, hb, List.length_drop, ← hls]
  have hk' : s.data.toList.length / 12 = k := by omega
  obtain ⟨e1, e2, e3, e4⟩ := h1
  obtain ⟨f1, f2, f3, f4⟩ := h2
  unfold rnameL rendL
  rw [hk', ← hb, ← hlb, ← hls]
  have g1 : fT x.data.toList x.size = fT b.data.toList (min 4 b.size) := by
    rw [e3]
    refine fT_take _ _ _ (by omega) fun i hi => ?_
    rw [e1, List.getElem?_take_of_lt (by omega)]
  have g2 : fT x2.data.toList x2.size = fT (b.data.toList.drop 4) (min 4 (b.size - 4)) := by
    rw [f3, e4]
    refine fT_take _ _ _ (by omega) fun i hi => ?_
    rw [f1, e2, List.getElem?_take_of_lt (by omega)]
  have g3 : fT8 y2.data.toList y2.size = fT8 (b.data.toList.drop 8) (min 3 (b.size - 8)) := by
    rw [f4, e4, f2, e2, List.drop_drop, show b.size - 4 - 4 = min 3 (b.size - 8) by omega]
  rw [g1, g2, g3]
theorem or_join (a b : UInt32) (i : Nat) (ha : a.toNat < 2 ^ i) (hb : b.toNat % 2 ^ i = 0) : a ||| b = a + b := by
  apply UInt32.toNat_inj.1
  have h := nat_join i b.toNat a.toNat hb ha
  have hl := (a ||| b).toNat_lt
  rw [UInt32.toNat_or] at hl ⊢
  rw [Nat.or_comm, h] at hl ⊢
  rw [UInt32.toNat_add]
  omega
theorem bt_lt (l : List UInt8) (i : Nat) : (bt l i).toNat < 256 := by
  unfold bt; rw [UInt8.toNat_toUInt32]; exact UInt8.toNat_lt _
theorem sh8 (x : UInt32) (h : x.toNat < 256) : (x <<< 8).toNat = x.toNat * 256 := by
  have := shl_nat x 8 (by omega); rw [show (8 : UInt32) = UInt32.ofNat 8 from rfl, this]; omega
theorem sh16 (x : UInt32) (h : x.toNat < 256) : (x <<< 16).toNat = x.toNat * 65536 := by
  have := shl_nat x 16 (by omega); rw [show (16 : UInt32) = UInt32.ofNat 16 from rfl, this]; omega
theorem sh24 (x : UInt32) (h : x.toNat < 256) : (x <<< 24).toNat = x.toNat * 16777216 := by
  have := shl_nat x 24 (by omega); rw [show (24 : UInt32) = UInt32.ofNat 24 from rfl, this]; omega
theorem lfT_fT (l : List UInt8) (k : Nat) (hk : k ≤ 4) : lfT l k = fT l k := by
  have b0 := bt_lt l 0
  have b1 := bt_lt l 1
  have b2 := bt_lt l 2
  have b3 := bt_lt l 3
  have e1 : (0 : UInt32) ||| bt l 0 = 0 + bt l 0 := by rw [UInt32.zero_or, UInt32.zero_add]
  have n1 : ((0 : UInt32) + bt l 0).toNat = (bt l 0).toNat := by rw [UInt32.zero_add]
  have e2 : ((0 : UInt32) + bt l 0) ||| bt l 1 <<< 8 = ((0 : UInt32) + bt l 0) + bt l 1 <<< 8 := or_join _ _ 8 (by rw [n1]; omega) (by rw [sh8 _ b1]; omega)
  have n2 : (((0 : UInt32) + bt l 0) + bt l 1 <<< 8).toNat = (bt l 0).toNat + (bt l 1).toNat * 256 := by
    rw [UInt32.toNat_add, n1, sh8 _ b1]; omega
  have e3 : (((0 : UInt32) + bt l 0) + bt l 1 <<< 8) ||| bt l 2 <<< 16 = (((0 : UInt32) + bt l 0) + bt l 1 <<< 8) + bt l 2 <<< 16 := or_join _ _ 16 (by rw [n2]; omega) (by rw [sh16 _ b2]; omega)
  have n3 : ((((0 : UInt32) + bt l 0) + bt l 1 <<< 8) + bt l 2 <<< 16).toNat = (bt l 0).toNat + (bt l 1).toNat * 256 + (bt l 2).toNat * 65536 := by
    rw [UInt32.toNat_add, n2, sh16 _ b2]; omega
  have e4 : ((((0 : UInt32) + bt l 0) + bt l 1 <<< 8) + bt l 2 <<< 16) ||| bt l 3 <<< 24 = ((((0 : UInt32) + bt l 0) + bt l 1 <<< 8) + bt l 2 <<< 16) + bt l 3 <<< 24 := or_join _ _ 24 (by rw [n3]; omega) (by rw [sh24 _ b3]; omega)
  have hk5 : k = 0 ∨ k = 1 ∨ k = 2 ∨ k = 3 ∨ k = 4 := by omega
  rcases hk5 with rfl | rfl | rfl | rfl | rfl <;> simp only [lfT, fT, e1, e2, e3, e4]
theorem fT_fT8 (l : List UInt8) (k : Nat) (hk : k ≤ 3) : fT l k <<< 8 = fT8 l k := by
  have b0 := bt_lt l 0
  have b1 := bt_lt l 1
  have b2 := bt_lt l 2
  have sh (x : UInt32) : (x <<< 8).toNat = x.toNat * 256 % 4294967296 := by
    have := shl_nat x 8 (by omega); rw [show (8 : UInt32) = UInt32.ofNat 8 from rfl, this]
  have hk5 : k = 0 ∨ k = 1 ∨ k = 2 ∨ k = 3 := by omega
  rcases hk5 with rfl | rfl | rfl | rfl <;> apply UInt32.toNat_inj.1
  · rfl
  all_goals
    rw [sh]
    simp only [fT, fT8, UInt32.toNat_add, sh8 _ b0, sh8 _ b1, sh16 _ b1, sh16 _ b2, sh24 _ b2]
    simp
    try omega
theorem blks_r (l : List UInt8) : ∀ k, blks l k = rblks l k
  | 0 => rfl
  | k + 1 => by
    rw [blks, rblks, blks_r l k]
    unfold blkL rblkL
    rw [lfT_fT _ 4 (by omega), lfT_fT _ 4 (by omega), lfT_fT _ 4 (by omega)]
/-- BOTH SIDES' HASH OF A NAME IS ONE. -/
theorem nameL_r (l : List UInt8) : nameL l = rnameL l := by
  unfold nameL rnameL endL rendL
  rw [blks_r, lfT_fT _ _ (by omega), lfT_fT _ _ (by omega), lfT_fT _ _ (by omega), fT_fT8 _ _ (by omega), UInt32.add_assoc]
theorem addw32 (a b : UInt32) : IntKind.u32.wrap (n32 a + n32 b) = n32 (a + b) := by rw [IntKind.wrap_u32', add32]
theorem rmix (a b c : UInt32) (w : World) : Calls Tryd.prog 39 #[.agg #[.int .u32 (n32 a), .int .u32 (n32 b), .int .u32 (n32 c)]] w fun e w' =>
      e = .returned (.agg #[.int .u32 (n32 (mixL a b c).1), .int .u32 (n32 (mixL a b c).2.1), .int .u32 (n32 (mixL a b c).2.2)]) ∧ Ab w w' := rmix_any a b c w
theorem four0_in (r : ByteArray) (hr : r.size ≤ 4) (w : World) (n : Nat) : Calls Tryd.prog 43 #[.string r, .int .u64 0] (w.drewN n) fun e w' => e = .returned (.int .u32 (n32 (fT r.data.toList r.size))) ∧ ∃ m, w' = w.drewN m :=
  quietL (four0_any r hr _)
section
attribute [local go_sem] add32 len32 field72 addw32
set_option maxRecDepth 100000 in
set_option maxHeartbeats 4000000 in
theorem rName_any (s : ByteArray) (hs : s.size ≤ maxLen) (w : World) :
    Calls Tryd.prog 26 #[.string s] w fun e w' => e = .returned (.int .u32 (n32 (rnameL s.data.toList))) ∧ Ab w w' := by
  unfold maxLen at hs
  go_enter Tryd.func26, Tryd.ntmps26
  go_wp2
  go_loopw [0] (fun r wr => ∃ (k : Nat) (b : ByteArray), 12 * k ≤ s.size ∧ b.data.toList = s.data.toList.drop (12 * k) ∧ b.size = s.size - 12 * k ∧ r = .string b ∧
      Bk wr w.heap.size 72 #[.int .u32 (n32 (rblks s.data.toList k).a), .int .u32 (n32 (rblks s.data.toList k).b), .int .u32 (n32 (rblks s.data.toList k).c)] ∧ Ab w wr)
    (fun r _ => strLen r)
  case atStart => exact ⟨0, s, by omega, rfl, by omega, rfl, Bk.made _ _ _, (Ab.refl _).alloc _⟩
  case round =>
    obtain ⟨k, b, hk, hb, hsz, rfl, hblk, hab⟩ := hrel
    have HB := Lib.hid hb
    clear hb
    have HS := Lib.hid hsz
    clear hsz
    have hbm : b.size ≤ 9223372036854775807 := by have := HS.out; omega
    have c0 := hblk.cell (i := 0) rfl
    have c1 := hblk.cell (i := 1) rfl
    have c2 := hblk.cell (i := 2) rfl
    by_cases h12 : 12 ≤ b.size
    · go_wp2
      have g4 : (4 : Int) ≤ b.size := by omega
      have g8 : (8 : Int) ≤ b.size := by omega
      have g12 : (12 : Int) ≤ b.size := by omega
      refine wp_region_still_tail 19 (by kernel_rfl) (by kernel_rfl) ?_
      simp only [List.take_succ_cons, List.take_zero, List.drop_succ_cons, List.drop_zero]
      change wpStill _ _ wr.drew (fun a' => wpList _ _ _ _ a' wr.drew) _ _
      repeat still_step
      still_call (four0_at b 0 4 (by omega) (by omega) (by omega) _)
      repeat still_step
      still_call (four0_at b 4 8 (by omega) (by omega) (by omega) _)
      repeat still_step
      still_call (four0_at b 8 12 (by omega) (by omega) (by omega) _)
      repeat still_step
      try refine wpStill_nil ?_
      have hblk2 := hblk.drew
      have hab2 := hab.drew
      clear hblk hab c0 c1 c2 g4 g8 g12
      generalize wr.drew = w2 at *
      go_wp2_with fail
      refine (rmix _ _ _ _).mono ?_
      rintro e w3 ⟨rfl, hb3⟩
      have hblk3 := hb3.bk hblk2
      have hab3 := hab2.trans hb3
      clear hblk2 hab2 hb3
      have c0 := hblk3.cell (i := 0) rfl
      have c1 := hblk3.cell (i := 1) rfl
      have c2 := hblk3.cell (i := 2) rfl
      have f0 := hblk3.free 0
      have f1 := hblk3.free 1
      have f2 := hblk3.free 2
      go_wp2
      go_roundw
      case rel =>
        (repeat apply Exists.intro)
        exact ⟨⟨k + 1, b.extract 12 b.size, by have := HS.out; omega, by rw [Lib.extract_to_end, HB.out, List.drop_drop, Nat.mul_add], by have := HS.out; simp; omega, rfl,
        (((hblk3.store 0 _).store 1 _).store 2 _).eq_ (by rw [HB.out]; rfl), ((hab3.set (by simp) _).set (by simp) _).set (by simp) _⟩, rfl⟩
      case measure => simp [strLen]; omega
    · go_wp2_with fail
      refine (cut_any b (by unfold maxLen; omega) _).mono ?_
      rintro e w1 ⟨x, y, rfl, hxy, n, rfl⟩
      have hblk1 := hblk.drewN n
      have hab1 := hab.drewN n
      clear hblk hab c0 c1 c2
      generalize wr.drewN n = wa at *
      have HXY := Lib.hid hxy
      have hys : y.size ≤ 9223372036854775807 := by have := hxy.2.2.2; omega
      clear hxy
      go_wp2_with fail
      refine (cut_any y (by unfold maxLen; omega) _).mono ?_
      rintro e w1 ⟨x2, y2, rfl, hxy2, n2, rfl⟩
      have hblk2 := hblk1.drewN n2
      have hab2 := hab1.drewN n2
      clear hblk1 hab1
      generalize wa.drewN n2 = wb at *
      have c0 := hblk2.cell (i := 0) rfl
      have c1 := hblk2.cell (i := 1) rfl
      have c2 := hblk2.cell (i := 2) rfl
      have HXY2 := Lib.hid hxy2
      clear hxy2
      have hx4 : x.size ≤ 4 := by have := HXY.out.2.2.1; omega
      have hx24 : x2.size ≤ 4 := by have := HXY2.out.2.2.1; omega
      have hy3 : y2.size ≤ 3 := by have := HXY.out.2.2.2; have := HXY2.out.2.2.2; omega
      go_wp2_with fail
      refine wp_region_still_tail 18 (by kernel_rfl) (by kernel_rfl) ?_
      simp only [List.take_succ_cons, List.take_zero, List.drop_succ_cons, List.drop_zero]
      change wpStill _ _ wb.drew (fun a' => wpList _ _ _ _ a' wb.drew) _ _
      repeat still_step
      still_call ((four0_any x hx4 _).mono fun _ _ h => ⟨h.1, h.2.symm⟩)
      repeat still_step
      still_call ((four0_any x2 hx24 _).mono fun _ _ h => ⟨h.1, h.2.symm⟩)
      repeat still_step
      still_call ((four8_any y2 hy3 _).mono fun _ _ h => ⟨h.1, h.2.symm⟩)
      repeat still_step
      try refine wpStill_nil ?_
      have hab3 := hab2.drew
      clear hblk2 hab2 c0 c1 c2
      generalize wb.drew = wc at *
      go_wp2_with fail
      refine (rmix _ _ _ _).mono ?_
      rintro e w3 ⟨rfl, hb3⟩
      go_wp2_with fail
      go_ret
      refine ⟨?_, hab3.trans hb3⟩
      show Ending.returned (.int .u32 (n32 _)) = _
      rw [rname_end s b x y x2 y2 k hk HB.out h12 HXY.out HXY2.out]
end
end Go.Proofs.YtlbjilfkddkmeaaDoor.Dg

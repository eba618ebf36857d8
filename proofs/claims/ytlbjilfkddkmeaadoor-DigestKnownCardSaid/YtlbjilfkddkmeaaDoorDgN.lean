/- The hash of a name: what both sides make of a text's bytes. -/
import Derived.Test.YtlbjilfkddkmeaaDoorDgR
import Derived.Lib.Strings
import Derived.Lib.IndexBytes
import Derived.Lib.Hide
namespace Go.Proofs.YtlbjilfkddkmeaaDoor.Dg
open Go.RowKit
def bt (l : List UInt8) (i : Nat) : UInt32 := (l[i]?.getD 0).toUInt32
def lfT (l : List UInt8) : Nat → UInt32
  | 0 => 0
  | 1 => (0 : UInt32) ||| bt l 0
  | 2 => ((0 : UInt32) ||| bt l 0) ||| bt l 1 <<< 8
  | 3 => (((0 : UInt32) ||| bt l 0) ||| bt l 1 <<< 8) ||| bt l 2 <<< 16
  | _ => ((((0 : UInt32) ||| bt l 0) ||| bt l 1 <<< 8) ||| bt l 2 <<< 16) ||| bt l 3 <<< 24
theorem byte32 (x : UInt8) : (x.toNat : Int) % (4294967296 : Int) = n32 x.toUInt32 := by
  unfold n32; have := x.toNat_lt; rw [UInt8.toNat_toUInt32]; omega
theorem bt_get (s : ByteArray) (i : Nat) (h : i < s.size) : s[i].toUInt32 = bt s.data.toList i := by
  unfold bt
  have : s.data.toList[i]? = some s[i] := by rw [Array.getElem?_toList]; exact Array.getElem?_eq_getElem h
  rw [this]; rfl
theorem bt_get' (s : ByteArray) (i : Nat) (h : i < s.size) : (s[i].toNat : Int) % (4294967296 : Int) = n32 (bt s.data.toList i) := by rw [byte32, bt_get s i h]
section
attribute [local go_sem] or32
set_option maxHeartbeats 400000 in
theorem lowFirst_any (s : ByteArray) (hs : s.size ≤ 4) (w : World) :
    Calls Tryd.prog 58 #[.string s] w fun e w' => e = .returned (.int .u32 (n32 (lfT s.data.toList s.size))) ∧ w = w' := by
  go_enter Tryd.func58, Tryd.ntmps58
  go_wp2
  go_loop [3, 7] (fun n i => ∃ k : Nat, k ≤ s.size ∧ i = .int .i64 k ∧ n = .int .u32 (n32 (lfT s.data.toList k))) (fun _ i => s.size - (intOf i).toNat)
  case atStart => exact ⟨0, Nat.zero_le _, rfl, rfl⟩
  case round =>
    obtain ⟨k, hk, rfl, rfl⟩ := hrel
    by_cases hlt : k < s.size
    · have hk4 : k = 0 ∨ k = 1 ∨ k = 2 ∨ k = 3 := by omega
      rcases hk4 with rfl | rfl | rfl | rfl
      · go_wp2
        go_round
        case rel => exact ⟨1, by omega, by go_num, by rw [bt_get' s 0 hlt, or32]; rfl⟩
        case measure => simp [intOf]; omega
      · go_wp2
        go_round
        case rel => exact ⟨2, by omega, by go_num, by rw [bt_get' s 1 hlt, shl32_8, or32]; rfl⟩
        case measure => simp [intOf]; omega
      · go_wp2
        go_round
        case rel => exact ⟨3, by omega, by go_num, by rw [bt_get' s 2 hlt, shl32_16, or32]; rfl⟩
        case measure => simp [intOf]; omega
      · go_wp2
        go_round
        case rel => exact ⟨4, by omega, by go_num, by rw [bt_get' s 3 hlt, shl32_24, or32]; rfl⟩
        case measure => simp [intOf]; omega
    · go_wp2
      go_ret
      have : k = s.size := by omega
      subst this
      exact ⟨rfl, rfl⟩
end
theorem ext_eq (s : ByteArray) {a b a' b' : Nat} (h : a = a') (h' : b = b') : Ending.returned (.string (s.extract a b)) = Ending.returned (.string (s.extract a' b')) := by rw [h, h']
theorem ext_nil (s : ByteArray) {a b : Nat} (h : b ≤ a) : Ending.returned (.string ByteArray.empty) = Ending.returned (.string (s.extract a b)) := by
  have : s.extract a b = ByteArray.empty := by
    apply ByteArray.ext; rw [ByteArray.data_extract]; exact Array.extract_empty_of_stop_le_start h
  rw [this]
set_option maxHeartbeats 400000 in
theorem piece_any (s : ByteArray) (hs : s.size ≤ maxLen) (f t : Nat) (hft : f ≤ t) (ht : t ≤ 100) (w : World) :
    Calls Tryd.prog 59 #[.string s, .int .i64 f, .int .i64 t] w fun e w' => e = .returned (.string (s.extract (min f s.size) (min t s.size))) ∧ w = w' := by
  unfold maxLen at hs
  go_enter Tryd.func59, Tryd.ntmps59
  go_wp2
  all_goals
    go_ret
    first | exact ⟨ext_eq s (by omega) (by omega), rfl⟩ | exact ⟨ext_nil s (by omega), rfl⟩
theorem quietL {P : Program} {f : FuncId} {args : Array Value} {w : World} {n : Nat} {v : Value} (h : Calls P f args (w.drewN n) fun e w' => e = .returned v ∧ w.drewN n = w') :
    Calls P f args (w.drewN n) fun e w'' => e = .returned v ∧ ∃ m, w'' = w.drewN m := h.mono fun _ _ ⟨he, hm⟩ => ⟨he, n, hm.symm⟩
theorem lfT_take (l m : List UInt8) (k : Nat) (hk : k ≤ 4) (h : ∀ i, i < k → l[i]? = m[i]?) : lfT l k = lfT m k := by
  have hb : ∀ i, i < k → bt l i = bt m i := fun i hi => by unfold bt; rw [h i hi]
  have hk5 : k = 0 ∨ k = 1 ∨ k = 2 ∨ k = 3 ∨ k = 4 := by omega
  rcases hk5 with rfl | rfl | rfl | rfl | rfl <;> simp only [lfT, hb 0, hb 1, hb 2, hb 3, Nat.lt_irrefl, Nat.reduceLT]
theorem lowFirst_at (r : ByteArray) (i j : Nat) (hij : i ≤ j) (hj : j ≤ r.size) (h4 : j - i ≤ 4) (w : World) :
    Calls Tryd.prog 58 #[.string (r.extract i j)] w fun e w' => e = .returned (.int .u32 (n32 (lfT (r.data.toList.drop i) (j - i)))) ∧ w = w' := by
  have hsz : (r.extract i j).size = j - i := by rw [ByteArray.size_extract]; omega
  have := lowFirst_any (r.extract i j) (by omega) w
  rw [hsz, lfT_take (r.extract i j).data.toList (r.data.toList.drop i) (j - i) (by omega) ?_] at this
  · exact this
  · intro k hk
    rw [ByteArray.data_extract, Array.toList_extract, List.extract_eq_take_drop, List.getElem?_take_of_lt (by omega)]
def blkL (l : List UInt8) (t : U3) : U3 :=
  let m := mixL (t.a + lfT l 4) (t.b + lfT (l.drop 4) 4) (t.c + lfT (l.drop 8) 4)
  ⟨m.1, m.2.1, m.2.2⟩
def blks (l : List UInt8) : Nat → U3
  | 0 => ⟨0x9e3779b9, 0x9e3779b9, 0⟩
  | k + 1 => blkL (l.drop (12 * k)) (blks l k)
def endL (n : Nat) (l : List UInt8) (t : U3) : UInt32 :=
  (mixL (t.a + lfT l (min 4 l.length)) (t.b + lfT (l.drop 4) (min 4 (l.length - 4))) (t.c + (UInt32.ofNat n + lfT (l.drop 8) (min 3 (l.length - 8)) <<< 8))).2.2
def nameL (l : List UInt8) : UInt32 := endL l.length (l.drop (12 * (l.length / 12))) (blks l (l.length / 12))
theorem lfT_0 (l m : List UInt8) : lfT l 0 = lfT m 0 := rfl
theorem nameL_end (l r : List UInt8) (k : Nat) (hk : 12 * k ≤ l.length) (hr : r = l.drop (12 * k)) (h12 : r.length < 12) :
    nameL l = (mixL ((blks l k).a + lfT r (min 4 r.length)) ((blks l k).b + lfT (r.drop (min 4 r.length)) (min 8 r.length - min 4 r.length))
      ((blks l k).c + (UInt32.ofNat l.length + lfT (r.drop (min 8 r.length)) (min 11 r.length - min 8 r.length) <<< 8))).2.2 := by
  have hl : r.length = l.length - 12 * k := by rw [hr, List.length_drop]
  have hk' : l.length / 12 = k := by omega
  unfold nameL endL
  rw [hk', ← hr]
  have e1 : lfT (r.drop (min 4 r.length)) (min 8 r.length - min 4 r.length) = lfT (r.drop 4) (min 4 (r.length - 4)) := by
    by_cases h : 4 ≤ r.length
    · rw [Nat.min_eq_left h, show min 8 r.length - 4 = min 4 (r.length - 4) by omega]
    · rw [show min 8 r.length - min 4 r.length = 0 by omega, show min 4 (r.length - 4) = 0 by omega]; rfl
  have e2 : lfT (r.drop (min 8 r.length)) (min 11 r.length - min 8 r.length) = lfT (r.drop 8) (min 3 (r.length - 8)) := by
    by_cases h : 8 ≤ r.length
    · rw [Nat.min_eq_left h, show min 11 r.length - 8 = min 3 (r.length - 8) by omega]
    · rw [show min 11 r.length - min 8 r.length = 0 by omega, show min 3 (r.length - 8) = 0 by omega]; rfl
  rw [e1, e2]
theorem len32 (n : Nat) : (n : Int) % (4294967296 : Int) = n32 (UInt32.ofNat n) := by
  unfold n32; rw [UInt32.toNat_ofNat']; omega
section
attribute [local go_sem] add32 shl32_8 len32
set_option maxHeartbeats 800000 in
theorem hashText_any (s : ByteArray) (hs : s.size ≤ maxLen) (w : World) :
    Calls Tryd.prog 42 #[.string s] w fun e w' => e = .returned (.int .u32 (n32 (nameL s.data.toList))) ∧ Ab w w' := by
  unfold maxLen at hs
  go_enter Tryd.func42, Tryd.ntmps42
  go_wp2
  go_loopw [3, 4, 5, 6] (fun x y z r wr => ∃ (k : Nat) (b : ByteArray), 12 * k ≤ s.size ∧ b.data.toList = s.data.toList.drop (12 * k) ∧ b.size = s.size - 12 * k ∧ r = .string b ∧
      x = .int .u32 (n32 (blks s.data.toList k).a) ∧ y = .int .u32 (n32 (blks s.data.toList k).b) ∧ z = .int .u32 (n32 (blks s.data.toList k).c) ∧ Ab w wr)
    (fun _ _ _ r _ => match r with | .string b => b.size | _ => 0)
  case atStart => exact ⟨0, s, by omega, rfl, by omega, rfl, rfl, rfl, rfl, Ab.refl _⟩
  case round =>
    obtain ⟨k, b, hk, hb, hsz, rfl, rfl, rfl, rfl, hab⟩ := hrel
    by_cases h12 : 12 ≤ b.size
    · have HB := Lib.hid hb
      clear hb
      have HS := Lib.hid hsz
      clear hsz
      have hbm : b.size ≤ 9223372036854775807 := by have := HS.out; omega
      go_wp2
      go_quiet ((first | (go_at_call 58; exact quietL (lowFirst_at b _ _ (by omega) (by omega) (by omega) _)) | (go_at_call 57; exact quietL (mix_any _ _ _ _))))
      go_wp2
      go_roundw
      case rel => exact ⟨k + 1, b.extract 12 b.size, by have := HS.out; omega, by rw [Lib.extract_to_end, HB.out, List.drop_drop, Nat.mul_add], by have := HS.out; simp; omega, rfl, by rw [HB.out]; rfl, by rw [HB.out]; rfl, by rw [HB.out]; rfl, Ab.drewN hab _⟩
      case measure => simp; omega
    · have HB := Lib.hid hb
      clear hb
      have HS := Lib.hid hsz
      clear hsz
      have hbm : b.size ≤ 9223372036854775807 := by have := HS.out; omega
      go_wp2_with fail
      refine (piece_any b (by unfold maxLen; omega) 0 4 (by omega) (by omega) _).mono ?_
      rintro e w1 ⟨rfl, rfl⟩
      go_wp2_with fail
      refine (lowFirst_at b _ _ (by omega) (by omega) (by omega) _).mono ?_
      rintro e w1 ⟨rfl, rfl⟩
      go_wp2_with fail
      refine (piece_any b (by unfold maxLen; omega) 4 8 (by omega) (by omega) _).mono ?_
      rintro e w1 ⟨rfl, rfl⟩
      go_wp2_with fail
      refine (lowFirst_at b _ _ (by omega) (by omega) (by omega) _).mono ?_
      rintro e w1 ⟨rfl, rfl⟩
      go_wp2_with fail
      refine (piece_any b (by unfold maxLen; omega) 8 11 (by omega) (by omega) _).mono ?_
      rintro e w1 ⟨rfl, rfl⟩
      go_wp2_with fail
      refine (lowFirst_at b _ _ (by omega) (by omega) (by omega) _).mono ?_
      rintro e w1 ⟨rfl, rfl⟩
      go_wp2_with fail
      refine (mix_any _ _ _ _).mono ?_
      rintro e w1 ⟨rfl, rfl⟩
      go_wp2_with fail
      go_ret
      refine ⟨?_, hab⟩
      show Ending.returned (.int .u32 (n32 _)) = _
      rw [nameL_end s.data.toList b.data.toList k (by rw [← Lib.size_eq]; omega) HB.out (by rw [← Lib.size_eq]; omega), ← Lib.size_eq, ← Lib.size_eq]
end
end Go.Proofs.YtlbjilfkddkmeaaDoor.Dg

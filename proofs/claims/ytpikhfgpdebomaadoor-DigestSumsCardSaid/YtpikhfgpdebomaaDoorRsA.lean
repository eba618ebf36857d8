/- The reference's SHA-256: products of two halves; roots. -/
import Derived.Test.YtpikhfgpdebomaaDoorDgWi
import Derived.Laws.Bits64
import Derived.IntWalk
import Derived.BigQuiet
import Derived.Lib.Hide
namespace Go.Proofs.YtpikhfgpdebomaaDoor.Dg
open Go.RowKit
def tal (a : Int) : Int := bits .and .u64 a 4294967295
def tah (a : Int) : Int := a / 4294967296
def tmid (a b : Int) : Int := IntKind.u64.wrap (IntKind.u64.wrap (tal a * tah b) + IntKind.u64.wrap (tal a * tal b) / 4294967296)
def tcross (a b : Int) : Int := IntKind.u64.wrap (IntKind.u64.wrap (tah a * tal b) + tal (tmid a b))
def thi (a b : Int) : Int := IntKind.u64.wrap (IntKind.u64.wrap (IntKind.u64.wrap (tah a * tah b) + tmid a b / 4294967296) + tcross a b / 4294967296)
def tlo (a b : Int) : Int := bits .or .u64 (IntKind.u64.wrap (tcross a b * 4294967296)) (tal (IntKind.u64.wrap (tal a * tal b)))
theorem times_any (a b : Int) (w : World) :
    Calls Tryd.prog 32 #[.int .u64 a, .int .u64 b] w fun e w' => e = .returned (.agg #[.int .u64 (thi a b), .int .u64 (tlo a b)]) ∧ Ab w w' := by
  go_enter Tryd.func32, Tryd.ntmps32
  go_wp2_with fail
  refine ⟨rfl, .agg #[.int .u64 (thi a b), .int .u64 (tlo a b)], ?_, rfl, (Ab.refl w).alloc _⟩
  simp [results, Tryd.results32, go_sem]
  exact ⟨rfl, rfl⟩
def mostB (h l x y : Int) : Bool := decide (h < x) || (decide (h = x) && decide (l ≤ y))
theorem most_any (h l x y : Int) (w : World) :
    Calls Tryd.prog 33 #[.agg #[.int .u64 h, .int .u64 l], .agg #[.int .u64 x, .int .u64 y]] w fun e w' => e = .returned (.bool (mostB h l x y)) ∧ Ab w w' := by
  go_enter Tryd.func33, Tryd.ntmps33
  go_wp2_with fail
  all_goals
    go_ret
    refine ⟨?_, ((Ab.refl w).alloc _).alloc _⟩
    simp [mostB, *]
def sqT (r : Int) (k : Nat) : Int := bits .or .u64 r (IntKind.u64.wrap (2 ^ k))
def sqStep (p r : Int) (k : Nat) : Int := bif mostB (thi (sqT r k) (sqT r k)) (tlo (sqT r k) (sqT r k)) p 0 then sqT r k else r
def sqF (p : Int) : Nat → Int
  | 0 => 0
  | n + 1 => sqStep p (sqF p n) (35 - n)
set_option maxHeartbeats 1000000 in
theorem square_any (p : Int) (w : World) :
    Calls Tryd.prog 20 #[.int .u64 p] w fun e w' => e = .returned (.int .u32 (IntKind.u32.wrap (sqF p 36))) ∧ Ab w w' := by
  go_enter Tryd.func20, Tryd.ntmps20
  go_wp2_with fail
  go_loopw [3, 4] (fun r k wr => ∃ n : Nat, n ≤ 36 ∧ r = .int .u64 (sqF p n) ∧ k = .int .i64 (35 - (n : Int)) ∧ Hid (Ab w wr)) (fun _ k _ => (intOf k + 1).toNat)
  case atStart => exact ⟨0, by omega, rfl, rfl, Lib.hid (Ab.refl w)⟩
  case round =>
    obtain ⟨n, hn, rfl, rfl, HA⟩ := hrel
    obtain ⟨r, hr⟩ : ∃ r, sqF p n = r := ⟨_, rfl⟩
    rw [hr]
    by_cases hlt : n < 36
    · have i1 : (0 : Int) ≤ 35 - (n : Int) := by omega
      have HS := Lib.hid (show sqF p (n + 1) = sqStep p r (35 - n) by rw [← hr]; rfl)
      have HN := Lib.hid (show n + 1 ≤ 36 by omega)
      clear hr
      go_wp2_with fail
      refine (times_any (sqT r (35 - n)) (sqT r (35 - n)) wr).mono ?_
      rintro e w2 ⟨rfl, ha2⟩
      have H2 := Lib.hid (HA.out.trans ha2)
      clear ha2
      go_wp2_with fail
      refine (most_any (thi (sqT r (35 - n)) (sqT r (35 - n))) (tlo (sqT r (35 - n)) (sqT r (35 - n))) p 0 w2).mono ?_
      rintro e w3 ⟨rfl, ha3⟩
      have H3 := Lib.hid (H2.out.trans ha3)
      clear ha3
      cases hb : mostB (thi (sqT r (35 - n)) (sqT r (35 - n))) (tlo (sqT r (35 - n)) (sqT r (35 - n))) p 0
      · have HE := Lib.hid (show sqF p (n + 1) = r by rw [HS.out, sqStep, hb]; rfl)
        clear hb
        go_wp2_with fail
        go_roundw
        case rel => exact ⟨n + 1, HN.out, by rw [HE.out], by congr 1; omega, H3⟩
        case measure => simp [intOf]; omega
      · have HE := Lib.hid (show sqF p (n + 1) = sqT r (35 - n) by rw [HS.out, sqStep, hb]; rfl)
        clear hb
        go_wp2_with fail
        go_roundw
        case rel => exact ⟨n + 1, HN.out, by rw [HE.out]; rfl, by congr 1; omega, H3⟩
        case measure => simp [intOf]; omega
    · have i1 : ¬ (0 : Int) ≤ 35 - (n : Int) := by omega
      obtain rfl : n = 36 := by omega
      subst hr
      go_wp2_with fail
      go_ret
      exact ⟨rfl, HA.out⟩
def cbStep (p r : Int) (k : Nat) : Int := bif mostB (IntKind.u64.wrap (IntKind.u64.wrap (thi (sqT r k) (sqT r k) * sqT r k) + thi (tlo (sqT r k) (sqT r k)) (sqT r k))) (tlo (tlo (sqT r k) (sqT r k)) (sqT r k)) (IntKind.u64.wrap (p * 4294967296)) 0 then sqT r k else r
def cbF (p : Int) : Nat → Int
  | 0 => 0
  | n + 1 => cbStep p (cbF p n) (34 - n)
set_option maxHeartbeats 2000000 in
theorem cube_any (p : Int) (w : World) :
    Calls Tryd.prog 21 #[.int .u64 p] w fun e w' => e = .returned (.int .u32 (IntKind.u32.wrap (cbF p 35))) ∧ Ab w w' := by
  go_enter Tryd.func21, Tryd.ntmps21
  go_wp2_with fail
  go_loopw [3, 4] (fun r k wr => ∃ n : Nat, n ≤ 35 ∧ r = .int .u64 (cbF p n) ∧ k = .int .i64 (34 - (n : Int)) ∧ Hid (Ab w wr)) (fun _ k _ => (intOf k + 1).toNat)
  case atStart => exact ⟨0, by omega, rfl, rfl, Lib.hid (Ab.refl w)⟩
  case round =>
    obtain ⟨n, hn, rfl, rfl, HA⟩ := hrel
    obtain ⟨r, hr⟩ : ∃ r, cbF p n = r := ⟨_, rfl⟩
    rw [hr]
    by_cases hlt : n < 35
    · have i1 : (0 : Int) ≤ 34 - (n : Int) := by omega
      have HS := Lib.hid (show cbF p (n + 1) = cbStep p r (34 - n) by rw [← hr]; rfl)
      have HN := Lib.hid (show n + 1 ≤ 35 by omega)
      clear hr
      go_wp2_with fail
      refine (times_any (sqT r (34 - n)) (sqT r (34 - n)) wr).mono ?_
      rintro e w2 ⟨rfl, ha2⟩
      have H2 := Lib.hid (HA.out.trans ha2)
      clear ha2
      go_wp2_with fail
      refine (times_any (tlo (sqT r (34 - n)) (sqT r (34 - n))) (sqT r (34 - n)) _).mono ?_
      rintro e w3 ⟨rfl, ha3⟩
      have hb3 := (ha3.bk (Bk.made w2 74 #[.int .u64 (thi (sqT r (34 - n)) (sqT r (34 - n))), .int .u64 (tlo (sqT r (34 - n)) (sqT r (34 - n)))])).alloc (.cells #[.int .u64 (thi (tlo (sqT r (34 - n)) (sqT r (34 - n))) (sqT r (34 - n))), .int .u64 (tlo (tlo (sqT r (34 - n)) (sqT r (34 - n))) (sqT r (34 - n)))] 74)
      have x0 : (w3.alloc (.cells #[.int .u64 (thi (tlo (sqT r (34 - n)) (sqT r (34 - n))) (sqT r (34 - n))), .int .u64 (tlo (tlo (sqT r (34 - n)) (sqT r (34 - n))) (sqT r (34 - n)))] 74)).cell? ⟨w2.heap.size, 0, none⟩ = some (.int .u64 (thi (sqT r (34 - n)) (sqT r (34 - n)))) := hb3.cell rfl
      have H3 := Lib.hid ((((H2.out.alloc _).trans ha3).alloc (.cells #[.int .u64 (thi (tlo (sqT r (34 - n)) (sqT r (34 - n))) (sqT r (34 - n))), .int .u64 (tlo (tlo (sqT r (34 - n)) (sqT r (34 - n))) (sqT r (34 - n)))] 74)))
      clear ha3 hb3
      go_wp2_with fail
      refine (most_any (IntKind.u64.wrap (IntKind.u64.wrap (thi (sqT r (34 - n)) (sqT r (34 - n)) * sqT r (34 - n)) + thi (tlo (sqT r (34 - n)) (sqT r (34 - n))) (sqT r (34 - n)))) (tlo (tlo (sqT r (34 - n)) (sqT r (34 - n))) (sqT r (34 - n))) (IntKind.u64.wrap (p * 4294967296)) 0 _).mono ?_
      rintro e w4 ⟨rfl, ha4⟩
      have H4 := Lib.hid (H3.out.trans ha4)
      clear ha4 x0
      cases hb : mostB (IntKind.u64.wrap (IntKind.u64.wrap (thi (sqT r (34 - n)) (sqT r (34 - n)) * sqT r (34 - n)) + thi (tlo (sqT r (34 - n)) (sqT r (34 - n))) (sqT r (34 - n)))) (tlo (tlo (sqT r (34 - n)) (sqT r (34 - n))) (sqT r (34 - n))) (IntKind.u64.wrap (p * 4294967296)) 0
      · have HE := Lib.hid (show cbF p (n + 1) = r by rw [HS.out, cbStep, hb]; rfl)
        clear hb
        go_wp2_with fail
        go_roundw
        case rel => exact ⟨n + 1, HN.out, by rw [HE.out], by congr 1; omega, H4⟩
        case measure => simp [intOf]; omega
      · have HE := Lib.hid (show cbF p (n + 1) = sqT r (34 - n) by rw [HS.out, cbStep, hb]; rfl)
        clear hb
        go_wp2_with fail
        go_roundw
        case rel => exact ⟨n + 1, HN.out, by rw [HE.out]; rfl, by congr 1; omega, H4⟩
        case measure => simp [intOf]; omega
    · have i1 : ¬ (0 : Int) ≤ 34 - (n : Int) := by omega
      obtain rfl : n = 35 := by omega
      subst hr
      go_wp2_with fail
      go_ret
      exact ⟨rfl, HA.out⟩
/-- The constants. -/
def prm : Nat → List Nat
  | 0 => []
  | k + 1 => if (prm k).all (fun q => (k + 2) % q != 0) then prm k ++ [k + 2] else prm k
theorem prm_len : (prm 310).length = 64 := by decide +kernel
theorem prm_less : ∀ k, k < 310 → (prm k).length < 64 := by
  have h : (List.range 310).all (fun k => decide ((prm k).length < 64)) = true := by decide +kernel
  exact fun k hk => of_decide_eq_true (List.all_eq_true.1 h k (List.mem_range.2 hk))
theorem sq_consts : (List.range 8).map (fun i => IntKind.u32.wrap (sqF ((prm 310).getD i 0 : Nat) 36)) = [0x6a09e667, 0xbb67ae85, 0x3c6ef372, 0xa54ff53a, 0x510e527f, 0x9b05688c, 0x1f83d9ab, 0x5be0cd19] := by decide +kernel
theorem cb_consts : ((List.range 64).map (fun i => IntKind.u32.wrap (cbF ((prm 310).getD i 0 : Nat) 35))).take 4 = [0x428a2f98, 0x71374491, 0xb5c0fbcf, 0xe9b5dba5] := by decide +kernel
end Go.Proofs.YtpikhfgpdebomaaDoor.Dg

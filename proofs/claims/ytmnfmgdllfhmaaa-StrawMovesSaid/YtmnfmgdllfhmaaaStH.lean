/- The reference's Choose. -/
import Derived.Test.YtmnfmgdllfhmaaaStG
import Derived.Test.YtmnfmgdllfhmaaaDgR
import Derived.Deep.RegionHeld3
namespace Go.Proofs.Ytmnfmgdllfhmaaa.Dg
open Go.RowKit
variable {w w' : World} {B : Nat} {vi vw : Value} {ids ws : List Int}
/-- What the two of a round say. -/
def Rt (D W : Nat → Int) (k : Nat) (Q P : Int) : Prop := (chz D W k = none ∧ P = -1) ∨ ∃ b, chz D W k = some b ∧ P = (b : Int) ∧ Q = D b
theorem Rt.skip {D W : Nat → Int} {k : Nat} {P Q : Int} (h : Rt D W k Q P) (hw : W k < 1) : Rt D W (k + 1) Q P := by
  unfold Rt at h ⊢
  unfold chz
  rw [if_pos hw]
  exact h
theorem Rt.first {D W : Nat → Int} {k : Nat} {P Q : Int} (h : Rt D W k Q P) (hp : P < 0) (hw : ¬ W k < 1) : Rt D W (k + 1) (D k) (k : Int) := by
  rcases h with ⟨e, -⟩ | ⟨b, -, e, -⟩
  · refine .inr ⟨k, ?_, rfl, rfl⟩
    unfold chz
    rw [if_neg hw, e]
  · omega
theorem Rt.more {D W : Nat → Int} {k : Nat} {P Q : Int} (h : Rt D W k Q P) (hp : ¬ P < 0) (hw : ¬ W k < 1) (hq : Q < D k) : Rt D W (k + 1) (D k) (k : Int) := by
  rcases h with ⟨-, e⟩ | ⟨b, e, -, e2⟩
  · omega
  · refine .inr ⟨k, ?_, rfl, rfl⟩
    unfold chz
    rw [if_neg hw, e]
    simp only
    rw [if_pos (by omega)]
theorem Rt.less {D W : Nat → Int} {k : Nat} {P Q : Int} (h : Rt D W k Q P) (hp : ¬ P < 0) (hw : ¬ W k < 1) (hq : ¬ Q < D k) : Rt D W (k + 1) Q P := by
  rcases h with ⟨-, e⟩ | ⟨b, e, e1, e2⟩
  · omega
  · refine .inr ⟨b, ?_, e1, e2⟩
    unfold chz
    rw [if_neg hw, e]
    simp only
    rw [if_neg (by omega)]
theorem Rt.lo {D W : Nat → Int} {k : Nat} {P Q : Int} (h : Rt D W k Q P) : -1 ≤ P ∧ P < (k : Int) := by
  rcases h with ⟨-, e⟩ | ⟨b, e, e1, e2⟩
  · omega
  · have := (chz_lt e).1; omega
theorem Rt.yes {D W : Nat → Int} {k : Nat} {P Q : Int} (h : Rt D W k Q P) (hp : 0 ≤ P) : ∃ b, chz D W k = some b ∧ P = (b : Int) := by
  rcases h with ⟨-, e⟩ | ⟨b, e, e1, e2⟩
  · omega
  · exact ⟨b, e, e1⟩
theorem Rt.no {D W : Nat → Int} {k : Nat} {P Q : Int} (h : Rt D W k Q P) (hp : P < 0) : chz D W k = none := by
  rcases h with ⟨e, -⟩ | ⟨b, -, e, -⟩
  · exact e
  · omega
attribute [local go_sem] u32_mod wrap32u
set_option maxRecDepth 100000 in
set_option maxHeartbeats 1000000 in
theorem rchoose_any (w : World) (x : UInt32) (r : Int) (hi : Ns w B vi ids) (hw : Ns w B vw ws) (hl : ws.length = ids.length) (hB : B ≤ w.heap.size) :
    Calls Try.prog 15 #[vi, vw, .int .u32 (n32 x), .int .i64 r] w (ChPost7 w (chooseL ids ws x r)) := by
  obtain ⟨Ai, ci, rfl, hi1, hi2⟩ := hi.form
  obtain ⟨Aw, cw, rfl, hw1, hw2⟩ := hw.form
  obtain ⟨N, hN⟩ : ∃ N, ids.length = N := ⟨_, rfl⟩
  unfold chooseL
  rw [hl, hN] at hw hw1 ⊢
  rw [hN] at hi hi1
  have HH := Lib.hid (And.intro hi (And.intro hw hB))
  clear hi hw hl hB hN
  obtain ⟨D, hD⟩ : ∃ D, strawI x r ids ws = D := ⟨_, rfl⟩
  obtain ⟨W, hW⟩ : ∃ W, wtI ws = W := ⟨_, rfl⟩
  rw [hD, hW]
  have HD := Lib.hid hD
  have HWt := Lib.hid hW
  clear hD hW
  go_enter Try.func15, Try.ntmps15
  go_wp2
  go_loopw [10, 11, 22] (fun lng win kk wr => ∃ (k : Nat) (P Q : Int), k ≤ N ∧ kk = .int .i64 (k : Int) ∧ win = .int .i64 P ∧ lng = .int .i64 Q ∧ Hid (Ab w wr) ∧ Hid (Rt D W k Q P))
    (fun _ _ kk _ => N - (intOf kk).toNat)
  case atStart => exact ⟨0, -1, 0, Nat.zero_le _, rfl, rfl, rfl, Lib.hid (Ab.refl w), Lib.hid (.inl ⟨rfl, rfl⟩)⟩
  case round =>
    obtain ⟨k, P, Q, hk, rfl, rfl, rfl, HA, HC⟩ := hrel
    have hlo := HC.out.lo
    by_cases hlt : k < N
    · have HIr := HH.out.1.ab HA.out HH.out.2.2
      have HWr := HH.out.2.1.ab HA.out HH.out.2.2
      obtain ⟨b1, o1, rfl, hb1, cc1⟩ := HIr.cells (by omega)
      obtain ⟨b2, o2, rfl, hb2, cc2⟩ := HWr.cells (by omega)
      have g1 := cc1 k hlt
      have g2 := cc2 k hlt
      obtain ⟨I, hI⟩ : ∃ I, ids.getD k 0 = I := ⟨_, rfl⟩
      obtain ⟨V, hV⟩ : ∃ V, ws.getD k 0 = V := ⟨_, rfl⟩
      rw [hI] at g1
      rw [hV] at g2
      have hDk : drawI (hash3L x (modU I) (modU r)) V = D k := by rw [← HD.out, ← hI, ← hV]; rfl
      have hWk : W k = V := by rw [← HWt.out]; exact hV
      have HK := Lib.hid (And.intro hDk hWk)
      have HS : Hid (∀ wx, Ab wr wx → wx.cell? ⟨b2, o2 + k, none⟩ = some (.int .i64 V)) := Lib.hid fun wx hx => (hx.cells b2 _ (Nat.lt_of_lt_of_le hb2 (Nat.le_trans HH.out.2.2 HA.out.size))).trans g2
      clear cc1 cc2 hI hV hDk hWk HIr HWr hb1 hb2
      by_cases c1 : V < 1
      · go_wp2
        go_roundw
        case rel => exact ⟨k + 1, P, Q, by omega, by go_num, rfl, rfl, HA, Lib.hid (HC.out.skip (by rw [HK.out.2]; exact c1))⟩
        case measure => simp [intOf]; omega
      · have hdec : decide (V < 1) = false := by simpa using c1
        have HN : Hid (1 ≤ W k) := Lib.hid (by rw [HK.out.2]; omega)
        have CD : ∀ wx, Hid (Calls Try.prog 13 #[.int .u32 (n32 (hash3L x (modU I) (modU r))), .int .i64 V] wx fun e w' => e = .returned (.int .i64 (D k)) ∧ wx = w') := fun wx => Lib.hid (by
          have := rdraw_any (hash3L x (modU I) (modU r)) V wx
          rw [HK.out.1] at this
          exact this)
        obtain ⟨d, hd⟩ : ∃ d, D k = d := ⟨_, rfl⟩
        rw [hd] at CD
        have Hd := Lib.hid hd
        clear hd
        go_upto_region 8 with fail
        go_cut [14] (fun s wx => s = .int .i64 d ∧ Hid (Ab wr wx))
        case first =>
          go_region_held3 (fun wx => wx.cell? ⟨b2, o2 + k, none⟩ = some (.int .i64 V)) (first | exact HS.out _ ((Ab.refl wr).drew) | exact HS.out _ H3.out | exact HS.out _ (Ab.refl wr)) (first
            | (go_at_call 22; (with_reducible refine (rhash3_any _ _ _ _).mono ?_); rintro e w3 ⟨rfl, hb3⟩; (have H3 := Lib.hid (((Ab.refl wr).drew).trans (show Ab _ w3 from hb3))); clear hb3)
            | (go_at_call 13; (with_reducible refine (CD _).out.mono ?_); rintro e w4 ⟨rfl, rfl⟩))
          all_goals (go_wp2_with fail; go_meet; exact ⟨rfl, H3⟩)
        case rest =>
          obtain ⟨rfl, HB⟩ := hcut
          have HA2 := Lib.hid (HA.out.trans HB.out)
          by_cases c2 : P < 0
          · have hd1 : decide (P < 0) = true := by simpa using c2
            go_wp2
            go_roundw
            case rel => exact ⟨k + 1, (k : Int), d, by omega, by go_num, rfl, rfl, HA2, Lib.hid (by have := HC.out.first (by omega) (Int.not_lt.2 HN.out); rw [Hd.out] at this; exact this)⟩
            case measure => simp [intOf]; omega
          · have hd1 : decide (P < 0) = false := by simpa using c2
            by_cases c3 : Q < d
            · have hd2 : decide (Q < d) = true := by simpa using c3
              go_wp2
              go_roundw
              case rel => exact ⟨k + 1, (k : Int), d, by omega, by go_num, rfl, rfl, HA2, Lib.hid (by have := HC.out.more (by omega) (Int.not_lt.2 HN.out) (by rw [Hd.out]; exact c3); rw [Hd.out] at this; exact this)⟩
              case measure => simp [intOf]; omega
            · have hd2 : decide (Q < d) = false := by simpa using c3
              go_wp2
              go_roundw
              case rel => exact ⟨k + 1, P, Q, by omega, by go_num, rfl, rfl, HA2, Lib.hid (HC.out.less (by omega) (Int.not_lt.2 HN.out) (by rw [Hd.out]; omega))⟩
              case measure => simp [intOf]; omega
    · have e : k = N := by omega
      subst e
      by_cases c2 : P < 0
      · have he := Lib.hid (HC.out.no c2)
        go_wp2
        go_ret2
        exact ⟨by rw [he.out]; rfl, HA.out⟩
      · obtain ⟨b, e1, e2⟩ := HC.out.yes (by omega)
        have he := Lib.hid e1
        subst e2
        clear e1
        go_wp2
        go_ret2
        exact ⟨by rw [he.out]; rfl, HA.out⟩
theorem rchoose_off (w : World) (x : UInt32) (r : Int) (hi : Ns w B vi ids) (hw : Ns w B vw ws) (hl : ws.length ≠ ids.length) :
    Calls Try.prog 15 #[vi, vw, .int .u32 (n32 x), .int .i64 r] w (ChPost7 w none) := by
  obtain ⟨Ai, ci, rfl, -⟩ := hi.form
  obtain ⟨Aw, cw, rfl, -⟩ := hw.form
  have hb := hi.len
  have hb2 := hw.len
  have hne : ((ids.length : Int) == (ws.length : Int)) = false := by simpa using (show (ids.length : Int) ≠ (ws.length : Int) by omega)
  have hne2 : ((ids.length : Int) != (ws.length : Int)) = true := by simpa using (show (ids.length : Int) ≠ (ws.length : Int) by omega)
  clear hi hw hl
  go_enter Try.func15, Try.ntmps15
  go_wp2_with fail
  go_ret2
  exact ⟨rfl, Ab.refl w⟩
end Go.Proofs.Ytmnfmgdllfhmaaa.Dg

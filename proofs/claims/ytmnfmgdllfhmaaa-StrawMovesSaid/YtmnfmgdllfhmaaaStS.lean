/- StrawMoves: the walk. -/
import Derived.Test.YtmnfmgdllfhmaaaStR
namespace Go.Proofs.Ytmnfmgdllfhmaaa.Dg
open Go.RowKit
variable {w w' : World} {B g N : Nat} {vi vw : Value} {ids ws : List Int} {f : Nat → Option Nat}
theorem mod_at (T : Int) (n : Nat) (hn : 0 < n) (h9 : n ≤ 17592186043904) : ∃ I : Nat, wrap64 (T % (n : Int)) = (I : Int) ∧ I < n := by
  have h1 := Int.emod_nonneg T (show (n : Int) ≠ 0 by omega)
  have h2 := Int.emod_lt_of_pos T (show (0 : Int) < n by omega)
  refine ⟨(T % (n : Int)).toNat, ?_, by omega⟩
  rw [IntWalk.wrap64_in _ (by omega)]
  omega
set_option maxRecDepth 100000 in
set_option maxHeartbeats 2000000 in
theorem moves_walk (w : World) {A0 A1 : Option Addr} {n0 c0 n1 c1 : Nat} (x : UInt32) (h0 m r : Int) (hi : Ns w w.heap.size (.slice A0 n0 c0) ids) (hw : Ns w w.heap.size (.slice A1 n1 c1) ws) (h47 : ids.length ≤ 17592186043904) :
    Calls Try.prog 8 #[.agg #[.slice A0 n0 c0, .slice A1 n1 c1], .int .u32 (n32 x), .agg #[.int .i64 h0, .int .i64 m, .int .i64 r]] w (LawPost w) := by
  have e0 := hi.get
  have e1 := hw.get
  have hb8 := hi.len
  have hb9 := hw.len
  rw [← e0] at hb8 h47
  rw [← e1] at hb9
  have HH : Hid (∀ wx, Ab w wx → Ns wx w.heap.size (.slice A0 n0 c0) ids ∧ Ns wx w.heap.size (.slice A1 n1 c1) ws ∧ w.heap.size ≤ wx.heap.size) := Lib.hid fun wx hx => ⟨hi.ab hx (Nat.le_refl _), hw.ab hx (Nat.le_refl _), hx.size⟩
  have HE := Lib.hid (And.intro e0 e1)
  clear hi hw e0 e1
  have hab : Ab w ((w.alloc (.cells #[.slice A0 n0 c0, .slice A1 n1 c1] 30)).alloc (.cells #[.int .i64 h0, .int .i64 m, .int .i64 r] 40)) := ((Ab.refl w).alloc _).alloc _
  have hb1 := (Bk.made w 30 #[.slice A0 n0 c0, .slice A1 n1 c1]).alloc (.cells #[.int .i64 h0, .int .i64 m, .int .i64 r] 40)
  have hb2 := Bk.new (w := w.alloc (.cells #[.slice A0 n0 c0, .slice A1 n1 c1] 30)) (n := w.heap.size + 1) (t := 40) (cs := #[.int .i64 h0, .int .i64 m, .int .i64 r]) (by simp)
  obtain ⟨T, hT⟩ : ∃ T : Int, IntKind.u64.wrap h0 = T := ⟨_, rfl⟩
  have hT0 : 0 ≤ T := by rw [← hT, IntKind.wrap_u64]; omega
  go_enter Try.func8, Try.ntmps8
  go_wp2_with fail
  generalize (w.alloc (.cells #[.slice A0 n0 c0, .slice A1 n1 c1] 30)).alloc (.cells #[.int .i64 h0, .int .i64 m, .int .i64 r] 40) = w1 at *
  have k0 := hb1.cell (i := 0) rfl
  have k1 := hb1.cell (i := 1) rfl
  have k2 := hb2.cell (i := 0) rfl
  have k3 := hb2.cell (i := 1) rfl
  have k4 := hb2.cell (i := 2) rfl
  have HA := Lib.hid hab
  clear hb1 hb2 hab
  go_quiet (fail)
  clear k0 k1 k2 k3 k4
  have HA1 := Lib.hid (HA.out.drewN nq)
  generalize w1.drewN nq = w2 at *
  clear hT
  by_cases q1 : n0 = n1
  · subst q1
    by_cases q2 : n0 = 0
    · subst q2
      go_wp2_with (go_at_call 11; (refine (lives7 _).mono ?_); rintro e w7 ⟨rfl, h7⟩; (have H7 := Lib.hid h7); clear h7)
      go_ret
      exact ⟨rfl, HA1.out.trans H7.out⟩
    · have hne3 : ((n0 : Int) == 0) = false := by simpa using q2
      by_cases q3 : m < 0
      · go_wp2_with (go_at_call 11; (refine (lives7 _).mono ?_); rintro e w7 ⟨rfl, h7⟩; (have H7 := Lib.hid h7); clear h7)
        go_ret
        exact ⟨rfl, HA1.out.trans H7.out⟩
      · have hd3 : decide (m < 0) = false := by simpa using q3
        by_cases q4 : 1073741824 < m
        · have hd4 : decide (1073741824 < m) = true := by simpa using q4
          go_wp2_with (go_at_call 11; (refine (lives7 _).mono ?_); rintro e w7 ⟨rfl, h7⟩; (have H7 := Lib.hid h7); clear h7)
          go_ret
          exact ⟨rfl, HA1.out.trans H7.out⟩
        · have hd4 : decide (1073741824 < m) = false := by simpa using q4
          go_upto_region 5 with fail
          obtain ⟨I, hz, hI⟩ := mod_at T n0 (by omega) (by omega)
          rw [hz]
          clear hz
          generalize T % (n0 : Int) = Z
          have hI2 : (I : Int) < (n0 : Int) := by omega
          obtain ⟨b2, o2, rfl, -, cc⟩ := (HH.out _ HA1.out).2.1.cells (by omega)
          have g2 := cc I hI
          obtain ⟨V, hV⟩ : ∃ V, ws.getD I 0 = V := ⟨_, rfl⟩
          rw [hV] at g2
          have HV := Lib.hid hV
          clear cc hV
          by_cases q5 : V < 0
          · have hd5 : decide (V < 0) = true := by simpa using q5
            go_wp2_with (go_at_call 11; (refine (lives7 _).mono ?_); rintro e w7 ⟨rfl, h7⟩; (have H7 := Lib.hid h7); clear h7)
            go_ret
            exact ⟨rfl, HA1.out.trans H7.out⟩
          · have hd5 : decide (V < 0) = false := by simpa using q5
            by_cases q6 : 1073741824 < V
            · have hd6 : decide (1073741824 < V) = true := by simpa using q6
              go_wp2_with (go_at_call 11; (refine (lives7 _).mono ?_); rintro e w7 ⟨rfl, h7⟩; (have H7 := Lib.hid h7); clear h7)
              go_ret
              exact ⟨rfl, HA1.out.trans H7.out⟩
            · have hd6 : decide (1073741824 < V) = false := by simpa using q6
              have C1 := Lib.hid (choose_any w2 x r (HH.out _ HA1.out).1 (HH.out _ HA1.out).2.1 (by have := HE.out; omega) (HH.out _ HA1.out).2.2)
              obtain ⟨R1, hR1⟩ : ∃ R, chooseL ids ws x r = R := ⟨_, rfl⟩
              obtain ⟨P1, hP1⟩ : ∃ P : Int, ((R1.getD 0 : Nat) : Int) = P := ⟨_, rfl⟩
              obtain ⟨F1, hF1⟩ : ∃ F : Bool, R1.isSome = F := ⟨_, rfl⟩
              unfold ChPost7 at C1
              rw [hR1, hP1, hF1] at C1
              have H1 := Lib.hid (And.intro hR1 (And.intro hP1 hF1))
              clear hR1 hP1 hF1
              go_wp2_with fail
              refine C1.out.mono ?_
              rintro e w3 ⟨rfl, h3⟩
              have HA2 := Lib.hid (HA1.out.trans h3)
              clear h3 C1
              obtain ⟨g, c', w4, hr, hge, hnw, h4⟩ := app_ns (HH.out _ HA2.out).2.1 (HH.out _ HA2.out).2.2 (by omega) h47
              have HNw := Lib.hid hnw
              have HA3 := Lib.hid (HA2.out.trans h4)
              have HG := Lib.hid (Nat.le_trans (HH.out _ HA2.out).2.2 hge)
              have HAP := Lib.hid hr
              clear hnw h4 hge hr
              have a1 := (HNw.out.at_ hI).1
              have a2 := (HNw.out.at_ hI).2
              rw [HV.out] at a1
              go_wp2_with (refine wpList_app _ rfl _ _ 28 28 rfl _ _ rfl rfl HAP.out ?_)
              have HN5 := Lib.hid (HNw.out.set (y := V + m) hI (by omega))
              have HA4 := Lib.hid (HA3.out.set (p := ⟨g, I, none⟩) HG.out (.int .i64 (V + m)))
              generalize w4.setCell ⟨g, I, none⟩ (.int .i64 (V + m)) = w5 at *
              have C2 := Lib.hid (choose_any w5 x r ((HH.out _ HA4.out).1.more (HH.out _ HA4.out).2.2) HN5.out.ns (by rw [List.length_set]; have := HE.out; omega) (Nat.le_refl _))
              clear a1 a2
              have hlen := HE.out
              have hsetV : ws.set I (V + m) = ws.set I (ws.getD I 0 + m) := by rw [HV.out]
              cases R1 with
              | none =>
                have e1 := H1.out.2.1
                have e2 := H1.out.2.2
                subst e1
                subst e2
                clear hlen hsetV
                generalize chooseL ids (ws.set I (V + m)) x r = R2 at *
                obtain ⟨P2, hP2⟩ : ∃ P : Int, ((R2.getD 0 : Nat) : Int) = P := ⟨_, rfl⟩
                obtain ⟨F2, hF2⟩ : ∃ F : Bool, R2.isSome = F := ⟨_, rfl⟩
                unfold ChPost7 at C2
                rw [hP2, hF2] at C2
                clear hP2 hF2
                refine C2.out.mono ?_
                rintro e w6 ⟨rfl, h6⟩
                have HN6 := Lib.hid (HN5.out.ab h6)
                have HA5 := Lib.hid (HA4.out.trans h6)
                clear h6 C2
                have a1 := (HN6.out.at_ hI).1
                have a2 := (HN6.out.at_ hI).2
                go_wp2_with fail
                clear a1 a2
                have HN7 := Lib.hid (HN6.out.set (y := 0) hI (by omega))
                have HA6 := Lib.hid (HA5.out.set (p := ⟨g, I, none⟩) HG.out (.int .i64 0))
                rw [set_set_] at HN7
                generalize w6.setCell ⟨g, I, none⟩ (.int .i64 0) = w7 at *
                have C3 := choose_any w7 x r ((HH.out _ HA6.out).1.more (HH.out _ HA6.out).2.2) HN7.out.ns (by rw [List.length_set]; have := HE.out; omega) (Nat.le_refl _)
                generalize chooseL ids (ws.set I 0) x r = R3 at *
                obtain ⟨P3, hP3⟩ : ∃ P : Int, ((R3.getD 0 : Nat) : Int) = P := ⟨_, rfl⟩
                obtain ⟨F3, hF3⟩ : ∃ F : Bool, R3.isSome = F := ⟨_, rfl⟩
                unfold ChPost7 at C3
                rw [hP3, hF3] at C3
                clear hP3 hF3
                refine C3.mono ?_
                rintro e w8 ⟨rfl, h8⟩
                have H8 := Lib.hid h8
                clear h8 C3
                go_wp2_with (go_at_call 11; (refine (lives7 _).mono ?_); rintro e w9 ⟨rfl, h9⟩; (have H9 := Lib.hid h9); clear h9)
                go_ret
                exact ⟨rfl, (HA6.out.trans H8.out).trans H9.out⟩
              | some k =>
                have e1 : (k : Int) = P1 := H1.out.2.1
                have e2 : true = F1 := H1.out.2.2
                have e3 := H1.out.1
                subst e1
                subst e2
                obtain ⟨b, hb, hbk⟩ := grows (ids := ids) (ws := ws) (x := x) (r := r) (i := I) (k := k) (m := m) (by omega) (by omega) (by omega) e3
                rw [← hsetV] at hb
                rw [hb] at C2
                clear hsetV hb
                have C2 := Lib.hid (C2.out.mono fun e w' hp => (⟨hp.1, hp.2⟩ : e = .returned (.tuple #[.int .i64 (b : Int), .bool true]) ∧ Ab w5 w'))
                have hbk2 : k = b ∨ (I = b ∧ b ≠ k) := by omega
                have hkI : I = k ∨ (k ≠ I ∧ chooseL ids (ws.set I 0) x r = some k) := by
                  by_cases e : k = I
                  · exact .inl e.symm
                  · exact .inr ⟨e, leaves (by omega) (by omega) (by omega) e e3⟩
                have HKI := Lib.hid hkI
                clear e3 hkI hlen hbk H1
                rcases hbk2 with h | ⟨h, hbk3⟩
                · subst h
                  rcases HKI.out with h | ⟨hk3, hq⟩
                  · subst h
                    clear HKI
                    refine C2.out.mono ?_
                    rintro e w6 ⟨rfl, h6⟩
                    have HN6 := Lib.hid (HN5.out.ab h6)
                    have HA5 := Lib.hid (HA4.out.trans h6)
                    clear h6 C2
                    have a1 := (HN6.out.at_ hI).1
                    have a2 := (HN6.out.at_ hI).2
                    go_wp2_with fail
                    clear a1 a2
                    have HN7 := Lib.hid (HN6.out.set (y := 0) hI (by omega))
                    have HA6 := Lib.hid (HA5.out.set (p := ⟨g, I, none⟩) HG.out (.int .i64 0))
                    rw [set_set_] at HN7
                    generalize w6.setCell ⟨g, I, none⟩ (.int .i64 0) = w7 at *
                    have C3 := choose_any w7 x r ((HH.out _ HA6.out).1.more (HH.out _ HA6.out).2.2) HN7.out.ns (by rw [List.length_set]; have := HE.out; omega) (Nat.le_refl _)
                    generalize chooseL ids (ws.set I 0) x r = R3 at *
                    obtain ⟨P3, hP3⟩ : ∃ P : Int, ((R3.getD 0 : Nat) : Int) = P := ⟨_, rfl⟩
                    obtain ⟨F3, hF3⟩ : ∃ F : Bool, R3.isSome = F := ⟨_, rfl⟩
                    unfold ChPost7 at C3
                    rw [hP3, hF3] at C3
                    clear hP3 hF3
                    refine C3.mono ?_
                    rintro e w8 ⟨rfl, h8⟩
                    have H8 := Lib.hid h8
                    clear h8 C3
                    go_wp2_with (go_at_call 11; (refine (lives7 _).mono ?_); rintro e w9 ⟨rfl, h9⟩; (have H9 := Lib.hid h9); clear h9)
                    go_ret
                    exact ⟨rfl, (HA6.out.trans H8.out).trans H9.out⟩
                  · have hq3 := Lib.hid hq
                    have hn1 : ((k : Int) == (I : Int)) = false := by simpa using (show (k : Int) ≠ (I : Int) by omega)
                    have hn2 : ((k : Int) != (I : Int)) = true := by simpa using (show (k : Int) ≠ (I : Int) by omega)
                    clear hq HKI hk3
                    refine C2.out.mono ?_
                    rintro e w6 ⟨rfl, h6⟩
                    have HN6 := Lib.hid (HN5.out.ab h6)
                    have HA5 := Lib.hid (HA4.out.trans h6)
                    clear h6 C2
                    have a1 := (HN6.out.at_ hI).1
                    have a2 := (HN6.out.at_ hI).2
                    go_wp2_with fail
                    clear a1 a2
                    have HN7 := Lib.hid (HN6.out.set (y := 0) hI (by omega))
                    have HA6 := Lib.hid (HA5.out.set (p := ⟨g, I, none⟩) HG.out (.int .i64 0))
                    rw [set_set_] at HN7
                    generalize w6.setCell ⟨g, I, none⟩ (.int .i64 0) = w7 at *
                    have C3 := choose_any w7 x r ((HH.out _ HA6.out).1.more (HH.out _ HA6.out).2.2) HN7.out.ns (by rw [List.length_set]; have := HE.out; omega) (Nat.le_refl _)
                    rw [hq3.out] at C3
                    refine (C3.mono fun e w' hp => (⟨hp.1, hp.2⟩ : e = .returned (.tuple #[.int .i64 (k : Int), .bool true]) ∧ Ab w7 w')).mono ?_
                    rintro e w8 ⟨rfl, h8⟩
                    have H8 := Lib.hid h8
                    clear h8 C3
                    go_wp2_with (go_at_call 11; (refine (lives7 _).mono ?_); rintro e w9 ⟨rfl, h9⟩; (have H9 := Lib.hid h9); clear h9)
                    go_ret
                    exact ⟨rfl, (HA6.out.trans H8.out).trans H9.out⟩
                · subst h
                  rcases HKI.out with h | ⟨hk3, hq⟩
                  · exact absurd h hbk3
                  · have hq3 := Lib.hid hq
                    have hn1 : ((k : Int) == (I : Int)) = false := by simpa using (show (k : Int) ≠ (I : Int) by omega)
                    have hn2 : ((k : Int) != (I : Int)) = true := by simpa using (show (k : Int) ≠ (I : Int) by omega)
                    have hn3 : ((I : Int) == (k : Int)) = false := by simpa using (show (I : Int) ≠ (k : Int) by omega)
                    have hn4 : ((I : Int) != (k : Int)) = true := by simpa using (show (I : Int) ≠ (k : Int) by omega)
                    clear hq HKI hk3 hbk3
                    refine C2.out.mono ?_
                    rintro e w6 ⟨rfl, h6⟩
                    have HN6 := Lib.hid (HN5.out.ab h6)
                    have HA5 := Lib.hid (HA4.out.trans h6)
                    clear h6 C2
                    have a1 := (HN6.out.at_ hI).1
                    have a2 := (HN6.out.at_ hI).2
                    go_wp2_with fail
                    clear a1 a2
                    have HN7 := Lib.hid (HN6.out.set (y := 0) hI (by omega))
                    have HA6 := Lib.hid (HA5.out.set (p := ⟨g, I, none⟩) HG.out (.int .i64 0))
                    rw [set_set_] at HN7
                    generalize w6.setCell ⟨g, I, none⟩ (.int .i64 0) = w7 at *
                    have C3 := choose_any w7 x r ((HH.out _ HA6.out).1.more (HH.out _ HA6.out).2.2) HN7.out.ns (by rw [List.length_set]; have := HE.out; omega) (Nat.le_refl _)
                    rw [hq3.out] at C3
                    refine (C3.mono fun e w' hp => (⟨hp.1, hp.2⟩ : e = .returned (.tuple #[.int .i64 (k : Int), .bool true]) ∧ Ab w7 w')).mono ?_
                    rintro e w8 ⟨rfl, h8⟩
                    have H8 := Lib.hid h8
                    clear h8 C3
                    go_wp2_with (go_at_call 11; (refine (lives7 _).mono ?_); rintro e w9 ⟨rfl, h9⟩; (have H9 := Lib.hid h9); clear h9)
                    go_ret
                    exact ⟨rfl, (HA6.out.trans H8.out).trans H9.out⟩
  · have hne : ((n0 : Int) == (n1 : Int)) = false := by simpa using (show (n0 : Int) ≠ (n1 : Int) by omega)
    have hne2 : ((n0 : Int) != (n1 : Int)) = true := by simpa using (show (n0 : Int) ≠ (n1 : Int) by omega)
    go_wp2_with (go_at_call 11; (refine (lives7 _).mono ?_); rintro e w7 ⟨rfl, h7⟩; (have H7 := Lib.hid h7); clear h7)
    go_ret
    exact ⟨rfl, HA1.out.trans H7.out⟩
end Go.Proofs.Ytmnfmgdllfhmaaa.Dg

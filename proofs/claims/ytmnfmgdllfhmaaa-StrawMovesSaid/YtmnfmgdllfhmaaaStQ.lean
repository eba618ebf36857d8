/- StrawShares: sums, and the walk. -/
import Derived.Test.YtmnfmgdllfhmaaaStP
namespace Go.Proofs.Ytmnfmgdllfhmaaa.Dg
open Go.RowKit
variable {w w' : World} {B g N : Nat} {vi vw : Value} {ids ws : List Int} {f : Nat → Option Nat}
def sm (f : Nat → Option Nat) (K : Nat) : Nat → Nat
  | 0 => 0
  | j + 1 => sm f K j + cn f j K
def hv (ws : List Int) : Nat → Nat
  | 0 => 0
  | j + 1 => hv ws j + if 0 < ws.getD j 0 then 1 else 0
theorem sm_le (f : Nat → Option Nat) (K j : Nat) : sm f K j ≤ K * j := by
  induction j with
  | zero => exact Nat.zero_le _
  | succ j ih =>
    have := cn_le f j K
    show sm f K j + cn f j K ≤ _
    rw [Nat.mul_succ]
    omega
theorem hv_le (ws : List Int) (j : Nat) : hv ws j ≤ j := by
  induction j with
  | zero => exact Nat.le_refl _
  | succ j ih =>
    show hv ws j + (if 0 < ws.getD j 0 then 1 else 0) ≤ j + 1
    split <;> omega
theorem hv_zero (ws : List Int) (n : Nat) (h : hv ws n = 0) : ∀ i, i < n → ws.getD i 0 < 1 := by
  induction n with
  | zero => intro i hi; omega
  | succ j ih =>
    have h : hv ws j + (if 0 < ws.getD j 0 then 1 else 0) = 0 := h
    intro i hi
    by_cases e : i = j
    · subst e
      by_cases c : 0 < ws.getD i 0
      · rw [if_pos c] at h; omega
      · omega
    · exact ih (by omega) i (by omega)
theorem hv_pos (ws : List Int) (n : Nat) (h : hv ws n ≠ 0) : ∃ i, i < n ∧ 1 ≤ ws.getD i 0 := by
  induction n with
  | zero => exact absurd rfl h
  | succ j ih =>
    by_cases c : 0 < ws.getD j 0
    · exact ⟨j, by omega, by omega⟩
    · have h : hv ws j + (if 0 < ws.getD j 0 then 1 else 0) ≠ 0 := h
      rw [if_neg c] at h
      obtain ⟨i, hi, hw⟩ := ih (by omega)
      exact ⟨i, by omega, hw⟩
theorem cn_zero (f : Nat → Option Nat) (i : Nat) (h : ∀ x, f x ≠ some i) (K : Nat) : cn f i K = 0 := by
  induction K with
  | zero => rfl
  | succ K ih => rw [cn_succ, ih, if_neg (h K)]
theorem sm_none (f : Nat → Option Nat) (h : ∀ x, f x = none) (K j : Nat) : sm f K j = 0 := by
  induction j with
  | zero => rfl
  | succ j ih => show sm f K j + cn f j K = 0; rw [ih, cn_zero f j (fun x => by rw [h x]; simp)]
theorem sm_step (f : Nat → Option Nat) (K b : Nat) (h : f K = some b) (j : Nat) : sm f (K + 1) j = sm f K j + if b < j then 1 else 0 := by
  induction j with
  | zero => rfl
  | succ j ih =>
    show sm f (K + 1) j + cn f j (K + 1) = sm f K j + cn f j K + _
    rw [ih, cn_succ, h]
    by_cases e : b = j
    · subst e
      rw [if_neg (Nat.lt_irrefl b), if_pos rfl, if_pos (by omega)]
      omega
    · by_cases c : b < j
      · rw [if_pos c, if_neg (by intro h; injection h with h; exact e h), if_pos (by omega)]
        omega
      · rw [if_neg c, if_neg (by intro h; injection h with h; exact e h), if_neg (by omega)]
        omega
theorem sm_all (f : Nat → Option Nat) (N : Nat) (h : ∀ x, ∃ b, f x = some b ∧ b < N) (K : Nat) : sm f K N = K := by
  induction K with
  | zero =>
    have := sm_le f 0 N
    omega
  | succ K ih =>
    obtain ⟨b, hb, hlt⟩ := h K
    rw [sm_step f K b hb, ih, if_pos hlt]
theorem chF_wt {x b : Nat} (h : chF ids ws x = some b) : 1 ≤ ws.getD b 0 := (chz_lt h).2
theorem chF_none (h : ∀ i, i < ids.length → ws.getD i 0 < 1) (x : Nat) : chF ids ws x = none := (chz_none _).2 h
theorem chF_some (h : ∃ i, i < ids.length ∧ 1 ≤ ws.getD i 0) (x : Nat) : ∃ b, chF ids ws x = some b ∧ b < ids.length := by
  obtain ⟨i, hi, hw⟩ := h
  cases e : chF ids ws x with
  | none =>
    have := (chz_none _).1 e i hi
    exact absurd (show ws.getD i 0 < 1 from this) (by omega)
  | some b => exact ⟨b, rfl, chF_lt e⟩
set_option maxRecDepth 100000 in
set_option maxHeartbeats 1000000 in
theorem shares_off (w : World) {A0 A1 : Option Addr} {n0 c0 n1 c1 : Nat} (n : Int) (hn : 0 ≤ n) (hi : Ns w w.heap.size (.slice A0 n0 c0) ids) (hw : Ns w w.heap.size (.slice A1 n1 c1) ws) (hl : ws.length ≠ ids.length) :
    Calls Try.prog 6 #[.agg #[.slice A0 n0 c0, .slice A1 n1 c1], .int .u64 n] w (LawPost w) := by
  have e0 := hi.get
  have e1 := hw.get
  have hb9 := hw.len
  have hb8 := hi.len
  rw [← e0] at hb8
  rw [← e1] at hb9
  have hab : Ab w (w.alloc (.cells #[.slice A0 n0 c0, .slice A1 n1 c1] 30)) := (Ab.refl w).alloc _
  have hb1 := Bk.made w 30 #[.slice A0 n0 c0, .slice A1 n1 c1]
  have hne : ((n0 : Int) == (n1 : Int)) = false := by simpa using (show (n0 : Int) ≠ (n1 : Int) by omega)
  have hne2 : ((n0 : Int) != (n1 : Int)) = true := by simpa using (show (n0 : Int) ≠ (n1 : Int) by omega)
  have HS := fun m : Int => Lib.hid (share_off (B := w.heap.size) (w.alloc (.cells #[.slice A0 n0 c0, .slice A1 n1 c1] 30)) m (hi.ab hab (Nat.le_refl _)) (hw.ab hab (Nat.le_refl _)) hl)
  clear e0 e1 hi hw hl
  go_enter Try.func6, Try.ntmps6
  go_wp2_with fail
  generalize w.alloc (.cells #[.slice A0 n0 c0, .slice A1 n1 c1] 30) = w1 at *
  have HA := Lib.hid hab
  refine (HS _).out.mono ?_
  rintro e w2 ⟨A4, c4, rfl, h4, h5⟩
  have HA2 := Lib.hid (HA.out.trans h5)
  have hb2 := h5.bk hb1
  have k0 := hb2.cell (i := 0) rfl
  have k1 := hb2.cell (i := 1) rfl
  clear hab hb1 hb2 h5 h4 HS
  go_wp2_with (go_at_call 11; (refine (lives7 _).mono ?_); rintro e w7 ⟨rfl, h7⟩; (have H7 := Lib.hid h7); clear h7)
  go_ret
  exact ⟨rfl, HA2.out.trans H7.out⟩
set_option maxRecDepth 100000 in
set_option maxHeartbeats 1000000 in
theorem shares_on (w : World) {A0 A1 : Option Addr} {N c0 c1 : Nat} (n : Int) (hn : 0 ≤ n) (hi : Ns w w.heap.size (.slice A0 N c0) ids) (hw : Ns w w.heap.size (.slice A1 N c1) ws) (h47 : ids.length ≤ 17592186043904) :
    Calls Try.prog 6 #[.agg #[.slice A0 N c0, .slice A1 N c1], .int .u64 n] w (LawPost w) := by
  obtain ⟨K, hK, hK2⟩ : ∃ K : Nat, n % 60 = (K : Int) ∧ K < 60 := ⟨(n % 60).toNat, by omega, by omega⟩
  have hK3 : (K : Int) < 60 := by omega
  have e0 := hi.get
  have e1 := hw.get
  have hl : ws.length = ids.length := by omega
  rw [← e0] at h47
  have hab : Ab w (w.alloc (.cells #[.slice A0 N c0, .slice A1 N c1] 30)) := (Ab.refl w).alloc _
  have hb1 := Bk.made w 30 #[.slice A0 N c0, .slice A1 N c1]
  have HS := share_any (B := w.heap.size) (w.alloc (.cells #[.slice A0 N c0, .slice A1 N c1] 30)) (K : Int) (hi.ab hab (Nat.le_refl _)) (hw.ab hab (Nat.le_refl _)) hl hab.size (by omega)
  rw [show (min (K : Int) 10000).toNat = K by omega, ← e0] at HS
  obtain ⟨f, hf⟩ : ∃ f, chF ids ws = f := ⟨_, rfl⟩
  rw [hf] at HS
  have HF := Lib.hid (And.intro hf (And.intro e0 e1))
  have HS := Lib.hid HS
  have HW := Lib.hid hw
  clear e0 e1 hi hw hl hf
  go_enter Try.func6, Try.ntmps6
  go_wp2_with fail
  generalize w.alloc (.cells #[.slice A0 N c0, .slice A1 N c1] 30) = w1 at *
  have HA := Lib.hid hab
  refine HS.out.mono ?_
  rintro e w2 ⟨A4, c4, rfl, h4, h5⟩
  have HA2 := Lib.hid (HA.out.trans h5)
  have hb2 := h5.bk hb1
  have k0 := hb2.cell (i := 0) rfl
  have k1 := hb2.cell (i := 1) rfl
  rw [cntL_len] at h4 ⊢
  have HL := Lib.hid h4
  have HK := Lib.hid (And.intro hK hK2)
  clear hab hb1 hb2 h5 h4 HS hK hK2
  go_wp2_with fail
  go_loop [7, 8, 9, 10, 42] (fun su he _ _ kk => ∃ (j S V : Nat), j ≤ N ∧ kk = .int .i64 (j : Int) ∧ su = .int .i64 (S : Int) ∧ he = .int .i64 (V : Int) ∧ Hid (sm f K j = S ∧ hv ws j = V)) (fun _ _ _ _ kk => N - (intOf kk).toNat)
  case atStart => exact ⟨0, 0, 0, Nat.zero_le _, rfl, rfl, rfl, Lib.hid ⟨rfl, rfl⟩⟩
  case round =>
    obtain ⟨j, S, V, hj, rfl, rfl, rfl, HR⟩ := hrel
    have hV : (V : Int) ≤ (j : Int) := by have := hv_le ws j; have := HR.out.2; omega
    have hS : (S : Int) ≤ 60 * (j : Int) := by
      have h1 := sm_le f K j
      have h2 := Nat.mul_le_mul_right j (show K ≤ 60 by omega)
      have := HR.out.1
      omega
    by_cases hlt : j < N
    · have h2 := HW.out.ab HA2.out (Nat.le_refl _)
      obtain ⟨b1, o1, rfl, -, cc1⟩ := h2.cells (by omega)
      obtain ⟨b2, o2, rfl, -, cc2⟩ := HL.out.cells (by omega)
      have g1 := cc1 j hlt
      have g2 := cc2 j hlt
      rw [cntL_get f N K j hlt] at g2
      have hcn := cn_le f j K
      have hsm : sm f K (j + 1) = S + cn f j K := by show sm f K j + cn f j K = _; rw [HR.out.1]
      obtain ⟨C, hC⟩ : ∃ C, cn f j K = C := ⟨_, rfl⟩
      rw [hC] at g2 hcn hsm
      obtain ⟨X, hX⟩ : ∃ X, ws.getD j 0 = X := ⟨_, rfl⟩
      have hhv : hv ws (j + 1) = V + if 0 < X then 1 else 0 := by show hv ws j + (if 0 < ws.getD j 0 then 1 else 0) = _; rw [HR.out.2, hX]
      rw [hX] at g1
      have hC2 : (C : Int) ≤ 60 := by have := HK.out.2; omega
      have HC := Lib.hid (And.intro hC hX)
      have HN := Lib.hid (And.intro hsm hhv)
      clear hC hX hsm hhv cc1 cc2 h2 hcn
      by_cases c1 : 0 < X
      · go_wp2
        go_round
        case rel => exact ⟨j + 1, S + C, V + 1, by omega, by go_num, by go_num, by go_num, Lib.hid ⟨HN.out.1, by rw [HN.out.2, if_pos c1]⟩⟩
        case measure => simp [intOf]; omega
      · have hC0 : C = 0 := by
          rw [← HC.out.1]
          refine cn_zero f j (fun x hx => ?_) K
          have := chF_wt (x := x) (b := j) (by rw [HF.out.1]; exact hx)
          rw [HC.out.2] at this
          omega
        subst hC0
        have hd : decide (0 < X) = false := by simpa using c1
        go_wp2
        go_round
        case rel => exact ⟨j + 1, S, V, by omega, by go_num, rfl, rfl, Lib.hid ⟨HN.out.1, by rw [HN.out.2, if_neg (by omega)]; omega⟩⟩
        case measure => simp [intOf]; omega
    · have e : j = N := by omega
      subst e
      by_cases c : V = 0
      · have hS0 : S = 0 := by
          rw [← HR.out.1]
          refine sm_none f (fun x => ?_) K j
          rw [← HF.out.1]
          exact chF_none (fun i hi => hv_zero ws j (HR.out.2.trans c) i (by have := HF.out.2.1; omega)) x
        subst c
        subst hS0
        go_wp2_with (go_at_call 11; (refine (lives7 _).mono ?_); rintro e w7 ⟨rfl, h7⟩; (have H7 := Lib.hid h7); clear h7)
        go_ret
        exact ⟨rfl, HA2.out.trans H7.out⟩
      · have hSK : S = K := by
          rw [← HR.out.1]
          refine sm_all f j (fun x => ?_) K
          have h0 := HF.out.2.1
          obtain ⟨i, hi, hwi⟩ := hv_pos ws j (by rw [HR.out.2]; exact c)
          obtain ⟨b, hb, hlt2⟩ := chF_some (ids := ids) (ws := ws) ⟨i, by omega, hwi⟩ x
          exact ⟨b, by rw [← HF.out.1]; exact hb, by omega⟩
        subst hSK
        have hne : ((V : Int) == 0) = false := by simpa using c
        go_wp2_with (go_at_call 11; (refine (lives7 _).mono ?_); rintro e w7 ⟨rfl, h7⟩; (have H7 := Lib.hid h7); clear h7)
        go_ret
        exact ⟨rfl, HA2.out.trans H7.out⟩
theorem shares_walk (w : World) {A0 A1 : Option Addr} {n0 c0 n1 c1 : Nat} (n : Int) (hn : 0 ≤ n) (hi : Ns w w.heap.size (.slice A0 n0 c0) ids) (hw : Ns w w.heap.size (.slice A1 n1 c1) ws) (h47 : ids.length ≤ 17592186043904) :
    Calls Try.prog 6 #[.agg #[.slice A0 n0 c0, .slice A1 n1 c1], .int .u64 n] w (LawPost w) := by
  by_cases hl : ws.length = ids.length
  · have e : n1 = n0 := by have := hi.get; have := hw.get; omega
    subst e
    exact shares_on w n hn hi hw h47
  · exact shares_off w n hn hi hw hl
end Go.Proofs.Ytmnfmgdllfhmaaa.Dg

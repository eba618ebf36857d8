/- The program's map: which runs a change touches. -/
import Derived.Test.YtniodjigncicbaaExC
import Derived.WalkMore
namespace Go.Proofs.Ytniodjigncicbaa.Dg
open Go.RowKit
variable {w w' : World} {base a s : Nat} {v : Value} {ps : List Pr} {l : List UInt8}
attribute [local go_sem ↓] Go.wp_at_zero Go.wp_at_succ
theorem rnOf_length (ps : List Pr) : (rnOf ps).length = ps.length := by simp [rnOf]
theorem rnOf_get (ps : List Pr) (k : Nat) (h : k < ps.length) : (rnOf ps)[k]'(by rw [rnOf_length]; exact h) = (ps[k].at_, ps[k].bytes) := by simp [rnOf]
theorem ris_get {R : List Rn} (h : Ris R) : ∀ (i j : Nat) (hi : i < R.length) (hj : j < R.length), i < j → R[i].1 + R[i].2.length < R[j].1 := by
  induction R with
  | nil => intro i j hi; cases hi
  | cons q R ih =>
    intro i j hi hj hij
    cases j with
    | zero => omega
    | succ j =>
      cases i with
      | zero => exact h.2.1 _ (List.getElem_mem _)
      | succ i => exact ih h.2.2 i j (by simpa using hi) (by simpa using hj) (by omega)
theorem ris_ne {R : List Rn} (h : Ris R) : ∀ q ∈ R, q.2 ≠ [] := by
  induction R with
  | nil => intro q hq; cases hq
  | cons r R ih =>
    intro q hq
    rcases List.mem_cons.1 hq with rfl | hq
    · exact h.1
    · exact ih h.2.2 q hq
/-- The first k runs, looked at. -/
def Seen (R : List Rn) (at_ e i k : Nat) : Prop := (∀ t (h : t < R.length), t < i → R[t].1 + R[t].2.length < at_) ∧ ∀ t (h : t < R.length), i ≤ t → t < k → at_ ≤ R[t].1 + R[t].2.length ∧ R[t].1 ≤ e
theorem Seen.zero (R : List Rn) (at_ e : Nat) : Seen R at_ e 0 0 := ⟨fun _ _ h => absurd h (Nat.not_lt_zero _), fun _ _ _ h => absurd h (Nat.not_lt_zero _)⟩
theorem Seen.ahead {R : List Rn} {at_ e i k : Nat} (hR : Ris R) (_ : Seen R at_ e i k) (hk : k < R.length) (hlt : R[k].1 + R[k].2.length < at_) : Seen R at_ e (k + 1) (k + 1) :=
  ⟨fun t ht h => by
    rcases Nat.lt_or_ge t k with h1 | h1
    · have := ris_get hR t k ht hk h1; omega
    · have : t = k := by omega
      subst this; exact hlt, fun t _ h1 h2 => by omega⟩
theorem Seen.mid {R : List Rn} {at_ e i k : Nat} (h : Seen R at_ e i k) (hk : k < R.length) (h1 : ¬ R[k].1 + R[k].2.length < at_) (h2 : ¬ e < R[k].1) : Seen R at_ e i (k + 1) :=
  ⟨h.1, fun t ht h3 h4 => by
    rcases Nat.lt_or_ge t k with h5 | h5
    · exact h.2 t ht h3 h5
    · have : t = k := by omega
      subst this; exact ⟨by omega, by omega⟩⟩
theorem Seen.tou {R : List Rn} {at_ e i j : Nat} (hR : Ris R) (hle : at_ ≤ e) (hij : i ≤ j) (hj : j ≤ R.length) (h : Seen R at_ e i j) (hend : ∀ (hj : j < R.length), e < R[j].1) :
    Tou (R.take i) ((R.take j).drop i) (R.drop j) at_ e := by
  refine ⟨?_, hle, fun q hq => ?_, fun q hq => ?_, fun q hq => ?_, fun q hq => ?_⟩
  · have e1 : R.take i ++ ((R.take j).drop i ++ R.drop j) = R := by
      have e2 : (R.take j).take i = R.take i := by rw [List.take_take, Nat.min_eq_left hij]
      rw [← List.append_assoc, ← e2, List.take_append_drop, List.take_append_drop]
    rw [e1]; exact hR
  · obtain ⟨t, ht, rfl⟩ := List.getElem_of_mem hq
    rw [List.length_take] at ht
    rw [List.getElem_take]
    exact h.1 t (by omega) (by omega)
  · obtain ⟨t, ht, rfl⟩ := List.getElem_of_mem hq
    rw [List.length_drop, List.length_take] at ht
    rw [List.getElem_drop, List.getElem_take]
    exact (h.2 (i + t) (by omega) (by omega) (by omega)).1
  · obtain ⟨t, ht, rfl⟩ := List.getElem_of_mem hq
    rw [List.length_drop, List.length_take] at ht
    rw [List.getElem_drop, List.getElem_take]
    exact (h.2 (i + t) (by omega) (by omega) (by omega)).2
  · obtain ⟨t, ht, rfl⟩ := List.getElem_of_mem hq
    rw [List.length_drop] at ht
    rw [List.getElem_drop]
    have h1 := hend (by omega)
    rcases Nat.eq_zero_or_pos t with h2 | h2
    · subst h2; exact h1
    · have := ris_get hR j (j + t) (by omega) (by omega) (by omega)
      omega
/-- A run of the row, in memory. -/
theorem Rl.get {T : TypeId} {A : Option Addr} {n c : Nat} (h : Rl T w base (.slice A n c) ps) (k : Nat) (hk : k < ps.length) :
    n = ps.length ∧ ∃ gb off Au cu, A = some ⟨gb, off, none⟩ ∧ base ≤ gb ∧ gb < w.heap.size ∧ ps.length ≤ c ∧ c ≤ maxLen ∧ ps[k].val = .slice Au ps[k].bytes.length cu ∧ ps[k].bytes.length ≤ cu ∧ cu ≤ maxLen ∧
      w.cell? ⟨gb, off + k * 2, none⟩ = some (.int .i64 (ps[k].at_ : Int)) ∧ w.cell? ⟨gb, off + k * 2 + 1, none⟩ = some (.slice Au ps[k].bytes.length cu) := by
  obtain ⟨gb, off, cap, hv, hbg, hgl, hnc, hcm, -, hcl⟩ := h.row.form (by omega)
  injection hv with hva hvn hvc
  subst hva; subst hvc; subst hvn
  obtain ⟨g1, g2⟩ := prV_get ps k hk
  obtain ⟨Au, cu, hu, hu1, hu2⟩ := (h.own ps[k] (List.getElem_mem hk)).len_cap
  have k1 := hcl _ _ g1
  have k2 := hcl _ _ g2
  rw [hu, ← Nat.add_assoc] at k2
  exact ⟨rfl, gb, off, Au, cu, rfl, hbg, hgl, hnc, hcm, hu, hu1, hu2, k1, k2⟩
def TouPost (w : World) (R : List Rn) (at_ e : Nat) (en : Ending) (w' : World) : Prop :=
  ∃ i j : Nat, en = .returned (.tuple #[.int .i64 (i : Int), .int .i64 (j : Int)]) ∧ i ≤ j ∧ j ≤ R.length ∧ Tou (R.take i) ((R.take j).drop i) (R.drop j) at_ e ∧ Ab w w'
set_option maxRecDepth 100000 in
set_option maxHeartbeats 2000000 in
theorem touched_any (w : World) (h : Ex w base a v ps s) (at_ e : Nat) (hle : at_ ≤ e) :
    Calls Try.prog 109 #[.pointer (some ⟨a, 0, none⟩), .int .i64 (at_ : Int), .int .i64 (e : Int)] w (TouPost w (rnOf ps) at_ e) := by
  obtain ⟨-, -, h2⟩ := h.cells
  obtain ⟨A, c, rfl, hc1, hc2⟩ := h.row.row.len_cap
  have hlen := h.len
  have HE := Lib.hid h
  obtain ⟨N, hN⟩ : ∃ N, ps.length = N := ⟨_, rfl⟩
  rw [hN] at h2 hc1 hlen
  have HN := Lib.hid hN
  clear h hN hc1 hc2
  go_enter Try.func109, Try.ntmps109
  go_wp2
  go_step3
  go_wp2
  go_step3
  go_wp2
  go_loopw [6, 7, 20] (fun s6 s7 s20 wr => ∃ i k : Nat, i ≤ k ∧ k ≤ N ∧ s6 = .int .i64 (i : Int) ∧ s7 = .int .i64 (N : Int) ∧ s20 = .int .i64 (k : Int) ∧ Hid (Ab w wr ∧ Seen (rnOf ps) at_ e i k)) (fun _ _ s20 _ => N - (intOf s20).toNat)
  case atStart => exact ⟨0, 0, Nat.le_refl _, Nat.zero_le _, rfl, rfl, rfl, Lib.hid ⟨Ab.refl w, Seen.zero _ _ _⟩⟩
  case round =>
    obtain ⟨i, k, hik, hkN, rfl, rfl, rfl, HI⟩ := hrel
    by_cases hlt : k < N
    · have hlp : k < ps.length := by rw [HN.out]; exact hlt
      have hlr : k < (rnOf ps).length := by rw [rnOf_length]; exact hlp
      obtain ⟨-, gb, off, Au, cu, rfl, hbg, hgl, hnc, hcm, hu, hu1, hu2, k1, k2⟩ := HE.out.row.get k hlp
      have hrg := rnOf_get ps k hlp
      have hfin := HE.out.at_ (List.getElem_mem hlp)
      obtain ⟨m, hm⟩ : ∃ m, ps[k].bytes.length = m := ⟨_, rfl⟩
      obtain ⟨p, hp⟩ : ∃ p, ps[k].at_ = p := ⟨_, rfl⟩
      obtain ⟨q, hq⟩ : ∃ q, p + m = q := ⟨_, rfl⟩
      have e1 : (rnOf ps)[k].1 = p := by rw [hrg]; exact hp
      have e2 : (rnOf ps)[k].1 + (rnOf ps)[k].2.length = q := by rw [hrg, ← hq, ← hp, ← hm]
      rw [hm] at k2 hfin hu1
      rw [hp] at k1 hfin
      have hab := HI.out.1
      replace k1 := (hab.cells gb _ hgl).trans k1
      replace k2 := (hab.cells gb _ hgl).trans k2
      have hi0 : (0 : Int) ≤ (k : Int) := by omega
      have hi1 : (k : Int) < (N : Int) := by omega
      have hb4 := Bk.made wr 218 #[.int .i64 (p : Int), .slice Au m cu]
      have x0 : (wr.alloc (.cells #[.int .i64 (p : Int), .slice Au m cu] 218)).cell? ⟨wr.heap.size, 0, none⟩ = some (.int .i64 (p : Int)) := hb4.cell rfl
      have x1 : (wr.alloc (.cells #[.int .i64 (p : Int), .slice Au m cu] 218)).cell? ⟨wr.heap.size, 1, none⟩ = some (.slice Au m cu) := hb4.cell rfl
      have HB := Lib.hid (And.intro hb4.lt (hab.trans ((Ab.refl wr).alloc (.cells #[.int .i64 (p : Int), .slice Au m cu] 218))))
      have HQ := Lib.hid (And.intro hq (show q ≤ 9223372036854775807 by omega))
      have HS := Lib.hid (And.intro e1 (And.intro e2 (And.intro hlr hlt)))
      clear hb4 hab hq hfin hu hu1 hu2 hrg hp hm hbg hgl hnc hcm e1 e2
      by_cases c1 : q < at_
      · have c1' : (q : Int) < (at_ : Int) := by omega
        have hn := HI.out.2.ahead HE.out.ris HS.out.2.2.1 (by rw [HS.out.2.1]; exact c1)
        have HX := Lib.hid hn
        clear hn HI
        go_wp2_with (go_at_call 137; (refine (rend_any _ p Au m cu q HQ.out.1 HQ.out.2).mono ?_); rintro e wz ⟨rfl, haz⟩; have y0 := (haz.cells wr.heap.size 0 HB.out.1).trans x0; have HZ := Lib.hid haz; clear haz)
        go_roundw
        case rel => exact ⟨k + 1, k + 1, Nat.le_refl _, HS.out.2.2.2, by go_num, rfl, by go_num, Lib.hid ⟨HB.out.2.trans HZ.out, HX.out⟩⟩
        case measure => have := HS.out.2.2.2; simp [intOf]; omega
      · have c1' : ¬ (q : Int) < (at_ : Int) := by omega
        by_cases c2 : e < p
        · have c2' : (e : Int) < (p : Int) := by omega
          go_wp2_with (go_at_call 137; (refine (rend_any _ p Au m cu q HQ.out.1 HQ.out.2).mono ?_); rintro e wz ⟨rfl, haz⟩; have y0 := (haz.cells wr.heap.size 0 HB.out.1).trans x0; have HZ := Lib.hid haz; clear haz)
          rw [Exit.noGoto_ret]
          go_ret2
          exact ⟨i, k, rfl, hik, Nat.le_of_lt HS.out.2.2.1, Seen.tou HE.out.ris hle hik (Nat.le_of_lt HS.out.2.2.1) HI.out.2 (fun _ => by rw [HS.out.1]; exact c2), HB.out.2.trans HZ.out⟩
        · have c2' : ¬ (e : Int) < (p : Int) := by omega
          have hn := HI.out.2.mid HS.out.2.2.1 (by rw [HS.out.2.1]; exact c1) (by rw [HS.out.1]; exact c2)
          have HX := Lib.hid hn
          clear hn HI
          go_wp2_with (go_at_call 137; (refine (rend_any _ p Au m cu q HQ.out.1 HQ.out.2).mono ?_); rintro e wz ⟨rfl, haz⟩; have y0 := (haz.cells wr.heap.size 0 HB.out.1).trans x0; have HZ := Lib.hid haz; clear haz)
          go_roundw
          case rel => exact ⟨i, k + 1, by omega, HS.out.2.2.2, rfl, rfl, by go_num, Lib.hid ⟨HB.out.2.trans HZ.out, HX.out⟩⟩
          case measure => have := HS.out.2.2.2; simp [intOf]; omega
    · have hkn : k = N := by omega
      subst hkn
      go_wp2
      (try rw [Exit.noGoto_ret])
      go_ret2
      exact ⟨i, k, rfl, hik, by rw [rnOf_length, HN.out]; exact Nat.le_refl _, Seen.tou HE.out.ris hle hik (by rw [rnOf_length, HN.out]; exact Nat.le_refl _) HI.out.2 (fun hj => by rw [rnOf_length, HN.out] at hj; omega), HI.out.1⟩
end Go.Proofs.Ytniodjigncicbaa.Dg

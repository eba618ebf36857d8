/- Texts joined: JnB. -/
import Derived.Test.YtolchbjcdlncgaaGreatMgDkS
import Derived.Test.YtolchbjcdlncgaaGreatMgJnA
/- The row of spans: looked through. -/
namespace Go.Proofs.YtolchbjcdlncgaaGreat.Dg
open Go.RowKit
variable {w w' : World} {base B : Nat} {v : Value}
attribute [local go_sem ↓] Go.wp_at_zero Go.wp_at_succ
/-- What Compare answers. -/
def cmpI (x y : Int) : Int := if x < y then -1 else if y < x then 1 else 0
theorem isNaN_any (w : World) (x : Int) : Calls Tryz.prog 94 #[.int .i64 x] w fun e w' => e = .returned (.bool false) ∧ w = w' := by
  go_enter Tryz.func94, Tryz.ntmps94
  go_wp2
  go_ret
  exact ⟨by simp, rfl⟩
theorem compare_any (w : World) (x y : Int) : Calls Tryz.prog 88 #[.int .i64 x, .int .i64 y] w fun e w' => e = .returned (.int .i64 (cmpI x y)) ∧ w = w' := by
  by_cases h1 : x < y
  · have e : cmpI x y = -1 := by unfold cmpI; rw [if_pos h1]
    rw [e]
    clear e
    go_enter Tryz.func88, Tryz.ntmps88
    go_wp2_with (go_at_call 94; (refine (isNaN_any w _).mono ?_); rintro e w2 ⟨rfl, rfl⟩)
    go_ret
    exact ⟨rfl, rfl⟩
  by_cases h2 : y < x
  · have e : cmpI x y = 1 := by unfold cmpI; rw [if_neg h1, if_pos h2]
    rw [e]
    clear e
    go_enter Tryz.func88, Tryz.ntmps88
    go_wp2_with (go_at_call 94; (refine (isNaN_any w _).mono ?_); rintro e w2 ⟨rfl, rfl⟩)
    go_ret
    exact ⟨rfl, rfl⟩
  have e : cmpI x y = 0 := by unfold cmpI; rw [if_neg h1, if_neg h2]
  rw [e]
  clear e
  go_enter Tryz.func88, Tryz.ntmps88
  go_wp2_with (go_at_call 94; (refine (isNaN_any w _).mono ?_); rintro e w2 ⟨rfl, rfl⟩)
  go_ret
  exact ⟨rfl, rfl⟩
theorem byPlace_any (w : World) (a f t y : Int) : Calls Tryz.prog 77 #[.agg #[.int .i64 a, .int .i64 f, .int .i64 t], .int .i64 y] w fun e w' => e = .returned (.int .i64 (cmpI a y)) ∧ Ab w w' := by
  go_enter Tryz.func77, Tryz.ntmps77
  go_wp2_with (go_at_call 88; (refine (compare_any _ _ _).mono ?_); rintro e w2 ⟨rfl, rfl⟩)
  go_ret
  exact ⟨rfl, (Ab.refl w).alloc _⟩
/-- A slice that reads as the spans of records from a place on. -/
def Sr (w : World) (B : Nat) (v : Value) (a : Nat) (rs : List (List UInt8)) : Prop :=
  ∃ A c, v = .slice A rs.length c ∧ rs.length ≤ c ∧ c ≤ 9223372036854775807 ∧ (rs ≠ [] → ∃ b off, A = some ⟨b, off, none⟩ ∧ b < B ∧ ∀ k, (h : k < rs.length) →
    w.cell? ⟨b, off + k * 3, none⟩ = some (.int .i64 ((plc a rs k : Nat) : Int)) ∧ w.cell? ⟨b, off + k * 3 + 1, none⟩ = some (.int .i64 ((plc a rs k + 8 : Nat) : Int)) ∧ w.cell? ⟨b, off + k * 3 + 2, none⟩ = some (.int .i64 ((plc a rs k + 8 + rs[k].length : Nat) : Int)))
theorem Sr.ab {a : Nat} {rs : List (List UInt8)} (h : Sr w B v a rs) (hb : Ab w w') (hB : B ≤ w.heap.size) : Sr w' B v a rs := by
  obtain ⟨A, c, hv, h1, h2, h3⟩ := h
  refine ⟨A, c, hv, h1, h2, fun hn => ?_⟩
  obtain ⟨b, off, hA, hbB, hc⟩ := h3 hn
  exact ⟨b, off, hA, hbB, fun k hk => ⟨(hb.cells b _ (by omega)).trans (hc k hk).1, (hb.cells b _ (by omega)).trans (hc k hk).2.1, (hb.cells b _ (by omega)).trans (hc k hk).2.2⟩⟩
theorem Sr.len {a : Nat} {rs : List (List UInt8)} (h : Sr w B v a rs) : rs.length ≤ 9223372036854775807 := by obtain ⟨A, c, hv, h1, h2, h3⟩ := h; omega
/-- Where a place stands among the records. -/
def LookPost (w : World) (a : Nat) (rs : List (List UInt8)) (y : Int) (e : Ending) (w' : World) : Prop :=
  ∃ i : Nat, i ≤ rs.length ∧ (∀ t, t < i → ((plc a rs t : Nat) : Int) < y) ∧ (∀ t, i ≤ t → t < rs.length → y ≤ ((plc a rs t : Nat) : Int)) ∧
    e = .returned (.tuple #[.int .i64 (i : Int), .bool (decide (i < rs.length) && decide (((plc a rs i : Nat) : Int) = y))]) ∧ Ab w w'
def Lo (a : Nat) (rs : List (List UInt8)) (y : Int) (lo hi : Nat) : Prop := (∀ t, t < lo → ((plc a rs t : Nat) : Int) < y) ∧ (∀ t, hi ≤ t → t < rs.length → y ≤ ((plc a rs t : Nat) : Int))
theorem Lo.up {a : Nat} {rs : List (List UInt8)} {y : Int} {lo hi m : Nat} (h : Lo a rs y lo hi) (hm : m < rs.length) (hy : ((plc a rs m : Nat) : Int) < y) : Lo a rs y (m + 1) hi :=
  ⟨fun t ht => by
    rcases Nat.lt_or_ge t m with h2 | h2
    · have := plc_lt a rs h2 (by omega); omega
    · have : t = m := by omega
      subst this; exact hy, h.2⟩
theorem Lo.down {a : Nat} {rs : List (List UInt8)} {y : Int} {lo hi m : Nat} (h : Lo a rs y lo hi) (hy : ¬ ((plc a rs m : Nat) : Int) < y) : Lo a rs y lo m :=
  ⟨h.1, fun t h1 h2 => by
    rcases Nat.lt_or_ge m t with h3 | h3
    · have := plc_lt a rs h3 (by omega); omega
    · have : t = m := by omega
      subst this; omega⟩
theorem cmpI_lt (x y : Int) : (cmpI x y < 0) ↔ x < y := by unfold cmpI; split <;> (try split) <;> omega
theorem cmpI_eq (x y : Int) : (cmpI x y = 0) ↔ x = y := by unfold cmpI; split <;> (try split) <;> omega
set_option maxRecDepth 100000 in
set_option maxHeartbeats 1000000 in
theorem look_any {a : Nat} {rs : List (List UInt8)} (w : World) (h : Sr w B v a rs) (hB : B ≤ w.heap.size) (hlen : rs.length ≤ 4611686018427387904) (y : Int) :
    Calls Tryz.prog 76 #[v, .int .i64 y, .func (.func 77) #[] #[]] w (LookPost w a rs y) := by
  have HS := Lib.hid h
  obtain ⟨A, c, rfl, h1, h2, h3⟩ := h
  obtain ⟨n, hn⟩ : ∃ n, rs.length = n := ⟨_, rfl⟩
  rw [hn] at h1 hlen
  have HN := Lib.hid hn
  rw [hn]
  clear h3 hn
  go_enter Tryz.func76, Tryz.ntmps76
  go_wp2
  go_loopw [9, 10] (fun s9 s10 wr => ∃ lo hi : Nat, s9 = .int .i64 (lo : Int) ∧ s10 = .int .i64 (hi : Int) ∧ lo ≤ hi ∧ hi ≤ n ∧ Hid (Ab w wr ∧ Lo a rs y lo hi)) (fun s9 s10 _ => (intOf s10).toNat - (intOf s9).toNat)
  case atStart => exact ⟨0, n, rfl, rfl, Nat.zero_le _, Nat.le_refl _, Lib.hid ⟨Ab.refl w, fun t ht => absurd ht (Nat.not_lt_zero _), fun t h1 h2 => by rw [HN.out] at h2; omega⟩⟩
  case round =>
    obtain ⟨lo, hi, rfl, rfl, hlh, hin, HI⟩ := hrel
    by_cases hlt : lo < hi
    · have hm : (lo + hi) / 2 < n := by omega
      have hne : rs ≠ [] := by intro e; have := HN.out; rw [e] at this; simp at this; omega
      obtain ⟨A', c', hv', -, -, h3⟩ := HS.out.ab HI.out.1 hB
      injection hv' with hva _ hvc
      subst hva; subst hvc
      obtain ⟨b, off, rfl, hb, hc⟩ := h3 hne
      obtain ⟨m, hmm⟩ : ∃ m, (lo + hi) / 2 = m := ⟨_, rfl⟩
      rw [hmm] at hm
      obtain ⟨c0, c1, c2⟩ := hc m (by rw [HN.out]; exact hm)
      obtain ⟨p, hp⟩ : ∃ p, ((plc a rs m : Nat) : Int) = p := ⟨_, rfl⟩
      rw [hp] at c0
      have HP := Lib.hid hp
      have HM := Lib.hid hmm
      generalize ((plc a rs m + 8 : Nat) : Int) = q at c1
      generalize ((plc a rs m + 8 + (rs[m]'(by rw [HN.out]; exact hm)).length : Nat) : Int) = r at c2
      have e1 : IntKind.i64.wrap ((lo : Int) + (hi : Int)) = (lo : Int) + (hi : Int) := IntWalk.i64_in _ (by omega)
      have e2 : IntKind.u64.wrap ((lo : Int) + (hi : Int)) = (lo : Int) + (hi : Int) := by rw [IntKind.wrap_u64]; omega
      have e3 : ((lo : Int) + (hi : Int)) / 2 = (m : Int) := by omega
      have e4 : IntKind.i64.wrap (m : Int) = (m : Int) := IntWalk.i64_in _ (by omega)
      clear hc h3 hp hmm
      by_cases hy : cmpI p y < 0
      · go_wp2_with (go_at_call 77; (refine (byPlace_any wr p q r y).mono ?_); rintro e w2 ⟨rfl, ha2⟩; (have H2 := Lib.hid ha2); clear ha2)
        go_roundw
        case rel => exact ⟨m + 1, hi, by go_num, rfl, by have := HM.out; omega, hin, Lib.hid ⟨HI.out.1.trans H2.out, HI.out.2.up (by rw [HN.out]; exact hm) (by rw [HP.out]; exact (cmpI_lt _ _).1 hy)⟩⟩
        case measure => have := HM.out; simp [intOf]; omega
      · go_wp2_with (go_at_call 77; (refine (byPlace_any wr p q r y).mono ?_); rintro e w2 ⟨rfl, ha2⟩; (have H2 := Lib.hid ha2); clear ha2)
        go_roundw
        case rel => exact ⟨lo, m, rfl, by go_num, by have := HM.out; omega, by omega, Lib.hid ⟨HI.out.1.trans H2.out, HI.out.2.down (by rw [HP.out]; intro hh; have := (cmpI_lt _ _).2 hh; omega)⟩⟩
        case measure => have := HM.out; simp [intOf]; omega
    · obtain rfl : hi = lo := by omega
      by_cases hn : hi < n
      · have hne : rs ≠ [] := by intro e; have := HN.out; rw [e] at this; simp at this; omega
        obtain ⟨A', c', hv', -, -, h3⟩ := HS.out.ab HI.out.1 hB
        injection hv' with hva _ hvc
        subst hva; subst hvc
        obtain ⟨b, off, rfl, hb, hc⟩ := h3 hne
        obtain ⟨c0, c1, c2⟩ := hc hi (by rw [HN.out]; exact hn)
        have HX := Lib.hid (show (decide (hi < n) && decide (((plc a rs hi : Nat) : Int) = y)) = decide (((plc a rs hi : Nat) : Int) = y) by rw [decide_eq_true hn, Bool.true_and])
        obtain ⟨p, hp⟩ : ∃ p, ((plc a rs hi : Nat) : Int) = p := ⟨_, rfl⟩
        rw [hp] at c0 HX
        have HP := Lib.hid hp
        generalize ((plc a rs hi + 8 : Nat) : Int) = q at c1
        generalize ((plc a rs hi + 8 + (rs[hi]'(by rw [HN.out]; exact hn)).length : Nat) : Int) = r at c2
        clear hc h3 hp
        have hcc : (cmpI p y == 0) = decide (p = y) := by
          rw [Bool.eq_iff_iff]
          simp only [beq_iff_eq, decide_eq_true_eq]
          exact cmpI_eq p y
        go_wp2_with (go_at_call 77; (refine (byPlace_any wr p q r y).mono ?_); rintro e w2 ⟨rfl, ha2⟩; (have H2 := Lib.hid ha2); clear ha2)
        refine bodyPost_ret (v := .tuple #[.int .i64 (hi : Int), .bool (decide (p = y))]) ?_ rfl ⟨hi, by rw [HN.out]; exact hin, HI.out.2.1, HI.out.2.2, by rw [HN.out, HP.out, HX.out], HI.out.1.trans H2.out⟩
        simp [results, Tryz.results76, go_sem]
      · have HX := Lib.hid (show (decide (hi < n) && decide (((plc a rs hi : Nat) : Int) = y)) = false by rw [decide_eq_false hn, Bool.false_and])
        go_wp2
        refine bodyPost_ret (v := .tuple #[.int .i64 (hi : Int), .bool false]) ?_ rfl ⟨hi, by rw [HN.out]; exact hin, HI.out.2.1, HI.out.2.2, by rw [HN.out, HX.out], HI.out.1⟩
        simp [results, Tryz.results76, go_sem]
end Go.Proofs.YtolchbjcdlncgaaGreat.Dg

/- act: a reading; what was read is spoilt. -/
import Derived.Test.YtniodjigncicbaaErB
import Derived.Test.YtniodjigncicbaaExQ
namespace Go.Proofs.Ytniodjigncicbaa.Dg
open Go.RowKit
variable {w w' w1 w2 : World} {base a b s : Nat} {v u vd vh z : Value} {c : Cel} {l : List UInt8} {ps : List Pr} {p q : Int} {A : Option Addr} {n0 c0 : Nat}
attribute [local go_sem ↓] Go.wp_at_zero Go.wp_at_succ
theorem same_two {v1 v2 : Value} {B1 B2 : Nat} (w : World) (h1 : Bs w B1 v1 l) (h2 : Bs w B2 v2 l) : Calls Try.prog 29 #[v1, v2] w fun e w' => e = .returned (.bool true) ∧ w = w' :=
  (xSame_any w h1 h2).mono fun _ _ ⟨h, hw⟩ => ⟨by rw [h]; simp, hw⟩
set_option maxRecDepth 100000 in
set_option maxHeartbeats 2000000 in
theorem xact3 (h : Px w base a b v ps vd vh c s) (hp : p ≤ 9223372036854775807) (hq : q ≤ 9223372036854775807) (hb : base ≤ w.heap.size) :
    Calls Try.prog 26 #[.pointer (some ⟨a, 0, none⟩), .pointer (some ⟨b, 0, none⟩), .agg #[.int .i64 3, .int .i64 p, .int .i64 q, .slice A n0 c0]] w (ActX base a b ps vd vh w) := by
  have hab : Ab w (w.alloc (.cells #[.int .i64 3, .int .i64 p, .int .i64 q, .slice A n0 c0] 72)) := (Ab.refl w).alloc _
  have hbk := Bk.made w 72 #[.int .i64 3, .int .i64 p, .int .i64 q, .slice A n0 c0]
  have c1 := hbk.cell (i := 1) rfl
  have c2 := hbk.cell (i := 2) rfl
  have HT := Lib.hid (And.intro (h.ab hab) (And.intro hab hbk))
  have HLT0 := Lib.hid (fun k hk => (h.lt (k := k) hk).2)
  have HQ := Lib.hid (And.intro hp (And.intro hq hb))
  clear h hab hbk hq hb hp
  go_enter Try.func26, Try.ntmps26
  go_wp2_with fail
  generalize w.alloc (.cells #[.int .i64 3, .int .i64 p, .int .i64 q, .slice A n0 c0] 72) = w1 at *
  refine (exread_any w1 HT.out.1.ex p q ⟨HQ.out.1, HQ.out.2.1⟩ (Nat.le_trans HQ.out.2.2 HT.out.2.1.size)).mono ?_
  rintro e w2 ⟨A2, cu2, rfl, ho2, ha2⟩
  rw [HT.out.1.cel] at ho2 ⊢
  obtain ⟨m, hm⟩ : ∃ m, gotC c s p q = m := ⟨_, rfl⟩
  rw [hm] at ho2 ⊢
  have d1 := (ha2.bk HT.out.2.2).cell (i := 1) rfl
  have d2 := (ha2.bk HT.out.2.2).cell (i := 2) rfl
  have H2 := Lib.hid (And.intro (HT.out.1.ab ha2) (And.intro ho2 (And.intro (HT.out.2.1.trans ha2) hm)))
  clear ho2 ha2 c1 c2 hm
  go_wp2_with fail
  refine (rread_any w2 H2.out.1.rf p q ⟨HQ.out.1, HQ.out.2.1⟩).mono ?_
  rintro e w3 ⟨u3, rfl, ho3, ha3⟩
  rw [H2.out.2.2.2] at ho3
  obtain ⟨A3, cu3, rfl, -, -⟩ := ho3.len_cap
  have H3 := Lib.hid (And.intro (H2.out.1.ab ha3) (And.intro (H2.out.2.1.ab ha3) (And.intro ho3 (H2.out.2.2.1.trans ha3))))
  clear ho3 ha3 d1 d2
  go_wp2_with (go_at_call 29; (with_reducible refine (same_two w3 H3.out.2.1.bs H3.out.2.2.1.bs).mono ?_); rintro e wz ⟨rfl, rfl⟩)
  by_cases hne : m = []
  · subst hne
    go_loopw [113] (fun i wr => i = .int .i64 0 ∧ w3 = wr) (fun _ _ => 0)
    case atStart => exact ⟨rfl, rfl⟩
    case round =>
      obtain ⟨rfl, rfl⟩ := hrel
      go_wp2_with fail
      go_ret
      exact ⟨rfl, _, _, _, _, _, _, H3.out.1, PxT.of_ab H3.out.2.2.2⟩
  · obtain ⟨N, hN⟩ : ∃ N, m.length = N := ⟨_, rfl⟩
    rw [hN]
    have hrow : ∃ g5, A2 = some ⟨g5, 0, none⟩ ∧ w1.heap.size ≤ g5 ∧ N ≤ cu2 ∧ ∃ cs : Array Value, cs.size = cu2 ∧ Bk w3 g5 5 cs := by
      rcases H3.out.2.1.2 with ⟨e, e2⟩ | ⟨g', cap', cur, hv, hb, hg, hn, hm, hs, ht⟩
      · exact absurd (List.eq_nil_of_length_eq_zero e2) hne
      · injection hv with ha hb2 hc2
        subst hc2
        simp at hs
        exact ⟨g', ha, hb, by omega, cur, hs, hg⟩
    obtain ⟨g5, rfl, hg5, hNc, cs0, hcs0, hbk0⟩ := hrow
    have HG := Lib.hid (And.intro hg5 (And.intro hNc hN))
    have hN9 : N ≤ 9223372036854775807 := by
      obtain ⟨_, _, _, q1, q2⟩ := H3.out.2.1.len_cap
      unfold maxLen at q2
      omega
    clear hg5 hN
    go_loopw [113] (fun i wr => ∃ j : Nat, j ≤ N ∧ i = .int .i64 (j : Int) ∧ Mv (· = g5) w3 wr ∧ ∃ cs : Array Value, cs.size = cu2 ∧ Bk wr g5 5 cs) (fun i _ => N - (intOf i).toNat)
    case atStart => exact ⟨0, Nat.zero_le _, rfl, Mv.refl _ _, cs0, hcs0, hbk0⟩
    case round =>
      obtain ⟨j, hj, rfl, hm, cs, hcs, hbk⟩ := hrel
      clear hbk0 hcs0
      by_cases hlt : j < N
      · have hc : wr.cell? ⟨g5, j, none⟩ = some (cs[j]'(by omega)) := (hbk.get j).trans (Array.getElem?_eq_getElem (by omega))
        generalize cs[j]'(by omega) = x at hc
        have hz := hbk.free j
        have hj0 : (0 : Int) ≤ (j : Int) := by omega
        have hj1 : (j : Int) < (N : Int) := by omega
        have HS := Lib.hid (And.intro (Mv.set (S := (· = g5)) (p := ⟨g5, j, none⟩) hm rfl (.int .u8 9)) (And.intro (hbk.store j (.int .u8 9)) hcs))
        have HLT := Lib.hid hlt
        clear hm hbk hNc
        go_wp2_with fail
        go_roundw
        case rel => exact ⟨j + 1, HLT.out, by go_num, HS.out.1, _, by rw [Array.size_setIfInBounds]; exact HS.out.2.2, HS.out.2.1⟩
        case measure => have h9 := HLT.out; clear hj1; simp [intOf]; omega
      · have HM := Lib.hid hm
        clear hm hbk
        go_wp2_with fail
        go_ret
        have hge : w.heap.size ≤ g5 := Nat.le_trans HT.out.2.1.size HG.out.1
        have hpx := H3.out.1.fresh HM.out (n := w.heap.size) (fun k hk => by rw [hk]; exact hge) HLT0.out
        have hab9 : Ab w wr := HM.out.ab H3.out.2.2.2 (fun k hk => by rw [hk]; exact hge)
        exact ⟨rfl, _, _, _, _, _, _, hpx, PxT.of_ab hab9⟩
set_option maxRecDepth 100000 in
set_option maxHeartbeats 2000000 in
theorem pl_write {B : Nat} (h : Px w base a b v ps vd vh c s) (hu : Bs w B u l) (hB : B ≤ w.heap.size) (hb : base ≤ w.heap.size) :
    Calls Try.prog 57 #[.pointer (some ⟨a, 0, none⟩), .int .i64 p, u] w (PlP base a b ps vd vh c s (exE p l.length) (if exE p l.length ≠ 0 ∨ l = [] then c else wrC c p.toNat l) (if exE p l.length ≠ 0 ∨ l = [] then s else max s (p.toNat + l.length)) w) := by
  have := h.pl (exwrite_new w h.ex p hu hB hb)
  rw [h.cel] at this
  exact this
theorem pr_write {B : Nat} (h : Pl w base a b v ps vd vh c s (if exE p l.length ≠ 0 ∨ l = [] then c else wrC c p.toNat l) (if exE p l.length ≠ 0 ∨ l = [] then s else max s (p.toNat + l.length))) (hu : Bs w B u l) (hB : B ≤ base) (hb : base ≤ w.heap.size) :
    Calls Try.prog 59 #[.pointer (some ⟨b, 0, none⟩), .int .i64 p, u] w (PrP base a b v ps vd vh (exE p l.length) (if exE p l.length ≠ 0 ∨ l = [] then c else wrC c p.toNat l) (if exE p l.length ≠ 0 ∨ l = [] then s else max s (p.toNat + l.length)) w) :=
  h.pr (rwrite_any w h.rf p hu hB hb)
end Go.Proofs.Ytniodjigncicbaa.Dg

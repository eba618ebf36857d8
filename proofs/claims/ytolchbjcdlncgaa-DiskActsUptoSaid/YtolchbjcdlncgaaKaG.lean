/- act: Read. -/
import Derived.Test.YtolchbjcdlncgaaKaF
namespace Go.Proofs.Ytolchbjcdlncgaa.diskActs
open Go.RowKit Dg
variable {W w w' : World} {base B g g2 : Nat} {v v2 u : Value} {d r : Dst} {a b : Int} {l : List UInt8}
attribute [local go_sem ↓] Go.wp_at_zero Go.wp_at_succ
set_option maxRecDepth 100000 in
set_option maxHeartbeats 1000000 in
theorem act2 {z : Value} (h : Two W w g v d g2 v2 r) (ha : Al d r) (hb9 : -9223372036854775808 ≤ b ∧ b ≤ 9223372036854775807) :
    Calls Try.prog 28 #[.pointer (some ⟨g, 0, none⟩), .pointer (some ⟨g2, 0, none⟩), .agg #[.int .i64 2, .int .i64 a, .int .i64 b, z]] w (ActPost W g g2 d.fin) := by
  have hb1 := Bk.made w 72 #[.int .i64 2, .int .i64 a, .int .i64 b, z]
  have c1 : (w.alloc (.cells #[.int .i64 2, .int .i64 a, .int .i64 b, z] 72)).cell? ⟨w.heap.size, 1, none⟩ = some (.int .i64 a) := hb1.cell rfl
  have c2 : (w.alloc (.cells #[.int .i64 2, .int .i64 a, .int .i64 b, z] 72)).cell? ⟨w.heap.size, 2, none⟩ = some (.int .i64 b) := hb1.cell rfl
  have HT1 := Lib.hid (And.intro (h.still ((Ab.refl w).alloc (.cells #[.int .i64 2, .int .i64 a, .int .i64 b, z] 72))) hb1)
  have HA := Lib.hid (And.intro ha hb9)
  clear h ha hb9 hb1
  go_enter Try.func28, Try.ntmps28
  go_wp2_with fail
  generalize w.alloc (.cells #[.int .i64 2, .int .i64 a, .int .i64 b, z] 72) = w1 at *
  refine (Read_any w1 HT1.out.1.dk a b HA.out.2).mono ?_
  rintro e w2 ⟨u2, rfl, ho2, ha2⟩
  obtain ⟨A2, cu2, rfl, -, -⟩ := ho2.len_cap
  obtain ⟨m, hm⟩ : ∃ m, d.got a b = m := ⟨_, rfl⟩
  rw [hm] at ho2 ⊢
  have d1 := (ha2.bk HT1.out.2).cell (i := 1) rfl
  have d2 := (ha2.bk HT1.out.2).cell (i := 2) rfl
  have H2 := Lib.hid (And.intro (HT1.out.1.still ha2) (And.intro ho2 (And.intro (ha2.bk HT1.out.2) hm)))
  clear ho2 ha2 c1 c2 hm
  go_wp2_with fail
  refine (rread_any w2 H2.out.1.rk a b HA.out.2).mono ?_
  rintro e w3 ⟨u3, rfl, ho3, ha3⟩
  rw [(HA.out.1.read a b).1, H2.out.2.2.2] at ho3
  rw [(HA.out.1.read a b).2]
  obtain ⟨A3, cu3, rfl, -, -⟩ := ho3.len_cap
  have H3 := Lib.hid (And.intro (H2.out.1.still ha3) (And.intro (H2.out.2.1.ab ha3) ho3))
  clear ho3 ha3 d1 d2
  go_wp2_with (go_at_call 64; (with_reducible refine (Same_any w3 H3.out.2.1.bs H3.out.2.2.bs).mono ?_); rintro e wz ⟨rfl, rfl⟩; rw [beq_self_eq_true])
  by_cases hne : m = []
  · subst hne
    go_loop [104] (fun i => i = .int .i64 0) (fun _ => 0)
    case atStart => rfl
    case round =>
      subst hrel
      go_wp2_with fail
      go_ret
      exact ⟨rfl, _, _, _, _, H3.out.1, HA.out.1, Nat.le_refl _⟩
  · obtain ⟨N, hN⟩ : ∃ N, m.length = N := ⟨_, rfl⟩
    rw [hN]
    have hrow : ∃ g5, A2 = some ⟨g5, 0, none⟩ ∧ w1.heap.size ≤ g5 ∧ N ≤ cu2 ∧ ∃ cs : Array Value, cs.size = cu2 ∧ Bk w3 g5 5 cs := by
      rcases H3.out.2.1.2 with ⟨e, e2⟩ | ⟨g', cap', cur, hv, hb, hg, hn, hm, hs, ht⟩
      · exact absurd (List.eq_nil_of_length_eq_zero e2) hne
      · injection hv with ha hb2 hc2
        subst hc2
        simp at hs
        exact ⟨g', ha, hb, by omega, cur, hs, hg⟩
    obtain ⟨g5, rfl, hg5, hNc, cs0, hcs0, hbk0⟩ := hrow
    have HG := Lib.hid (And.intro hg5 (And.intro hNc hN))
    have hN9 : N ≤ 9223372036854775807 := by
      obtain ⟨_, _, _, q1, q2⟩ := H3.out.2.1.len_cap
      unfold maxLen at q2
      omega
    clear hg5 hN
    go_loopw [104] (fun i wr => ∃ j : Nat, j ≤ N ∧ i = .int .i64 (j : Int) ∧ Mv (· = g5) w3 wr ∧ ∃ cs : Array Value, cs.size = cu2 ∧ Bk wr g5 5 cs) (fun i _ => N - (intOf i).toNat)
    case atStart => exact ⟨0, Nat.zero_le _, rfl, Mv.refl _ _, cs0, hcs0, hbk0⟩
    case round =>
      obtain ⟨j, hj, rfl, hm, cs, hcs, hbk⟩ := hrel
      clear hbk0 hcs0
      by_cases hlt : j < N
      · have hc : wr.cell? ⟨g5, j, none⟩ = some (cs[j]'(by omega)) := (hbk.get j).trans (Array.getElem?_eq_getElem (by omega))
        generalize cs[j]'(by omega) = x at hc
        have hz := hbk.free j
        have hj0 : (0 : Int) ≤ (j : Int) := by omega
        have hj1 : (j : Int) < (N : Int) := by omega
        have HS := Lib.hid (And.intro (Mv.set (S := (· = g5)) (p := ⟨g5, j, none⟩) hm rfl (.int .u8 9)) (And.intro (hbk.store j (.int .u8 9)) hcs))
        have HLT := Lib.hid hlt
        clear hm hbk hNc
        go_wp2_with fail
        go_roundw
        case rel => exact ⟨j + 1, HLT.out, by go_num, HS.out.1, _, by rw [Array.size_setIfInBounds]; exact HS.out.2.2, HS.out.2.1⟩
        case measure => have h9 := HLT.out; clear hj1; simp [intOf]; omega
      · have HM := Lib.hid hm
        clear hm hbk
        go_wp2_with fail
        go_ret
        have h1 : ∀ k, Own g v k → ¬ k = g5 := fun k hk e => by have := HT1.out.1.dk.own_lt hk; have := HG.out.1; omega
        have h2 : ∀ k, Own g2 v2 k → ¬ k = g5 := fun k hk e => by have := HT1.out.1.rk.own_lt hk; have := HG.out.1; omega
        exact ⟨rfl, _, _, _, _, Two.mv H3.out.1 HM.out h1 h2 (fun k hk => by subst hk; exact Nat.le_trans HT1.out.1.ab.size HG.out.1), HA.out.1, Nat.le_refl _⟩
end Go.Proofs.Ytolchbjcdlncgaa.diskActs

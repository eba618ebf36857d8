/- act: Append. -/
import Derived.Test.YtolchbjcdlncgaaKaC
import Derived.Test.YtolchbjcdlncgaaDgLk
namespace Go.Proofs.Ytolchbjcdlncgaa.diskActs
open Go.RowKit Dg
variable {W w w' : World} {base B g g2 : Nat} {v v2 u : Value} {d r : Dst} {a b : Int} {l : List UInt8}
attribute [local go_sem ↓] Go.wp_at_zero Go.wp_at_succ
theorem Two.mv {S : Nat → Prop} (h : Two W w g v d g2 v2 r) (hm : Mv S w w') (h1 : ∀ k, Own g v k → ¬ S k) (h2 : ∀ k, Own g2 v2 k → ¬ S k) (hs : ∀ k, S k → W.heap.size ≤ k) : Two W w' g v d g2 v2 r :=
  ⟨h.dk.mv hm h1, h.rk.mv hm h2, h.apart, hm.ab h.ab hs⟩
theorem row_kept {S : Nat → Prop} (hm : Mv S w w') (ho : Ob w base v l) (hs : ∀ k, S k → k < base) : Ob w' base v l :=
  hm.ob ho fun k hk e => by
    have h1 := (ho.blk k hk).1
    have h2 := hs k e
    omega
theorem al_fin (h : Al d r) : r.fin = d.fin := by
  obtain ⟨L, rfl, -⟩ := h
  rfl
theorem app_fin (d : Dst) (l : List UInt8) : (d.app l).fin ≤ d.fin + l.length := by
  unfold Dst.app
  cases d.fits l.length
  · show d.fin ≤ _; omega
  · show d.base + (d.bytes ++ l).length ≤ d.base + d.bytes.length + l.length
    rw [List.length_append]; omega
set_option maxRecDepth 100000 in
set_option maxHeartbeats 1000000 in
theorem act0 {z : Value} (h : Two W w g v d g2 v2 r) (ha : Al d r) (hz : Bs W W.heap.size z l) (hl : l.length ≤ 100000000000000) (hf : d.fin ≤ 1099511627776) :
    Calls Try.prog 28 #[.pointer (some ⟨g, 0, none⟩), .pointer (some ⟨g2, 0, none⟩), .agg #[.int .i64 0, .int .i64 a, .int .i64 b, z]] w (ActPost W g g2 (d.fin + l.length)) := by
  have hb1 := Bk.made w 72 #[.int .i64 0, .int .i64 a, .int .i64 b, z]
  have c3 : (w.alloc (.cells #[.int .i64 0, .int .i64 a, .int .i64 b, z] 72)).cell? ⟨w.heap.size, 3, none⟩ = some z := hb1.cell rfl
  have HT1 := Lib.hid (And.intro (h.still ((Ab.refl w).alloc (.cells #[.int .i64 0, .int .i64 a, .int .i64 b, z] 72))) hb1)
  have HO := Lib.hid (show (∀ k, Own g v k → k < w.heap.size) ∧ (∀ k, Own g2 v2 k → k < w.heap.size) from ⟨fun k hk => h.dk.own_lt hk, fun k hk => h.rk.own_lt hk⟩)
  have HA := Lib.hid (And.intro ha (And.intro hz (And.intro hl hf)))
  have hws : w.heap.size < (w.alloc (.cells #[.int .i64 0, .int .i64 a, .int .i64 b, z] 72)).heap.size := by simp
  have HWS := Lib.hid hws
  clear h ha hz hl hf hb1 hws
  go_enter Try.func28, Try.ntmps28
  go_wp2_with fail
  generalize w.alloc (.cells #[.int .i64 0, .int .i64 a, .int .i64 b, z] 72) = w1 at *
  refine (lend_any w1 ((HA.out.2.1.ab HT1.out.1.ab (Nat.le_refl _)).more HT1.out.1.ab.size) (by have := HA.out.2.2.1; omega)).mono ?_
  rintro e w2 ⟨g5, rfl, ho2, ha2⟩
  have hb2 := ha2.bk HT1.out.2
  have d3 := hb2.cell (i := 3) rfl
  have H2 := Lib.hid (And.intro (HT1.out.1.still ha2) (And.intro ho2 hb2))
  clear ho2 ha2 hb2 c3
  go_wp2_with fail
  refine (Append_any w2 H2.out.1.dk (lent_bs H2.out.2.1) (.inl (by have := HA.out; omega)) H2.out.1.ab.size).mono ?_
  rintro e w3 ⟨rfl, v3, hd3, ht3⟩
  have ho3 := row_kept ht3.1 H2.out.2.1 (fun k e => Nat.lt_trans (HO.out.1 k e) HWS.out)
  have hb3 := ht3.1.bk H2.out.2.2 (fun e => Nat.lt_irrefl _ (HO.out.1 _ e))
  have e3 := hb3.cell (i := 3) rfl
  have hx3 : ∀ k, Own g v3 k → ¬ k = g5 := fun k hk e => by
    have h5 := H2.out.2.1.blk g5 rfl
    have h6 := HWS.out
    rcases hk with hk | hk
    · have := HO.out.1 g (.inl rfl); omega
    · rcases ht3.2 k hk with h2 | h2
      · have := HO.out.1 k (.inr h2); omega
      · omega
  have HX3 := Lib.hid hx3
  clear hx3
  have H3 := Lib.hid (And.intro (H2.out.1.left hd3 ht3) (And.intro ho3 hb3))
  clear hd3 ht3 ho3 hb3 d3
  go_wp2_with fail
  refine (rappend_any w3 H3.out.1.rk ((HA.out.2.1.ab H3.out.1.ab (Nat.le_refl _)).more H3.out.1.ab.size) (Nat.le_refl _) (.inl (by rw [al_fin HA.out.1]; have := HA.out; omega)) H3.out.1.ab.size).mono ?_
  rintro e w4 ⟨rfl, v4, hd4, ht4⟩
  have ho4 := row_kept ht4.1 H3.out.2.1 (fun k e => Nat.lt_trans (HO.out.2 k e) HWS.out)
  have hb4 := ht4.1.bk H3.out.2.2 (fun e => Nat.lt_irrefl _ (HO.out.2 _ e))
  have f3 := hb4.cell (i := 3) rfl
  have hx4 : ∀ k, Own g2 v4 k → ¬ k = g5 := fun k hk e => by
    have h5 := H3.out.2.1.blk g5 rfl
    have h6 := HWS.out
    rcases hk with hk | hk
    · have := HO.out.2 g2 (.inl rfl); omega
    · rcases ht4.2 k hk with h2 | h2
      · have := HO.out.2 k (.inr h2); omega
      · omega
  have HX4 := Lib.hid hx4
  clear hx4
  have H4 := Lib.hid (And.intro (H3.out.1.right hd4 ht4) (And.intro ho4 hb4))
  clear hd4 ht4 ho4 hb4 e3
  go_wp2_with fail
  refine (kept_any w4 g5 H4.out.2.1 (HA.out.2.1.ab H4.out.1.ab (Nat.le_refl _)) (by have := HA.out.2.2.1; omega)).mono ?_
  rintro e w5 ⟨rfl, ha5⟩
  have H5 := Lib.hid (And.intro (H4.out.1.still ha5) (H4.out.2.1.ab ha5))
  clear ha5 f3
  obtain ⟨N, hN⟩ : ∃ N, l.length = N := ⟨_, rfl⟩
  have HA2 := Lib.hid (show Al (d.app l) (r.app l) ∧ (d.app l).fin ≤ d.fin + N from ⟨(HA.out.1.app l).1, hN ▸ app_fin d l⟩)
  rw [(HA.out.1.app l).2.1, (HA.out.1.app l).2.2]
  rw [hN]
  have HN := Lib.hid hN
  have hgb : w1.heap.size ≤ g5 ∧ g5 < w5.heap.size := H5.out.2.blk g5 rfl
  have HG := Lib.hid hgb
  have HB := Lib.hid (show ∃ cs : Array Value, cs.size = N + 2 ∧ Bk w5 g5 5 cs from by
    rcases H5.out.2.2 with ⟨e, -⟩ | ⟨g', cap', cur, hv, hb, hg, hn, hm, hs, ht⟩
    · cases e
    · injection hv with ha hb2 hc2
      injection ha with ha
      injection ha with ha
      subst ha
      refine ⟨cur, ?_, hg⟩
      simp at hs
      omega)
  have hN9 : N ≤ 100000000000000 := by have := HA.out.2.2.1; omega
  clear hN hgb
  go_wp2_with fail
  go_loopw [50] (fun i wr => ∃ j : Nat, j ≤ N ∧ i = .int .i64 (j : Int) ∧ Mv (· = g5) w5 wr ∧ ∃ cs : Array Value, cs.size = N + 2 ∧ Bk wr g5 5 cs) (fun i _ => N - (intOf i).toNat)
  case atStart => exact ⟨0, Nat.zero_le _, rfl, Mv.refl _ _, HB.out⟩
  case round =>
    obtain ⟨j, hj, rfl, hm, cs, hcs, hbk⟩ := hrel
    by_cases hlt : j < N
    · have hc : wr.cell? ⟨g5, 1 + j, none⟩ = some (cs[1 + j]'(by omega)) := (hbk.get (1 + j)).trans (Array.getElem?_eq_getElem (by omega))
      generalize cs[1 + j]'(by omega) = x at hc
      have hz := hbk.free (1 + j)
      have hj0 : (0 : Int) ≤ (j : Int) := by omega
      have hj1 : (j : Int) < (N : Int) := by omega
      have HS := Lib.hid (And.intro (Mv.set (S := (· = g5)) (p := ⟨g5, 1 + j, none⟩) hm rfl (.int .u8 7)) (And.intro (hbk.store (1 + j) (.int .u8 7)) hcs))
      have HLT := Lib.hid hlt
      clear hm hbk
      go_wp2_with fail
      go_roundw
      case rel => exact ⟨j + 1, HLT.out, by go_num, HS.out.1, _, by rw [Array.size_setIfInBounds]; exact HS.out.2.2, HS.out.2.1⟩
      case measure => have h9 := HLT.out; clear hj1; simp [intOf]; omega
    · have HM := Lib.hid hm
      clear hm hbk
      go_wp2_with fail
      go_ret
      exact ⟨rfl, _, _, _, _, Two.mv H5.out.1 HM.out HX3.out HX4.out (fun k hk => by subst hk; exact Nat.le_trans HT1.out.1.ab.size HG.out.1), HA2.out.1, by rw [HN.out]; exact HA2.out.2⟩
end Go.Proofs.Ytolchbjcdlncgaa.diskActs

/- act: a writing, of bytes that are lent and spoilt behind it. -/
import Derived.Test.YtniodjigncicbaaErC
import Derived.Test.YtniodjigncicbaaDgLk
namespace Go.Proofs.Ytniodjigncicbaa.Dg
open Go.RowKit
variable {w w' w1 w2 : World} {base a b s B : Nat} {v u vd vh z : Value} {c : Cel} {l : List UInt8} {ps : List Pr} {p q : Int} {A : Option Addr} {n0 c0 : Nat}
attribute [local go_sem ↓] Go.wp_at_zero Go.wp_at_succ
theorem Pl.mv2 {S : Nat → Prop} {c' : Cel} {s' : Nat} (h : Pl w base a b v ps vd vh c s c' s') (hm : Mv S w w') (ha : ¬ S a) (hr : ∀ k, v.ownBlock = some k → ¬ S k) (ho : ∀ p ∈ ps, ∀ k, p.val.ownBlock = some k → ¬ S k) (hf : ∀ k, RfO b vd vh k → ¬ S k) : Pl w' base a b v ps vd vh c s c' s' :=
  ⟨h.ex.mv2 hm ha hr ho, h.cel, h.rf.mv hm hf, h.sep⟩
theorem PxT.spoil {ps' : List Pr} {vd' vh' : Value} {g5 : Nat} (t : PxT a b ps vd vh ps' vd' vh' w w1) (hm : Mv (· = g5) w1 w2) (hge : w.heap.size ≤ g5) : PxT a b ps vd vh ps' vd' vh' w w2 :=
  ⟨⟨hm.os.trans t.1.os, hm.tape.trans t.1.tape, hm.output.trans t.1.output, Nat.le_trans t.1.size hm.size, fun i hi hS => (hm.block i (Nat.lt_of_lt_of_le hi t.1.size) (fun e => by have : i = g5 := e; omega)).trans (t.1.block i hi hS)⟩, t.2.1, t.2.2⟩
set_option maxRecDepth 100000 in
set_option maxHeartbeats 2000000 in
theorem xact0 (h : Px w base a b v ps vd vh c s) (hz : Bs w B z l) (hB : B ≤ base) (hl : l.length ≤ 200000000000000) (hb : base ≤ w.heap.size) :
    Calls Try.prog 26 #[.pointer (some ⟨a, 0, none⟩), .pointer (some ⟨b, 0, none⟩), .agg #[.int .i64 0, .int .i64 p, .int .i64 q, z]] w (ActX base a b ps vd vh w) := by
  have hab : Ab w (w.alloc (.cells #[.int .i64 0, .int .i64 p, .int .i64 q, z] 72)) := (Ab.refl w).alloc _
  have hbk := Bk.made w 72 #[.int .i64 0, .int .i64 p, .int .i64 q, z]
  have c1 := hbk.cell (i := 1) rfl
  have c3 := hbk.cell (i := 3) rfl
  obtain ⟨E, C', S', hpl, hpr⟩ : ∃ E C' S', (∀ wx u' B', Px wx base a b v ps vd vh c s → Bs wx B' u' l → B' ≤ wx.heap.size → base ≤ wx.heap.size → Calls Try.prog 57 #[.pointer (some ⟨a, 0, none⟩), .int .i64 p, u'] wx (PlP base a b ps vd vh c s E C' S' wx)) ∧
      (∀ wx v' ps', Pl wx base a b v' ps' vd vh c s C' S' → Bs wx B z l → base ≤ wx.heap.size → Calls Try.prog 59 #[.pointer (some ⟨b, 0, none⟩), .int .i64 p, z] wx (PrP base a b v' ps' vd vh E C' S' wx)) :=
    ⟨_, _, _, fun wx u' B' h1 h2 h3 h4 => pl_write h1 h2 h3 h4, fun wx v' ps' h1 h2 h3 => pr_write h1 h2 hB h3⟩
  have HT := Lib.hid (And.intro (h.ab hab) (And.intro hab hbk))
  have HLT0 := Lib.hid (fun k hk => h.lt (k := k) hk)
  have HQ := Lib.hid (And.intro hz (And.intro hl (And.intro hb hB)))
  have HO := Lib.hid h.act_out
  clear h hab hbk hl hb hz hB
  go_enter Try.func26, Try.ntmps26
  go_wp2_with fail
  generalize w.alloc (.cells #[.int .i64 0, .int .i64 p, .int .i64 q, z] 72) = w1 at *
  have hz1 : Bs w1 B z l := HQ.out.1.ab HT.out.2.1 (Nat.le_trans HQ.out.2.2.2 HQ.out.2.2.1)
  refine (lend_any w1 (hz1.more (Nat.le_trans HQ.out.2.2.2 (Nat.le_trans HQ.out.2.2.1 HT.out.2.1.size))) (by have := HQ.out.2.1; omega)).mono ?_
  rintro e w2 ⟨g5, rfl, ho2, ha2⟩
  have hb2 := ha2.bk HT.out.2.2
  have d1 := hb2.cell (i := 1) rfl
  have d3 := hb2.cell (i := 3) rfl
  have H2 := Lib.hid (And.intro (HT.out.1.ab ha2) (And.intro ho2 (And.intro hb2 (HT.out.2.1.trans ha2))))
  have HG := Lib.hid (And.intro (Nat.le_trans HT.out.2.1.size (ho2.blk g5 rfl).1) (And.intro (ho2.blk g5 rfl).2 (ho2.blk g5 rfl).1))
  clear ho2 ha2 hb2 c1 c3 hz1
  go_wp2_with fail
  refine (hpl w2 _ _ H2.out.1 (lent_bs H2.out.2.1) (Nat.le_refl _) (Nat.le_trans HQ.out.2.2.1 H2.out.2.2.2.size)).mono ?_
  rintro e w3 ⟨rfl, v3, ps3, h3, t3⟩
  have hS : ∀ k, k = a ∨ RfO b vd vh k → B ≤ k ∧ k < w.heap.size := fun k hk => by
    have h9 := HLT0.out k (hk.elim .inl fun e => .inr (.inr (.inr e)))
    exact ⟨Nat.le_trans HQ.out.2.2.2 h9.1, h9.2⟩
  have ho3 := t3.1.ob H2.out.2.1 (fun k hk e => by
    have h9 := (hS k e).2
    have h8 := (H2.out.2.1.blk k hk).1
    have h7 := HT.out.2.1.size
    omega)
  have hb3 := t3.1.bk H2.out.2.2.1 (fun e => Nat.lt_irrefl _ (hS _ e).2)
  have hz3 : Bs w3 B z l := bs_mv (HQ.out.1.ab H2.out.2.2.2 (Nat.le_trans HQ.out.2.2.2 HQ.out.2.2.1)) t3.1 (fun k hk => (hS k hk).1) (Nat.le_trans HQ.out.2.2.2 (Nat.le_trans HQ.out.2.2.1 H2.out.2.2.2.size))
  have e3 := hb3.cell (i := 3) rfl
  have H3 := Lib.hid (And.intro h3 (And.intro ho3 (And.intro hb3 (And.intro hz3 ((PxT.of_ab H2.out.2.2.2).trans t3)))))
  have HN3 := Lib.hid t3.2.1
  have HS := Lib.hid hS
  clear h3 t3 ho3 hb3 hz3 d1 d3 hS hpl
  go_wp2_with fail
  refine (kept_any w3 g5 H3.out.2.1 H3.out.2.2.2.1 (by have := HQ.out.2.1; omega)).mono ?_
  rintro e w4 ⟨rfl, ha4⟩
  have hB3 : B ≤ w3.heap.size := Nat.le_trans HQ.out.2.2.2 (Nat.le_trans HQ.out.2.2.1 H3.out.2.2.2.2.size)
  have H4 := Lib.hid (And.intro (H3.out.1.ab ha4) (And.intro (H3.out.2.1.ab ha4) (And.intro (ha4.bk H3.out.2.2.1) (And.intro (H3.out.2.2.2.1.ab ha4 hB3) (H3.out.2.2.2.2.trans (PxT.of_ab ha4))))))
  have HB4 := Lib.hid (Nat.le_trans hB3 ha4.size)
  clear ha4 e3 hB3
  obtain ⟨N, hN⟩ : ∃ N, l.length = N := ⟨_, rfl⟩
  rw [hN]
  have hN9 : N ≤ 200000000000000 := by have := HQ.out.2.1; omega
  have HB := Lib.hid (show ∃ cs : Array Value, cs.size = N + 2 ∧ Bk w4 g5 5 cs from by
    rcases H4.out.2.1.2 with ⟨e, -⟩ | ⟨g', cap', cur, hv, hb, hg, hn, hm, hs, ht⟩
    · cases e
    · injection hv with ha hb2 hc2
      injection ha with ha
      injection ha with ha
      subst ha
      refine ⟨cur, ?_, hg⟩
      simp at hs
      omega)
  have HN := Lib.hid hN
  clear hN
  go_wp2_with fail
  go_loopw [39] (fun i wr => ∃ j : Nat, j ≤ N ∧ i = .int .i64 (j : Int) ∧ Mv (· = g5) w4 wr ∧ ∃ cs : Array Value, cs.size = N + 2 ∧ Bk wr g5 5 cs) (fun i _ => N - (intOf i).toNat)
  case atStart => exact ⟨0, Nat.zero_le _, rfl, Mv.refl _ _, HB.out⟩
  case round =>
    obtain ⟨j, hj, rfl, hm, cs, hcs, hbk⟩ := hrel
    by_cases hlt : j < N
    · have hc : wr.cell? ⟨g5, 1 + j, none⟩ = some (cs[1 + j]'(by omega)) := (hbk.get (1 + j)).trans (Array.getElem?_eq_getElem (by omega))
      generalize cs[1 + j]'(by omega) = x at hc
      have hz := hbk.free (1 + j)
      have hj0 : (0 : Int) ≤ (j : Int) := by omega
      have hj1 : (j : Int) < (N : Int) := by omega
      have HS9 := Lib.hid (And.intro (Mv.set (S := (· = g5)) (p := ⟨g5, 1 + j, none⟩) hm rfl (.int .u8 7)) (And.intro (hbk.store (1 + j) (.int .u8 7)) hcs))
      have HLT := Lib.hid hlt
      clear hm hbk hpr
      go_wp2_with fail
      go_roundw
      case rel => exact ⟨j + 1, HLT.out, by go_num, HS9.out.1, _, by rw [Array.size_setIfInBounds]; exact HS9.out.2.2, HS9.out.2.1⟩
      case measure => have h9 := HLT.out; clear hj1; simp [intOf]; omega
    · have HM := Lib.hid hm
      have hpl5 : Pl wr base a b v3 ps3 vd vh c s C' S' := H4.out.1.mv2 hm (fun e => by have := (HS.out a (.inl rfl)).2; have := HG.out.1; omega) (fun k hk e => by
          obtain ⟨cs4, _, hb4⟩ := HB.out
          subst e
          exact absurd (H4.out.1.ex.row.row.type hk hb4) (by decide)) (fun p hp k hk e => by
          rcases HN3.out p hp with h9 | h9
          · have := (HLT0.out k (.inr (.inr (.inl ⟨p, h9, hk⟩)))).2
            have := HG.out.1
            omega
          · have := h9 k hk
            have := HG.out.2.1
            omega) (fun k hk e => by have := (HS.out k (.inr hk)).2; have := HG.out.1; omega)
      have hz5 : Bs wr B z l := bs_mv H4.out.2.2.2.1 hm (fun k hk => by have : k = g5 := hk; have := HG.out.1; have := HQ.out; omega) HB4.out
      have hb5 := hm.bk H4.out.2.2.1 (fun e => by have : w.heap.size = g5 := e; have := HT.out.2.2.lt; have := HG.out.2.2; omega)
      have f1 := hb5.cell (i := 1) rfl
      have f3 := hb5.cell (i := 3) rfl
      have t5 := H4.out.2.2.2.2.spoil hm HG.out.1
      have H5 := Lib.hid (And.intro hpl5 (And.intro hz5 t5))
      clear hm hbk hb5 hpl5 hz5 t5
      go_wp2_with (go_at_call 59; (with_reducible refine (hpr wr _ _ H5.out.1 H5.out.2.1 (Nat.le_trans HQ.out.2.2.1 H5.out.2.2.size)).mono ?_); rintro e w6 ⟨rfl, vd6, vh6, h6, t6⟩; (have H6 := Lib.hid (And.intro h6 t6)); clear h6 t6)
      go_ret
      exact ⟨rfl, _, _, _, _, _, _, H6.out.1, H5.out.2.2.trans H6.out.2⟩
end Go.Proofs.Ytniodjigncicbaa.Dg

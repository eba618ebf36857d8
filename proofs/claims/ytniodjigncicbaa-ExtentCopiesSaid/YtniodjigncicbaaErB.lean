/- act: a hole, a cut, no act at all. -/
import Derived.Test.YtniodjigncicbaaErA
namespace Go.Proofs.Ytniodjigncicbaa.Dg
open Go.RowKit
variable {w w' w1 w2 : World} {base a b s : Nat} {v u vd vh z : Value} {c : Cel} {l : List UInt8} {ps : List Pr} {p q : Int} {A : Option Addr} {n0 c0 : Nat}
attribute [local go_sem ↓] Go.wp_at_zero Go.wp_at_succ
def PlP (base a b : Nat) (ps : List Pr) (vd vh : Value) (c : Cel) (s : Nat) (n : Int) (c' : Cel) (s' : Nat) (w : World) (e : Ending) (w' : World) : Prop :=
  e = .returned (.int .i64 n) ∧ ∃ v' ps', Pl w' base a b v' ps' vd vh c s c' s' ∧ PxT a b ps vd vh ps' vd vh w w'
theorem Px.pl {f : Nat} {args : Array Value} {n : Int} {c' : Cel} {s' : Nat} (h : Px w base a b v ps vd vh c s) (hc : Calls Try.prog f args w (ChN w base a ps n c' s')) : Calls Try.prog f args w (PlP base a b ps vd vh c s n c' s' w) :=
  hc.mono fun _ _ he => ⟨he.1, h.left he.2.1 he.2.2⟩
def PrP (base a b : Nat) (v : Value) (ps : List Pr) (vd vh : Value) (n : Int) (c' : Cel) (s' : Nat) (w : World) (e : Ending) (w' : World) : Prop :=
  e = .returned (.int .i64 n) ∧ ∃ vd' vh', Px w' base a b v ps vd' vh' c' s' ∧ PxT a b ps vd vh ps vd' vh' w w'
theorem Pl.pr {f : Nat} {args : Array Value} {n : Int} {c' : Cel} {s' : Nat} (h : Pl w base a b v ps vd vh c s c' s') (hc : Calls Try.prog f args w (RP w base b vd vh n c' s')) : Calls Try.prog f args w (PrP base a b v ps vd vh n c' s' w) :=
  hc.mono fun _ _ he => h.right he
theorem pl_zero (h : Px w base a b v ps vd vh c s) (hq : q ≤ 9223372036854775807) (hb : base ≤ w.heap.size) :
    Calls Try.prog 60 #[.pointer (some ⟨a, 0, none⟩), .int .i64 p, .int .i64 q] w (PlP base a b ps vd vh c s (exE p q) (if exE p q ≠ 0 ∨ q = 0 then c else hoC c p.toNat (p + q).toNat) (if exE p q ≠ 0 ∨ q = 0 then s else max s (p + q).toNat) w) := by
  have := h.pl (zeroN_any w h.ex p q hq hb)
  rw [h.cel] at this
  exact this
theorem pr_zero (h : Pl w base a b v ps vd vh c s (if exE p q ≠ 0 ∨ q = 0 then c else hoC c p.toNat (p + q).toNat) (if exE p q ≠ 0 ∨ q = 0 then s else max s (p + q).toNat)) (hq : q ≤ 9223372036854775807) (hb : base ≤ w.heap.size) :
    Calls Try.prog 61 #[.pointer (some ⟨b, 0, none⟩), .int .i64 p, .int .i64 q] w (PrP base a b v ps vd vh (exE p q) (if exE p q ≠ 0 ∨ q = 0 then c else hoC c p.toNat (p + q).toNat) (if exE p q ≠ 0 ∨ q = 0 then s else max s (p + q).toNat) w) :=
  h.pr (rzero_any w h.rf p q hq hb)
theorem pl_trunc (h : Px w base a b v ps vd vh c s) (hb : base ≤ w.heap.size) :
    Calls Try.prog 62 #[.pointer (some ⟨a, 0, none⟩), .int .i64 p] w (PlP base a b ps vd vh c s (exE p 0) (if exE p 0 ≠ 0 then c else hoC c p.toNat s) (if exE p 0 ≠ 0 then s else p.toNat) w) := by
  have := h.pl (truncN_any w h.ex p hb)
  rw [h.cel] at this
  exact this
theorem pr_trunc (h : Pl w base a b v ps vd vh c s (if exE p 0 ≠ 0 then c else hoC c p.toNat s) (if exE p 0 ≠ 0 then s else p.toNat)) (hb : base ≤ w.heap.size) :
    Calls Try.prog 63 #[.pointer (some ⟨b, 0, none⟩), .int .i64 p] w (PrP base a b v ps vd vh (exE p 0) (if exE p 0 ≠ 0 then c else hoC c p.toNat s) (if exE p 0 ≠ 0 then s else p.toNat) w) :=
  h.pr (rtrunc_any w h.rf p hb)
theorem PxT.size {ps' : List Pr} {vd' vh' : Value} (ht : PxT a b ps vd vh ps' vd' vh' w w') : w.heap.size ≤ w'.heap.size := ht.1.size
/-- The act's own cells. -/
theorem PxT.far {ps' : List Pr} {vd' vh' : Value} {k : Nat} (ht : PxT a b ps vd vh ps' vd' vh' w w') (h : ¬ k = a) (h2 : ¬ RfO b vd vh k) (hk : k < w.heap.size) (o : Nat) : w'.cell? ⟨k, o, none⟩ = w.cell? ⟨k, o, none⟩ :=
  ht.1.cell hk (fun e => e.elim h h2) o
theorem Px.act_out (h : Px w base a b v ps vd vh c s) : ¬ w.heap.size = a ∧ ¬ RfO b vd vh w.heap.size :=
  ⟨fun e => by have := (h.lt (k := a) (.inl rfl)).2; omega, fun e => by have := (h.lt (.inr (.inr (.inr e)))).2; omega⟩
set_option maxRecDepth 100000 in
set_option maxHeartbeats 1000000 in
theorem xact1 (h : Px w base a b v ps vd vh c s) (hq : q ≤ 9223372036854775807) (hb : base ≤ w.heap.size) :
    Calls Try.prog 26 #[.pointer (some ⟨a, 0, none⟩), .pointer (some ⟨b, 0, none⟩), .agg #[.int .i64 1, .int .i64 p, .int .i64 q, .slice A n0 c0]] w (ActX base a b ps vd vh w) := by
  have hab : Ab w (w.alloc (.cells #[.int .i64 1, .int .i64 p, .int .i64 q, .slice A n0 c0] 72)) := (Ab.refl w).alloc _
  have HT := Lib.hid (And.intro (h.ab hab) hab)
  have hbk := Bk.made w 72 #[.int .i64 1, .int .i64 p, .int .i64 q, .slice A n0 c0]
  have c1 := hbk.cell (i := 1) rfl
  have c2 := hbk.cell (i := 2) rfl
  have HO := Lib.hid (And.intro h.act_out (And.intro hb hbk.lt))
  have HQ := Lib.hid hq
  clear h hab hbk hq hb
  go_enter Try.func26, Try.ntmps26
  go_wp2_with fail
  generalize w.alloc (.cells #[.int .i64 1, .int .i64 p, .int .i64 q, .slice A n0 c0] 72) = w1 at *
  have HB := Lib.hid (And.intro c1 c2)
  have HT1 : Hid (Px w1.drew base a b v ps vd vh c s ∧ Ab w w1.drew ∧ w.heap.size < w1.drew.heap.size) := Lib.hid ⟨HT.out.1.ab (Ab.refl _).drew, HT.out.2.trans (Ab.refl _).drew, HO.out.2.2⟩
  go_region_held3 (fun wx => wx.cell? ⟨w.heap.size, 1, none⟩ = some (.int .i64 p) ∧ wx.cell? ⟨w.heap.size, 2, none⟩ = some (.int .i64 q)) (first | exact HB.out | exact ⟨q1, q2⟩ | exact ⟨r1, r2⟩) (first
    | (go_at_call 60; (with_reducible refine (pl_zero HT1.out.1 HQ.out (Nat.le_trans HO.out.2.1 HT1.out.2.1.size)).mono ?_); rintro e w2 ⟨rfl, v2, ps2, h2, t2⟩; (have q1 := (t2.far HO.out.1.1 HO.out.1.2 HT1.out.2.2 1).trans HB.out.1); (have q2 := (t2.far HO.out.1.1 HO.out.1.2 HT1.out.2.2 2).trans HB.out.2); (have H2 := Lib.hid (And.intro h2 t2)); clear h2 t2)
    | (go_at_call 61; (with_reducible refine (pr_zero H2.out.1 HQ.out (Nat.le_trans HO.out.2.1 (Nat.le_trans HT1.out.2.1.size H2.out.2.size))).mono ?_); rintro e w3 ⟨rfl, vd3, vh3, h3, t3⟩; (have r1 := (t3.far HO.out.1.1 HO.out.1.2 (Nat.lt_of_lt_of_le HT1.out.2.2 H2.out.2.size) 1).trans q1); (have r2 := (t3.far HO.out.1.1 HO.out.1.2 (Nat.lt_of_lt_of_le HT1.out.2.2 H2.out.2.size) 2).trans q2); (have H3 := Lib.hid (And.intro h3 t3)); clear h3 t3))
  go_wp2_with fail
  go_ret
  exact ⟨rfl, _, _, _, _, _, _, H3.out.1, (PxT.of_ab HT1.out.2.1).trans (H2.out.2.trans H3.out.2)⟩
set_option maxRecDepth 100000 in
set_option maxHeartbeats 1000000 in
theorem xact2 (h : Px w base a b v ps vd vh c s) (hb : base ≤ w.heap.size) :
    Calls Try.prog 26 #[.pointer (some ⟨a, 0, none⟩), .pointer (some ⟨b, 0, none⟩), .agg #[.int .i64 2, .int .i64 p, .int .i64 q, .slice A n0 c0]] w (ActX base a b ps vd vh w) := by
  have hab : Ab w (w.alloc (.cells #[.int .i64 2, .int .i64 p, .int .i64 q, .slice A n0 c0] 72)) := (Ab.refl w).alloc _
  have HT := Lib.hid (And.intro (h.ab hab) hab)
  have hbk := Bk.made w 72 #[.int .i64 2, .int .i64 p, .int .i64 q, .slice A n0 c0]
  have c1 := hbk.cell (i := 1) rfl
  have HO := Lib.hid (And.intro h.act_out (And.intro hb hbk.lt))
  clear h hab hbk hb
  go_enter Try.func26, Try.ntmps26
  go_wp2_with fail
  generalize w.alloc (.cells #[.int .i64 2, .int .i64 p, .int .i64 q, .slice A n0 c0] 72) = w1 at *
  have HB := Lib.hid c1
  have HT1 : Hid (Px w1.drew base a b v ps vd vh c s ∧ Ab w w1.drew ∧ w.heap.size < w1.drew.heap.size) := Lib.hid ⟨HT.out.1.ab (Ab.refl _).drew, HT.out.2.trans (Ab.refl _).drew, HO.out.2.2⟩
  go_region_held3 (fun wx => wx.cell? ⟨w.heap.size, 1, none⟩ = some (.int .i64 p)) (first | exact HB.out | exact q1 | exact r1) (first
    | (go_at_call 62; (with_reducible refine (pl_trunc HT1.out.1 (Nat.le_trans HO.out.2.1 HT1.out.2.1.size)).mono ?_); rintro e w2 ⟨rfl, v2, ps2, h2, t2⟩; (have q1 := (t2.far HO.out.1.1 HO.out.1.2 HT1.out.2.2 1).trans HB.out); (have H2 := Lib.hid (And.intro h2 t2)); clear h2 t2)
    | (go_at_call 63; (with_reducible refine (pr_trunc H2.out.1 (Nat.le_trans HO.out.2.1 (Nat.le_trans HT1.out.2.1.size H2.out.2.size))).mono ?_); rintro e w3 ⟨rfl, vd3, vh3, h3, t3⟩; (have r1 := (t3.far HO.out.1.1 HO.out.1.2 (Nat.lt_of_lt_of_le HT1.out.2.2 H2.out.2.size) 1).trans q1); (have H3 := Lib.hid (And.intro h3 t3)); clear h3 t3))
  go_wp2_with fail
  go_ret
  exact ⟨rfl, _, _, _, _, _, _, H3.out.1, (PxT.of_ab HT1.out.2.1).trans (H2.out.2.trans H3.out.2)⟩
theorem xnoKind (k : Int) (hk : k < 0 ∨ 3 < k) : (k == 0) = false ∧ (k == 1) = false ∧ (k == 2) = false ∧ (k == 3) = false :=
  ⟨beq_eq_false_iff_ne.2 (by omega), beq_eq_false_iff_ne.2 (by omega), beq_eq_false_iff_ne.2 (by omega), beq_eq_false_iff_ne.2 (by omega)⟩
set_option maxRecDepth 100000 in
set_option maxHeartbeats 1000000 in
theorem xactX (k : Int) (hk : k < 0 ∨ 3 < k) (h : Px w base a b v ps vd vh c s) :
    Calls Try.prog 26 #[.pointer (some ⟨a, 0, none⟩), .pointer (some ⟨b, 0, none⟩), .agg #[.int .i64 k, .int .i64 p, .int .i64 q, .slice A n0 c0]] w (ActX base a b ps vd vh w) := by
  have hab : Ab w (w.alloc (.cells #[.int .i64 k, .int .i64 p, .int .i64 q, .slice A n0 c0] 72)) := (Ab.refl w).alloc _
  have HT := Lib.hid (And.intro (h.ab hab) hab)
  obtain ⟨k0, k1, k2, k3⟩ := xnoKind k hk
  have n1 : ¬ k = 0 := by omega
  have n2 : ¬ k = 1 := by omega
  have n3 : ¬ k = 2 := by omega
  have n4 : ¬ k = 3 := by omega
  clear h hk hab
  go_enter Try.func26, Try.ntmps26
  go_wp2_with fail
  go_ret
  exact ⟨rfl, _, _, _, _, _, _, HT.out.1, PxT.of_ab HT.out.2⟩
end Go.Proofs.Ytniodjigncicbaa.Dg

/- The program's map and the reference's, side by side. -/
import Derived.Test.YtniodjigncicbaaExRe
import Derived.Test.YtniodjigncicbaaExRf
import Derived.Test.YtniodjigncicbaaExRg
namespace Go.Proofs.Ytniodjigncicbaa.Dg
open Go.RowKit
variable {w w' w1 w2 : World} {base a b s : Nat} {v u vd vh : Value} {c : Cel} {l : List UInt8} {ps : List Pr}
structure Px (w : World) (base a b : Nat) (v : Value) (ps : List Pr) (vd vh : Value) (c : Cel) (s : Nat) : Prop where
  ex : Ex w base a v ps s
  cel : celP ps = c
  rf : Rf w base b vd vh c s
  sep : ∀ p ∈ ps, ∀ k, p.val.ownBlock = some k → ¬ RfO b vd vh k
/-- What turns between two worlds. -/
def PxT (a b : Nat) (ps : List Pr) (vd vh : Value) (ps' : List Pr) (vd' vh' : Value) (w w' : World) : Prop :=
  Mv (fun k => k = a ∨ RfO b vd vh k) w w' ∧ Nw w.heap.size ps ps' ∧ ∀ k, RfO b vd' vh' k → RfO b vd vh k ∨ w.heap.size ≤ k
theorem PxT.refl (a b : Nat) (ps : List Pr) (vd vh : Value) (w : World) : PxT a b ps vd vh ps vd vh w w := ⟨Mv.refl _ _, nw_refl _ _, fun _ h => .inl h⟩
theorem PxT.of_ab (h : Ab w w') : PxT a b ps vd vh ps vd vh w w' := ⟨Mv.of_ab h, nw_refl _ _, fun _ h => .inl h⟩
theorem PxT.trans {ps1 ps2 : List Pr} {v1 v2 h1 h2 : Value} (h : PxT a b ps vd vh ps1 v1 h1 w w1) (k : PxT a b ps1 v1 h1 ps2 v2 h2 w1 w2) : PxT a b ps vd vh ps2 v2 h2 w w2 := by
  have hs := h.1.size
  refine ⟨⟨k.1.os.trans h.1.os, k.1.tape.trans h.1.tape, k.1.output.trans h.1.output, Nat.le_trans hs k.1.size, fun i hi hS => (k.1.block i (Nat.lt_of_lt_of_le hi hs) (fun e => ?_)).trans (h.1.block i hi hS)⟩, fun p hp => ?_, fun i hi => ?_⟩
  · rcases e with e | e
    · exact hS (.inl e)
    · rcases h.2.2 i e with e2 | e2
      · exact hS (.inr e2)
      · omega
  · rcases k.2.1 p hp with e | e
    · exact h.2.1 p e
    · exact .inr fun i hi => Nat.le_trans hs (e i hi)
  · rcases k.2.2 i hi with e | e
    · exact h.2.2 i e
    · exact .inr (Nat.le_trans hs e)
theorem Ex.mv2 {S : Nat → Prop} (h : Ex w base a v ps s) (hm : Mv S w w') (ha : ¬ S a) (hr : ∀ k, v.ownBlock = some k → ¬ S k) (ho : ∀ p ∈ ps, ∀ k, p.val.ownBlock = some k → ¬ S k) : Ex w' base a v ps s :=
  ⟨hm.bk h.blk ha, ⟨h.row.row.mv hm hr, fun p hp => hm.ob (h.row.own p hp) (ho p hp)⟩, h.le, h.ris, h.fin, h.max⟩
theorem Rf.not_blk {t : TypeId} {k : Nat} {cs : Array Value} (h : Rf w base b vd vh c s) (hb : Bk w k t cs) (h1 : t ≠ 70) (h2 : t ≠ 5) (h3 : t ≠ 4) : ¬ RfO b vd vh k := fun e => by
  rcases e with rfl | e | e
  · exact h1 (bk_type hb h.blk)
  · exact h2 (h.dat.type e hb)
  · exact h3 (h.has.type e hb)
theorem Px.a_out (h : Px w base a b v ps vd vh c s) : ¬ RfO b vd vh a := h.rf.not_blk h.ex.blk (by decide) (by decide) (by decide)
theorem Px.row_out (h : Px w base a b v ps vd vh c s) {k : Nat} (hk : v.ownBlock = some k) : ¬ RfO b vd vh k := by
  obtain ⟨cs, hcs⟩ := h.ex.row.row.block hk
  exact h.rf.not_blk hcs (by decide) (by decide) (by decide)
theorem Px.mv {S : Nat → Prop} (h : Px w base a b v ps vd vh c s) (hm : Mv S w w') (ha : ¬ S a) (hr : ∀ k, v.ownBlock = some k → ¬ S k) (ho : ∀ p ∈ ps, ∀ k, p.val.ownBlock = some k → ¬ S k) (hf : ∀ k, RfO b vd vh k → ¬ S k) : Px w' base a b v ps vd vh c s :=
  ⟨h.ex.mv2 hm ha hr ho, h.cel, h.rf.mv hm hf, h.sep⟩
theorem Px.ab (h : Px w base a b v ps vd vh c s) (hb : Ab w w') : Px w' base a b v ps vd vh c s := ⟨h.ex.ab hb, h.cel, h.rf.ab hb, h.sep⟩
/-- New blocks alone turn. -/
theorem Px.fresh {S : Nat → Prop} {n : Nat} (h : Px w base a b v ps vd vh c s) (hm : Mv S w w') (hS : ∀ k, S k → n ≤ k) (hn : ∀ k, k = a ∨ v.ownBlock = some k ∨ (∃ p ∈ ps, p.val.ownBlock = some k) ∨ RfO b vd vh k → k < n) : Px w' base a b v ps vd vh c s :=
  h.mv hm (fun e => by have := hS _ e; have := hn a (.inl rfl); omega) (fun k hk e => by have := hS _ e; have := hn k (.inr (.inl hk)); omega)
    (fun p hp k hk e => by have := hS _ e; have := hn k (.inr (.inr (.inl ⟨p, hp, hk⟩))); omega) (fun k hk e => by have := hS _ e; have := hn k (.inr (.inr (.inr hk))); omega)
theorem Px.lt (h : Px w base a b v ps vd vh c s) {k : Nat} (hk : k = a ∨ v.ownBlock = some k ∨ (∃ p ∈ ps, p.val.ownBlock = some k) ∨ RfO b vd vh k) : base ≤ k ∧ k < w.heap.size := by
  rcases hk with rfl | hk | ⟨p, hp, hk⟩ | hk
  · exact ⟨h.ex.le, h.ex.blk.lt⟩
  · exact h.ex.row.row.blk k hk
  · exact (h.ex.row.own p hp).blk k hk
  · exact h.rf.ge hk
theorem PxT.ab {W : World} (h : Px w base a b v ps vd vh c s) {ps' : List Pr} {vd' vh' : Value} (ht : PxT a b ps vd vh ps' vd' vh' w w') (hW : Ab W w) (hb : W.heap.size ≤ base) : Ab W w' :=
  ht.1.ab hW fun k hk => by
    rcases hk with hk | hk
    · exact Nat.le_trans hb (h.lt (.inl hk)).1
    · exact Nat.le_trans hb (h.lt (.inr (.inr (.inr hk)))).1
/-- The program's side has turned, the reference's not yet. -/
structure Pl (w : World) (base a b : Nat) (v : Value) (ps : List Pr) (vd vh : Value) (c : Cel) (s : Nat) (c' : Cel) (s' : Nat) : Prop where
  ex : Ex w base a v ps s'
  cel : celP ps = c'
  rf : Rf w base b vd vh c s
  sep : ∀ p ∈ ps, ∀ k, p.val.ownBlock = some k → ¬ RfO b vd vh k
theorem Px.left {c' : Cel} {s' : Nat} (h : Px w base a b v ps vd vh c s) (hN : ExN w' base a w.heap.size ps c' s') (hm : Mv (fun k => k = a) w w') :
    ∃ v' ps', Pl w' base a b v' ps' vd vh c s c' s' ∧ PxT a b ps vd vh ps' vd vh w w' := by
  obtain ⟨v', ps', h1, h2, h3⟩ := hN
  refine ⟨v', ps', ⟨h1, h2, h.rf.mv hm (fun k hk e => h.a_out (e ▸ hk)), fun p hp k hk e => ?_⟩, hm.mono (fun k _ e => .inl e), h3, fun k hk => .inl hk⟩
  rcases h3 p hp with h4 | h4
  · exact h.sep p h4 k hk e
  · have := h4 k hk
    have := (h.rf.ge e).2
    omega
theorem Pl.right {c' : Cel} {s' : Nat} {n : Int} {e : Ending} (h : Pl w base a b v ps vd vh c s c' s') (hR : RP w base b vd vh n c' s' e w') :
    e = .returned (.int .i64 n) ∧ ∃ vd' vh', Px w' base a b v ps vd' vh' c' s' ∧ PxT a b ps vd vh ps vd' vh' w w' := by
  obtain ⟨he, vd', vh', h1, h2⟩ := hR
  have hrow : ∀ k, v.ownBlock = some k → ¬ RfO b vd vh k := fun k hk => by
    obtain ⟨cs, hcs⟩ := h.ex.row.row.block hk
    exact h.rf.not_blk hcs (by decide) (by decide) (by decide)
  have hex := h.ex.mv2 h2.1 (h.rf.not_blk h.ex.blk (by decide) (by decide) (by decide)) hrow h.sep
  refine ⟨he, vd', vh', ⟨hex, h.cel, h1, fun p hp k hk e => ?_⟩, h2.1.mono (fun k _ e => .inr e), nw_refl _ _, h2.2⟩
  rcases h2.2 k e with h3 | h3
  · exact h.sep p hp k hk h3
  · have := ((h.ex.row.own p hp).blk k hk).2
    omega
theorem Pl.ab {c' : Cel} {s' : Nat} (h : Pl w base a b v ps vd vh c s c' s') (hb : Ab w w') : Pl w' base a b v ps vd vh c s c' s' := ⟨h.ex.ab hb, h.cel, h.rf.ab hb, h.sep⟩
def ActX (base a b : Nat) (ps : List Pr) (vd vh : Value) (w : World) (e : Ending) (w' : World) : Prop :=
  e = .returned (.bool true) ∧ ∃ v' ps' vd' vh' c' s', Px w' base a b v' ps' vd' vh' c' s' ∧ PxT a b ps vd vh ps' vd' vh' w w'
end Go.Proofs.Ytniodjigncicbaa.Dg

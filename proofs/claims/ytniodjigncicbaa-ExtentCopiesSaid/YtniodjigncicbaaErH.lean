/- Two pairs side by side: the first one stands still while the second one turns. -/
import Derived.Test.YtniodjigncicbaaErE
namespace Go.Proofs.Ytniodjigncicbaa.Dg
open Go.RowKit
variable {w w' w1 w3 W : World} {base a b s n0 a2 b2 : Nat} {v z vd vh : Value} {c : Cel} {l : List UInt8} {ps : List Pr}
theorem pz_copy {b' : Nat} {vd' vh' : Value} (h : Px w base a b v ps vd vh c s) (h1 : Ex w1 base w.heap.size v ps s) (ha1 : Ab w w1) (hr : Rf w3 w1.heap.size b' vd' vh' c s) (ha3 : Ab w1 w3) (hb : base ≤ w.heap.size) : Px w3 base w.heap.size b' v ps vd' vh' c s :=
  ⟨h1.ab ha3, h.cel, hr.lower (Nat.le_trans hb ha1.size), fun p hp k hk e => by
    have h8 := (h.lt (k := k) (.inr (.inr (.inl ⟨p, hp, hk⟩)))).2
    have h9 := (hr.ge e).1
    have := ha1.size
    omega⟩
/-- The first pair and its bytes, which lie below n0; the second one, whose own blocks lie above. -/
structure Pz (W : World) (n0 a b : Nat) (v : Value) (ps : List Pr) (vd vh : Value) (c : Cel) (s : Nat) (z : Value) (l : List UInt8) (a2 b2 : Nat) (w : World) : Prop where
  px : Px w W.heap.size a b v ps vd vh c s
  ob : Ob w W.heap.size z l
  ab : Ab W w
  lt : ∀ k, k = a ∨ v.ownBlock = some k ∨ (∃ p ∈ ps, p.val.ownBlock = some k) ∨ RfO b vd vh k → k < n0
  lz : ∀ k, z.ownBlock = some k → k < n0
  ge : n0 ≤ a2
  two : ∃ v2 ps2 vd2 vh2 c2 s2, Px w W.heap.size a2 b2 v2 ps2 vd2 vh2 c2 s2 ∧ ∀ k, RfO b2 vd2 vh2 k → n0 ≤ k
theorem Pz.act (h : Pz W n0 a b v ps vd vh c s z l a2 b2 w) {v2 : Value} {ps2 : List Pr} {vd2 vh2 : Value} {c2 : Cel} {s2 : Nat} (h2 : Px w W.heap.size a2 b2 v2 ps2 vd2 vh2 c2 s2) (hg : ∀ k, RfO b2 vd2 vh2 k → n0 ≤ k)
    {v3 : Value} {ps3 : List Pr} {vd3 vh3 : Value} {c3 : Cel} {s3 : Nat} (h3 : Px w' W.heap.size a2 b2 v3 ps3 vd3 vh3 c3 s3) (ht : PxT a2 b2 ps2 vd2 vh2 ps3 vd3 vh3 w w') : Pz W n0 a b v ps vd vh c s z l a2 b2 w' := by
  have hS : ∀ k, (k = a2 ∨ RfO b2 vd2 vh2 k) → n0 ≤ k := fun k hk => by
    rcases hk with rfl | hk
    · exact h.ge
    · exact hg k hk
  refine ⟨h.px.fresh ht.1 hS h.lt, ht.1.ob h.ob (fun k hk e => ?_), PxT.ab h2 ht h.ab (Nat.le_refl _), h.lt, h.lz, h.ge, v3, ps3, vd3, vh3, c3, s3, h3, fun k hk => ?_⟩
  · have := hS k e
    have := h.lz k hk
    omega
  · rcases ht.2.2 k hk with e | e
    · exact hg k e
    · have := h2.ex.blk.lt
      have := h.ge
      omega
theorem Pz.mv_ab (h : Pz W n0 a b v ps vd vh c s z l a2 b2 w) (hb : Ab w w') : Pz W n0 a b v ps vd vh c s z l a2 b2 w' := by
  obtain ⟨v2, ps2, vd2, vh2, c2, s2, h2, hg⟩ := h.two
  exact ⟨h.px.ab hb, h.ob.ab hb, h.ab.trans hb, h.lt, h.lz, h.ge, v2, ps2, vd2, vh2, c2, s2, h2.ab hb, hg⟩
/-- How the two begin. -/
theorem pz_new {b' : Nat} {vd' vh' : Value} (h : Px w W.heap.size a b v ps vd vh c s) (hz : Ob w W.heap.size z l) (hW : Ab W w) (h1 : Ex w1 W.heap.size w.heap.size v ps s) (ha1 : Ab w w1) (hr : Rf w3 w1.heap.size b' vd' vh' c s) (ha3 : Ab w1 w3) :
    Pz W w.heap.size a b v ps vd vh c s z l w.heap.size b' w3 :=
  ⟨h.ab (ha1.trans ha3), hz.ab (ha1.trans ha3), hW.trans (ha1.trans ha3), fun _ hk => (h.lt hk).2, fun k hk => (hz.blk k hk).2, Nat.le_refl _, _, _, _, _, _, _, pz_copy h h1 ha1 hr ha3 hW.size, fun _ hk => Nat.le_trans ha1.size (hr.ge hk).1⟩
end Go.Proofs.Ytniodjigncicbaa.Dg

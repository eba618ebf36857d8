/- No old block turns. -/
import Derived.Test.YtphbaaaklgiloaaGreatDgW
namespace Go.Proofs.YtphbaaaklgiloaaGreat.Dg
open Go.RowKit
/-- What is there as long as no old block is written. -/
def Ab (w w' : World) : Prop := Below w.heap.size w w'
theorem Ab.refl (w : World) : Ab w w := Below.refl _ _
theorem Ab.alloc {w w1 : World} (h : Ab w w1) (o : Obj) : Ab w (w1.alloc o) := Below.alloc h (show w.heap.size ≤ w1.heap.size from Below.size h) o
theorem Ab.drew {w w1 : World} (h : Ab w w1) : Ab w w1.drew := Below.drew h
theorem Ab.drewN {w w1 : World} (h : Ab w w1) (n : Nat) : Ab w (w1.drewN n) := below_drewN h n
theorem Ab.trans {w w1 w2 : World} (h : Ab w w1) (h2 : Ab w1 w2) : Ab w w2 := Below.trans h (Below.mono h2 (Below.size h))
theorem Ab.set {w w1 : World} (h : Ab w w1) {p : Addr} (hp : w.heap.size ≤ p.block) (u : Value) : Ab w (w1.setCell p u) := Below.setCell h hp u
theorem Ab.cells {W w1 : World} (hb : Ab W w1) : ∀ b o, b < W.heap.size → w1.cell? ⟨b, o, none⟩ = W.cell? ⟨b, o, none⟩ := fun b o h => Below.cell (p := ⟨b, o, none⟩) hb h
theorem Ab.frees {W w1 : World} (hb : Ab W w1) : ∀ b o, b < W.heap.size → w1.frozen? ⟨b, o, none⟩ = W.frozen? ⟨b, o, none⟩ := fun b o h => Below.frozen (p := ⟨b, o, none⟩) hb h
theorem Ab.size {W w1 : World} (hb : Ab W w1) : W.heap.size ≤ w1.heap.size := Below.size hb
theorem Ab.bk {W w1 : World} (hb : Ab W w1) {g : Nat} {t : TypeId} {cs : Array Value} (h : Bk W g t cs) : Bk w1 g t cs := h.below hb h.lt
theorem quietL {P : Program} {f : FuncId} {args : Array Value} {w : World} {n : Nat} {v : Value} (h : Calls P f args (w.drewN n) fun e w' => e = .returned v ∧ w.drewN n = w') :
    Calls P f args (w.drewN n) fun e w'' => e = .returned v ∧ ∃ m, w'' = w.drewN m := h.mono fun _ _ ⟨he, hm⟩ => ⟨he, n, hm.symm⟩
end Go.Proofs.YtphbaaaklgiloaaGreat.Dg

/- A range over a function whose rounds all go on, where what a round is handed is known in the world in which it is handed over. -/
import Derived.Test.YtniodjigncicbaaDgAb
import Derived.RangeFuncNested
import Derived.RangeFuncBound
import Derived.RangeFuncCalls
import Derived.RangeFuncLeaves
import Derived.RangeFuncFrom
import Derived.Shelf.Abstract
import Derived.Shelf.RegionOpen
import Derived.WalkKit
import Derived.OwnWalkIn
import Derived.TacticsInMore
import Derived.LoopNIn
import Derived.LoopIn
namespace Go.Proofs.Ytniodjigncicbaa.Dg
open Go.RowKit
variable {P : Program}
theorem ab_grown {A B : World} (h : Ab A B) (row : Option Nat) : A.grownBy B row := ⟨h.1, h.2, h.3, Below.size h, fun k hk _ => Below.block h k hk⟩
/-- How a round's body ends: it goes on. -/
def goesOn {α : Type} (n₀ : Nat) (I : List α → World → Prop) (xs : List α) (W : World) : Exit → Act → World → Prop
  | .normal, _, W' => KeepsOthers W W' ∧ Below n₀ W W' ∧ I xs W'
  | _, _, _ => False
/-- An iterator that hands over all of S, each x in a world in which Ok holds of it. -/
def Hands {α : Type} (P : Program) (gf : Nat) (lb : Array Value) (encs : α → Array Value) (Ok : List α → α → World → Prop) (S : List α → Prop) (n₀ : Nat) (w : World) : Prop :=
  ∀ (l : Nat) (J : List α → World → Prop) (W : World), Below w.heap.size w W → (∀ pre A B, J pre A → Ab A B → J pre B) →
    (∀ pre x A, J pre A → Below n₀ W A → Ok pre x A → YieldAt Fence.wide 1 P l (encs x) A fun e B => e = .returned (.bool true) ∧ J (pre ++ [x]) B ∧ Below n₀ A B) →
    J [] W → Calls P gf (#[.func (.yield l) #[] #[]] ++ lb) W fun e B => (∃ v, e = .returned v) ∧ ∃ xs, S xs ∧ J xs B
theorem range_all {α : Type} {g : Operand} {ps : Array Tmp} {assign body : Code} {Q : Exit → Act → World → Prop} {a : Act} {w : World} {gf : Nat} {lb : Array Value}
    (hg : a.eval g = .func (.func gf) #[] lb) (eg : ∀ args w, (callFunc gf args).run P w = .ok (.enter gf args) w)
    {encs : α → Array Value} (hps : ∀ x, (encs x).size = ps.size) {Ok : List α → α → World → Prop} {S : List α → Prop} {n₀ : Nat} (hn₀ : n₀ ≤ w.heap.size) (hseq : Hands P gf lb encs Ok S n₀ w)
    (I : List α → World → Prop) (hI : OwnFrom w.heap.size I) (hO : ∀ pre x W W' l o o', Ok pre x W → W.heap[l]? = some o → o.isCells = false → W' = W.putObj l o' → Ok pre x W') (h0 : I [] w) (a₁ : α → Act)
    (hassign : ∀ (l : Nat) (x : α) (W : World) (K : Act → World → Prop), K (a₁ x) W →
      assign.wpIn (Fence.wide.inRound l) 1 P (Exit.then K (fun _ _ _ => False)) { tmps := (ps.zip (encs x)).foldl (fun t (p, v) => t.setIfInBounds p v) a.tmps, defers := [] } W)
    (hbody : ∀ (l : Nat) (pre : List α) (x : α) (W : World), I pre W → Below n₀ w W → Ok pre x W → body.wpIn (Fence.wide.inRound l) 1 P (goesOn n₀ I (pre ++ [x]) W) (a₁ x) W)
    (hdone : ∀ (D : Nat) (xs : List α) (W : World), w.heap.size ≤ D → S xs → I xs W → W.heap[D]? = some (.deferred (some [])) → Q .normal { a with defers := { target := .collected D, args := #[] } :: a.defers } W) :
    (Code.rangeFunc g ps assign body).wp P Q a w := by
  refine (wpIn_wide (n := 2)).1 (wpIn_rangeFunc fun fn _ => ?_)
  let rc : LoopState → Loop := fun st => { state := st, pending := none, fn := fn, tmps := a.tmps, params := ps, assign := assign, body := body, defers := w.heap.size }
  let w1 := (w.alloc (.deferred (some []))).alloc (.loop (rc .ready))
  have hs1 : w1.heap.size = w.heap.size + 2 := by simp [w1]
  have hl1 : w1.heap[w.heap.size + 1]? = some (.loop (rc .ready)) := by
    have := World.alloc_heap_new (w.alloc (.deferred (some []))) (.loop (rc .ready)); rwa [World.size_alloc] at this
  have hd1 : w1.heap[w.heap.size]? = some (.deferred (some [])) := (Below.heap_alloc _ _ _ (by simp)).trans (World.alloc_heap_new w _)
  have hw1 : Ab w w1 := ((Ab.refl w).alloc _).alloc _
  have put : ∀ {W : World} {st : LoopState} (o : Obj), W.heap[w.heap.size + 1]? = some (.loop (rc st)) → Below n₀ W (W.putObj (w.heap.size + 1) o) := fun {W st} o h =>
    (Below.refl n₀ W).grown (grownBy_putObj' W _ o) (by have := (Array.getElem?_eq_some_iff.1 h).1; omega) (fun k e => by cases e; omega)
  refine ⟨w.heap.size + 1, [{ target := .collected w.heap.size, args := #[] }], w1, { target := .fn (.func gf) lb, args := #[.func (.yield (w.heap.size + 1)) #[] #[]] }, w1, gf,
    #[.func (.yield (w.heap.size + 1)) #[] #[]] ++ lb, w1, run_enterLoop_outer _ _ _ _ _, ?_, fun _ _ => trivial, by simp [invoke, go_sem, eg], fun h => by simp [Fence.wide] at h, callsIn_wide.2 ?_⟩
  · simp only [resolve, hg]
    simp [go_sem]
  refine (hseq (w.heap.size + 1) (fun pre W => Below n₀ w W ∧ I pre W ∧ W.heap[w.heap.size + 1]? = some (.loop (rc .ready)) ∧ W.heap[w.heap.size]? = some (.deferred (some []))) w1 hw1
    (fun pre A B hA hAB => ⟨hA.1.trans (Below.mono hAB (Nat.le_trans hn₀ (Nat.le_trans (Nat.le_of_lt (Nat.lt_of_succ_lt (Array.getElem?_eq_some_iff.1 hA.2.2.1).1)) (Nat.le_refl _)))), hI pre A B none hA.2.1 (ab_grown hAB none) (fun _ e => by cases e),
      (Below.block hAB _ (Array.getElem?_eq_some_iff.1 hA.2.2.1).1).trans hA.2.2.1, (Below.block hAB _ (Array.getElem?_eq_some_iff.1 hA.2.2.2).1).trans hA.2.2.2⟩)
    ?_ ⟨Below.mono hw1 hn₀, hI [] w w1 none h0 (ab_grown hw1 none) (fun _ e => by cases e), hl1, hd1⟩).mono ?_
  · rintro pre x A ⟨hb, hi, hl, hd⟩ - hok
    have hlt : w.heap.size + 1 < A.heap.size := (Array.getElem?_eq_some_iff.1 hl).1
    refine ⟨fn, _, assign, body, run_yield (P := P) (args := encs x) hl (hps x), roundIn_of_wpIn trivial (hassign _ x A _ ⟨_, run_beginRound hl rfl, ?_⟩)⟩
    have hl2 : (A.putObj (w.heap.size + 1) (.loop (rc .busy))).heap[w.heap.size + 1]? = some (.loop (rc .busy)) := World.putObj_heap_same hlt
    have hd2 : (A.putObj (w.heap.size + 1) (.loop (rc .busy))).heap[w.heap.size]? = some (.deferred (some [])) := (World.putObj_heap_other (by omega)).trans hd
    have hb2 := put (.loop (rc .busy)) hl
    refine wpIn_mono (hbody _ pre x _ (hI.putObj _ hi (by omega) hl rfl) (hb.trans hb2) (hO pre x A _ _ _ _ hok hl rfl rfl)) ?_
    rintro e a3 B hp
    cases e with
    | normal =>
      obtain ⟨hk3, hb3, hi3⟩ := hp
      have hl3 := hk3.same _ _ hl2 rfl
      have hd3 := hk3.same _ _ hd2 rfl
      refine ⟨_, _, run_endRound none hl3, rfl, ⟨(hb.trans hb2).trans (hb3.trans (put _ hl3)), hI.putObj _ hi3 (by omega) hl3 rfl, World.putObj_heap_same (Array.getElem?_eq_some_iff.1 hl3).1, (World.putObj_heap_other (by omega)).trans hd3⟩, hb2.trans (hb3.trans (put _ hl3))⟩
    | ret => exact hp.elim
    | exit id => exact hp.elim
    | goto t => exact hp.elim
    | panic ch => exact hp.elim
    | outgrown => exact hp.elim
  · rintro e B ⟨⟨v, rfl⟩, xs, hS, hb, hi, hl, hd⟩
    exact ⟨none, _, run_endLoop hl (by simp [rc]), hdone _ xs _ (Nat.le_refl _) hS (hI.putObj _ hi (by omega) hl rfl) ((World.putObj_heap_other (by omega)).trans hd)⟩
end Go.Proofs.Ytniodjigncicbaa.Dg

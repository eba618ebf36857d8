/- A range over a function whose rounds may leave early; what a round is handed is known in the world in which it is handed over, and a round writes no more than the blocks that are named. -/
import Derived.Test.YtniodjigncicbaaRgA
import Derived.Test.YtniodjigncicbaaDkA
namespace Go.Proofs.Ytniodjigncicbaa.Dg
open Go.RowKit
variable {P : Program}
/-- How a round's body ends: it goes on, or leaves by a jump. -/
def mayGo {α : Type} (T : Nat → Prop) (I : List α → World → Prop) (Ix : Code → World → Prop) (xs : List α) (W : World) : Exit → Act → World → Prop
  | .normal, _, W' => Mv T W W' ∧ I xs W'
  | .ret, _, W' => Mv T W W' ∧ Ix .ret W'
  | .exit id, _, W' => Mv T W W' ∧ Ix (.exit id) W'
  | .goto t, _, W' => Mv T W W' ∧ Ix (.goto t) W'
  | _, _, _ => False
/-- An iterator that hands over all of Sx, or as many as are asked for; a round writes blocks of S, the loop's record, and what it is handed. -/
def HandsX {α : Type} (P : Program) (gf : Nat) (lb : Array Value) (encs : α → Array Value) (Ok : List α → α → World → Prop) (Sx : List α → Prop) (S : Nat → Prop) (own : α → Nat → Prop) (w : World) : Prop :=
  ∀ (l : Nat) (J : List α → World → Prop) (Jx : World → Prop) (W : World), Ab w W → w.heap.size ≤ l → l < W.heap.size → OwnFrom W.heap.size J → OwnFrom W.heap.size (fun (_ : Unit) => Jx) →
    (∀ pre x A, J pre A → Ok pre x A → YieldAt Fence.wide 1 P l (encs x) A fun e B => Mv (fun k => S k ∨ k = l ∨ own x k) A B ∧ ((e = .returned (.bool true) ∧ J (pre ++ [x]) B) ∨ (e = .returned (.bool false) ∧ Jx B))) →
    J [] W → Calls P gf (#[.func (.yield l) #[] #[]] ++ lb) W fun e B => (∃ v, e = .returned v) ∧ ((∃ xs, Sx xs ∧ J xs B) ∨ Jx B)
theorem range_some {α : Type} {g : Operand} {ps : Array Tmp} {assign body : Code} {Q : Exit → Act → World → Prop} {a : Act} {w : World} {gf : Nat} {lb : Array Value}
    (hg : a.eval g = .func (.func gf) #[] lb) (eg : ∀ args w, (callFunc gf args).run P w = .ok (.enter gf args) w)
    {encs : α → Array Value} (hps : ∀ x, (encs x).size = ps.size) {Ok : List α → α → World → Prop} {Sx : List α → Prop} {S : Nat → Prop} {own : α → Nat → Prop} (hseq : HandsX P gf lb encs Ok Sx S own w) (hS : ∀ k, S k → k < w.heap.size)
    (hown : ∀ pre x W k, Ok pre x W → own x k → ∃ o : Obj, W.heap[k]? = some o ∧ o.isCells = true)
    (I : List α → World → Prop) (Ix : Code → World → Prop) (hI : OwnFrom w.heap.size I) (hIx : ∀ c, OwnFrom w.heap.size (fun (_ : Unit) => Ix c)) (hO : ∀ pre x W W' l o o', Ok pre x W → W.heap[l]? = some o → o.isCells = false → W' = W.putObj l o' → Ok pre x W') (h0 : I [] w) (a₁ : α → Act)
    (hassign : ∀ (l : Nat) (x : α) (W : World) (K : Act → World → Prop), K (a₁ x) W →
      assign.wpIn (Fence.wide.inRound l) 1 P (Exit.then K (fun _ _ _ => False)) { tmps := (ps.zip (encs x)).foldl (fun t (p, v) => t.setIfInBounds p v) a.tmps, defers := [] } W)
    (hbody : ∀ (l : Nat) (pre : List α) (x : α) (W : World), w.heap.size ≤ l → I pre W → Ok pre x W → body.wpIn (Fence.wide.inRound l) 1 P (mayGo (fun k => S k ∨ own x k) I Ix (pre ++ [x]) W) (a₁ x) W)
    (hdone : ∀ (D : Nat) (xs : List α) (W : World), w.heap.size ≤ D → Sx xs → I xs W → W.heap[D]? = some (.deferred (some [])) → Q .normal { a with defers := { target := .collected D, args := #[] } :: a.defers } W)
    (hstop : ∀ (D : Nat) (c : Code) (W : World), w.heap.size ≤ D → Ix c W → W.heap[D]? = some (.deferred (some [])) → c.wpIn Fence.wide 2 P Q { a with defers := { target := .collected D, args := #[] } :: a.defers } W) :
    (Code.rangeFunc g ps assign body).wp P Q a w := by
  refine (wpIn_wide (n := 2)).1 (wpIn_rangeFunc fun fn _ => ?_)
  let rc : LoopState → Option Code → Loop := fun st pe => { state := st, pending := pe, fn := fn, tmps := a.tmps, params := ps, assign := assign, body := body, defers := w.heap.size }
  let w1 := (w.alloc (.deferred (some []))).alloc (.loop (rc .ready none))
  have hs1 : w1.heap.size = w.heap.size + 2 := by simp [w1]
  have hl1 : w1.heap[w.heap.size + 1]? = some (.loop (rc .ready none)) := by
    have := World.alloc_heap_new (w.alloc (.deferred (some []))) (.loop (rc .ready none)); rwa [World.size_alloc] at this
  have hd1 : w1.heap[w.heap.size]? = some (.deferred (some [])) := (Below.heap_alloc _ _ _ (by simp)).trans (World.alloc_heap_new w _)
  have hw1 : Ab w w1 := ((Ab.refl w).alloc _).alloc _
  have hnw : ∀ {A : World} {row : Option Nat}, (∀ r, row = some r → w1.heap.size ≤ r ∧ ∃ o : Obj, A.heap[r]? = some o ∧ o.isCells = false) → (∀ r, row = some r → w.heap.size ≤ r ∧ ∃ o : Obj, A.heap[r]? = some o ∧ o.isCells = false) :=
    fun hr r e => by obtain ⟨hB, o, ho, hw⟩ := hr r e; exact ⟨by omega, o, ho, hw⟩
  have far : ∀ {A B : World} {row : Option Nat} {k : Nat} {o : Obj}, k < w1.heap.size → A.heap[k]? = some o → A.grownBy B row → (∀ r, row = some r → w1.heap.size ≤ r ∧ ∃ o : Obj, A.heap[r]? = some o ∧ o.isCells = false) → B.heap[k]? = some o :=
    fun hk ho hg hr => (hg.block _ (Array.getElem?_eq_some_iff.1 ho).1 (fun e => by have := (hr _ e.symm).1; omega)).trans ho
  have put : ∀ {W : World} {r : Loop} (o : Obj), W.heap[w.heap.size + 1]? = some (.loop r) → Mv (fun k => k = w.heap.size + 1) W (W.putObj (w.heap.size + 1) o) := fun {W r} o h => by
    have hg := grownBy_putObj' W (w.heap.size + 1) o
    exact ⟨hg.os, hg.tape, hg.output, hg.size, fun k hk hn => hg.block k hk (fun e => hn (by injection e))⟩
  refine ⟨w.heap.size + 1, [{ target := .collected w.heap.size, args := #[] }], w1, { target := .fn (.func gf) lb, args := #[.func (.yield (w.heap.size + 1)) #[] #[]] }, w1, gf,
    #[.func (.yield (w.heap.size + 1)) #[] #[]] ++ lb, w1, run_enterLoop_outer _ _ _ _ _, ?_, fun _ _ => trivial, by simp [invoke, go_sem, eg], fun h => by simp [Fence.wide] at h, callsIn_wide.2 ?_⟩
  · simp only [resolve, hg]
    simp [go_sem]
  refine (hseq (w.heap.size + 1) (fun pre W => I pre W ∧ W.heap[w.heap.size + 1]? = some (.loop (rc .ready none)) ∧ W.heap[w.heap.size]? = some (.deferred (some [])))
    (fun W => ∃ c, Ix c W ∧ W.heap[w.heap.size + 1]? = some (.loop (rc .done (some c))) ∧ W.heap[w.heap.size]? = some (.deferred (some []))) w1 hw1 (by omega) (by omega)
    (fun pre A B row hA hg' hr => ⟨hI pre A B row hA.1 hg' (hnw hr), far (by omega) hA.2.1 hg' hr, far (by omega) hA.2.2 hg' hr⟩)
    (fun _ A B row hA hg' hr => by
      obtain ⟨c, h1, h2, h3⟩ := hA
      exact ⟨c, hIx c () A B row h1 hg' (hnw hr), far (by omega) h2 hg' hr, far (by omega) h3 hg' hr⟩)
    ?_ ⟨hI [] w w1 none h0 (ab_grown hw1 none) (fun _ e => by cases e), hl1, hd1⟩).mono ?_
  · rintro pre x A ⟨hi, hl, hd⟩ hok
    have hlt : w.heap.size + 1 < A.heap.size := (Array.getElem?_eq_some_iff.1 hl).1
    refine ⟨fn, _, assign, body, run_yield (P := P) (args := encs x) hl (hps x), roundIn_of_wpIn trivial (hassign _ x A _ ⟨_, run_beginRound hl rfl, ?_⟩)⟩
    have hl2 : (A.putObj (w.heap.size + 1) (.loop (rc .busy none))).heap[w.heap.size + 1]? = some (.loop (rc .busy none)) := World.putObj_heap_same hlt
    have hd2 : (A.putObj (w.heap.size + 1) (.loop (rc .busy none))).heap[w.heap.size]? = some (.deferred (some [])) := (World.putObj_heap_other (by omega)).trans hd
    have hok2 := hO pre x A _ _ _ (.loop (rc .busy none)) hok hl rfl rfl
    have hb2 := put (.loop (rc .busy none)) hl
    have fin : ∀ (jump : Option Code) (W3 : World), Mv (fun k => S k ∨ own x k) (A.putObj (w.heap.size + 1) (.loop (rc .busy none))) W3 →
        (Instr.endRound (w.heap.size + 1) jump).run P W3 = .ok (.bool jump.isNone) (W3.putObj (w.heap.size + 1) (.loop (rc (if jump.isNone then .ready else .done) jump))) ∧
        W3.heap[w.heap.size + 1]? = some (.loop (rc .busy none)) ∧
        (W3.putObj (w.heap.size + 1) (.loop (rc (if jump.isNone then .ready else .done) jump))).heap[w.heap.size + 1]? = some (.loop (rc (if jump.isNone then .ready else .done) jump)) ∧
        (W3.putObj (w.heap.size + 1) (.loop (rc (if jump.isNone then .ready else .done) jump))).heap[w.heap.size]? = some (.deferred (some [])) ∧
        Mv (fun k => S k ∨ k = w.heap.size + 1 ∨ own x k) A (W3.putObj (w.heap.size + 1) (.loop (rc (if jump.isNone then .ready else .done) jump))) := fun jump W3 hk3 => by
      have no : ∀ k o, w.heap.size ≤ k → (A.putObj (w.heap.size + 1) (.loop (rc .busy none))).heap[k]? = some o → o.isCells = false → W3.heap[k]? = some o := fun k o hk ho hc => by
        refine (hk3.block k (Array.getElem?_eq_some_iff.1 ho).1 (fun e => ?_)).trans ho
        rcases e with e | e
        · have := hS k e; omega
        · obtain ⟨o', ho', hc'⟩ := hown pre x _ k hok2 e
          rw [ho] at ho'
          cases ho'
          rw [hc] at hc'
          cases hc'
      have hl3 := no _ _ (by omega) hl2 rfl
      have hd3 := no _ _ (Nat.le_refl _) hd2 rfl
      exact ⟨run_endRound (P := P) jump hl3, hl3, World.putObj_heap_same (Array.getElem?_eq_some_iff.1 hl3).1, (World.putObj_heap_other (by omega)).trans hd3,
        ((hb2.mono (fun _ _ e => .inr (.inl e))).trans (hk3.mono (fun _ _ e => e.imp id .inr))).trans ((put _ hl3).mono (fun _ _ e => .inr (.inl e)))⟩
    refine wpIn_mono (hbody _ pre x _ (by omega) (hI.putObj _ hi (by omega) hl rfl) hok2) ?_
    rintro e a3 B hp
    cases e with
    | normal =>
      obtain ⟨hk3, hi3⟩ := hp
      obtain ⟨hr, hl3, hl4, hd4, hm4⟩ := fin none B hk3
      exact ⟨_, _, hr, hm4, .inl ⟨rfl, hI.putObj _ hi3 (by omega) hl3 rfl, hl4, hd4⟩⟩
    | ret =>
      obtain ⟨hk3, hi3⟩ := hp
      obtain ⟨hr, hl3, hl4, hd4, hm4⟩ := fin (some .ret) B hk3
      exact ⟨_, _, hr, hm4, .inr ⟨rfl, .ret, (hIx _).putObj (s := ()) _ hi3 (by omega) hl3 rfl, hl4, hd4⟩⟩
    | exit id =>
      obtain ⟨hk3, hi3⟩ := hp
      obtain ⟨hr, hl3, hl4, hd4, hm4⟩ := fin (some (.exit id)) B hk3
      exact ⟨_, _, hr, hm4, .inr ⟨rfl, .exit id, (hIx _).putObj (s := ()) _ hi3 (by omega) hl3 rfl, hl4, hd4⟩⟩
    | goto t =>
      obtain ⟨hk3, hi3⟩ := hp
      obtain ⟨hr, hl3, hl4, hd4, hm4⟩ := fin (some (.goto t)) B hk3
      exact ⟨_, _, hr, hm4, .inr ⟨rfl, .goto t, (hIx _).putObj (s := ()) _ hi3 (by omega) hl3 rfl, hl4, hd4⟩⟩
    | panic ch => exact hp.elim
    | outgrown => exact hp.elim
  · rintro e B ⟨⟨v, rfl⟩, ⟨xs, hSx, hi, hl, hd⟩ | ⟨c, hi, hl, hd⟩⟩
    · exact ⟨none, _, run_endLoop hl (by simp [rc]), hdone _ xs _ (Nat.le_refl _) hSx (hI.putObj _ hi (by omega) hl rfl) ((World.putObj_heap_other (by omega)).trans hd)⟩
    · exact ⟨some c, _, run_endLoop hl (by simp [rc]), hstop _ c _ (Nat.le_refl _) ((hIx c).putObj (s := ()) _ hi (by omega) hl rfl) ((World.putObj_heap_other (by omega)).trans hd)⟩
end Go.Proofs.Ytniodjigncicbaa.Dg

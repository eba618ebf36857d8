/- Share: how often each is chosen. -/
import Derived.Test.YtmnfmgdllfhmaaaStH
import Derived.OwnWalk
import Derived.Laws.OwnMore
namespace Go.Proofs.Ytmnfmgdllfhmaaa.Dg
open Go.RowKit
variable {w w' : World} {B g N : Nat} {vi vw : Value} {ids ws : List Int} {f : Nat → Option Nat}
/-- How many of the first m have i chosen. -/
def cn (f : Nat → Option Nat) (i : Nat) : Nat → Nat
  | 0 => 0
  | m + 1 => cn f i m + if f m = some i then 1 else 0
theorem cn_succ (f : Nat → Option Nat) (i m : Nat) : cn f i (m + 1) = cn f i m + if f m = some i then 1 else 0 := rfl
theorem cn_le (f : Nat → Option Nat) (i m : Nat) : cn f i m ≤ m := by
  induction m with
  | zero => exact Nat.le_refl _
  | succ m ih =>
    unfold cn
    split <;> omega
def cntL (f : Nat → Option Nat) (N m : Nat) : List Int := (List.range N).map fun i => (cn f i m : Int)
theorem cntL_len (f : Nat → Option Nat) (N m : Nat) : (cntL f N m).length = N := by simp [cntL]
theorem cntL_get (f : Nat → Option Nat) (N m i : Nat) (h : i < N) : (cntL f N m).getD i 0 = (cn f i m : Int) := by
  unfold cntL
  rw [List.getD_eq_getElem?_getD, List.getElem?_map, List.getElem?_range h]
  rfl
/-- The row of counts behind m rounds. -/
def Sh (w : World) (g N : Nat) (f : Nat → Option Nat) (m : Nat) : Prop := ∃ cur, Bk w g 3 cur ∧ cur.size = N ∧ ∀ i, i < N → cur[i]? = some (.int .i64 (cn f i m : Int))
theorem grown_ab0 (h : w.grownBy w' none) : Ab w w' := ⟨h.1, h.2, h.3, h.4, fun k hk => h.5 k hk (by simp)⟩
theorem Sh.start {W : World} (f : Nat → Option Nat) (h : w.ownsRow W.heap.size 3 1 (.slice (some ⟨W.heap.size, 0, none⟩) N N) N (madeCells #[.int .i64 0] N).toList) : Sh w W.heap.size N f 0 := by
  rcases h.2 with ⟨hv, -⟩ | ⟨g, cap, cur, hv, -, hg, -, -, hs, ht⟩
  · cases hv
  · injection hv with h1 _ h3
    injection h1 with h1
    injection h1 with h1
    subst h1
    subst h3
    refine ⟨cur, hg, by omega, fun i hi => ?_⟩
    have e : cur.toList = List.replicate N (Value.int .i64 0) := by
      rw [← toList_madeCells_one, ← ht]
      rw [List.take_of_length_le (by rw [Array.length_toList]; omega)]
    rw [← Array.getElem?_toList, e, List.getElem?_replicate, if_pos hi]
    rfl
theorem Sh.ab {m : Nat} (h : Sh w g N f m) (hb : Ab w w') : Sh w' g N f m := by
  obtain ⟨cur, h1, h2⟩ := h
  exact ⟨cur, hb.bk h1, h2⟩
theorem Sh.miss {m : Nat} (h : Sh w g N f m) (hf : f m = none) : Sh w g N f (m + 1) := by
  obtain ⟨cur, h1, h2, h3⟩ := h
  refine ⟨cur, h1, h2, fun i hi => ?_⟩
  rw [h3 i hi, cn_succ, hf, if_neg (by simp)]
  rfl
theorem Sh.at_ {m b : Nat} (h : Sh w g N f m) (hb : b < N) : w.cell? ⟨g, b, none⟩ = some (.int .i64 (cn f b m : Int)) ∧ w.frozen? ⟨g, b, none⟩ = false := by
  obtain ⟨cur, h1, h2, h3⟩ := h
  exact ⟨h1.cell (h3 b hb), h1.free b⟩
theorem Sh.hit {m b : Nat} (h : Sh w g N f m) (hf : f m = some b) (hb : b < N) : Sh (w.setCell ⟨g, b, none⟩ (.int .i64 ((cn f b m : Int) + 1))) g N f (m + 1) := by
  obtain ⟨cur, h1, h2, h3⟩ := h
  refine ⟨_, h1.store b _, by simp [h2], fun i hi => ?_⟩
  rw [cn_succ]
  by_cases e : b = i
  · subst e
    rw [if_pos hf]
    exact set_eq (by omega)
  · rw [if_neg (by rw [hf]; intro h; injection h with h; exact e h)]
    exact set_ne e (h3 i hi)
theorem Sh.lt {m : Nat} (h : Sh w g N f m) : g < w.heap.size := by
  obtain ⟨cur, h1, h2, h3⟩ := h
  exact h1.lt
/-- .. read as a list. -/
theorem Sh.ns {m : Nat} (h : Sh w g N f m) (hN : N ≤ 9223372036854775807) (hm : m ≤ 10000) : Ns w w.heap.size (.slice (some ⟨g, 0, none⟩) N N) (cntL f N m) := by
  refine ⟨_, N, by rw [cntL_len], by rw [cntL_len]; exact Nat.le_refl _, hN, ?_, fun _ => ⟨g, 0, rfl, h.lt, fun k hk => ?_⟩⟩
  · intro x hx
    unfold cntL at hx
    obtain ⟨i, -, rfl⟩ := List.mem_map.1 hx
    have := cn_le f i m
    omega
  · rw [cntL_len] at hk
    rw [Nat.zero_add, cntL_get f N m k hk]
    exact (h.at_ hk).1
/-- What the two of x are. -/
def chF (ids ws : List Int) (x : Nat) : Option Nat := chooseL ids ws (modU (x : Int)) 0
theorem chF_lt {x b : Nat} (h : chF ids ws x = some b) : b < ids.length := (chz_lt h).1
theorem infoInt : (Try.prog.info? 3).map (fun i => (i.zero, i.size, i.bytes)) = some (some (.int .i64 0), 1, 8) := by kernel_rfl
def ShPost (w : World) (l : List Int) (e : Ending) (w' : World) : Prop := ∃ A c, e = .returned (.slice A l.length c) ∧ Ns w' w'.heap.size (.slice A l.length c) l ∧ Ab w w'
end Go.Proofs.Ytmnfmgdllfhmaaa.Dg

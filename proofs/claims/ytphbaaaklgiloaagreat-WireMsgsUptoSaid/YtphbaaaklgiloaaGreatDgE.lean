/- The engine in memory: New, ready, one call more. -/
import Derived.Test.YtphbaaaklgiloaaGreatDgAb
import Derived.Laws.LoneSync
import Derived.Laws.Pointers
import Derived.Defers
import Derived.RegionCalls
import Derived.RegionTactic
import Derived.Lib.Hide
import Derived.StillTailTactics
namespace Go.Proofs.YtphbaaaklgiloaaGreat.Dg
open Go.RowKit

/-- Block g is an engine that New made: done, the lock's word, the table, the count. -/
def Eng (w : World) (g : Nat) (d m : Int) (tab : Nat → UInt32) (n : Int) : Prop :=
  ∃ cs, Bk w g 295 cs ∧ cs.size = 261 ∧ cs[0]? = some (.bool true) ∧ cs[1]? = some (.int .u32 d) ∧ cs[2]? = some (.int .i32 m) ∧
    (∀ i, i < 256 → cs[4 + i]? = some (.int .u32 (n32 (tab i)))) ∧ cs[260]? = some (.int .i64 n)
variable {w w' : World} {g : Nat} {d m n : Int} {tab : Nat → UInt32}
theorem Eng.lt (h : Eng w g d m tab n) : g < w.heap.size := by obtain ⟨cs, hb, _⟩ := h; exact hb.lt
theorem Eng.made (h : Eng w g d m tab n) : w.cell? ⟨g, 0, none⟩ = some (.bool true) := by obtain ⟨cs, hb, h0, h1, h2, h3, h4, h5⟩ := h; exact hb.cell h1
theorem Eng.done (h : Eng w g d m tab n) : w.cell? ⟨g, 1, none⟩ = some (.int .u32 d) := by obtain ⟨cs, hb, h0, h1, h2, h3, h4, h5⟩ := h; exact hb.cell h2
theorem Eng.lock (h : Eng w g d m tab n) : w.cell? ⟨g, 2, none⟩ = some (.int .i32 m) := by obtain ⟨cs, hb, h0, h1, h2, h3, h4, h5⟩ := h; exact hb.cell h3
theorem Eng.at_ (h : Eng w g d m tab n) (i : Nat) (hi : i < 256) : w.cell? ⟨g, 4 + i, none⟩ = some (.int .u32 (n32 (tab i))) := by obtain ⟨cs, hb, h0, h1, h2, h3, h4, h5⟩ := h; exact hb.cell (h4 i hi)
theorem Eng.count (h : Eng w g d m tab n) : w.cell? ⟨g, 260, none⟩ = some (.int .i64 n) := by obtain ⟨cs, hb, h0, h1, h2, h3, h4, h5⟩ := h; exact hb.cell h5
theorem Eng.free (h : Eng w g d m tab n) (i : Nat) : w.frozen? ⟨g, i, none⟩ = false := by obtain ⟨cs, hb, _⟩ := h; exact hb.free i
theorem Eng.keep (h : Eng w g d m tab n) (hw : w'.heap[g]? = w.heap[g]?) : Eng w' g d m tab n := by obtain ⟨cs, hb, hr⟩ := h; exact ⟨cs, hw.trans hb, hr⟩
theorem Eng.drew (h : Eng w g d m tab n) : Eng w.drew g d m tab n := h
theorem Eng.drewN (h : Eng w g d m tab n) (k : Nat) : Eng (w.drewN k) g d m tab n := h
theorem Eng.alloc (h : Eng w g d m tab n) (o : Obj) : Eng (w.alloc o) g d m tab n := h.keep (Below.heap_alloc w o g h.lt)
theorem Eng.ab (h : Eng w g d m tab n) (hb : Ab w w') : Eng w' g d m tab n := h.keep (Below.block hb g h.lt)
theorem Eng.far (h : Eng w g d m tab n) {p : Addr} (hp : g ≠ p.block) (u : Value) : Eng (w.setCell p u) g d m tab n := h.keep (Below.heap_setCell w p u g hp)
theorem set_ne {cs : Array Value} {i j : Nat} {u v : Value} (hij : i ≠ j) (h : cs[j]? = some v) : (cs.setIfInBounds i u)[j]? = some v := by
  rw [Array.getElem?_setIfInBounds_ne hij]; exact h
theorem set_eq {cs : Array Value} {i : Nat} {u : Value} (h : i < cs.size) : (cs.setIfInBounds i u)[i]? = some u := by
  rw [Array.getElem?_setIfInBounds_self_of_lt h]
theorem Eng.setDone (h : Eng w g d m tab n) (e : Int) : Eng (w.setCell ⟨g, 1, none⟩ (.int .u32 e)) g e m tab n := by
  obtain ⟨cs, hb, h0, h1, h2, h3, h4, h5⟩ := h
  exact ⟨_, hb.store 1 _, by simp [h0], set_ne (by omega) h1, set_eq (by omega), set_ne (by omega) h3, fun i hi => set_ne (by omega) (h4 i hi), set_ne (by omega) h5⟩
theorem Eng.setLock (h : Eng w g d m tab n) (e : Int) : Eng (w.setCell ⟨g, 2, none⟩ (.int .i32 e)) g d e tab n := by
  obtain ⟨cs, hb, h0, h1, h2, h3, h4, h5⟩ := h
  exact ⟨_, hb.store 2 _, by simp [h0], set_ne (by omega) h1, set_ne (by omega) h2, set_eq (by omega), fun i hi => set_ne (by omega) (h4 i hi), set_ne (by omega) h5⟩
theorem Eng.setCount (h : Eng w g d m tab n) (e : Int) : Eng (w.setCell ⟨g, 260, none⟩ (.int .i64 e)) g d m tab e := by
  obtain ⟨cs, hb, h0, h1, h2, h3, h4, h5⟩ := h
  exact ⟨_, hb.store 260 _, by simp [h0], set_ne (by omega) h1, set_ne (by omega) h2, set_ne (by omega) h3, fun i hi => set_ne (by omega) (h4 i hi), set_eq (by omega)⟩
theorem Eng.setTab (h : Eng w g d m tab n) (k : Nat) (hk : k < 256) (x : UInt32) : Eng (w.setCell ⟨g, 4 + k, none⟩ (.int .u32 (n32 x))) g d m (fun i => if i = k then x else tab i) n := by
  obtain ⟨cs, hb, h0, h1, h2, h3, h4, h5⟩ := h
  refine ⟨_, hb.store (4 + k) _, by simp [h0], set_ne (by omega) h1, set_ne (by omega) h2, set_ne (by omega) h3, fun i hi => ?_, set_ne (by omega) h5⟩
  by_cases hik : i = k
  · subst hik; show _ = some (Value.int .u32 (n32 (if i = i then x else tab i))); rw [if_pos rfl]; exact set_eq (by omega)
  · show _ = some (Value.int .u32 (n32 (if i = k then x else tab i))); rw [if_neg hik]; exact set_ne (by omega) (h4 i hi)
theorem Eng.tabs (h : Eng w g d m tab n) {tab' : Nat → UInt32} (e : ∀ i, i < 256 → tab i = tab' i) : Eng w g d m tab' n := by
  obtain ⟨cs, hb, h0, h1, h2, h3, h4, h5⟩ := h
  exact ⟨cs, hb, h0, h1, h2, h3, fun i hi => by rw [h4 i hi, e i hi], h5⟩

/-- Only block g has turned, and new ones have come. -/
def Gw (g : Nat) (w w' : World) : Prop := w.grownBy w' (some g)
theorem Gw.refl (g : Nat) (w : World) : Gw g w w := ⟨rfl, rfl, rfl, Nat.le_refl _, fun _ _ _ => rfl⟩
theorem Gw.trans {a b c : World} (h : Gw g a b) (k : Gw g b c) : Gw g a c := World.grownBy.trans h k
theorem Gw.size (h : Gw g w w') : w.heap.size ≤ w'.heap.size := h.4
theorem Gw.set (h : Gw g w w') (i : Nat) (u : Value) : Gw g w (w'.setCell ⟨g, i, none⟩ u) :=
  ⟨h.1, h.2, h.3, by simpa using h.4, fun k hk hne => (Below.heap_setCell w' ⟨g, i, none⟩ u k (fun e => hne (by rw [e]))).trans (h.5 k hk hne)⟩
theorem Gw.drew (h : Gw g w w') : Gw g w w'.drew := ⟨h.1, h.2, h.3, h.4, h.5⟩
theorem Gw.alloc (h : Gw g w w') (o : Obj) : Gw g w (w'.alloc o) := ⟨h.1, h.2, h.3, by have := h.4; simp; omega, fun k hk hne => (Below.heap_alloc w' o k (by have := h.4; omega)).trans (h.5 k hk hne)⟩
theorem Gw.of_ab (h : Ab w w') (g : Nat) : Gw g w w' := ⟨h.1, h.2, h.3, Below.size h, fun k hk _ => Below.block h k hk⟩
theorem Gw.bk (h : Gw g w w') {b : Nat} {t : TypeId} {cs : Array Value} (hb : Bk w b t cs) (hne : b ≠ g) : Bk w' b t cs := (h.5 b hb.lt (by simpa using hne)).trans hb
theorem Gw.eng (h : Gw g w w') {b : Nat} {d m n : Int} {tab : Nat → UInt32} (hb : Eng w b d m tab n) (hne : b ≠ g) : Eng w' b d m tab n := hb.keep (h.5 b hb.lt (by simpa using hne))
theorem Gw.ab {W : World} (h : Gw g w w') (hW : Ab W w) (hg : W.heap.size ≤ g) : Ab W w' :=
  ⟨h.1.trans hW.1, h.2.trans hW.2, h.3.trans hW.3, Nat.le_trans (Below.size hW) h.4, fun k hk => (h.5 k (Nat.lt_of_lt_of_le hk (Below.size hW)) (by simp; omega)).trans (Below.block hW k hk)⟩
theorem Gw.cells (h : Gw g w w') : ∀ b o, b < w.heap.size → b ≠ g → w'.cell? ⟨b, o, none⟩ = w.cell? ⟨b, o, none⟩ := fun b o hb hne => World.cell?_of_block (a := ⟨b, o, none⟩) (h.5 b hb (by simpa using hne))

--ZC
def noTab : Nat → UInt32 := fun _ => 0
theorem zero60 : (List.range 256).all (fun i => match Tryz.zeroCells295[4+i]? with | some (.int .u32 0) => true | _ => false) = true := by kernel_rfl
set_option maxRecDepth 100000 in
set_option maxHeartbeats 400000 in
/-- New: a new block, an engine that nobody has asked. -/
theorem new_any (w : World) :
    Calls Tryz.prog 94 #[] w fun e w' => e = .returned (.pointer (some ⟨w.heap.size, 0, none⟩)) ∧ Eng w' w.heap.size 0 0 noTab 0 ∧ Ab w w' := by
  go_enter Tryz.func94, Tryz.ntmps94
  go_wp2
  go_ret
  refine ⟨rfl, ⟨_, Bk.made _ _ _, ?_, ?_, ?_, ?_, ?_, ?_⟩, (Ab.refl _).alloc _⟩
  · rw [Array.size_setIfInBounds]; kernel_rfl
  · exact set_eq (show 0 < Tryz.zeroCells295.size from of_decide_eq_true (by kernel_rfl))
  · exact set_ne (by omega) (by kernel_rfl)
  · exact set_ne (by omega) (by kernel_rfl)
  · intro i hi
    refine set_ne (by omega) ?_
    have h := List.all_eq_true.1 zero60 i (List.mem_range.2 hi)
    revert h
    generalize Tryz.zeroCells295[4+i]? = o
    intro h
    split at h
    · rfl
    · cases h
  · exact set_ne (by omega) (by kernel_rfl)
set_option maxHeartbeats 400000 in
theorem eng_ready_any (g : Nat) (w : World) (h : Eng w g d m tab n) : Calls Tryz.prog 148 #[.pointer (some ⟨g, 0, none⟩)] w fun e w' => e = .returned (.bool true) ∧ w = w' := by
  have hc := h.made
  clear h
  go_enter Tryz.func148, Tryz.ntmps148
  go_wp2
  go_ret
  exact ⟨rfl, rfl⟩
set_option maxHeartbeats 400000 in
theorem eng_ready_nil (w : World) : Calls Tryz.prog 148 #[.pointer none] w fun e w' => e = .returned (.bool false) ∧ w = w' := by
  go_enter Tryz.func148, Tryz.ntmps148
  go_wp2
  go_ret
  exact ⟨rfl, rfl⟩
set_option maxHeartbeats 400000 in
/-- The count grows by one. -/
theorem add_eng (g : Nat) (w : World) (h : Eng w g d m tab n) (hn : 0 ≤ n ∧ n < 1000000) :
    Calls Tryz.prog 149 #[.pointer (some ⟨g, 260, none⟩), .int .i64 1] w fun e w' => e = .returned (.int .i64 (n + 1)) ∧ w.setCell ⟨g, 260, none⟩ (.int .i64 (n + 1)) = w' := by
  have hadd := run_call_add (P := Tryz.prog) Tryz.func155 (by kernel_rfl) (by kernel_rfl) (by kernel_rfl) .i64 (by kernel_rfl) (y := 1) (s := n + 1) h.count (h.free 260) (by
    have e : IntKind.i64.wrap (n + 1) = n + 1 := IntWalk.i64_in _ (by omega)
    show (Op.intArith .add .i64 n 1).run Tryz.prog w = _
    simp only [Op.intArith, e]; rfl)
  go_enter Tryz.func149, Tryz.ntmps149
  go_wp2
  go_ret
  exact ⟨rfl, rfl⟩
end Go.Proofs.YtphbaaaklgiloaaGreat.Dg

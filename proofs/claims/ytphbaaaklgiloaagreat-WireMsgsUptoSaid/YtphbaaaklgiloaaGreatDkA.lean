/- Bytes of the call's own that lie anywhere in a row: append onto them, a window of them, a byte of them turned. -/
import Derived.Test.YtphbaaaklgiloaaGreatDgAq
import Derived.Test.YtphbaaaklgiloaaGreatDgWi
namespace Go.Proofs.YtphbaaaklgiloaaGreat.Dg
open Go.RowKit
variable {w w' : World} {base : Nat} {v : Value} {l xs : List UInt8}

/-- No block is another one, but those of S; and new ones. -/
structure Mv (S : Nat → Prop) (w w' : World) : Prop where
  os : w'.os = w.os
  tape : w'.tape = w.tape
  output : w'.output = w.output
  size : w.heap.size ≤ w'.heap.size
  block : ∀ k, k < w.heap.size → ¬ S k → w'.heap[k]? = w.heap[k]?
theorem Mv.refl (S : Nat → Prop) (w : World) : Mv S w w := ⟨rfl, rfl, rfl, Nat.le_refl _, fun _ _ _ => rfl⟩
theorem Mv.trans {S : Nat → Prop} {a b c : World} (h : Mv S a b) (k : Mv S b c) : Mv S a c :=
  ⟨k.os.trans h.os, k.tape.trans h.tape, k.output.trans h.output, Nat.le_trans h.size k.size, fun i hi hs => (k.block i (Nat.lt_of_lt_of_le hi h.size) hs).trans (h.block i hi hs)⟩
theorem Mv.mono {S T : Nat → Prop} (h : Mv S w w') (hs : ∀ k, k < w.heap.size → S k → T k) : Mv T w w' :=
  ⟨h.os, h.tape, h.output, h.size, fun k hk hn => h.block k hk fun e => hn (hs k hk e)⟩
theorem Mv.of_ab {S : Nat → Prop} (h : Ab w w') : Mv S w w' := ⟨h.1, h.2, h.3, Below.size h, fun k hk _ => Below.block h k hk⟩
theorem Mv.ab {S : Nat → Prop} {W : World} (h : Mv S w w') (hW : Ab W w) (hs : ∀ k, S k → W.heap.size ≤ k) : Ab W w' :=
  ⟨h.os.trans hW.1, h.tape.trans hW.2, h.output.trans hW.3, Nat.le_trans (Below.size hW) h.size, fun k hk => (h.block k (Nat.lt_of_lt_of_le hk (Below.size hW)) (fun e => by have := hs k e; omega)).trans (Below.block hW k hk)⟩
theorem Mv.alloc {S : Nat → Prop} (h : Mv S w w') (o : Obj) : Mv S w (w'.alloc o) := h.trans (Mv.of_ab ((Ab.refl _).alloc o))
theorem Mv.drew {S : Nat → Prop} (h : Mv S w w') : Mv S w w'.drew := ⟨h.os, h.tape, h.output, h.size, h.block⟩
theorem Mv.set {S : Nat → Prop} (h : Mv S w w') {p : Addr} (hp : S p.block) (u : Value) : Mv S w (w'.setCell p u) :=
  h.trans ⟨rfl, rfl, rfl, by simp, fun k _ hn => Below.heap_setCell w' p u k (fun e => hn (e ▸ hp))⟩
theorem Mv.grown {S : Nat → Prop} {row : Option Nat} (h : Mv S w w') {w2 : World} (hg : w'.grownBy w2 row) (hr : ∀ k, row = some k → S k ∨ w.heap.size ≤ k) : Mv S w w2 :=
  ⟨hg.os.trans h.os, hg.tape.trans h.tape, hg.output.trans h.output, Nat.le_trans h.size hg.size, fun k hk hn => (hg.block k (Nat.lt_of_lt_of_le hk h.size) (fun e => by rcases hr k e.symm with h1 | h1; exact hn h1; omega)).trans (h.block k hk hn)⟩
theorem Mv.bk {S : Nat → Prop} (h : Mv S w w') {g : Nat} {t : TypeId} {cs : Array Value} (hb : Bk w g t cs) (hn : ¬ S g) : Bk w' g t cs := (h.block g hb.lt hn).trans hb
theorem Mv.ob {S : Nat → Prop} (h : Mv S w w') (ho : Ob w base v l) (hn : ∀ k, v.ownBlock = some k → ¬ S k) : Ob w' base v l := by
  refine ⟨ho.1, ?_⟩
  rcases ho.2 with hn' | ⟨g, cap, cur, rfl, hbg, hgg, rest⟩
  · exact .inl hn'
  · exact .inr ⟨g, cap, cur, rfl, hbg, (h.block g (Array.getElem?_eq_some_iff.1 hgg).1 (hn g rfl)).trans hgg, rest⟩

/-- Bytes of the call's own, somewhere in a row. -/
def Ow (w : World) (base : Nat) (v : Value) (l : List UInt8) : Prop :=
  (v = .slice none 0 0 ∧ l = []) ∨ ∃ g cap pre post, v = .slice (some ⟨g, List.length pre, none⟩) l.length cap ∧ base ≤ g ∧
    w.heap[g]? = some (.cells (pre ++ l.map u8v ++ post).toArray 5 (0, 0)) ∧ l.length ≤ cap ∧ cap ≤ l.length + post.length ∧ cap ≤ maxLen
theorem Ow.nil (w : World) (base : Nat) : Ow w base (.slice none 0 0) [] := .inl ⟨rfl, rfl⟩
theorem Ow.of (h : Ob w base v l) : Ow w base v l := by
  rcases h.2 with ⟨rfl, h0⟩ | ⟨g, cap, cur, rfl, hb, hg, hn, hm, hs, ht⟩
  · exact .inl ⟨rfl, List.eq_nil_of_length_eq_zero h0⟩
  · have ht2 : cur.toList.take l.length = l.map u8v := by rw [← ht]; simp
    refine .inr ⟨g, cap, [], cur.toList.drop l.length, by simp, hb, ?_, hn, ?_, hm⟩
    · rw [hg]
      congr 2
      rw [List.nil_append, ← ht2, List.take_append_drop, Array.toArray_toList]
    · have e : cur.toList.length = cur.size := Array.length_toList
      rw [List.length_drop]
      omega
theorem Ow.len_cap (h : Ow w base v l) : ∃ A c, v = .slice A l.length c ∧ l.length ≤ c ∧ c ≤ maxLen := by
  rcases h with ⟨rfl, rfl⟩ | ⟨g, cap, pre, post, rfl, -, -, h1, -, h2⟩
  · exact ⟨none, 0, rfl, by simp, by simp [maxLen]⟩
  · exact ⟨_, _, rfl, h1, h2⟩
theorem Ow.blk (h : Ow w base v l) : ∀ k, v.ownBlock = some k → base ≤ k ∧ k < w.heap.size := by
  intro k hk
  rcases h with ⟨rfl, rfl⟩ | ⟨g, cap, pre, post, rfl, hb, hg, -⟩
  · simp [Value.ownBlock] at hk
  · have : g = k := by simpa [Value.ownBlock] using hk
    subst this
    exact ⟨hb, (Array.getElem?_eq_some_iff.1 hg).1⟩
theorem Ow.mv {S : Nat → Prop} (ho : Ow w base v l) (h : Mv S w w') (hn : ∀ k, v.ownBlock = some k → ¬ S k) : Ow w' base v l := by
  rcases ho with hn' | ⟨g, cap, pre, post, rfl, hb, hg, rest⟩
  · exact .inl hn'
  · exact .inr ⟨g, cap, pre, post, rfl, hb, (h.block g (Array.getElem?_eq_some_iff.1 hg).1 (hn g rfl)).trans hg, rest⟩
theorem Ow.ab (h : Ow w base v l) (hb : Ab w w') : Ow w' base v l := h.mv (S := fun _ => False) (Mv.of_ab hb) (fun _ _ h => h)
theorem Ow.form (h : Ow w base v l) (hl : l ≠ []) : ∃ g off cap, v = .slice (some ⟨g, off, none⟩) l.length cap ∧ base ≤ g ∧ g < w.heap.size ∧ l.length ≤ cap ∧ cap ≤ maxLen ∧
    (∀ i, w.frozen? ⟨g, i, none⟩ = false) ∧ ∀ k, k < l.length → w.cell? ⟨g, off + k, none⟩ = some (.int .u8 (n8 (l.getD k 0))) := by
  rcases h with ⟨rfl, h0⟩ | ⟨g, cap, pre, post, rfl, hb, hg, hn, hs, hm⟩
  · exact absurd h0 hl
  · refine ⟨g, pre.length, cap, rfl, hb, (Array.getElem?_eq_some_iff.1 hg).1, hn, hm, fun i => by simp [World.frozen?, hg], fun k hk => ?_⟩
    rw [cell_of_row w g _ _ _ _ hg, List.getElem?_toArray, List.append_assoc, List.getElem?_append_right (by omega), Nat.add_sub_cancel_left,
      List.getElem?_append_left (by simpa using hk), List.getElem?_map, List.getElem?_eq_getElem hk, List.getD_eq_getElem?_getD, List.getElem?_eq_getElem hk]
    rfl
theorem Ow.bs (h : Ow w base v l) : Bs w w.heap.size v l := by
  obtain ⟨A, c, hv, h1, h2⟩ := h.len_cap
  refine ⟨A, c, hv, h1, by unfold maxLen at h2; exact h2, fun hn => ?_⟩
  obtain ⟨g, off, cap, hv2, _, hlt, _, _, _, hc⟩ := h.form hn
  rw [hv] at hv2
  injection hv2 with ha _ _
  subst ha
  exact ⟨g, off, rfl, hlt, hc⟩
theorem Ow.set {g off n c : Nat} (h : Ow w base (.slice (some ⟨g, off, none⟩) n c) l) (k : Nat) (hk : k < l.length) (x : UInt8) :
    Ow (w.setCell ⟨g, off + k, none⟩ (.int .u8 (n8 x))) base (.slice (some ⟨g, off, none⟩) n c) (l.set k x) := by
  rcases h with ⟨hv, _⟩ | ⟨g', cap, pre, post, hv, hb, hg, hn, hs, hm⟩
  · cases hv
  · injection hv with ha hn' hc'
    injection ha with ha
    injection ha with ha hoff
    subst ha; subst hn'; subst hc'; subst hoff
    refine .inr ⟨g, c, pre, post, by rw [List.length_set], hb, ?_, by rw [List.length_set]; exact hn, by rw [List.length_set]; exact hs, hm⟩
    have e : (pre ++ (l.set k x).map u8v ++ post).toArray = (pre ++ l.map u8v ++ post).toArray.setIfInBounds (pre.length + k) (.int .u8 (n8 x)) := by
      apply Array.ext'
      rw [Array.toList_setIfInBounds, List.append_assoc, List.append_assoc, List.set_append_right _ _ (by omega), Nat.add_sub_cancel_left, List.set_append_left _ _ (by simpa using hk), map_set_u8]
      rfl
    rw [e]
    simp [World.setCell, Array.getElem?_modify, hg]
/-- A window of three indexes. -/
theorem run_slice_three (A : Option Addr) (n c lo hi : Nat) (h1 : lo ≤ hi) (h2 : hi ≤ c) (w : World) :
    (Instr.slice 41 (.slice A n c) (some (.int .i64 (lo : Int))) (some (.int .i64 (hi : Int))) (some (.int .i64 (hi : Int)))).run Tryz.prog w = .ok (.slice (winA A hi lo) (hi - lo) (hi - lo)) w := by
  have g1 : (0 : Int) ≤ (lo : Int) := by omega
  have g2 : (0 : Int) ≤ (hi : Int) := by omega
  have g3 : (lo : Int) ≤ (hi : Int) := by omega
  have g4 : (hi : Int) ≤ (c : Int) := by omega
  simp only [Instr.slice, Instr.sliceBounds, Instr.sliceBound, asIntOf, run_underlying Tryz.underlying41, Sem.run_bind, Sem.run_pure, Result.andThen_ok, g1, g2, g4, and_self, if_true, Option.isSome_some, Int.toNat_natCast, g3, Int.le_refl]
  have hs : (sizeOf 5).run Tryz.prog w = .ok 1 w := by kernel_rfl
  rw [hs]
  simp [winA]
theorem Ow.win {A : Option Addr} {c : Nat} (h : Ow w base (.slice A l.length c) l) (lo hi : Nat) (h1 : lo ≤ hi) (h2 : hi ≤ l.length) :
    Ow w base (.slice (winA A hi lo) (hi - lo) (hi - lo)) ((l.drop lo).take (hi - lo)) := by
  have hl : ((l.drop lo).take (hi - lo)).length = hi - lo := by rw [List.length_take, List.length_drop]; omega
  rcases h with ⟨hv, h0⟩ | ⟨g, cap, pre, post, hv, hb, hg, hn, hs, hm⟩
  · injection hv with ha hn' hc'
    subst h0; subst ha
    have : hi = 0 := by simpa using h2
    subst this
    have : lo = 0 := by omega
    subst this
    exact .inl ⟨by simp [winA], by simp⟩
  · injection hv with ha hn' hc'
    subst ha
    by_cases he : hi = lo
    · subst he
      refine .inr ⟨g, 0, pre, l.map u8v ++ post, ?_, hb, ?_, ?_, ?_, ?_⟩
      · simp [winA]
      · rw [hg]; simp
      · simp
      · simp
      · simp [maxLen]
    · refine .inr ⟨g, hi - lo, pre ++ (l.take lo).map u8v, (l.drop hi).map u8v ++ post, ?_, hb, ?_, by omega, by omega, by omega⟩
      · rw [hl]
        unfold winA
        rw [if_neg he, Option.map_some, List.length_append, List.length_map, List.length_take, Nat.min_eq_left (by omega), Addr.add_lit]
      · rw [hg]
        congr 2
        have e : l = l.take lo ++ ((l.drop lo).take (hi - lo) ++ l.drop hi) := by
          conv => lhs; rw [← List.take_append_drop lo l, ← List.take_append_drop (hi - lo) (l.drop lo), List.drop_drop, show lo + (hi - lo) = hi by omega]
        conv => lhs; rw [e]
        simp
/-- append of bytes onto them. -/
theorem app_ow {tx ty : TypeId} (h : Ow w base v l) {x : Value} (hs : Src Tryz.prog 1 tx x xs.length (xs.map u8v) w) (hlen : l.length + xs.length ≤ 200000000000000) (hbase : base ≤ w.heap.size) :
    ∃ v' w', (Builtin.append_ #[41, tx] ty #[v, x]).run Tryz.prog w = .ok v' w' ∧ Ow w' base v' (l ++ xs) ∧ w.grownBy w' v.ownBlock ∧ (v'.ownBlock = v.ownBlock ∨ v'.ownBlock = some w.heap.size) := by
  obtain ⟨i0, hi, hz0, hz1, hz2⟩ := info_parts info8
  have ht : Tryz.prog.underlying 41 = some (.slice 5) := Tryz.underlying41
  rcases h with ⟨rfl, rfl⟩ | ⟨g, cap, pre, post, rfl, hb, hg, hn, hc, hm⟩
  · obtain ⟨v', w', hr, ho, hg, hb⟩ := app_bytes (ty := ty) (Ob.nil w base) hs hlen hbase
    exact ⟨v', w', hr, Ow.of ho, hg, hb⟩
  · by_cases hroom : l.length + xs.length ≤ cap
    · have hst := run_storeCells_at Tryz.prog g (pre.length + l.length) 5 (xs.map u8v) 0 _ w hg (by simp; omega) hs.one
      simp only [Nat.add_zero] at hst
      have hr : (Builtin.append_ #[41, tx] ty #[.slice (some ⟨g, pre.length, none⟩) l.length cap, x]).run Tryz.prog w = .ok (.slice (some ⟨g, pre.length, none⟩) (l.length + xs.length) cap) (w.setRow g ((pre ++ l.map u8v ++ post).toArray.toList.take (pre.length + l.length) ++ xs.map u8v ++ (pre ++ l.map u8v ++ post).toArray.toList.drop (pre.length + l.length + (xs.map u8v).length)).toArray) := by
        have hcl := hs.cells
        rcases hs.kind with ⟨e', hk⟩ | hk <;> simp [Builtin.append_, run_underlying ht, run_underlying hk, sizeOf, typeInfo, hi, hz1, hs.len, hroom, hcl, Addr.add_lit] at hst ⊢ <;> rw [hst] <;> rfl
      refine ⟨_, _, hr, .inr ⟨g, cap, pre, post.drop xs.length, by rw [List.length_append], hb, ?_, by rw [List.length_append]; exact hroom, by rw [List.length_append, List.length_drop]; omega, hm⟩,
        ⟨rfl, rfl, rfl, by simp, fun k _ hk => setRow_other w g k _ (fun e => hk (by simp [Value.ownBlock, e]))⟩, Or.inl rfl⟩
      rw [setRow_heap w g _ _ _ _ hg]
      have e1 : (pre ++ l.map u8v ++ post).take (pre.length + l.length) = pre ++ l.map u8v := by
        rw [List.take_left' (by simp)]
      have e2 : (pre ++ l.map u8v ++ post).drop (pre.length + l.length + (xs.map u8v).length) = post.drop xs.length := by
        rw [← List.drop_drop, List.drop_left' (by simp), List.length_map]
      rw [List.toList_toArray, e1, e2, List.map_append]
      simp only [List.append_assoc]
    · have holds : ∀ j u, (l.map u8v)[j]? = some u → w.cell? ((⟨g, pre.length, none⟩ : Addr).add j) = some u := by
        intro j u hu
        rw [Addr.add_lit, cell_of_row w g _ _ _ _ hg, List.getElem?_toArray, List.append_assoc, List.getElem?_append_right (by omega), Nat.add_sub_cancel_left,
          List.getElem?_append_left ((List.getElem?_eq_some_iff.1 hu).1), hu]
      have h63 : l.length + xs.length ≤ maxLen := by unfold maxLen; omega
      have hr := run_append_grow_src (P := Tryz.prog) w 41 tx ty 5 i0 (.int .u8 0) ht hi hz0 (some ⟨g, pre.length, none⟩) l.length cap (l.map u8v)
        (by rw [hz1]; exact run_firstCells_some w.drew 1 l.length ⟨g, pre.length, none⟩ l.length cap (l.map u8v) (by simp) (by simpa using holds)) x xs.length (xs.map u8v) (by rw [hz1]; exact hs) (by omega) (by unfold maxLen at h63; omega) (growslice_fits_wide (by omega) (by rw [hz2]; omega))
      have hge := grownCap_ge w (l.length + xs.length) cap 5
      have hcm : grownCap w (l.length + xs.length) cap 5 ≤ maxLen := grownCap_le_maxLen w (l.length + xs.length) cap 5 h63
      refine ⟨_, _, hr, .inr ⟨w.heap.size, grownCap w (l.length + xs.length) cap 5, [], (Builtin.zeroCells (Value.cells (.int .u8 0)) (grownCap w (l.length + xs.length) cap 5 - (l.length + xs.length))).toList, ?_, hbase, ?_, ?_, ?_, hcm⟩,
        ⟨rfl, rfl, rfl, by simp, fun k hk _ => Below.heap_alloc w.drew _ k hk⟩, Or.inr rfl⟩
      · rw [List.length_append]; rfl
      · have e : (w.drew.alloc (.cells ((l.map u8v ++ xs.map u8v).toArray ++ Builtin.zeroCells (Value.cells (.int .u8 0)) (grownCap w (l.length + xs.length) cap 5 - (l.length + xs.length))) 5)).heap[w.heap.size]? = _ := heap_alloc_new w.drew _
        rw [e, List.nil_append, List.map_append]
        exact congrArg (fun c => some (Obj.cells c 5 (0, 0))) (Array.ext' (by rw [Array.toList_append]))
      · rw [List.length_append]; exact hge
      · have e : (Builtin.zeroCells (Value.cells (.int .u8 0)) (grownCap w (l.length + xs.length) cap 5 - (l.length + xs.length))).toList.length = (grownCap w (l.length + xs.length) cap 5 - (l.length + xs.length)) * 1 := by
          rw [Array.length_toList]; exact size_zeroCells _ _
        rw [List.length_append]
        omega
/-- append of bytes onto them, at a plain region's list. -/
theorem wpList_ow {ops : Array Oper} {rest : List Oper} {o : Oper} {a : Act} {Q : Exit → Act → World → Prop} (hgd : o.guard = none) (s x : Operand) (tx : TypeId)
    (ho : o.op = .call { callee := .builtin .append, args := #[s, x], argTypes := #[41, tx] }) (v u : Value) (hs : a.eval s = v) (hx : a.eval x = u)
    (base : Nat) (l xs : List UInt8) (h : Ow w base v l) (hsrc : Src Tryz.prog 1 tx u xs.length (xs.map u8v) w) (hlen : l.length + xs.length ≤ 200000000000000) (hbase : base ≤ w.heap.size)
    (k : ∀ v' w', Ow w' base v' (l ++ xs) → w.grownBy w' v.ownBlock → (v'.ownBlock = v.ownBlock ∨ v'.ownBlock = some w.heap.size) → wpList Tryz.prog ops Q rest (a.put o.dst v') w') : wpList Tryz.prog ops Q (o :: rest) a w := by
  obtain ⟨v', w', hr, h1, h2, h3⟩ := app_ow (ty := o.type) h hsrc hlen hbase
  exact wpList_app (P := Tryz.prog) w hgd s x 41 tx ho v u hs hx hr (k v' w' h1 h2 h3)
end Go.Proofs.YtphbaaaklgiloaaGreat.Dg

/- The reference's object in memory: an array of bytes and of marks. -/
import Derived.Test.YtniodjigncicbaaExK
namespace Go.Proofs.Ytniodjigncicbaa.Dg
open Go.RowKit
variable {w w' : World} {base b s : Nat} {v u vd vh : Value} {c : Cel} {l : List UInt8} {e : TypeId} {z n : Nat} {xs : List Value}
attribute [local go_sem ↓] Go.wp_at_zero Go.wp_at_succ
theorem Og.setc {g off cap : Nat} (h : Og e 1 w base (.slice (some ⟨g, off, none⟩) n cap) n xs) (k : Nat) (hk : k < n) (y : Value) :
    Og e 1 (w.setCell ⟨g, off + k, none⟩ y) base (.slice (some ⟨g, off, none⟩) n cap) n (xs.set k y) := by
  have h1 := h.1
  refine ⟨by rw [List.length_set]; exact h1, ?_⟩
  rcases h.2 with ⟨hv, _⟩ | ⟨g', cap', pre, post, hv, hb, hg, hn, hs, hm⟩
  · cases hv
  · injection hv with ha hn' hc'
    injection ha with ha
    injection ha with ha hoff
    subst ha; subst hc'; subst hoff
    refine .inr ⟨g, cap, pre, post, rfl, hb, ?_, hn, hs, hm⟩
    have e : (pre ++ xs.set k y ++ post).toArray = (pre ++ xs ++ post).toArray.setIfInBounds (pre.length + k) y := by
      apply Array.ext'
      rw [Array.toList_setIfInBounds, List.append_assoc, List.append_assoc, List.set_append_right _ _ (by omega), Nat.add_sub_cancel_left, List.set_append_left _ _ (by omega)]
    rw [e]
    simp [World.setCell, Array.getElem?_modify, hg]
theorem Og.bs8 (h : Og 5 1 w base v n (l.map u8v)) : Bs w w.heap.size v l ∧ l.length = n := by
  have hl : l.length = n := by have := h.1; simpa using this
  subst hl
  obtain ⟨A, cp, hv, h1, h2⟩ := h.len_cap
  refine ⟨⟨A, cp, hv, h1, by unfold maxLen at h2; exact h2, fun hne => ?_⟩, rfl⟩
  obtain ⟨g, off, cap, hv2, _, hlt, _, _, _, hc⟩ := h.form (fun e => hne (List.eq_nil_of_length_eq_zero e))
  rw [hv] at hv2
  injection hv2 with ha _ _
  subst ha
  refine ⟨g, off, rfl, hlt, fun k hk => hc k _ ?_⟩
  rw [List.getElem?_map, List.getElem?_eq_getElem hk, List.getD_eq_getElem?_getD, List.getElem?_eq_getElem hk]; rfl
def bV (l : List Bool) : List Value := l.map .bool
/-- The object in block b: bytes in vd, marks in vh. -/
structure Rf (w : World) (base b : Nat) (vd vh : Value) (c : Cel) (s : Nat) : Prop where
  blk : Bk w b 70 #[vd, vh]
  dat : Og 5 1 w base vd s ((datR c s).map u8v)
  has : Og 4 1 w base vh s (bV (hasR c s))
  le : base ≤ b
  up : Upto c s
  max : s ≤ 4096
theorem Rf.ab (h : Rf w base b vd vh c s) (hb : Ab w w') : Rf w' base b vd vh c s := ⟨hb.bk h.blk, h.dat.ab hb, h.has.ab hb, h.le, h.up, h.max⟩
/-- Its blocks. -/
def RfO (b : Nat) (vd vh : Value) (k : Nat) : Prop := k = b ∨ vd.ownBlock = some k ∨ vh.ownBlock = some k
theorem Rf.ge (h : Rf w base b vd vh c s) {k : Nat} (hk : RfO b vd vh k) : base ≤ k ∧ k < w.heap.size := by
  rcases hk with rfl | hk | hk
  · exact ⟨h.le, h.blk.lt⟩
  · exact h.dat.blk k hk
  · exact h.has.blk k hk
theorem Rf.mv {S : Nat → Prop} (h : Rf w base b vd vh c s) (hm : Mv S w w') (hn : ∀ k, RfO b vd vh k → ¬ S k) : Rf w' base b vd vh c s :=
  ⟨hm.bk h.blk (hn b (.inl rfl)), h.dat.mv hm (fun k hk => hn k (.inr (.inl hk))), h.has.mv hm (fun k hk => hn k (.inr (.inr hk))), h.le, h.up, h.max⟩
/-- A change: its blocks alone turn, its new ones are new. -/
def RfT (b : Nat) (vd vh vd' vh' : Value) (w w' : World) : Prop := Mv (RfO b vd vh) w w' ∧ ∀ k, RfO b vd' vh' k → RfO b vd vh k ∨ w.heap.size ≤ k
theorem RfT.refl (b : Nat) (vd vh : Value) (w : World) : RfT b vd vh vd vh w w := ⟨Mv.refl _ _, fun _ h => .inl h⟩
theorem RfT.trans {v1 v2 v3 h1 h2 h3 : Value} {w1 w2 w3 : World} (h : RfT b v1 h1 v2 h2 w1 w2) (k : RfT b v2 h2 v3 h3 w2 w3) : RfT b v1 h1 v3 h3 w1 w3 :=
  ⟨⟨k.1.os.trans h.1.os, k.1.tape.trans h.1.tape, k.1.output.trans h.1.output, Nat.le_trans h.1.size k.1.size, fun i hi hs => (k.1.block i (Nat.lt_of_lt_of_le hi h.1.size) (fun e => by
    rcases h.2 i e with e2 | e2
    · exact hs e2
    · omega)).trans (h.1.block i hi hs)⟩, fun i hi => by
    rcases k.2 i hi with e | e
    · exact h.2 i e
    · exact .inr (Nat.le_trans h.1.size e)⟩
theorem RfT.of_ab (h : Ab w w') : RfT b vd vh vd vh w w' := ⟨Mv.of_ab h, fun _ h => .inl h⟩
theorem fits_any (w : World) (at_ n : Int) :
    Calls Try.prog 113 #[.int .i64 at_, .int .i64 n] w fun e w' => e = .returned (.int .i64 (exE at_ n)) ∧ w = w' := by
  by_cases h1 : at_ < 0
  · have e : exE at_ n = 22 := by unfold exE; rw [if_pos (.inl h1)]
    rw [e]
    go_enter Try.func113, Try.ntmps113
    go_wp2
    go_ret
    exact ⟨rfl, rfl⟩
  by_cases h2 : n < 0
  · have e : exE at_ n = 22 := by unfold exE; rw [if_pos (.inr h2)]
    rw [e]
    go_enter Try.func113, Try.ntmps113
    go_wp2
    go_ret
    exact ⟨rfl, rfl⟩
  by_cases h3 : 4096 < at_
  · have e : exE at_ n = 27 := by unfold exE; rw [if_neg (by omega), if_pos (by omega)]
    rw [e]
    go_enter Try.func113, Try.ntmps113
    go_wp2
    go_ret
    exact ⟨rfl, rfl⟩
  have hw : IntKind.i64.wrap (4096 - at_) = 4096 - at_ := IntWalk.i64_in _ (by omega)
  by_cases h4 : 4096 - at_ < n
  · have e : exE at_ n = 27 := by unfold exE; rw [if_neg (by omega), if_pos (by omega)]
    rw [e]
    go_enter Try.func113, Try.ntmps113
    go_wp2
    go_ret
    exact ⟨rfl, rfl⟩
  have e : exE at_ n = 0 := by unfold exE; rw [if_neg (by omega), if_neg (by omega)]
  rw [e]
  go_enter Try.func113, Try.ntmps113
  go_wp2
  go_ret
  exact ⟨rfl, rfl⟩
theorem infoBool : (Try.prog.info? 4).map (fun i => (i.zero, i.size, i.bytes)) = some (some (.bool false), 1, 1) := by kernel_rfl
/-- One element in a block of its own. -/
theorem src_elem {TS T : TypeId} (hk : Try.prog.underlying TS = some (.slice T)) (w : World) (y : Value) (hy : y.oneCell' = true) :
    Src Try.prog 1 TS (.slice (some ⟨w.heap.size, 0, none⟩) 1 1) 1 [y] (w.alloc (.cells #[y] T)) := by
  have h0 : (w.alloc (.cells #[y] T)).cell? ⟨w.heap.size, 0, none⟩ = some y := (Bk.made w T #[y]).cell (i := 0) rfl
  refine Src.ofSlice _ hk ⟨w.heap.size, 0, none⟩ 1 1 _ rfl (fun j x hx => ?_) (fun x hx => ?_)
  · rw [Addr.add_lit, Nat.zero_add]
    match j with
    | 0 => rw [← Option.some.inj (show some y = some x from hx)]; exact h0
    | j + 1 => cases hx
  · rw [List.mem_singleton.1 hx]; exact hy
theorem Og.mvb {S : Nat → Prop} (ho : Og e z w base v n xs) (h : Mv S w w') {g : Nat} {t : TypeId} {cs : Array Value} (hb : Bk w g t cs) (hS : ∀ k, S k → k = g) (ht : e ≠ t) : Og e z w' base v n xs :=
  ho.mv h fun k hk hs => by
    obtain ⟨cs', hb'⟩ := ho.block hk
    rw [hS k hs] at hb'
    exact ht (bk_type hb' hb)
theorem wpList_ogn {ops : Array Oper} {rest : List Oper} {o : Oper} {ac : Act} {Q : Exit → Act → World → Prop} {TS T : TypeId} {z : Value} {zs by_ : Nat} (hgd : o.guard = none) (sl x : Operand)
    (ho : o.op = .call { callee := .builtin .append, args := #[sl, x], argTypes := #[TS, TS] }) (v y : Value) (hs : ac.eval sl = v) (hx : ac.eval x = y)
    (hk : Try.prog.underlying TS = some (.slice T)) (hinfo : (Try.prog.info? T).map (fun i => (i.zero, i.size, i.bytes)) = some (some z, zs, by_)) (hz : z.cells.size = zs)
    (base n : Nat) (xs : List Value) (m : Nat) (news : List Value) (h : Og T zs w base v n xs) (hsrc : Src Try.prog zs TS y m news w) (hlen : n + m ≤ 1000000 ∧ by_ ≤ 1000000) (hbase : base ≤ w.heap.size)
    (k : ∀ A c w', Og T zs w' base (.slice A (n + m) c) (n + m) (xs ++ news) → w.grownBy w' v.ownBlock → (Value.ownBlock (.slice A (n + m) c) = v.ownBlock ∨ Value.ownBlock (.slice A (n + m) c) = some w.heap.size) → wpList Try.prog ops Q rest (ac.put o.dst (.slice A (n + m) c)) w') : wpList Try.prog ops Q (o :: rest) ac w := by
  obtain ⟨i0, hi, hz0, hz1, hz2⟩ := info_parts hinfo
  have hb : (n + m + (n + m) / 4 + 192) * by_ ≤ 2000000 * 1000000 := Nat.mul_le_mul (by omega) hlen.2
  obtain ⟨v', w', hr, h1, h2, h3⟩ := og_app (P := Try.prog) w base TS TS o.type T i0 _ zs by_ hk hi hz0 hz1 hz2 hz h hsrc (by unfold maxLen; omega) (by omega) hbase
  obtain ⟨A, c, rfl, -, -⟩ := h1.len_cap
  exact wpList_app (P := Try.prog) w hgd sl x TS TS ho v y hs hx hr (k A c w' h1 h2 h3)
/-- The row of the object is grown by an element; then stored back at cell i. -/
theorem mv_set1 {w1 : World} (h : Mv (RfO b vd vh) w w1) (i : Nat) (y : Value) : Mv (RfO b vd vh) w (w1.setCell ⟨b, i, none⟩ y) := h.set (p := ⟨b, i, none⟩) (.inl rfl) y
end Go.Proofs.Ytniodjigncicbaa.Dg

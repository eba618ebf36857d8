/- Rows of pairs: a place and bytes. -/
import Derived.Test.YtniodjigncicbaaOgA
namespace Go.Proofs.Ytniodjigncicbaa.Dg
open Go.RowKit
variable {w w' : World} {base : Nat} {v u : Value} {T TS : TypeId} {l : List UInt8}
structure Pr where
  at_ : Nat
  val : Value
  bytes : List UInt8
def prV (ps : List Pr) : List Value := ps.flatMap fun p => [.int .i64 (p.at_ : Int), p.val]
theorem prV_length : ∀ ps : List Pr, (prV ps).length = ps.length * 2
  | [] => rfl
  | p :: ps => by
    have := prV_length ps
    unfold prV at this ⊢
    rw [List.flatMap_cons, List.length_append, this]
    simp only [List.length_cons, List.length_nil]
    omega
theorem prV_append (ps qs : List Pr) : prV (ps ++ qs) = prV ps ++ prV qs := by unfold prV; rw [List.flatMap_append]
theorem prV_get (ps : List Pr) (k : Nat) (h : k < ps.length) : (prV ps)[k * 2]? = some (.int .i64 (ps[k].at_ : Int)) ∧ (prV ps)[k * 2 + 1]? = some ps[k].val := by
  have e : ps = ps.take k ++ (ps[k] :: ps.drop (k + 1)) := by rw [← List.drop_eq_getElem_cons h, List.take_append_drop]
  have hl : (prV (ps.take k)).length = k * 2 := by rw [prV_length, List.length_take, Nat.min_eq_left (by omega)]
  have e2 : prV ps = prV (ps.take k) ++ (Value.int .i64 (ps[k].at_ : Int) :: ps[k].val :: prV (ps.drop (k + 1))) := by
    conv => lhs; rw [e, prV_append]
    rfl
  refine ⟨?_, ?_⟩
  · rw [e2, List.getElem?_append_right (by omega), hl, Nat.sub_self]; rfl
  · rw [e2, List.getElem?_append_right (by omega), hl, show k * 2 + 1 - k * 2 = 1 by omega]; rfl
/-- A row of places and bytes, the bytes in blocks of the call's own. -/
structure Rl (T : TypeId) (w : World) (base : Nat) (v : Value) (ps : List Pr) : Prop where
  row : Og T 2 w base v ps.length (prV ps)
  own : ∀ p ∈ ps, Ob w base p.val p.bytes
theorem Rl.nil (T : TypeId) (w : World) (base : Nat) : Rl T w base (.slice none 0 0) [] := ⟨Og.nil _ _ _ _, fun _ h => by cases h⟩
theorem Rl.ab {ps : List Pr} (h : Rl T w base v ps) (hb : Ab w w') : Rl T w' base v ps := ⟨h.row.ab hb, fun p hp => (h.own p hp).ab hb⟩
theorem Rl.lower {ps : List Pr} {b' : Nat} (h : Rl T w base v ps) (hb : b' ≤ base) : Rl T w b' v ps := ⟨h.row.lower hb, fun p hp => (h.own p hp).lower hb⟩
theorem Ob.type (h : Ob w base v l) {k : Nat} (hk : v.ownBlock = some k) {t : TypeId} {cs : Array Value} (hb : Bk w k t cs) : t = 5 := by
  rcases h.2 with ⟨rfl, _⟩ | ⟨g', cap, cur, rfl, _, hg, _⟩
  · simp [Value.ownBlock] at hk
  · have : g' = k := by simpa [Value.ownBlock] using hk
    subst this
    unfold Bk at hb
    rw [hg] at hb
    injection hb with hb
    injection hb with _ hb
    exact hb.symm
theorem Og.block {e : TypeId} {s n : Nat} {xs : List Value} (h : Og e s w base v n xs) {k : Nat} (hk : v.ownBlock = some k) : ∃ cs, Bk w k e cs := by
  rcases h.2 with ⟨rfl, rfl⟩ | ⟨g, cap, pre, post, rfl, _, hg, -⟩
  · simp [Value.ownBlock] at hk
  · have : g = k := by simpa [Value.ownBlock] using hk
    subst this
    exact ⟨_, hg⟩
/-- Bytes do not lie in the row. -/
theorem Ob.apart {ps : List Pr} (h : Rl T w base v ps) (hT : T ≠ 5) (hu : Ob w base u l) {k : Nat} (hk : u.ownBlock = some k) : v.ownBlock ≠ some k := fun e => by
  obtain ⟨cs, hb⟩ := h.row.block e
  exact hT (hu.type hk hb)
/-- A pair in a block of its own. -/
theorem src_pair (hk : Try.prog.underlying TS = some (.slice T)) (w : World) (t : TypeId) (p : Nat) (u : Value) (hu : u.oneCell' = true) :
    Src Try.prog 2 TS (.slice (some ⟨w.heap.size, 0, none⟩) 1 1) 1 [.int .i64 (p : Int), u] (w.alloc (.cells #[.int .i64 (p : Int), u] t)) := by
  have h0 : (w.alloc (.cells #[.int .i64 (p : Int), u] t)).cell? ⟨w.heap.size, 0, none⟩ = some (.int .i64 (p : Int)) := (Bk.made w t #[.int .i64 (p : Int), u]).cell (i := 0) rfl
  have h1 : (w.alloc (.cells #[.int .i64 (p : Int), u] t)).cell? ⟨w.heap.size, 1, none⟩ = some u := (Bk.made w t #[.int .i64 (p : Int), u]).cell (i := 1) rfl
  refine Src.ofSlice _ hk ⟨w.heap.size, 0, none⟩ 1 1 _ rfl (fun j x hx => ?_) (fun x hx => ?_)
  · rw [Addr.add_lit, Nat.zero_add]
    match j with
    | 0 => rw [← Option.some.inj (show some (Value.int .i64 (p : Int)) = some x from hx)]; exact h0
    | 1 => rw [← Option.some.inj (show some u = some x from hx)]; exact h1
    | j + 2 => cases hx
  · simp only [List.mem_cons, List.not_mem_nil, or_false] at hx
    rcases hx with rfl | rfl
    · rfl
    · exact hu
/-- append of a pair. -/
theorem app_rl {ps : List Pr} {ty : TypeId} {x : Value} {p : Nat} (hk : Try.prog.underlying TS = some (.slice T)) (hinfo : (Try.prog.info? T).map (fun i => (i.zero, i.size, i.bytes)) = some (some (.agg #[.int .i64 0, .slice none 0 0]), 2, 32)) (hT : T ≠ 5)
    (h : Rl T w base v ps) (hs : Src Try.prog 2 TS x 1 [.int .i64 (p : Int), u] w) (hu : Ob w base u l) (hlen : ps.length ≤ 1000000000000) (hbase : base ≤ w.heap.size) :
    ∃ v' w', (Builtin.append_ #[TS, TS] ty #[v, x]).run Try.prog w = .ok v' w' ∧ Rl T w' base v' (ps ++ [⟨p, u, l⟩]) ∧ w.grownBy w' v.ownBlock ∧ (v'.ownBlock = v.ownBlock ∨ v'.ownBlock = some w.heap.size) := by
  obtain ⟨i0, hi, hz0, hz1, hz2⟩ := info_parts hinfo
  obtain ⟨v', w', hr, ho, hg, hb⟩ := og_app (P := Try.prog) w base TS TS ty T i0 _ 2 32 hk hi hz0 hz1 hz2 rfl h.row hs (by unfold maxLen; omega) (by omega) hbase
  refine ⟨v', w', hr, ⟨?_, fun q hq => ?_⟩, hg, hb⟩
  · rw [List.length_append, prV_append]
    exact ho
  · have hm : Mv (fun k => v.ownBlock = some k) w w' := Mv.grown (Mv.refl _ w) hg (fun k hk => .inl hk)
    rcases List.mem_append.1 hq with hq | hq
    · exact hm.ob (h.own q hq) (fun k hk => Ob.apart h hT (h.own q hq) hk)
    · rw [List.mem_singleton.1 hq]
      exact hm.ob hu (fun k hk => Ob.apart h hT hu hk)
theorem wpList_rl {ops : Array Oper} {rest : List Oper} {o : Oper} {ac : Act} {Q : Exit → Act → World → Prop} (hgd : o.guard = none) (s x : Operand)
    (ho : o.op = .call { callee := .builtin .append, args := #[s, x], argTypes := #[TS, TS] }) (v y : Value) (hs : ac.eval s = v) (hx : ac.eval x = y)
    (hk : Try.prog.underlying TS = some (.slice T)) (hinfo : (Try.prog.info? T).map (fun i => (i.zero, i.size, i.bytes)) = some (some (.agg #[.int .i64 0, .slice none 0 0]), 2, 32)) (hT : T ≠ 5)
    (base : Nat) (ps : List Pr) (p : Nat) (u : Value) (l : List UInt8) (h : Rl T w base v ps) (hsrc : Src Try.prog 2 TS y 1 [.int .i64 (p : Int), u] w) (hu : Ob w base u l) (hlen : ps.length ≤ 1000000000000) (hbase : base ≤ w.heap.size)
    (k : ∀ A n c w', Rl T w' base (.slice A n c) (ps ++ [⟨p, u, l⟩]) → w.grownBy w' v.ownBlock → wpList Try.prog ops Q rest (ac.put o.dst (.slice A n c)) w') : wpList Try.prog ops Q (o :: rest) ac w := by
  obtain ⟨v', w', hr, h1, h2, -⟩ := app_rl (ty := o.type) hk hinfo hT h hsrc hu hlen hbase
  obtain ⟨A, c, rfl, -, -⟩ := h1.row.len_cap
  exact wpList_app (P := Try.prog) w hgd s x TS TS ho v y hs hx hr (k A _ c w' h1 h2)
theorem Rl.grown {ps : List Pr} {W : World} {v2 : Value} (hW : Ab W w) (h : Rl T w base v2 ps) (hb : W.heap.size ≤ base) (hg : w.grownBy w' v2.ownBlock) : Ab W w' :=
  grown_ab hW hg (fun k hk => Nat.le_trans hb (h.row.blk k hk).1)
/-- The records' places and bytes. -/
def Tells (a : Nat → Nat) (r : Nat → List UInt8) (ps : List Pr) : Prop := ∀ k, (h : k < ps.length) → ps[k].at_ = a k ∧ ps[k].bytes = r k
theorem Tells.nil (a : Nat → Nat) (r : Nat → List UInt8) : Tells a r [] := fun k h => by simp at h
theorem Tells.snoc {a : Nat → Nat} {r : Nat → List UInt8} {ps : List Pr} (h : Tells a r ps) (p : Pr) (h1 : p.at_ = a ps.length) (h2 : p.bytes = r ps.length) : Tells a r (ps ++ [p]) := fun k hk => by
  rw [List.length_append, List.length_singleton] at hk
  rcases Nat.lt_or_ge k ps.length with h3 | h3
  · rw [List.getElem_append_left h3]; exact h k h3
  · have : k = ps.length := by omega
    subst this
    rw [List.getElem_append_right (Nat.le_refl _)]
    simp only [Nat.sub_self, List.getElem_cons_zero]
    exact ⟨h1, h2⟩
end Go.Proofs.Ytniodjigncicbaa.Dg

/- Bytes of the call's own and bytes that come in: as a source of append; a byte of them stored; the first of them. -/
import Derived.Test.YtphbaaaklgiloaaGreatDgAp
import Derived.Test.YtphbaaaklgiloaaGreatDgBs
import Derived.ChangeKeysEq
namespace Go.Proofs.YtphbaaaklgiloaaGreat.Dg
open Go.RowKit
variable {w w' : World} {base B : Nat} {v : Value} {l xs : List UInt8}
theorem getD_map_u8 (l : List UInt8) (j : Nat) (u : Value) (h : (l.map u8v)[j]? = some u) : j < l.length ∧ u = u8v (l.getD j 0) := by
  rw [List.getElem?_map] at h
  obtain ⟨a, ha, rfl⟩ := Option.map_eq_some_iff.1 h
  obtain ⟨hj, rfl⟩ := List.getElem?_eq_some_iff.1 ha
  exact ⟨hj, by rw [List.getD_eq_getElem?_getD, List.getElem?_eq_getElem hj]; rfl⟩
theorem one_u8 (l : List UInt8) : ∀ u ∈ l.map u8v, u.oneCell' = true := by
  intro u hu
  obtain ⟨_, _, rfl⟩ := List.mem_map.1 hu
  rfl
/-- What a slice of bytes yields to append. -/
theorem src_bs {P : Program} {tx e' : TypeId} (hk : P.underlying tx = some (.slice e')) (h : Bs w B v xs) : Src P 1 tx v xs.length (xs.map u8v) w := by
  obtain ⟨A, c, rfl, h1, h2, h3⟩ := h
  by_cases hx : xs = []
  · subst hx
    cases A with
    | none => exact Src.ofNil w hk c
    | some a => exact Src.ofSlice w hk a 0 c [] rfl (fun j u hu => by simp at hu) (fun u hu => by cases hu)
  · obtain ⟨b, off, rfl, hb, hc⟩ := h3 hx
    refine Src.ofSlice w hk ⟨b, off, none⟩ xs.length c (xs.map u8v) (by simp) (fun j u hu => ?_) (one_u8 xs)
    obtain ⟨hj, rfl⟩ := getD_map_u8 xs j u hu
    rw [Addr.add_lit]; exact hc j hj
/-- One byte in a block of its own. -/
theorem src_one {P : Program} {tx e' : TypeId} (hk : P.underlying tx = some (.slice e')) {g : Nat} {x : UInt8} (h : w.cell? ⟨g, 0, none⟩ = some (.int .u8 (n8 x))) (c : Nat) : Src P 1 tx (.slice (some ⟨g, 0, none⟩) 1 c) [x].length ([x].map u8v) w := by
  refine Src.ofSlice w hk ⟨g, 0, none⟩ 1 c ([x].map u8v) rfl (fun j u hu => ?_) (one_u8 _)
  obtain ⟨hj, rfl⟩ := getD_map_u8 [x] j u hu
  have : j = 0 := by simpa using hj
  subst this
  exact h
theorem Ob.form (h : Ob w base v l) (hl : l ≠ []) : ∃ g cap, v = .slice (some ⟨g, 0, none⟩) l.length cap ∧ base ≤ g ∧ g < w.heap.size ∧ l.length ≤ cap ∧ cap ≤ maxLen ∧
    (∀ i, w.frozen? ⟨g, i, none⟩ = false) ∧ ∀ k, k < l.length → w.cell? ⟨g, k, none⟩ = some (.int .u8 (n8 (l.getD k 0))) := by
  rcases h.2 with ⟨rfl, h0⟩ | ⟨g, cap, cur, rfl, hb, hg, hn, hm, hs, ht⟩
  · exact absurd (List.eq_nil_of_length_eq_zero h0) hl
  · refine ⟨g, cap, rfl, hb, (Array.getElem?_eq_some_iff.1 hg).1, hn, hm, fun i => by simp [World.frozen?, hg], fun k hk => ?_⟩
    have hu : (l.map u8v)[k]? = some (u8v (l.getD k 0)) := by
      rw [List.getElem?_map, List.getElem?_eq_getElem hk, List.getD_eq_getElem?_getD, List.getElem?_eq_getElem hk]; rfl
    have := World.ownsRow.cells h (g := g) rfl k _ hu
    have hadd : (⟨g, 0, none⟩ : Addr).add k = ⟨g, k, none⟩ := by unfold Addr.add; split <;> simp_all
    rw [hadd] at this
    exact this
theorem Ob.bs (h : Ob w base v l) : Bs w w.heap.size v l := by
  obtain ⟨A, c, hv, h1, h2⟩ := h.len_cap
  refine ⟨A, c, hv, h1, by unfold maxLen at h2; exact h2, fun hn => ?_⟩
  obtain ⟨g, cap, hv2, _, hlt, _, _, _, hc⟩ := h.form hn
  rw [hv] at hv2
  injection hv2 with ha _ _
  subst ha
  exact ⟨g, 0, rfl, hlt, fun k hk => by rw [Nat.zero_add]; exact hc k hk⟩
/-- A byte of them is stored. -/
theorem Ob.set {g n c : Nat} (h : Ob w base (.slice (some ⟨g, 0, none⟩) n c) l) (k : Nat) (x : UInt8) : Ob (w.setCell ⟨g, k, none⟩ (.int .u8 (n8 x))) base (.slice (some ⟨g, 0, none⟩) n c) (l.set k x) := by
  rcases h.2 with ⟨hv, _⟩ | ⟨g', cap, cur, hv, hb, hg, hn, hm, hs, ht⟩
  · cases hv
  · injection hv with ha hn' hc'
    injection ha with ha
    injection ha with ha
    subst ha; subst hn'; subst hc'
    refine ⟨by simp, .inr ⟨g, c, cur.setIfInBounds k (.int .u8 (n8 x)), by rw [List.length_set], hb, ?_, by rw [List.length_set]; exact hn, hm, by simpa using hs, ?_⟩⟩
    · simp [World.setCell, Array.getElem?_modify, hg]
    · rw [map_set_u8, ← ht, List.length_set, Array.toList_setIfInBounds, List.take_set]; rfl
theorem Ob.app_far {row : Option Nat} {B : Nat} {x : Value} {xs : List UInt8} (h : Bs w B x xs) (hg : w.grownBy w' row) (hr : ∀ k, row = some k → B ≤ k) (hB : B ≤ w.heap.size) : Bs w' B x xs :=
  h.keep fun b o hb => World.cell?_of_block (a := ⟨b, o, none⟩) (hg.block b (by omega) (fun e => by have := hr b e.symm; omega))
/-- append of bytes onto a slice of the call's own, at a plain region's list. -/
theorem wpList_bytes {ops : Array Oper} {rest : List Oper} {o : Oper} {a : Act} {Q : Exit → Act → World → Prop} (hgd : o.guard = none) (s x : Operand) (tx : TypeId)
    (ho : o.op = .call { callee := .builtin .append, args := #[s, x], argTypes := #[41, tx] }) (v u : Value) (hs : a.eval s = v) (hx : a.eval x = u)
    (base : Nat) (l xs : List UInt8) (h : Ob w base v l) (hsrc : Src Tryz.prog 1 tx u xs.length (xs.map u8v) w) (hlen : l.length + xs.length ≤ 200000000000000) (hbase : base ≤ w.heap.size)
    (k : ∀ v' w', Ob w' base v' (l ++ xs) → w.grownBy w' v.ownBlock → (v'.ownBlock = v.ownBlock ∨ v'.ownBlock = some w.heap.size) → wpList Tryz.prog ops Q rest (a.put o.dst v') w') : wpList Tryz.prog ops Q (o :: rest) a w := by
  obtain ⟨v', w', hr, h1, h2, h3⟩ := app_bytes (ty := o.type) h hsrc hlen hbase
  exact wpList_app (P := Tryz.prog) w hgd s x 41 tx ho v u hs hx hr (k v' w' h1 h2 h3)
theorem Ob.made (w : World) (cs : Array Value) (base : Nat) (hb : base ≤ w.heap.size) (hm : cs.size ≤ maxLen) : Ob (w.alloc (.cells cs 5)) base (.slice (some ⟨w.heap.size, 0, none⟩) 0 cs.size) [] :=
  World.ownsRow_made w cs cs.size hb hm (by simp)
/-- The first bytes of a slice. -/
theorem addr_add0 (a : Option Addr) : a.map (fun x => x.add 0) = a := by cases a <;> simp [Addr.add]
theorem run_slice_head (A : Option Addr) (n c k : Nat) (i : Int) (hi : i = (k : Int)) (hk : k ≤ c) (w : World) :
    (Instr.slice 41 (.slice A n c) none (some (.int .i64 i)) none).run Tryz.prog w = .ok (.slice A k c) w := by
  subst hi
  have h1 : (0 : Int) ≤ (k : Int) := by omega
  simp [Instr.slice, Instr.sliceBounds, Instr.sliceBound, asIntOf, run_underlying Tryz.underlying41, h1, Sem.run_bind, addr_add0]
  omega
theorem take_bs {w : World} {B : Nat} {A : Option Addr} {l : List UInt8} {n c : Nat} (h : Bs w B (.slice A n c) l) (k : Nat) (hk : k ≤ l.length) : Bs w B (.slice A k c) (l.take k) := by
  obtain ⟨A', c', hv, h1, h2, h3⟩ := h
  cases hv
  have hl : (l.take k).length = k := by simp; omega
  refine ⟨A, c, by rw [hl], by omega, h2, fun hn => ?_⟩
  have hne : l ≠ [] := by
    intro e; subst e; simp at hn
  obtain ⟨b, off, hA, hb, hc⟩ := h3 hne
  refine ⟨b, off, hA, hb, fun i hi => ?_⟩
  rw [hc i (by omega)]
  congr 2
  rw [List.getD_eq_getElem?_getD, List.getD_eq_getElem?_getD, List.getElem?_take_of_lt (by omega)]
end Go.Proofs.YtphbaaaklgiloaaGreat.Dg

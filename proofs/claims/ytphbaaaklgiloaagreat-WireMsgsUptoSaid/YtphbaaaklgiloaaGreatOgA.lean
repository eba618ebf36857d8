/- A slice of the call's own, of elements of any size, anywhere in its row. -/
import Derived.Test.YtphbaaaklgiloaaGreatDkA
namespace Go.Proofs.YtphbaaaklgiloaaGreat.Dg
open Go.RowKit
variable {w w' : World} {base : Nat} {v : Value} {e : TypeId} {s n : Nat} {xs : List Value}
def Og (e : TypeId) (s : Nat) (w : World) (base : Nat) (v : Value) (n : Nat) (xs : List Value) : Prop :=
  xs.length = n * s ∧ ((v = .slice none 0 0 ∧ n = 0) ∨ ∃ g cap pre post, v = .slice (some ⟨g, List.length pre, none⟩) n cap ∧ base ≤ g ∧
    w.heap[g]? = some (.cells (pre ++ xs ++ post).toArray e (0, 0)) ∧ n ≤ cap ∧ cap * s ≤ n * s + post.length ∧ cap ≤ maxLen)
theorem Og.nil (e : TypeId) (s : Nat) (w : World) (base : Nat) : Og e s w base (.slice none 0 0) 0 [] := ⟨by simp, .inl ⟨rfl, rfl⟩⟩
theorem Og.of (h : w.ownsRow base e s v n xs) : Og e s w base v n xs := by
  refine ⟨h.1, ?_⟩
  rcases h.2 with ⟨rfl, h0⟩ | ⟨g, cap, cur, rfl, hb, hg, hn, hm, hs, ht⟩
  · exact .inl ⟨rfl, h0⟩
  · have ht2 : cur.toList.take (n * s) = xs := ht
    refine .inr ⟨g, cap, [], cur.toList.drop (n * s), by simp, hb, ?_, hn, ?_, hm⟩
    · rw [hg]
      congr 2
      rw [List.nil_append, ← ht2, List.take_append_drop, Array.toArray_toList]
    · have e : cur.toList.length = cur.size := Array.length_toList
      have := Nat.mul_le_mul_right s hn
      rw [List.length_drop]
      omega
theorem Og.len_cap (h : Og e s w base v n xs) : ∃ A c, v = .slice A n c ∧ n ≤ c ∧ c ≤ maxLen := by
  rcases h.2 with ⟨rfl, rfl⟩ | ⟨g, cap, pre, post, rfl, -, -, h1, -, h2⟩
  · exact ⟨none, 0, rfl, by simp, by simp [maxLen]⟩
  · exact ⟨_, _, rfl, h1, h2⟩
theorem Og.blk (h : Og e s w base v n xs) : ∀ k, v.ownBlock = some k → base ≤ k ∧ k < w.heap.size := by
  intro k hk
  rcases h.2 with ⟨rfl, rfl⟩ | ⟨g, cap, pre, post, rfl, hb, hg, -⟩
  · simp [Value.ownBlock] at hk
  · have : g = k := by simpa [Value.ownBlock] using hk
    subst this
    exact ⟨hb, (Array.getElem?_eq_some_iff.1 hg).1⟩
/-- Its block's type. -/
theorem Og.type (h : Og e s w base v n xs) {k : Nat} (hk : v.ownBlock = some k) {t : TypeId} {cs : Array Value} (hb : Bk w k t cs) : t = e := by
  rcases h.2 with ⟨rfl, rfl⟩ | ⟨g, cap, pre, post, rfl, _, hg, -⟩
  · simp [Value.ownBlock] at hk
  · have : g = k := by simpa [Value.ownBlock] using hk
    subst this
    unfold Bk at hb
    rw [hg] at hb
    injection hb with hb
    injection hb with _ hb
    exact hb.symm
theorem Og.mv {S : Nat → Prop} (ho : Og e s w base v n xs) (h : Mv S w w') (hn : ∀ k, v.ownBlock = some k → ¬ S k) : Og e s w' base v n xs := by
  refine ⟨ho.1, ?_⟩
  rcases ho.2 with hn' | ⟨g, cap, pre, post, rfl, hb, hg, rest⟩
  · exact .inl hn'
  · exact .inr ⟨g, cap, pre, post, rfl, hb, (h.block g (Array.getElem?_eq_some_iff.1 hg).1 (hn g rfl)).trans hg, rest⟩
theorem Og.ab (h : Og e s w base v n xs) (hb : Ab w w') : Og e s w' base v n xs := h.mv (S := fun _ => False) (Mv.of_ab hb) (fun _ _ h => h)
theorem Og.lower {b' : Nat} (h : Og e s w base v n xs) (hb : b' ≤ base) : Og e s w b' v n xs := by
  refine ⟨h.1, ?_⟩
  rcases h.2 with hn' | ⟨g, cap, pre, post, rfl, hbg, rest⟩
  · exact .inl hn'
  · exact .inr ⟨g, cap, pre, post, rfl, by omega, rest⟩
/-- Its cells. -/
theorem Og.form (h : Og e s w base v n xs) (hl : n ≠ 0) : ∃ g off cap, v = .slice (some ⟨g, off, none⟩) n cap ∧ base ≤ g ∧ g < w.heap.size ∧ n ≤ cap ∧ cap ≤ maxLen ∧
    (∀ i, w.frozen? ⟨g, i, none⟩ = false) ∧ ∀ k u, xs[k]? = some u → w.cell? ⟨g, off + k, none⟩ = some u := by
  rcases h.2 with ⟨rfl, h0⟩ | ⟨g, cap, pre, post, rfl, hb, hg, hn, hs, hm⟩
  · exact absurd h0 hl
  · refine ⟨g, pre.length, cap, rfl, hb, (Array.getElem?_eq_some_iff.1 hg).1, hn, hm, fun i => by simp [World.frozen?, hg], fun k u hk => ?_⟩
    have hlt := (List.getElem?_eq_some_iff.1 hk).1
    rw [cell_of_row w g _ _ _ _ hg, List.getElem?_toArray, List.append_assoc, List.getElem?_append_right (by omega), Nat.add_sub_cancel_left,
      List.getElem?_append_left hlt, hk]
/-- From an element on. -/
def winS (s : Nat) (A : Option Addr) (c k : Nat) : Option Addr := if c = k then A else Option.map (fun x => x.add (k * s)) A
theorem Og.cut {A : Option Addr} {c : Nat} (h : Og e s w base (.slice A n c) n xs) (k : Nat) (hk : k ≤ n) : Og e s w base (.slice (winS s A c k) (n - k) (c - k)) (n - k) (xs.drop (k * s)) := by
  have h1 := h.1
  have hks := Nat.mul_le_mul_right s hk
  refine ⟨by rw [List.length_drop, h1, ← Nat.sub_mul], ?_⟩
  rcases h.2 with ⟨hv, h0⟩ | ⟨g, cap, pre, post, hv, hb, hg, hn, hs, hm⟩
  · injection hv with ha hn' hc'
    subst ha; subst h0; subst hc'
    have : k = 0 := by omega
    subst this
    exact .inl ⟨by simp [winS], rfl⟩
  · injection hv with ha hn' hc'
    subst ha; subst hc'
    by_cases he : c = k
    · have : n = k := by omega
      subst this
      refine .inr ⟨g, c - n, pre, xs ++ post, ?_, hb, ?_, by omega, ?_, by omega⟩
      · simp [winS, he]
      · rw [hg, List.drop_of_length_le (by omega)]; simp
      · rw [he, Nat.sub_self, Nat.zero_mul]; omega
    · refine .inr ⟨g, c - k, pre ++ xs.take (k * s), post, ?_, hb, ?_, by omega, ?_, by omega⟩
      · unfold winS
        rw [if_neg he, Option.map_some, List.length_append, List.length_take, Nat.min_eq_left (by omega), Addr.add_lit]
      · rw [hg, List.append_assoc pre (xs.take (k * s)) (xs.drop (k * s)), List.take_append_drop]
      · rw [Nat.sub_mul, Nat.sub_mul]; omega
/-- append. -/
theorem og_app {P : Program} (w : World) (base : Nat) (t tx ty e : TypeId) (i : TypeInfo) (z : Value) (size bytes : Nat) (ht : P.underlying t = some (.slice e)) (hi : P.info? e = some i) (hz : i.zero = some z)
    (hsize : i.size = size) (hby : i.bytes = bytes) (hzs : z.cells.size = size) {v : Value} {n : Nat} {xs : List Value} (hown : Og e size w base v n xs) {x : Value} {m : Nat} {news : List Value} (hs : Src P size tx x m news w)
    (h63 : n + m ≤ maxLen) (hbytes : (n + m + (n + m) / 4 + 192) * bytes ≤ 281474976710656) (hbase : base ≤ w.heap.size) :
    ∃ v' w', (Builtin.append_ #[t, tx] ty #[v, x]).run P w = .ok v' w' ∧ Og e size w' base v' (n + m) (xs ++ news) ∧ w.grownBy w' v.ownBlock ∧ (v'.ownBlock = v.ownBlock ∨ v'.ownBlock = some w.heap.size) := by
  have hl := hs.newsLen
  have hxl := hown.1
  have hlen : (xs ++ news).length = (n + m) * size := by rw [List.length_append, hxl, hl, Nat.add_mul]
  rcases hown.2 with ⟨rfl, rfl⟩ | ⟨g, cap, pre, post, rfl, hb, hg, hn, hc, hm⟩
  · have hx : xs = [] := List.eq_nil_of_length_eq_zero (by simpa using hxl)
    subst hx
    obtain ⟨v', w', hr, ho, hg, hb⟩ := app_own (P := P) w base t tx ty e i z size bytes ht hi hz hsize hby hzs (World.ownsRow_nil w base e size) hs h63 hbytes hbase
    exact ⟨v', w', hr, Og.of ho, hg, hb⟩
  · subst hsize
    subst hby
    by_cases hroom : n + m ≤ cap
    · have hrs := Nat.mul_le_mul_right i.size hroom
      rw [Nat.add_mul] at hrs
      have hst := run_storeCells_at P g (pre.length + n * i.size) e news 0 _ w hg (by simp; omega) hs.one
      simp only [Nat.add_zero] at hst
      have hr : (Builtin.append_ #[t, tx] ty #[.slice (some ⟨g, pre.length, none⟩) n cap, x]).run P w = .ok (.slice (some ⟨g, pre.length, none⟩) (n + m) cap) (w.setRow g ((pre ++ xs ++ post).toArray.toList.take (pre.length + n * i.size) ++ news ++ (pre ++ xs ++ post).toArray.toList.drop (pre.length + n * i.size + news.length)).toArray) := by
        have hcl := hs.cells
        rcases hs.kind with ⟨e', hk⟩ | hk <;> simp [Builtin.append_, run_underlying ht, run_underlying hk, sizeOf, typeInfo, hi, hs.len, hroom, hcl, Addr.add_lit] at hst ⊢ <;> rw [hst] <;> rfl
      refine ⟨_, _, hr, ⟨hlen, .inr ⟨g, cap, pre, post.drop news.length, rfl, hb, ?_, hroom, by rw [List.length_drop, Nat.add_mul]; omega, hm⟩⟩,
        ⟨rfl, rfl, rfl, by simp, fun k _ hk => setRow_other w g k _ (fun e => hk (by simp [Value.ownBlock, e]))⟩, Or.inl rfl⟩
      rw [setRow_heap w g _ _ _ _ hg]
      have e1 : (pre ++ xs ++ post).take (pre.length + n * i.size) = pre ++ xs := by
        rw [List.take_left' (by simp; omega)]
      have e2 : (pre ++ xs ++ post).drop (pre.length + n * i.size + news.length) = post.drop news.length := by
        rw [← List.drop_drop, List.drop_left' (by simp; omega)]
      rw [List.toList_toArray, e1, e2]
      simp only [List.append_assoc]
    · have holds : ∀ j u, xs[j]? = some u → w.cell? ((⟨g, pre.length, none⟩ : Addr).add j) = some u := by
        intro j u hu
        rw [Addr.add_lit, cell_of_row w g _ _ _ _ hg, List.getElem?_toArray, List.append_assoc, List.getElem?_append_right (by omega), Nat.add_sub_cancel_left,
          List.getElem?_append_left ((List.getElem?_eq_some_iff.1 hu).1), hu]
      have hr := run_append_grow_src (P := P) w t tx ty e i z ht hi hz (some ⟨g, pre.length, none⟩) n cap xs
        (run_firstCells_some w.drew i.size n ⟨g, pre.length, none⟩ n cap xs hxl (by simpa using holds)) x m news hs (by omega) (by unfold maxLen at h63; omega) (growslice_fits_wide (by omega) hbytes)
      have hge := grownCap_ge w (n + m) cap e
      have hcm : grownCap w (n + m) cap e ≤ maxLen := grownCap_le_maxLen w (n + m) cap e h63
      refine ⟨_, _, hr, ⟨hlen, .inr ⟨w.heap.size, grownCap w (n + m) cap e, [], (Builtin.zeroCells z.cells (grownCap w (n + m) cap e - (n + m))).toList, by simp, hbase, ?_, hge, ?_, hcm⟩⟩,
        ⟨rfl, rfl, rfl, by simp, fun k hk _ => Below.heap_alloc w.drew _ k hk⟩, Or.inr rfl⟩
      · have e1 : (w.drew.alloc (.cells ((xs ++ news).toArray ++ Builtin.zeroCells z.cells (grownCap w (n + m) cap e - (n + m))) e)).heap[w.heap.size]? = _ := heap_alloc_new w.drew _
        rw [e1, List.nil_append]
        exact congrArg (fun c => some (Obj.cells c e (0, 0))) (Array.ext' (by rw [Array.toList_append]))
      · have e1 : (Builtin.zeroCells z.cells (grownCap w (n + m) cap e - (n + m))).toList.length = (grownCap w (n + m) cap e - (n + m)) * i.size := by
          rw [Array.length_toList, size_zeroCells, hzs]
        rw [e1, ← Nat.add_mul]
        exact Nat.mul_le_mul_right _ (by omega)
end Go.Proofs.YtphbaaaklgiloaaGreat.Dg

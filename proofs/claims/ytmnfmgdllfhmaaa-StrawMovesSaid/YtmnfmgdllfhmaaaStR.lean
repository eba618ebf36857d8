/- StrawMoves: who moves where a weight grows, or is taken away. -/
import Derived.Test.YtmnfmgdllfhmaaaStQ
import Derived.Test.YtmnfmgdllfhmaaaApp
namespace Go.Proofs.Ytmnfmgdllfhmaaa.Dg
open Go.RowKit
variable {w w' : World} {B g N : Nat} {vi vw : Value} {ids ws : List Int} {f : Nat → Option Nat}
theorem tdiv_rises (a v m : Int) (ha : a ≤ 0) (hv : 1 ≤ v) (hm : 0 ≤ m) : a.tdiv v ≤ a.tdiv (v + m) := by
  obtain ⟨n, rfl⟩ : ∃ n : Nat, a = -(n : Int) := ⟨(-a).toNat, by omega⟩
  obtain ⟨p, rfl⟩ : ∃ p : Nat, v = (p : Int) := ⟨v.toNat, by omega⟩
  obtain ⟨q, rfl⟩ : ∃ q : Nat, m = (q : Int) := ⟨m.toNat, by omega⟩
  rw [Int.neg_tdiv, Int.neg_tdiv, show (p : Int) + (q : Int) = ((p + q : Nat) : Int) from rfl, ← Int.ofNat_tdiv, ← Int.ofNat_tdiv]
  have := Nat.div_le_div_left (a := n) (b := p + q) (c := p) (by omega) (by omega)
  omega
theorem draw_rises (h : UInt32) (v m : Int) (hv : 1 ≤ v) (hm : 0 ≤ m) : drawI h v ≤ drawI h (v + m) := by
  unfold drawI
  rw [if_neg (by omega), if_neg (by omega)]
  exact tdiv_rises _ v m (by have := lnI_le (n32 h % 65536); omega) hv hm
theorem getD_set {l : List Int} {i j : Nat} {y : Int} (hi : i < l.length) : (l.set i y).getD j 0 = if i = j then y else l.getD j 0 := by
  rw [List.getD_eq_getElem?_getD, List.getElem?_set, List.getD_eq_getElem?_getD]
  by_cases e : i = j
  · subst e; rw [if_pos rfl, if_pos hi, if_pos rfl]; rfl
  · rw [if_neg e, if_neg e]
/-- A weight that grows. -/
theorem grows {x : UInt32} {r : Int} {i k : Nat} {m : Int} (hl : ws.length = ids.length) (hi : i < ids.length) (hm : 0 ≤ m) (h : chooseL ids ws x r = some k) :
    ∃ b, chooseL ids (ws.set i (ws.getD i 0 + m)) x r = some b ∧ (b = k ∨ b = i) := by
  unfold chooseL at h ⊢
  have hk := chz_some _ _ h
  have hset := fun j => getD_set (l := ws) (i := i) (j := j) (y := ws.getD i 0 + m) (by omega)
  cases e : chz (strawI x r ids (ws.set i (ws.getD i 0 + m))) (wtI (ws.set i (ws.getD i 0 + m))) ids.length with
  | none =>
    have := (chz_none _).1 e k hk.1
    unfold wtI at this
    rw [hset k] at this
    have hk2 : 1 ≤ ws.getD k 0 := hk.2.1
    by_cases e2 : i = k
    · subst e2; rw [if_pos rfl] at this; omega
    · rw [if_neg e2] at this; omega
  | some b =>
    refine ⟨b, rfl, ?_⟩
    by_cases e2 : b = i
    · exact .inr e2
    · left
      have hb := chz_some _ _ e
      refine Longest.uniq (d := strawI x r ids ws) (wt := wtI ws) (n := ids.length) ⟨hb.1, ?_, ?_⟩ hk
      · have := hb.2.1
        unfold wtI at this ⊢
        rw [hset b, if_neg (Ne.symm e2)] at this
        exact this
      · intro j hj hw
        have hw' : 1 ≤ ws.getD j 0 := hw
        have h3 := hb.2.2 j hj (by
          show 1 ≤ (ws.set i (ws.getD i 0 + m)).getD j 0
          rw [hset j]
          by_cases e3 : i = j
          · subst e3; rw [if_pos rfl]; omega
          · rw [if_neg e3]; exact hw')
        have eb : strawI x r ids (ws.set i (ws.getD i 0 + m)) b = strawI x r ids ws b := by
          unfold strawI; rw [hset b, if_neg (Ne.symm e2)]
        rw [eb] at h3
        have ej : strawI x r ids ws j ≤ strawI x r ids (ws.set i (ws.getD i 0 + m)) j := by
          unfold strawI
          rw [hset j]
          by_cases e3 : i = j
          · subst e3
            rw [if_pos rfl]
            exact draw_rises _ _ _ hw' hm
          · rw [if_neg e3]
            exact Int.le_refl _
        refine ⟨by omega, fun hjb => ?_⟩
        have := h3.2 hjb
        omega
/-- A weight that is taken away. -/
theorem leaves {x : UInt32} {r : Int} {i k : Nat} {y : Int} (hl : ws.length = ids.length) (hi : i < ids.length) (hy : y < 1) (hne : k ≠ i) (h : chooseL ids ws x r = some k) : chooseL ids (ws.set i y) x r = some k := by
  unfold chooseL at h ⊢
  have hk := chz_some _ _ h
  have hset := fun j => getD_set (l := ws) (i := i) (j := j) (y := y) (by omega)
  refine chz_of ⟨hk.1, ?_, fun j hj hw => ?_⟩
  · unfold wtI
    rw [hset k, if_neg (Ne.symm hne)]
    exact hk.2.1
  · have hw : 1 ≤ (ws.set i y).getD j 0 := hw
    rw [hset j] at hw
    by_cases e : i = j
    · rw [if_pos e] at hw; omega
    · rw [if_neg e] at hw
      have h3 := hk.2.2 j hj hw
      have e1 : strawI x r ids (ws.set i y) j = strawI x r ids ws j := by unfold strawI; rw [hset j, if_neg e]
      have e2 : strawI x r ids (ws.set i y) k = strawI x r ids ws k := by unfold strawI; rw [hset k, if_neg (Ne.symm hne)]
      rw [e1, e2]
      exact h3
theorem set_set_ {l : List Int} {i : Nat} {a b : Int} : (l.set i a).set i b = l.set i b := List.set_set ..
/-- Numbers as cells. -/
def i64v (x : Int) : Value := .int .i64 x
theorem src_ns {P : Program} {tx e' : TypeId} (hk : P.underlying tx = some (.slice e')) {v : Value} {l : List Int} (h : Ns w B v l) : Src P 1 tx v l.length (l.map i64v) w := by
  obtain ⟨A, c, rfl, h1, h2, h4, h3⟩ := h
  by_cases hx : l = []
  · subst hx
    cases A with
    | none => exact Src.ofNil w hk c
    | some a => exact Src.ofSlice w hk a 0 c [] rfl (fun j u hu => by simp at hu) (fun u hu => by cases hu)
  · obtain ⟨b, off, rfl, hb, hc⟩ := h3 hx
    refine Src.ofSlice w hk ⟨b, off, none⟩ l.length c (l.map i64v) (by simp) (fun j u hu => ?_) (fun u hu => by obtain ⟨y, -, rfl⟩ := List.mem_map.1 hu; rfl)
    rw [List.getElem?_map] at hu
    cases e : l[j]? with
    | none => rw [e] at hu; cases hu
    | some y =>
      rw [e] at hu
      injection hu with hu
      subst hu
      have hj := (List.getElem?_eq_some_iff.1 e).1
      rw [Addr.add_lit, hc j hj, List.getD_eq_getElem?_getD, e]
      rfl
/-- A slice of numbers of the call's own. -/
structure Nw (w : World) (g n c : Nat) (l : List Int) : Prop where
  row : ∃ cur, Bk w g 3 cur ∧ l.length = n ∧ n ≤ c ∧ c ≤ maxLen ∧ ∀ i, i < n → cur[i]? = some (.int .i64 (l.getD i 0))
  in_ : ∀ x ∈ l, -9223372036854775808 ≤ x ∧ x ≤ 9223372036854775807
theorem Nw.ns {n c : Nat} {l : List Int} (h : Nw w g n c l) : Ns w w.heap.size (.slice (some ⟨g, 0, none⟩) n c) l := by
  obtain ⟨⟨cur, h1, rfl, h3, h4, h5⟩, h6⟩ := h
  refine ⟨_, c, rfl, h3, by unfold maxLen at h4; omega, h6, fun _ => ⟨g, 0, rfl, h1.lt, fun k hk => ?_⟩⟩
  rw [Nat.zero_add]
  exact h1.cell (h5 k hk)
theorem Nw.ab {n c : Nat} {l : List Int} (h : Nw w g n c l) (hb : Ab w w') : Nw w' g n c l := by
  obtain ⟨⟨cur, h1, h2⟩, h6⟩ := h
  exact ⟨⟨cur, hb.bk h1, h2⟩, h6⟩
theorem Nw.at_ {n c i : Nat} {l : List Int} (h : Nw w g n c l) (hi : i < n) : w.cell? ⟨g, i, none⟩ = some (.int .i64 (l.getD i 0)) ∧ w.frozen? ⟨g, i, none⟩ = false := by
  obtain ⟨⟨cur, h1, -, -, -, h5⟩, -⟩ := h
  exact ⟨h1.cell (h5 i hi), h1.free i⟩
theorem Nw.set {n c i : Nat} {l : List Int} {y : Int} (h : Nw w g n c l) (hi : i < n) (hy : -9223372036854775808 ≤ y ∧ y ≤ 9223372036854775807) : Nw (w.setCell ⟨g, i, none⟩ (.int .i64 y)) g n c (l.set i y) := by
  obtain ⟨⟨cur, h1, h2, h3, h4, h5⟩, h6⟩ := h
  refine ⟨⟨_, h1.store i _, by rw [List.length_set]; exact h2, h3, h4, fun j hj => ?_⟩, fun x hx => ?_⟩
  · rw [getD_set (by omega)]
    by_cases e : i = j
    · subst e
      rw [if_pos rfl]
      refine set_eq ?_
      have := h5 i hi
      exact (Array.getElem?_eq_some_iff.1 this).1
    · rw [if_neg e]
      exact set_ne e (h5 j hj)
  · rcases List.mem_or_eq_of_mem_set hx with h | h
    · exact h6 x h
    · subst h; exact hy
theorem Nw.of {W : World} {v : Value} {n : Nat} {l : List Int} (h : w.ownsRow W.heap.size 3 1 v n (l.map i64v)) (hn : 0 < n) (hin : ∀ x ∈ l, -9223372036854775808 ≤ x ∧ x ≤ 9223372036854775807) :
    ∃ g c, v = .slice (some ⟨g, 0, none⟩) n c ∧ W.heap.size ≤ g ∧ Nw w g n c l := by
  have hlen : l.length = n := by have := h.1; simpa using this
  rcases h.2 with ⟨-, h0⟩ | ⟨g, cap, cur, rfl, hb, hg, h1, h2, h3, h4⟩
  · omega
  · refine ⟨g, cap, rfl, hb, ⟨cur, hg, hlen, h1, h2, fun i hi => ?_⟩, hin⟩
    have e : (cur.toList.take (n * 1))[i]? = (l.map i64v)[i]? := by rw [h4]
    rw [List.getElem?_take_of_lt (by omega), Array.getElem?_toList, List.getElem?_map, List.getElem?_eq_getElem (by omega)] at e
    rw [e, List.getD_eq_getElem?_getD, List.getElem?_eq_getElem (by omega)]
    rfl
/-- append([]int{}, l...): a row of the call's own. -/
theorem app_ns {l : List Int} {n c : Nat} {A : Option Addr} (h : Ns w B (.slice A n c) l) (hB : B ≤ w.heap.size) (hn : 0 < n) (h47 : n ≤ 17592186043904) :
    ∃ g c' w', (Builtin.append_ #[28, 28] 28 #[.slice (some ⟨w.heap.size, 0, none⟩) 0 0, .slice A n c]).run Try.prog (w.alloc (.cells #[] 3)) = .ok (.slice (some ⟨g, 0, none⟩) n c') w' ∧ w.heap.size ≤ g ∧ Nw w' g n c' l ∧ Ab w w' := by
  have hl := h.get
  have hab : Ab w (w.alloc (.cells #[] 3)) := (Ab.refl w).alloc _
  have hin : ∀ x ∈ l, -9223372036854775808 ≤ x ∧ x ≤ 9223372036854775807 := by obtain ⟨A', c', -, -, -, h4, -⟩ := h; exact h4
  obtain ⟨i0, hi, hz0, hz1, hz2⟩ := info_parts infoInt
  have hown : (w.alloc (.cells #[] 3)).ownsRow w.heap.size 3 1 (.slice (some ⟨w.heap.size, 0, none⟩) 0 0) 0 [] :=
    ⟨rfl, .inr ⟨w.heap.size, 0, #[], rfl, Nat.le_refl _, heap_alloc_new w _, Nat.le_refl _, by simp [maxLen], rfl, rfl⟩⟩
  obtain ⟨v', w', hr, ho, hg, hb⟩ := app_own (P := Try.prog) (ty := 28) (w.alloc (.cells #[] 3)) w.heap.size 28 28 3 i0 (.int .i64 0) 1 8 Try.underlying28 hi hz0 hz1 hz2 rfl hown
    (src_ns Try.underlying28 (h.ab hab hB)) (by unfold maxLen; omega) (by omega) hab.size
  rw [List.nil_append, Nat.zero_add, ← hl] at ho
  obtain ⟨g, c', rfl, hge, hnw⟩ := Nw.of ho hn hin
  refine ⟨g, c', w', hr, hge, hnw, ?_⟩
  exact ⟨hg.1.trans hab.1, hg.2.trans hab.2, hg.3.trans hab.3, Nat.le_trans hab.size hg.4, fun k hk => (hg.5 k (by simp; omega) (by simp [Value.ownBlock]; omega)).trans (Below.block hab k hk)⟩
end Go.Proofs.Ytmnfmgdllfhmaaa.Dg

/- wire: a list that is read, item by item. -/
import Derived.Test.YtphbaaaklgiloaaGreatWrV
import Derived.Test.YtphbaaaklgiloaaGreatOgA
import Derived.Deep.AppendSrc
import Derived.Deep.RegionLaw
import Derived.Deep.DrawnRows
namespace Go.Proofs.YtphbaaaklgiloaaGreat.Dg
open Go.RowKit
variable {w w1 w2 w3 w' wr wx : World} {base cb B b o n j : Nat} {v u : Value} {l m rest : List UInt8} {T E : TypeId} {cs : Array Value} {s : Sch} {ms : List (List UInt8)} {xs : List Value}
/-- A block of one element, as what is appended. -/
theorem src_row {TS T' : TypeId} {g sz : Nat} {zs : List Value} (hk : Tryz.prog.underlying TS = some (.slice T')) (hz : zs.length = sz) (h1 : ∀ u ∈ zs, u.oneCell' = true) {t : TypeId} (h : Bk w g t zs.toArray) :
    Src Tryz.prog sz TS (.slice (some ⟨g, 0, none⟩) 1 1) 1 zs w :=
  Src.ofSlice _ hk ⟨g, 0, none⟩ 1 1 _ (by rw [hz, Nat.one_mul]) (fun j u hu => by rw [Addr.add_lit, Nat.zero_add]; exact h.cell (by simpa using hu)) h1
theorem rd_info {i : Option TypeInfo} {z : Value} {zs by_ : Nat} (h : i.map (fun i => (i.zero, i.size, i.bytes)) = some (some z, zs, by_)) : ∃ j, i = some j ∧ j.zero = some z ∧ j.size = zs ∧ j.bytes = by_ := by
  cases i with
  | none => cases h
  | some j => simp only [Option.map_some, Option.some.injEq, Prod.mk.injEq] at h; exact ⟨j, rfl, h.1, h.2.1, h.2.2⟩
theorem wpList_rd {ops : Array Oper} {rest : List Oper} {o : Oper} {ac : Act} {Q : Exit → Act → World → Prop} {TS T' : TypeId} {z : Value} {zs by_ : Nat} (hgd : o.guard = none) (sl x : Operand)
    (ho : o.op = .call { callee := .builtin .append, args := #[sl, x], argTypes := #[TS, TS] }) (v y : Value) (hs : ac.eval sl = v) (hx : ac.eval x = y)
    (hk : Tryz.prog.underlying TS = some (.slice T')) (hinfo : (Tryz.prog.info? T').map (fun i => (i.zero, i.size, i.bytes)) = some (some z, zs, by_)) (hz : z.cells.size = zs)
    (base n : Nat) (xs : List Value) (m : Nat) (news : List Value) (h : Og T' zs w base v n xs) (hsrc : Src Tryz.prog zs TS y m news w) (hlen : n + m ≤ 100000001 ∧ by_ ≤ 1000) (hbase : base ≤ w.heap.size)
    (k : ∀ A c w', Og T' zs w' base (.slice A (n + m) c) (n + m) (xs ++ news) → w.grownBy w' v.ownBlock → (Value.ownBlock (.slice A (n + m) c) = v.ownBlock ∨ Value.ownBlock (.slice A (n + m) c) = some w.heap.size) → wpList Tryz.prog ops Q rest (ac.put o.dst (.slice A (n + m) c)) w') : wpList Tryz.prog ops Q (o :: rest) ac w := by
  obtain ⟨i0, hi, hz0, hz1, hz2⟩ := rd_info hinfo
  have hb : (n + m + (n + m) / 4 + 192) * by_ ≤ 200000000 * 1000 := Nat.mul_le_mul (by omega) hlen.2
  obtain ⟨v', w', hr, h1, h2, h3⟩ := og_app (P := Tryz.prog) w base TS TS o.type T' i0 _ zs by_ hk hi hz0 hz1 hz2 hz h hsrc (by unfold maxLen; omega) (by omega) hbase
  obtain ⟨A, c, rfl, -, -⟩ := h1.len_cap
  exact wpList_app (P := Tryz.prog) w hgd sl x TS TS ho v y hs hx hr (k A c w' h1 h2 h3)
theorem lay_rd {ops : Array Oper} {o : Oper} {ac : Act} {K : Act → World → Prop} {Q : Exit → Act → World → Prop} {X : Prop} {TS T' : TypeId} {z : Value} {zs by_ : Nat} (hw : Region.wanted o (yielded ops ac.tmps) = true) (sl x : Operand)
    (ho : o.op = .call { callee := .builtin .append, args := #[sl, x], argTypes := #[TS, TS] }) (v y : Value) (hs : ac.eval sl = v) (hx : ac.eval x = y)
    (hk : Tryz.prog.underlying TS = some (.slice T')) (hinfo : (Tryz.prog.info? T').map (fun i => (i.zero, i.size, i.bytes)) = some (some z, zs, by_)) (hz : z.cells.size = zs)
    (base n : Nat) (xs : List Value) (m : Nat) (news : List Value) (h : Og T' zs w base v n xs) (hsrc : Src Tryz.prog zs TS y m news w) (hlen : n + m ≤ 100000001 ∧ by_ ≤ 1000) (hbase : base ≤ w.heap.size)
    (k : ∀ A c w', Og T' zs w' base (.slice A (n + m) c) (n + m) (xs ++ news) → w.grownBy w' v.ownBlock → (Value.ownBlock (.slice A (n + m) c) = v.ownBlock ∨ Value.ownBlock (.slice A (n + m) c) = some w.heap.size) → K (ac.put o.dst (.slice A (n + m) c)) w') : if Region.wanted o (yielded ops ac.tmps) = true then Oper.wp Tryz.prog o ac w K Q else X := by
  rw [if_pos hw]
  obtain ⟨i0, hi, hz0, hz1, hz2⟩ := rd_info hinfo
  have hb : (n + m + (n + m) / 4 + 192) * by_ ≤ 200000000 * 1000 := Nat.mul_le_mul (by omega) hlen.2
  obtain ⟨v', w', hr, h1, h2, h3⟩ := og_app (P := Tryz.prog) w base TS TS o.type T' i0 _ zs by_ hk hi hz0 hz1 hz2 hz h hsrc (by unfold maxLen; omega) (by omega) hbase
  obtain ⟨A, c, rfl, -, -⟩ := h1.len_cap
  unfold Oper.wp execOp
  simp only [ho, resolve, invoke, builtin, Sem.run_bind, Sem.run_pure, Result.andThen_ok, List.map_toArray, List.map_cons, List.map_nil, hs, hx, hr]
  exact k A c w' h1 h2 h3
/-- The first j items were read; the row has r elements. -/
structure Lr (s : Sch) (E : TypeId) (b o : Nat) (T : TypeId) (cs : Array Value) (ms : List (List UInt8)) (rest : List UInt8) (w : World) (cb base : Nat) (j r : Nat) (u : Value) (xs : List Value) (wr : World) : Prop where
  cr : ∃ v', Cr wr cb base v' ((ms.drop j).flatten ++ rest)
  bk : ∃ cs', Bk wr b T cs' ∧ cs'.size = cs.size ∧ (∀ k, k ≠ o → cs'[k]? = cs[k]?) ∧ cs'[o]? = some u
  og : Og E s.sz wr w.heap.size u r xs
  mv : Mv (fun k => k = cb ∨ k = b) w wr
  enc : ∀ i, i < j → EncP wr (fun k => w.heap.size ≤ k ∧ k < wr.heap.size ∧ u.ownBlock ≠ some k) s (fun k => xs[i * s.sz + k]?) (ms.getD i [])
  le : j ≤ r
theorem Lr.start {v' : Value} (hc : Cr w1 cb base v' (ms.flatten ++ rest)) (hb : Bk w b T cs) (hm : Mv (· = cb) w w1) (hne : b ≠ cb) (ho : cs[o]? = some (.slice none 0 0)) : Lr s E b o T cs ms rest w cb base 0 0 (.slice none 0 0) [] w1 :=
  ⟨⟨v', by simpa using hc⟩, ⟨cs, hm.bk hb hne, rfl, fun _ _ => rfl, ho⟩, Og.nil _ _ _ _, hm.mono (fun _ _ e => .inl e), fun i hi => absurd hi (Nat.not_lt_zero i), Nat.le_refl _⟩
theorem Lr.cell (h : Lr s E b o T cs ms rest w cb base j n u xs wr) : wr.cell? ⟨b, o, none⟩ = some u := by
  obtain ⟨cs', h1, -, -, h2⟩ := h.bk
  exact h1.cell h2
theorem Lr.free (h : Lr s E b o T cs ms rest w cb base j n u xs wr) : wr.frozen? ⟨b, o, none⟩ = false := by
  obtain ⟨cs', h1, -⟩ := h.bk
  exact h1.free o
theorem Lr.ab (h : Lr s E b o T cs ms rest w cb base j n u xs wr) (ha : Ab wr wx) : Lr s E b o T cs ms rest w cb base j n u xs wx := by
  obtain ⟨v', h1⟩ := h.cr
  obtain ⟨cs', h2, h3⟩ := h.bk
  exact ⟨⟨v', h1.ab ha⟩, ⟨cs', ha.bk h2, h3⟩, h.og.ab ha, h.mv.trans (Mv.of_ab ha), fun i hi => EncP.congr (fun k hk => ⟨⟨hk.1, Nat.lt_of_lt_of_le hk.2.1 ha.size, hk.2.2⟩, fun o' => ha.cells k o' hk.2.1⟩) _ _ _ _ (fun _ _ => rfl) (h.enc i hi), h.le⟩
/-- An element of noughts comes behind. -/
theorem Lr.app {A : Option Addr} {c : Nat} (h : Lr s E b o T cs ms rest w cb base j n u xs wr) (hcb : cb < w.heap.size) (hbw : b < w.heap.size) (hne : b ≠ cb) (hle : base ≤ b)
    (ho : Og E s.sz w2 w.heap.size (.slice A (n + 1) c) (n + 1) (xs ++ Zc s)) (hg : wr.grownBy w2 u.ownBlock) (hn : Value.ownBlock (.slice A (n + 1) c) = u.ownBlock ∨ Value.ownBlock (.slice A (n + 1) c) = some wr.heap.size) :
    Lr s E b o T cs ms rest w cb base j (n + 1) (.slice A (n + 1) c) (xs ++ Zc s) (w2.setCell ⟨b, o, none⟩ (.slice A (n + 1) c)) := by
  obtain ⟨v', h1⟩ := h.cr
  obtain ⟨cs', h2, h3, h4, h5⟩ := h.bk
  have hu := h.og.blk
  have hsz := h.mv.size
  have hg2 := hg.size
  have hm : Mv (fun k => u.ownBlock = some k) wr w2 := (Mv.refl _ _).grown hg (fun k e => .inl e)
  have hob : o < cs'.size := (Array.getElem?_eq_some_iff.1 h5).1
  have hown : ∀ k, Value.ownBlock (.slice A (n + 1) c) = some k → w.heap.size ≤ k := fun k hk => by
    rcases hn with e | e
    · rw [e] at hk; exact (hu k hk).1
    · rw [e] at hk; injection hk with hk; omega
  have hb2 : Bk w2 b T cs' := hm.bk h2 (fun e => by have := (hu b e).1; omega)
  have hc2 : Cr w2 cb base v' ((ms.drop j).flatten ++ rest) := h1.mv hm (fun e => by have := (hu cb e).1; omega) (fun k e => by have := (hu k e).1; have := h1.le; omega)
  have hset : Mv (· = b) w2 (w2.setCell ⟨b, o, none⟩ (.slice A (n + 1) c)) := Mv.set (S := (· = b)) (p := ⟨b, o, none⟩) (Mv.refl _ w2) rfl _
  refine ⟨⟨v', hc2.mv hset (fun e => hne e.symm) (fun k e => by subst e; exact hle)⟩, ⟨_, hb2.store o _, by simpa using h3, fun k hk => ?_, Array.getElem?_setIfInBounds_self_of_lt hob⟩, ho.mv hset (fun k hk e => by subst e; have := hown k hk; omega), (h.mv.grown hg (fun k e => .inr (hu k e).1)).set (p := ⟨b, o, none⟩) (.inr rfl) _, fun i hi => ?_, Nat.le_succ_of_le h.le⟩
  · rw [Array.getElem?_setIfInBounds, if_neg (fun e => hk e.symm)]
    exact h4 k hk
  · have hin := h.le
    have hlen := h.og.1
    have hF : ∀ k, (w.heap.size ≤ k ∧ k < wr.heap.size ∧ u.ownBlock ≠ some k) → (w.heap.size ≤ k ∧ k < (w2.setCell ⟨b, o, none⟩ (.slice A (n + 1) c)).heap.size ∧ Value.ownBlock (.slice A (n + 1) c) ≠ some k) ∧ ∀ o', (w2.setCell ⟨b, o, none⟩ (.slice A (n + 1) c)).cell? ⟨k, o', none⟩ = wr.cell? ⟨k, o', none⟩ := fun k hk => by
      refine ⟨⟨hk.1, by have := hset.size; omega, fun e => ?_⟩, fun o' => ?_⟩
      · rcases hn with e2 | e2
        · rw [e2] at e; exact hk.2.2 e
        · rw [e2] at e; injection e with e; omega
      · exact World.cell?_of_block (a := ⟨k, o', none⟩) ((hset.block k (by omega) (fun e => by omega)).trans (hm.block k hk.2.1 hk.2.2))
    have hf : ∀ k, k < s.sz → (xs ++ Zc s)[i * s.sz + k]? = xs[i * s.sz + k]? := fun k hk => by
      have h1 : i * s.sz + k < xs.length := by
        have := Nat.mul_le_mul_right s.sz (show i + 1 ≤ n by omega)
        rw [Nat.add_mul, Nat.one_mul] at this
        omega
      exact List.getElem?_append_left h1
    exact EncP.congr hF s _ _ _ hf (h.enc i hi)
theorem cells_split {L P Z Q : List Value} (hlen : L.length = (P ++ Z ++ Q).length) (hout : ∀ k, k < P.length ∨ P.length + Z.length ≤ k → L[k]? = (P ++ Z ++ Q)[k]?) : ∃ Y, Y.length = Z.length ∧ L = P ++ Y ++ Q := by
  refine ⟨(L.drop P.length).take Z.length, ?_, ?_⟩
  · rw [List.length_take, List.length_drop, hlen]
    simp only [List.length_append]
    omega
  · simp only [List.length_append] at hlen
    apply List.ext_getElem?
    intro k
    by_cases h1 : k < P.length
    · rw [hout k (.inl h1), List.append_assoc, List.append_assoc, List.getElem?_append_left h1, List.getElem?_append_left h1]
    by_cases h2 : k < P.length + Z.length
    · rw [List.append_assoc, List.getElem?_append_right (by omega), List.getElem?_append_left (by rw [List.length_take, List.length_drop]; omega), List.getElem?_take_of_lt (by omega), List.getElem?_drop]
      congr 1
      omega
    · have e1 : (P ++ Z).length = P.length + Z.length := by rw [List.length_append]
      have e2 : (P ++ (L.drop P.length).take Z.length).length = P.length + Z.length := by rw [List.length_append, List.length_take, List.length_drop]; omega
      rw [hout k (.inr (by omega)), List.getElem?_append_right (by omega), List.getElem?_append_right (by omega), e1, e2]
/-- Where the item lies that comes next. -/
theorem Lr.next {A : Option Addr} {c : Nat} (h : Lr s E b o T cs ms rest w cb base j (j + 1) (.slice A (j + 1) c) (xs ++ Zc s) wr) (hxs : xs.length = j * s.sz) : ∃ g off cs', A = some ⟨g, off, none⟩ ∧ j + 1 ≤ c ∧ c ≤ 9223372036854775807 ∧ Bk wr g E cs' ∧ w.heap.size ≤ g ∧
    (∀ k, k < s.sz → cs'[off + j * s.sz + k]? = (Zc s)[k]?) := by
  rcases h.og.2 with ⟨e, e2⟩ | ⟨g, cap, pre, post, hv, hb, hg, hn, hs, hm⟩
  · omega
  · injection hv with ha hn' hc
    subst ha; subst hc
    refine ⟨g, pre.length, _, rfl, hn, by unfold maxLen at hm; omega, hg, hb, fun k hk => ?_⟩
    have hz := Zc_length s
    rw [List.getElem?_toArray, List.append_assoc, List.append_assoc, List.getElem?_append_right (by omega), show pre.length + j * s.sz + k - pre.length = xs.length + k by omega, List.getElem?_append_right (by omega), Nat.add_sub_cancel_left, List.getElem?_append_left (by omega)]
/-- An item was read into its place. -/
theorem Lr.item {g off : Nat} {c : Nat} {cs' : Array Value} {e : Ending} (h : Lr s E b o T cs ms rest w cb base j (j + 1) (.slice (some ⟨g, off, none⟩) (j + 1) c) (xs ++ Zc s) wr) (hxs : xs.length = j * s.sz) (hcb : cb < w.heap.size) (hbw : b < w.heap.size) (hne : b ≠ cb) (hbk : Bk wr g E cs')
    (hjm : j < ms.length) (hp : RdPost s g (off + j * s.sz) E cs' (ms.getD j []) ((ms.drop (j + 1)).flatten ++ rest) wr cb base e w3) : e = .returned (.tuple #[]) ∧ ∃ ys, Lr s E b o T cs ms rest w cb base (j + 1) (j + 1) (.slice (some ⟨g, off, none⟩) (j + 1) c) ys w3 ∧ ys.length = (j + 1) * s.sz := by
  obtain ⟨he, v2, cs2, h1, h2, h3, h4, h5, h6⟩ := hp
  obtain ⟨cs1, k1, k2, k3, k4⟩ := h.bk
  have hog := h.og
  have hgl : w.heap.size ≤ g ∧ g < wr.heap.size := hog.blk g rfl
  have hs5 := h5.size
  have hmv := h.mv.size
  rcases hog.2 with ⟨e0, -⟩ | ⟨g', cap, pre, post, hv, hb, hg, hn, hs, hm⟩
  · cases e0
  · injection hv with ha hn' hc
    injection ha with ha
    injection ha with ha1 ha2
    subst ha1; subst ha2; subst hc
    have hz := Zc_length s
    obtain rfl : cs' = (pre ++ (xs ++ Zc s) ++ post).toArray := by
      unfold Bk at hbk
      rw [hg] at hbk
      injection hbk with hbk
      injection hbk with hbk
      exact hbk.symm
    obtain ⟨Y, hY, hL⟩ := cells_split (L := cs2.toList) (P := pre ++ xs) (Z := Zc s) (Q := post) (by rw [Array.length_toList, h3, List.size_toArray]; simp only [List.length_append]; omega)
      (fun k hk => by
        rw [List.length_append] at hk
        have := h4 k (by omega)
        rw [← Array.getElem?_toList, ← Array.getElem?_toList] at this
        rw [this]
        simp only [List.append_assoc])
    have hcs2 : cs2 = (pre ++ (xs ++ Y) ++ post).toArray := Array.ext' (by rw [hL]; simp only [List.append_assoc])
    have hyl : (xs ++ Y).length = (j + 1) * s.sz := by rw [List.length_append, hY, hz, hxs, Nat.add_mul, Nat.one_mul]
    have hmv3 : Mv (fun k => k = cb ∨ k = b) w w3 := ⟨h5.os.trans h.mv.os, h5.tape.trans h.mv.tape, h5.output.trans h.mv.output, by omega, fun k hk hS => (h5.block k (by omega) (fun e => by
      rcases e with e | e
      · exact hS (.inl e)
      · omega)).trans (h.mv.block k hk hS)⟩
    have hb3 : Bk w3 b T cs1 := h5.bk k1 (fun e => by
      rcases e with e | e
      · exact hne e
      · omega)
    have hF : ∀ k, (w.heap.size ≤ k ∧ k < wr.heap.size ∧ Value.ownBlock (.slice (some ⟨g, pre.length, none⟩) (j + 1) c) ≠ some k) → (w.heap.size ≤ k ∧ k < w3.heap.size ∧ Value.ownBlock (.slice (some ⟨g, pre.length, none⟩) (j + 1) c) ≠ some k) ∧ ∀ o', w3.cell? ⟨k, o', none⟩ = wr.cell? ⟨k, o', none⟩ := fun k hk => by
      refine ⟨⟨hk.1, by omega, hk.2.2⟩, fun o' => World.cell?_of_block (a := ⟨k, o', none⟩) (h5.block k hk.2.1 (fun e => ?_))⟩
      rcases e with e | e
      · omega
      · exact hk.2.2 (by rw [e]; rfl)
    have hlow : ∀ i, i < j → ∀ k, k < s.sz → i * s.sz + k < xs.length := fun i hi k hk => by
      have := Nat.mul_le_mul_right s.sz (show i + 1 ≤ j by omega)
      rw [Nat.add_mul, Nat.one_mul] at this
      omega
    refine ⟨he, xs ++ Y, ⟨⟨v2, h1⟩, ⟨cs1, hb3, k2, k3, k4⟩, ⟨hyl, .inr ⟨g, c, pre, post, rfl, hb, by rw [← hcs2]; exact h2, hn, hs, hm⟩⟩, hmv3, fun i hi => ?_, Nat.le_refl _⟩, hyl⟩
    by_cases hij : i < j
    · exact EncP.congr hF s _ _ _ (fun k hk => by
        rw [List.getElem?_append_left (hlow i hij k hk), List.getElem?_append_left (hlow i hij k hk)]) (h.enc i hij)
    · obtain rfl : i = j := by omega
      have hF2 : ∀ k, (wr.heap.size ≤ k ∧ k < w3.heap.size) → (w.heap.size ≤ k ∧ k < w3.heap.size ∧ Value.ownBlock (.slice (some ⟨g, pre.length, none⟩) (i + 1) c) ≠ some k) ∧ ∀ o', w3.cell? ⟨k, o', none⟩ = w3.cell? ⟨k, o', none⟩ := fun k hk => by
        refine ⟨⟨by omega, hk.2, fun e => ?_⟩, fun _ => rfl⟩
        have e2 : g = k := by simpa [Value.ownBlock] using e
        omega
      have hf2 : ∀ k, k < s.sz → (xs ++ Y)[i * s.sz + k]? = cs2[pre.length + i * s.sz + k]? := fun k hk => by
        rw [hcs2, List.getElem?_toArray, List.append_assoc pre, List.getElem?_append_right (by omega), List.append_assoc xs, List.getElem?_append_right (by omega), List.getElem?_append_right (by omega), show pre.length + i * s.sz + k - pre.length - xs.length = k by omega, show i * s.sz + k - xs.length = k by omega, List.getElem?_append_left (by omega)]
      exact EncP.congr hF2 s _ _ _ hf2 h6
/-- All items were read. -/
theorem Lr.done {A : Option Addr} {c : Nat} (h : Lr s E b o T cs ms rest w cb base n n (.slice A n c) xs wr) (hn : ms.length = n) : RdPost (.list s) b o T cs (lowL n 4 ++ ms.flatten) rest w cb base (.returned (.tuple #[])) wr := by
  obtain ⟨v', h1⟩ := h.cr
  obtain ⟨cs', h2, h3, h4, h5⟩ := h.bk
  obtain ⟨A', c', hv, hc1, hc2⟩ := h.og.len_cap
  injection hv with hA _ hC
  subst hA; subst hC
  rw [List.drop_of_length_le (by omega), List.flatten_nil, List.nil_append] at h1
  refine ⟨rfl, v', cs', h1, h2, h3, fun k hk => h4 k (by simp only [Sch.sz] at hk; omega), h.mv, A, n, c, ms, h5, hc1, by unfold maxLen at hc2; omega, hn, fun hn0 => ?_, rfl⟩
  obtain ⟨g, off, cap, hv, hb, hlt, -, -, -, hcell⟩ := h.og.form hn0
  injection hv with hA _ _
  subst hA
  refine ⟨g, off, rfl, ⟨hb, hlt⟩, fun i hi => EncP.congr (fun k hk => ⟨⟨hk.1, hk.2.1⟩, fun _ => rfl⟩) s _ _ _ (fun k hk => ?_) (h.enc i hi)⟩
  have hlt2 : i * s.sz + k < xs.length := by
    have := Nat.mul_le_mul_right s.sz (show i + 1 ≤ n by omega)
    rw [Nat.add_mul, Nat.one_mul] at this
    have := h.og.1
    omega
  rw [Nat.add_assoc, hcell (i * s.sz + k) xs[i * s.sz + k] (List.getElem?_eq_getElem hlt2), List.getElem?_eq_getElem hlt2]
/-- A list's function, handed the function of its items, reading. -/
def Rdl (f g : Nat) (s : Sch) : Prop := ∀ (b o : Nat) (T : TypeId) (cs : Array Value) (m rest : List UInt8) (w : World) (cb base : Nat) (v : Value), Par (.list s) m → Cr w cb base v (m ++ rest) → Bk w b T cs → b ≠ cb → base ≤ b →
  (∀ k, k < 1 → cs[o + k]? = (Zc (.list s))[k]?) → m.length ≤ 100000000 →
  Calls Tryz.prog f #[.pointer (some ⟨cb, 0, none⟩), .pointer (some ⟨b, o, none⟩), .func (.func g) #[] #[]] w (RdPost (.list s) b o T cs m rest w cb base)
end Go.Proofs.YtphbaaaklgiloaaGreat.Dg

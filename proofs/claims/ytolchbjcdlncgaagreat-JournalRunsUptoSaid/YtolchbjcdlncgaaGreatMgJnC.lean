/- Texts joined: JnC JnD. -/
import Derived.Test.YtolchbjcdlncgaaGreatMgJnB
import Derived.Test.YtolchbjcdlncgaaGreatMgOgA
/- The row of spans as the journal owns it. -/
namespace Go.Proofs.YtolchbjcdlncgaaGreat.Dg
open Go.RowKit
variable {w w' : World} {base B a : Nat} {v : Value} {rs : List (List UInt8)}
def spanV (a : Nat) (r : List UInt8) : List Value := [.int .i64 (a : Int), .int .i64 ((a + 8 : Nat) : Int), .int .i64 ((a + 8 + r.length : Nat) : Int)]
def rowV : Nat → List (List UInt8) → List Value
  | _, [] => []
  | a, r :: rs => spanV a r ++ rowV (a + 8 + r.length) rs
theorem rowV_length : ∀ (a : Nat) (rs : List (List UInt8)), (rowV a rs).length = rs.length * 3
  | _, [] => rfl
  | a, r :: rs => by rw [rowV, List.length_append, rowV_length, List.length_cons]; simp [spanV]; omega
theorem rowV_append : ∀ (a : Nat) (rs qs : List (List UInt8)), rowV a (rs ++ qs) = rowV a rs ++ rowV (a + sizeL rs) qs
  | a, [], qs => by simp [rowV, sizeL]
  | a, r :: rs, qs => by rw [List.cons_append, rowV, rowV_append, rowV, List.append_assoc, sizeL, show a + 8 + r.length + sizeL rs = a + (8 + r.length + sizeL rs) by omega]
theorem rowV_drop (a : Nat) (rs : List (List UInt8)) (k : Nat) (hk : k ≤ rs.length) : (rowV a rs).drop (k * 3) = rowV (plc a rs k) (rs.drop k) := by
  have e := rowV_append a (rs.take k) (rs.drop k)
  rw [List.take_append_drop] at e
  have hl : (rowV a (rs.take k)).length = k * 3 := by rw [rowV_length, List.length_take, Nat.min_eq_left hk]
  rw [e, ← hl, List.drop_left]
  rfl
theorem rowV_get (a : Nat) (rs : List (List UInt8)) (k : Nat) (h : k < rs.length) :
    (rowV a rs)[k * 3]? = some (.int .i64 ((plc a rs k : Nat) : Int)) ∧ (rowV a rs)[k * 3 + 1]? = some (.int .i64 ((plc a rs k + 8 : Nat) : Int)) ∧ (rowV a rs)[k * 3 + 2]? = some (.int .i64 ((plc a rs k + 8 + rs[k].length : Nat) : Int)) := by
  have e := rowV_drop a rs k (by omega)
  rw [List.drop_eq_getElem_cons h, rowV] at e
  have g : ∀ j, (rowV a rs)[k * 3 + j]? = (spanV (plc a rs k) rs[k] ++ rowV (plc a rs k + 8 + rs[k].length) (rs.drop (k + 1)))[j]? := fun j => by rw [← e, List.getElem?_drop]
  exact ⟨g 0, g 1, g 2⟩
/-- The journal's row. -/
def Rw (w : World) (base : Nat) (v : Value) (a : Nat) (rs : List (List UInt8)) : Prop := Og 94 3 w base v rs.length (rowV a rs)
theorem Rw.sr (h : Rw w base v a rs) : Sr w w.heap.size v a rs := by
  obtain ⟨A, c, hv, h1, h2⟩ := h.len_cap
  refine ⟨A, c, hv, h1, by unfold maxLen at h2; exact h2, fun hn => ?_⟩
  obtain ⟨g, off, cap, hv2, _, hlt, _, _, _, hc⟩ := h.form (by simpa using hn)
  rw [hv] at hv2
  injection hv2 with ha _ _
  subst ha
  exact ⟨g, off, rfl, hlt, fun k hk => ⟨hc _ _ (rowV_get a rs k hk).1, hc _ _ (rowV_get a rs k hk).2.1, hc _ _ (rowV_get a rs k hk).2.2⟩⟩
theorem Rw.nil (w : World) (base a : Nat) : Rw w base (.slice none 0 0) a [] := Og.nil _ _ _ _
theorem Rw.cut {A : Option Addr} {n c : Nat} (h : Rw w base (.slice A n c) a rs) (k : Nat) (hk : k ≤ rs.length) : Rw w base (.slice (winS 3 A c k) (n - k) (c - k)) (plc a rs k) (rs.drop k) := by
  obtain ⟨A', c', hv, -, -⟩ := h.len_cap
  injection hv with ha hn hc
  subst ha; subst hn; subst hc
  have := Og.cut h k hk
  rw [rowV_drop a rs k hk] at this
  unfold Rw
  rw [List.length_drop]
  exact this
theorem infoSpan : (Tryz.prog.info? 94).map (fun i => (i.zero, i.size, i.bytes)) = some (some (.agg #[.int .i64 0, .int .i64 0, .int .i64 0]), 3, 24) := by kernel_rfl
/-- A span in a block of its own. -/
theorem src_span {g : Nat} {r : List UInt8} (b : Nat) (h0 : w.cell? ⟨g, 0, none⟩ = some (.int .i64 (b : Int))) (h1 : w.cell? ⟨g, 1, none⟩ = some (.int .i64 ((b + 8 : Nat) : Int))) (h2 : w.cell? ⟨g, 2, none⟩ = some (.int .i64 ((b + 8 + r.length : Nat) : Int))) (c : Nat) :
    Src Tryz.prog 3 57 (.slice (some ⟨g, 0, none⟩) 1 c) 1 (spanV b r) w := by
  refine Src.ofSlice w Tryz.underlying57 ⟨g, 0, none⟩ 1 c (spanV b r) rfl (fun j u hu => ?_) (fun u hu => ?_)
  · rw [Addr.add_lit, Nat.zero_add]
    match j with
    | 0 => injection hu with hu; rw [← hu]; exact h0
    | 1 => injection hu with hu; rw [← hu]; exact h1
    | 2 => injection hu with hu; rw [← hu]; exact h2
    | j + 3 => cases hu
  · simp only [spanV, List.mem_cons, List.not_mem_nil, or_false] at hu
    rcases hu with rfl | rfl | rfl <;> rfl
/-- append of a record's span. -/
theorem app_rw {ty : TypeId} {x : Value} {r : List UInt8} (h : Rw w base v a rs) (hs : Src Tryz.prog 3 57 x 1 (spanV (a + sizeL rs) r) w) (hlen : rs.length ≤ 1000000000000) (hbase : base ≤ w.heap.size) :
    ∃ v' w', (Builtin.append_ #[57, 57] ty #[v, x]).run Tryz.prog w = .ok v' w' ∧ Rw w' base v' a (rs ++ [r]) ∧ w.grownBy w' v.ownBlock ∧ (v'.ownBlock = v.ownBlock ∨ v'.ownBlock = some w.heap.size) := by
  obtain ⟨i0, hi, hz0, hz1, hz2⟩ := info_parts infoSpan
  obtain ⟨v', w', hr, ho, hg, hb⟩ := og_app (P := Tryz.prog) w base 57 57 ty 94 i0 _ 3 24 Tryz.underlying57 hi hz0 hz1 hz2 rfl h hs (by unfold maxLen; omega) (by omega) hbase
  refine ⟨v', w', hr, ?_, hg, hb⟩
  unfold Rw
  rw [List.length_append, rowV_append]
  have e : rowV (a + sizeL rs) [r] = spanV (a + sizeL rs) r := by simp [rowV]
  rw [e]
  exact ho
/-- .. at a plain region's list. -/
theorem wpList_rw {ops : Array Oper} {rest : List Oper} {o : Oper} {ac : Act} {Q : Exit → Act → World → Prop} (hgd : o.guard = none) (s x : Operand)
    (ho : o.op = .call { callee := .builtin .append, args := #[s, x], argTypes := #[57, 57] }) (v u : Value) (hs : ac.eval s = v) (hx : ac.eval x = u)
    (base a : Nat) (rs : List (List UInt8)) (r : List UInt8) (h : Rw w base v a rs) (hsrc : Src Tryz.prog 3 57 u 1 (spanV (a + sizeL rs) r) w) (hlen : rs.length ≤ 1000000000000) (hbase : base ≤ w.heap.size)
    (k : ∀ A n c w', Rw w' base (.slice A n c) a (rs ++ [r]) → w.grownBy w' v.ownBlock → ((Value.slice A n c).ownBlock = v.ownBlock ∨ (Value.slice A n c).ownBlock = some w.heap.size) → wpList Tryz.prog ops Q rest (ac.put o.dst (.slice A n c)) w') : wpList Tryz.prog ops Q (o :: rest) ac w := by
  obtain ⟨v', w', hr, h1, h2, h3⟩ := app_rw (ty := o.type) h hsrc hlen hbase
  obtain ⟨A, c, rfl, -, -⟩ := h1.len_cap
  exact wpList_app (P := Tryz.prog) w hgd s x 57 57 ho v u hs hx hr (k A _ c w' h1 h2 h3)
attribute [local go_sem ↓] Go.wp_at_zero Go.wp_at_succ
/-- spanOf. -/
theorem spanOf_any (w : World) (b n m : Nat) (hm : m ≤ n) (hb : b + n ≤ 9223372036854775807) :
    Calls Tryz.prog 55 #[.int .i64 (b : Int), .int .i64 (n : Int), .int .i64 (m : Int)] w fun e w' => ∃ f t : Nat, f = b + (n - m) ∧ t = b + n ∧ e = .returned (.agg #[.int .i64 (b : Int), .int .i64 (f : Int), .int .i64 (t : Int)]) ∧ Ab w w' := by
  have e1 : IntKind.i64.wrap ((b : Int) + (n : Int)) = ((b + n : Nat) : Int) := by rw [IntWalk.i64_in _ (by omega)]; omega
  have e2 : IntKind.i64.wrap (((b + n : Nat) : Int) - (m : Int)) = ((b + (n - m) : Nat) : Int) := by rw [IntWalk.i64_in _ (by omega)]; omega
  go_enter Tryz.func55, Tryz.ntmps55
  go_wp2
  refine bodyPost_ret (v := .agg #[.int .i64 (b : Int), .int .i64 ((b : Int) + n - m), .int .i64 ((b : Int) + n)]) ?_ rfl ⟨b + (n - m), b + n, rfl, rfl, ?_, (Ab.refl w).alloc _⟩
  · simp [results, Tryz.results55, go_sem]
  · rw [show (b : Int) + n - m = ((b + (n - m) : Nat) : Int) by omega, show (b : Int) + n = ((b + n : Nat) : Int) by omega]
end Go.Proofs.YtolchbjcdlncgaaGreat.Dg

/- frames, cut. -/
namespace Go.Proofs.YtolchbjcdlncgaaGreat.Dg
open Go.RowKit
variable {w w' : World} {base B a : Nat} {v : Value} {rs : List (List UInt8)} {l : List UInt8}
attribute [local go_sem ↓] Go.wp_at_zero Go.wp_at_succ
/-- How far frames has come. -/
def Fd (l : List UInt8) (dn : List (List UInt8)) : Prop := recsOf l = dn ++ recsOf (l.drop (sizeL dn)) ∧ sizeL dn ≤ l.length
theorem Fd.zero (l : List UInt8) : Fd l [] := ⟨rfl, Nat.zero_le _⟩
theorem Fd.next {dn : List (List UInt8)} (h : Fd l dn) (hg : ufE (l.drop (sizeL dn)) = 0) : Fd l (dn ++ [ufC (l.drop (sizeL dn))]) ∧ sizeL (dn ++ [ufC (l.drop (sizeL dn))]) = sizeL dn + ufN (l.drop (sizeL dn)) ∧ ufN (l.drop (sizeL dn)) = 8 + (ufC (l.drop (sizeL dn))).length ∧ sizeL dn + ufN (l.drop (sizeL dn)) ≤ l.length := by
  obtain ⟨h1, h2, h3, h4⟩ := uf_split _ hg
  rw [List.length_drop] at h4
  have e : sizeL (dn ++ [ufC (l.drop (sizeL dn))]) = sizeL dn + ufN (l.drop (sizeL dn)) := by rw [sizeL_append, sizeL, sizeL, h3]; omega
  have hle := h.2
  refine ⟨⟨?_, by rw [e]; omega⟩, e, h3, by omega⟩
  rw [e, h.1, recsOf_good hg, List.drop_drop, List.append_assoc]
  rfl
theorem Fd.done {dn : List (List UInt8)} (h : Fd l dn) (hg : ufE (l.drop (sizeL dn)) ≠ 0) : recsOf l = dn := by rw [h.1, recsOf_bad hg, List.append_nil]
theorem recs_len (l : List UInt8) : 8 * (recsOf l).length ≤ l.length := Nat.le_trans (sizeL_ge _) (recs_split l).2.2.2
theorem Fd.len {dn : List (List UInt8)} (h : Fd l dn) : 8 * dn.length ≤ l.length := Nat.le_trans (sizeL_ge _) h.2
theorem grown_rw {W : World} {row : Option Nat} (hW : Ab W w) (hg : w.grownBy w' row) (hr : ∀ k, row = some k → W.heap.size ≤ k) : Ab W w' := grown_ab hW hg hr
set_option maxRecDepth 100000 in
set_option maxHeartbeats 2000000 in
theorem frames_any (w : World) (h : Bs w B v l) (hB : B ≤ w.heap.size) (hr : a + l.length ≤ 4611686018427387904) (hl : l.length ≤ 67108864) :
    Calls Tryz.prog 52 #[v, .int .i64 (a : Int)] w fun e w' => ∃ u, e = .returned (.tuple #[u, .int .i64 ((a + sizeL (recsOf l) : Nat) : Int)]) ∧ Rw w' w.heap.size u a (recsOf l) ∧ Ab w w' := by
  have HB := Lib.hid h
  obtain ⟨A, c, rfl, h1, h2, -⟩ := id h
  obtain ⟨N, hN⟩ : ∃ N, l.length = N := ⟨_, rfl⟩
  rw [hN] at h1 hr hl
  have HN := Lib.hid hN
  rw [hN]
  clear h hN
  go_enter Tryz.func52, Tryz.ntmps52
  go_wp2
  go_loopw [6, 7] (fun s6 s7 wr => ∃ x y : Nat, ∃ A6 n6 c6, s6 = .slice A6 n6 c6 ∧ s7 = .int .i64 (y : Int) ∧ y = a + x ∧ x ≤ N ∧ Hid (∃ dn, sizeL dn = x ∧ Fd l dn ∧ Rw wr w.heap.size (.slice A6 n6 c6) a dn ∧ Ab w wr)) (fun _ s7 _ => a + N - (intOf s7).toNat)
  case atStart => exact ⟨0, a, none, 0, 0, rfl, rfl, rfl, Nat.zero_le _, Lib.hid ⟨[], rfl, Fd.zero l, Rw.nil _ _ _, Ab.refl w⟩⟩
  case round =>
    obtain ⟨x, y, A6, n6, c6, rfl, rfl, hya, hx, HI⟩ := hrel
    obtain ⟨dn, hxs, hfd, hrw, hab⟩ := HI.out
    have e1 : IntKind.i64.wrap ((y : Int) - (a : Int)) = (x : Int) := by rw [IntWalk.i64_in _ (by omega)]; omega
    have hst := fun wx => run_slice_tail A N c x hx wx
    have hbs := cutB (HB.out.ab hab hB) x (by rw [HN.out]; exact hx) rfl
    rw [HN.out] at hbs
    generalize (if c = x then A else Option.map (fun q => q.add x) A) = A2 at *
    have HBS := Lib.hid hbs
    have HY := Lib.hid hya
    clear hya
    have hBr : B ≤ wr.heap.size := Nat.le_trans hB hab.size
    have HH := Lib.hid (And.intro hxs (And.intro hfd (And.intro hrw hab)))
    clear HI hxs hfd hrw hab hbs
    obtain ⟨E, hE⟩ : ∃ E, ufE (l.drop x) = E := ⟨_, rfl⟩
    obtain ⟨M, hM⟩ : ∃ M, ufN (l.drop x) = M := ⟨_, rfl⟩
    have HE := Lib.hid (And.intro hE hM)
    by_cases hz : E = 0
    · have hn := HH.out.2.1.next (by rw [HH.out.1, hE, hz])
      rw [HH.out.1, hM] at hn
      obtain ⟨K, hK⟩ : ∃ K, (ufC (l.drop x)).length = K := ⟨_, rfl⟩
      have hMK := hn.2.2.1
      have hxM := hn.2.2.2
      rw [hK] at hMK
      rw [HN.out] at hxM
      have HNX := Lib.hid (And.intro hn hK)
      subst hz
      have hdl := HH.out.2.1.len
      rw [HN.out] at hdl
      have hKM : K ≤ M := by omega
      have HMK := Lib.hid hMK
      have HXM := Lib.hid hxM
      obtain ⟨z, hz⟩ : ∃ z, y + M = z := ⟨_, rfl⟩
      have hyM : y + M ≤ 9223372036854775807 := by have := HY.out; omega
      have e5 : IntKind.i64.wrap ((y : Int) + (M : Int)) = (z : Int) := by rw [IntWalk.i64_in _ (by omega)]; omega
      have HZ := Lib.hid hz
      clear hn hK hE hM hMK hxM hz
      go_wp2_with fail
      refine (unframe_any wr HBS.out hBr).mono ?_
      rintro e w2 ⟨u, rfl, hu, ha2⟩
      rw [HE.out.1, HE.out.2]
      obtain ⟨Au, cu, rfl, -, -⟩ := hu.len_cap
      rw [HNX.out.2]
      have H2 := Lib.hid ha2
      clear hu ha2
      go_wp2_with fail
      refine (spanOf_any w2 y M K hKM hyM).mono ?_
      rintro e w3 ⟨f3, t3, hf3, ht3, rfl, ha3⟩
      have H3 := Lib.hid (And.intro (H2.out.trans ha3) (And.intro hf3 ht3))
      clear ha3 hf3 ht3
      go_wp2_with (at_builtin; refine wpList_rw rfl _ _ rfl _ _ rfl rfl w.heap.size a dn (ufC (l.drop x)) ?ap1 ?ap2 ?ap3 ?ap4 ?_)
      case ap1 => exact (HH.out.2.2.1.ab H3.out.1).ab ((Ab.refl _).alloc _)
      case ap2 =>
        refine src_span (a + sizeL dn) ?_ ?_ ?_ 1
        · rw [HH.out.1, ← HY.out]; exact (Bk.made w3 _ _).cell rfl
        · rw [HH.out.1, ← HY.out, show y + 8 = f3 by have := H3.out.2.1; have := HMK.out; omega]; exact (Bk.made w3 _ _).cell rfl
        · rw [HH.out.1, ← HY.out, HNX.out.2, show y + 8 + K = t3 by have := H3.out.2.2; have := HMK.out; omega]; exact (Bk.made w3 _ _).cell rfl
      case ap3 => omega
      case ap4 => exact Nat.le_trans HH.out.2.2.2.size (Nat.le_trans H3.out.1.size (by simp))
      intro A9 n9 c9 w9 hr9 hg9 hb9
      have ha9 : Ab w w9 := grown_ab (HH.out.2.2.2.trans (H3.out.1.trans ((Ab.refl _).alloc _))) hg9 (fun k hk => (HH.out.2.2.1.blk k hk).1)
      have H9 := Lib.hid (And.intro hr9 ha9)
      clear hr9 hg9 hb9 ha9
      go_wp2_with fail
      go_roundw
      case rel => exact ⟨x + M, z, A9, n9, c9, rfl, by go_num, by have := HY.out; have := HZ.out; omega, HXM.out, Lib.hid ⟨_, HNX.out.1.2.1, HNX.out.1.1, H9.out⟩⟩
      case measure => have := HY.out; have := HZ.out; have := HMK.out; have := HXM.out; simp [intOf]; omega
    · have hd := HH.out.2.1.done (by rw [HH.out.1, hE]; exact hz)
      have HD := Lib.hid hd
      clear hd hE hM
      go_wp2_with fail
      refine (unframe_any wr HBS.out hBr).mono ?_
      rintro e w2 ⟨u, rfl, hu, ha2⟩
      rw [HE.out.1, HE.out.2]
      obtain ⟨Au, cu, rfl, -, -⟩ := hu.len_cap
      have H2 := Lib.hid ha2
      have hz2 : ((E : Int) == 0) = false := by rw [beq_eq_false_iff_ne]; omega
      clear hu ha2
      go_wp2_with fail
      refine bodyPost_ret (v := .tuple #[.slice A6 n6 c6, .int .i64 (y : Int)]) ?_ rfl ⟨.slice A6 n6 c6, ?_, ?_, HH.out.2.2.2.trans H2.out⟩
      · simp [results, Tryz.results52, go_sem]
      · rw [HD.out, HH.out.1, ← HY.out]
      · rw [HD.out]; exact HH.out.2.2.1.ab H2.out
end Go.Proofs.YtolchbjcdlncgaaGreat.Dg

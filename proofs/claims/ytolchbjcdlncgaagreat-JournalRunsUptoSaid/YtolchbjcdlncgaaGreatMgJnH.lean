/- Texts joined: JnH. -/
import Derived.Deep.RegionLaw
import Derived.Test.YtolchbjcdlncgaaGreatMgJnG
/- The journal: Append. -/
namespace Go.Proofs.YtolchbjcdlncgaaGreat.Dg
open Go.RowKit
variable {w w' : World} {base a g gj torn B : Nat} {v row u : Value} {rs : List (List UInt8)} {d : Dst} {l : List UInt8}
attribute [local go_sem ↓] Go.wp_at_zero Go.wp_at_succ
/-- append of a span, at a step of a region that draws its order. -/
theorem step_rw {ops : Array Oper} {o : Oper} {ac : Act} {K : Act → World → Prop} {Q : Exit → Act → World → Prop} {E : Prop} (hgd : o.guard = none) (s x : Operand)
    (ho : o.op = .call { callee := .builtin .append, args := #[s, x], argTypes := #[57, 57] }) (v u : Value) (hs : ac.eval s = v) (hx : ac.eval x = u)
    (base a : Nat) (rs : List (List UInt8)) (r : List UInt8) (h : Rw w base v a rs) (hsrc : Src Tryz.prog 3 57 u 1 (spanV (a + sizeL rs) r) w) (hlen : rs.length ≤ 1000000000000) (hbase : base ≤ w.heap.size)
    (k : ∀ A n c w', Rw w' base (.slice A n c) a (rs ++ [r]) → w.grownBy w' v.ownBlock → ((Value.slice A n c).ownBlock = v.ownBlock ∨ (Value.slice A n c).ownBlock = some w.heap.size) → K (ac.put o.dst (.slice A n c)) w') :
    if Region.wanted o (yielded ops ac.tmps) = true then Oper.wp Tryz.prog o ac w K Q else E := by
  have hw : Region.wanted o (yielded ops ac.tmps) = true := by simp [Region.wanted, hgd]
  rw [if_pos hw]
  obtain ⟨v', w', hr, h1, h2, h3⟩ := app_rw (ty := o.type) h hsrc hlen hbase
  obtain ⟨A, c, rfl, -, -⟩ := h1.len_cap
  unfold Oper.wp execOp
  simp only [ho, resolve, invoke, builtin, Sem.run_bind, Sem.run_pure, Result.andThen_ok, List.map_toArray, List.map_cons, List.map_nil, hs, hx, hr]
  exact k A _ c w' h1 h2 h3
/-- The row has one record more. -/
theorem Jb.more {v2 : Value} {w2 : World} {r : List UInt8} (h : Jb w base gj g row torn a rs) (ho : Rw w2 base v2 a (rs ++ [r])) (hg : w.grownBy w2 row.ownBlock) (hbl : v2.ownBlock = row.ownBlock ∨ v2.ownBlock = some w.heap.size) :
    Jb (w2.setCell ⟨gj, 1, none⟩ v2) base gj g v2 torn a (rs ++ [r]) ∧ Mv (JOwn gj row) w (w2.setCell ⟨gj, 1, none⟩ v2) ∧ (∀ k, JOwn gj v2 k → JOwn gj row k ∨ w.heap.size ≤ k) ∧ w2.cell? ⟨gj, 1, none⟩ = some row ∧ w2.frozen? ⟨gj, 1, none⟩ = false := by
  have hrow : row.ownBlock ≠ some gj := fun e => absurd (h.row.type e h.blk) (by decide)
  have hb2 : Bk w2 gj _ _ := (hg.block gj h.blk.lt (fun e => hrow e.symm)).trans h.blk
  have hne : v2.ownBlock ≠ some gj := fun e => by
    rcases hbl with e2 | e2
    · exact hrow (e2 ▸ e)
    · rw [e] at e2
      have := h.blk.lt
      injection e2 with e2
      omega
  have hm1 : Mv (JOwn gj row) w w2 := Mv.grown (Mv.refl _ w) hg (fun k hk => .inl (.inr hk))
  have hm : Mv (· = gj) w2 (w2.setCell ⟨gj, 1, none⟩ v2) := Mv.set (S := (· = gj)) (p := ⟨gj, 1, none⟩) (Mv.refl _ w2) rfl _
  refine ⟨⟨(hb2.store 1 v2).eq_ (by simp only [List.setIfInBounds_toArray, List.set_cons_zero, List.set_cons_succ]), Og.mv ho hm (fun k hk e => hne (e ▸ hk)), h.le⟩, hm1.trans (hm.mono fun _ _ e => .inl e), fun k hk => ?_, hb2.cell rfl, hb2.free 1⟩
  rcases hk with e | e
  · exact .inl (.inl e)
  · rcases hbl with e2 | e2
    · exact .inl (.inr (e2 ▸ e))
    · rw [e2] at e
      injection e with e
      exact .inr (by omega)
theorem src_made (w : World) (p f t b : Nat) (r : List UInt8) (hp : p = b) (hf : f = b + 8) (ht : t = b + 8 + r.length) :
    Src Tryz.prog 3 57 (.slice (some ⟨w.heap.size, 0, none⟩) 1 1) 1 (spanV b r) (w.alloc (.cells #[.int .i64 (p : Int), .int .i64 (f : Int), .int .i64 (t : Int)] 94)) := by
  subst hp; subst hf; subst ht
  exact src_span p ((Bk.made w _ _).cell rfl) ((Bk.made w _ _).cell rfl) ((Bk.made w _ _).cell rfl) 1
theorem jturn_row {row2 : Value} (hm : Mv (JOwn gj row) w w') (hn : ∀ k, JOwn gj row2 k → JOwn gj row k ∨ w.heap.size ≤ k) : JTurn gj g row v row2 v w w' :=
  ⟨hm.mono (fun _ _ e => .inr e), fun k hk => by
    rcases hk with hk | hk
    · exact .inl (.inl hk)
    · rcases hn k hk with e | e
      · exact .inl (.inr e)
      · exact .inr e⟩
theorem jt_more {row2 v2 : Value} (h : Jt w base gj g row torn v d rs) (hd : Dk w' base g v2 { d with bytes := d.bytes ++ frameL l }) (hj : Jb w' base gj g row2 torn d.base (rs ++ [l])) (hl : l.length ≤ 524288) :
    Jt w' base gj g row2 torn v2 { d with bytes := d.bytes ++ frameL l } (rs ++ [l]) :=
  ⟨hd, hj, by show d.bytes ++ frameL l = _; rw [framesL_append, h.bytes, framesL, framesL, List.append_nil], h.small.snoc hl⟩
/-- What Append answers. -/
def appJ (d : Dst) (l : List UInt8) : Bool := decide (l.length ≤ 524288) && d.fits (8 + l.length)
def appJE (d : Dst) (l : List UInt8) : Nat := bif decide (l.length ≤ 524288) then (bif d.fits (8 + l.length) then 0 else 28) else 27
def AppPost (w : World) (base gj g : Nat) (row : Value) (torn : Nat) (v : Value) (d : Dst) (rs : List (List UInt8)) (l : List UInt8) (e : Ending) (w' : World) : Prop :=
  ∃ n : Nat, n = (bif appJ d l then d.fin else 0) ∧ e = .returned (.tuple #[.int .i64 (n : Int), .int .i64 (appJE d l : Int)]) ∧ ∃ row' v' d' rs', Jt w' base gj g row' torn v' d' rs' ∧ JTurn gj g row v row' v' w w' ∧ d' = (bif appJ d l then { d with bytes := d.bytes ++ frameL l } else d) ∧ rs' = (bif appJ d l then rs ++ [l] else rs)
set_option maxRecDepth 100000 in
set_option maxHeartbeats 2000000 in
theorem JAppend_any (w : World) (h : Jt w base gj g row torn v d rs) (hx : Bs w B u l) (hB : B ≤ w.heap.size) (hbase : base ≤ w.heap.size) (hroom : d.fin + 8 + l.length ≤ 4611686018427387904 ∨ d.fits (8 + l.length) = false) :
    Calls Tryz.prog 20 #[.pointer (some ⟨gj, 0, none⟩), u] w (AppPost w base gj g row torn v d rs l) := by
  have HT := Lib.hid h
  have HX := Lib.hid hx
  have c0 := h.ptr
  have hgl := h.jb.blk.lt
  obtain ⟨A, c, rfl, h1, h2, -⟩ := id hx
  clear h hx
  by_cases hbig : 524288 < l.length
  · have hf : appJ d l = false := by unfold appJ; rw [decide_eq_false (by omega)]; rfl
    have hE : appJE d l = 27 := by unfold appJE; rw [decide_eq_false (by omega)]; rfl
    go_enter Tryz.func20, Tryz.ntmps20
    go_wp2_with (first | (go_at_call 50; (with_reducible refine (jready_any _ gj g c0).mono ?_); rintro e w2 ⟨rfl, rfl⟩))
    go_ret2
    exact ⟨0, by rw [hf]; rfl, by rw [hE]; rfl, row, v, d, rs, HT.out, JTurn.of_ab (Ab.refl _), by rw [hf]; rfl, by rw [hf]; rfl⟩
  have hnb : ¬ 524288 < l.length := hbig
  cases hfit : d.fits (8 + l.length) with
  | false =>
    have hf : appJ d l = false := by unfold appJ; rw [hfit, Bool.and_false]
    have hE : appJE d l = 28 := by unfold appJE; rw [decide_eq_true (by omega), hfit]; rfl
    have HH := Lib.hid (And.intro hf hE)
    have HFT := Lib.hid hfit
    clear hf hE hfit
    go_enter Tryz.func20, Tryz.ntmps20
    go_wp2_with (first | (go_at_call 50; (with_reducible refine (jready_any _ gj g c0).mono ?_); rintro e w2 ⟨rfl, rfl⟩))
    refine (frame_any w HX.out hB (by omega)).mono ?_
    rintro e w2 ⟨f2, rfl, hf2, ha2⟩
    have q0 := (ha2.cells gj 0 hgl).trans c0
    have hap := Append_any w2 (HT.out.ab ha2).dk hf2.bs (.inr (by rw [frameL_length]; exact HFT.out)) (Nat.le_trans hbase ha2.size)
    rw [frameL_length] at hap
    have hz : d.appAt (8 + l.length) = 0 ∧ d.appE (8 + l.length) = 28 ∧ d.app (frameL l) = d := by
      refine ⟨by unfold Dst.appAt; rw [HFT.out]; rfl, by unfold Dst.appE; rw [HFT.out]; rfl, by unfold Dst.app; rw [frameL_length, HFT.out]; rfl⟩
    rw [hz.1, hz.2.1, hz.2.2] at hap
    have HAP := Lib.hid hap
    have H2 := Lib.hid ha2
    clear hap hz hf2 ha2
    go_wp2_with fail
    refine HAP.out.mono ?_
    rintro e w3 ⟨rfl, v3, hd3, ht3⟩
    have H3 := Lib.hid (And.intro hd3 ht3)
    clear hd3 ht3
    go_wp2_with fail
    go_ret2
    exact ⟨0, by rw [HH.out.1]; rfl, by rw [HH.out.2]; rfl, row, v3, d, rs, (HT.out.ab H2.out).disk H3.out.1 H3.out.2 rfl rfl, (JTurn.of_ab H2.out).trans (JTurn.disk H3.out.2), by rw [HH.out.1]; rfl, by rw [HH.out.1]; rfl⟩
  | true =>
    have hf : appJ d l = true := by unfold appJ; rw [hfit, decide_eq_true (by omega)]; rfl
    have hE : appJE d l = 0 := by unfold appJE; rw [decide_eq_true (by omega), hfit]; rfl
    have hroom2 : d.fin + 8 + l.length ≤ 4611686018427387904 := by rcases hroom with h | h; exact h; rw [hfit] at h; cases h
    obtain ⟨p, hp⟩ : ∃ p, d.fin = p := ⟨_, rfl⟩
    obtain ⟨m, hm⟩ : ∃ m, l.length = m := ⟨_, rfl⟩
    have HH := Lib.hid (And.intro hf (And.intro hE (And.intro hp hm)))
    have HFT := Lib.hid hfit
    rw [hp] at hroom2
    rw [hm] at h1 hnb hroom2 ⊢
    obtain ⟨n, hn⟩ : ∃ n, 8 + m = n := ⟨_, rfl⟩
    have hmn : m ≤ n := by omega
    have hpn : p + n ≤ 9223372036854775807 := by omega
    have HN := Lib.hid hn
    have HNB := Lib.hid hroom2
    have hm5 : ¬ 524288 < m := hnb
    clear hf hE hfit hroom hp hm hn hroom2 hbig hnb
    go_enter Tryz.func20, Tryz.ntmps20
    go_wp2_with (first | (go_at_call 50; (with_reducible refine (jready_any _ gj g c0).mono ?_); rintro e w2 ⟨rfl, rfl⟩))
    have hx' : Bs w B (.slice A m c) l := by have := HX.out; rw [HH.out.2.2.2] at this; exact this
    refine (frame_any w hx' hB (by rw [HH.out.2.2.2]; omega)).mono ?_
    rintro e w2 ⟨f2, rfl, hf2, ha2⟩
    have q0 := (ha2.cells gj 0 hgl).trans c0
    have hap := Append_any w2 (HT.out.ab ha2).dk hf2.bs (.inl (by rw [frameL_length, HH.out.2.2.1, HH.out.2.2.2]; have := HNB.out; omega)) (Nat.le_trans hbase ha2.size)
    have hz : d.appAt (frameL l).length = p ∧ d.appE (frameL l).length = 0 ∧ d.app (frameL l) = { d with bytes := d.bytes ++ frameL l } := by
      rw [frameL_length]
      refine ⟨by unfold Dst.appAt; rw [HFT.out]; exact HH.out.2.2.1, by unfold Dst.appE; rw [HFT.out]; rfl, by unfold Dst.app; rw [frameL_length, HFT.out]; rfl⟩
    rw [hz.1, hz.2.1, hz.2.2] at hap
    obtain ⟨Af, cf, rfl, -, -⟩ := hf2.len_cap
    rw [frameL_length, HH.out.2.2.2, HN.out] at hap ⊢
    have HAP := Lib.hid hap
    have H2 := Lib.hid ha2
    clear hap hz hf2 ha2 hx'
    go_wp2_with fail
    refine HAP.out.mono ?_
    rintro e w3 ⟨rfl, v3, hd3, ht3⟩
    have hj3 := (HT.out.ab H2.out).jb.mv ht3.1 (fun k hk => (HT.out.ab H2.out).jb.apart (HT.out.ab H2.out).dk k hk)
    have H3 := Lib.hid (And.intro hd3 (And.intro ht3 hj3))
    obtain ⟨Ar, cr, rfl, -, -⟩ := hj3.row.len_cap
    have r0 : w3.cell? ⟨gj, 0, none⟩ = some (.pointer (some ⟨g, 0, none⟩)) := hj3.blk.cell rfl
    have r1 : w3.cell? ⟨gj, 1, none⟩ = some (.slice Ar rs.length cr) := hj3.blk.cell rfl
    have z1 := hj3.blk.free 1
    have hgl3 := hj3.blk.lt
    clear hd3 ht3 hj3
    go_wp2_with fail
    have HLEN := Lib.hid (show rs.length ≤ 1000000000000 by have := HT.out.len; omega)
    have HBS := Lib.hid (show base ≤ w3.heap.size from Nat.le_trans hbase (Nat.le_trans H2.out.size H3.out.2.1.1.size))
    have HP := Lib.hid (show p = d.base + sizeL rs by rw [← HH.out.2.2.1]; exact HT.out.fin)
    go_region_law (first | (refine step_rw (by rfl) _ _ (by rfl) _ _ (by rfl) (by rfl) base d.base rs l HRO.out HSR.out HLEN.out HBA.out ?_; intro A5 n5 c5 w5 hr5 hg5 hb5; (obtain ⟨hj6, hm6, hn6, q6, y6⟩ := HJ5.out.more hr5 hg5 hb5); (have H6 := Lib.hid (And.intro hj6 (And.intro hm6 hn6))); clear hr5 hg5 hb5 hj6 hm6 hn6) | (go_simp; go_at_call 55; (refine (spanOf_any w3.drew p n m hmn hpn).mono ?_); rintro e w4 ⟨f4, t4, hf4, ht4, rfl, ha4⟩; (have H4 := Lib.hid ((Ab.refl w3).drew.trans ha4)); (have s1 := (ha4.cells gj 1 hgl3).trans r1); (have HSR := Lib.hid (src_made w4 p f4 t4 (d.base + sizeL rs) l HP.out (by rw [hf4, HP.out]; have := HN.out; omega) (by rw [ht4, HP.out, HH.out.2.2.2]; have := HN.out; omega))); (have HJ5 := Lib.hid ((H3.out.2.2.ab H4.out).ab ((Ab.refl w4).alloc (.cells #[.int .i64 (p : Int), .int .i64 (f4 : Int), .int .i64 (t4 : Int)] 94)))); (have s2 : (w4.alloc (.cells #[.int .i64 (p : Int), .int .i64 (f4 : Int), .int .i64 (t4 : Int)] 94)).cell? ⟨gj, 1, none⟩ = some (.slice Ar rs.length cr) := HJ5.out.blk.cell rfl); (have HRO := Lib.hid HJ5.out.row); (have HBA := Lib.hid (show base ≤ (w4.alloc (.cells #[.int .i64 (p : Int), .int .i64 (f4 : Int), .int .i64 (t4 : Int)] 94)).heap.size by rw [World.size_alloc]; have := HBS.out; have := H4.out.size; omega)); clear ha4 hf4 ht4))
    all_goals
      have hd5 := H3.out.1.ab (H4.out.trans ((Ab.refl w4).alloc (.cells #[.int .i64 (p : Int), .int .i64 (f4 : Int), .int .i64 (t4 : Int)] 94)))
      have hd6 := hd5.mv H6.out.2.1 (fun k hk e => HJ5.out.apart hd5 k e hk)
      have ht6 := (((JTurn.of_ab H2.out).trans (JTurn.disk H3.out.2.1)).trans (JTurn.of_ab (H4.out.trans ((Ab.refl w4).alloc (.cells #[.int .i64 (p : Int), .int .i64 (f4 : Int), .int .i64 (t4 : Int)] 94))))).trans (jturn_row H6.out.2.1 H6.out.2.2)
      have H7 := Lib.hid (And.intro (jt_more HT.out hd6 H6.out.1 (by have := HNB.out; rw [HH.out.2.2.2]; omega)) ht6)
      clear hd5 hd6 ht6 s1 s2 r0 r1 z1 q0 q6 y6 c0
      go_wp2
      go_ret2
      exact ⟨p, by rw [HH.out.1]; exact HH.out.2.2.1.symm, by rw [HH.out.2.1]; rfl, _, _, _, _, H7.out.1, H7.out.2, by rw [HH.out.1]; rfl, by rw [HH.out.1]; rfl⟩
end Go.Proofs.YtolchbjcdlncgaaGreat.Dg

/- The program's map: Write. -/
import Derived.Test.YtniodjigncicbaaExH
namespace Go.Proofs.Ytniodjigncicbaa.Dg
open Go.RowKit
variable {w w' : World} {base a s : Nat} {v : Value} {ps : List Pr} {l : List UInt8}
attribute [local go_sem ↓] Go.wp_at_zero Go.wp_at_succ
theorem rnOf_append (ps qs : List Pr) : rnOf (ps ++ qs) = rnOf ps ++ rnOf qs := by simp [rnOf]
theorem rnOf_take (ps : List Pr) (k : Nat) : rnOf (ps.take k) = (rnOf ps).take k := by simp [rnOf]
theorem rnOf_drop (ps : List Pr) (k : Nat) : rnOf (ps.drop k) = (rnOf ps).drop k := by simp [rnOf]
/-- What a map holds at a place. -/
def celP (ps : List Pr) : Cel := cellR (rnOf ps)
theorem rows_split (R : List Rn) (i j : Nat) (hij : i ≤ j) : R = R.take i ++ ((R.take j).drop i ++ R.drop j) := by
  have e2 : (R.take j).take i = R.take i := by rw [List.take_take, Nat.min_eq_left hij]
  rw [← List.append_assoc, ← e2, List.take_append_drop, List.take_append_drop]
theorem Ex.upto (h : Ex w base a v ps s) : Upto (celP ps) s := fun p hp => cellR_none _ p fun q hq => .inr (by have := h.fin q hq; omega)
/-- A map with these bytes and this size. -/
def ExC (w : World) (base a : Nat) (c : Cel) (s : Nat) : Prop := ∃ v ps, Ex w base a v ps s ∧ celP ps = c
theorem ExC.ab {c : Cel} (h : ExC w base a c s) (hb : Ab w w') : ExC w' base a c s := by
  obtain ⟨v, ps, h, rfl⟩ := h
  exact ⟨v, ps, h.ab hb, rfl⟩
theorem ExC.upto {c : Cel} (h : ExC w base a c s) : Upto c s := by
  obtain ⟨v, ps, h, rfl⟩ := h
  exact h.upto
/-- Bytes that are old ones, or lie in new blocks. -/
def Nw (n : Nat) (ps ps' : List Pr) : Prop := ∀ p ∈ ps', p ∈ ps ∨ ∀ k, p.val.ownBlock = some k → n ≤ k
/-- A map with these bytes and this size, its bytes old ones or new. -/
def ExN (w : World) (base a : Nat) (n : Nat) (ps : List Pr) (c : Cel) (s : Nat) : Prop := ∃ v' ps', Ex w base a v' ps' s ∧ celP ps' = c ∧ Nw n ps ps'
theorem ExN.exC {n : Nat} {c : Cel} (h : ExN w base a n ps c s) : ExC w base a c s := by
  obtain ⟨v', ps', h1, h2, -⟩ := h
  exact ⟨v', ps', h1, h2⟩
def ChN (w : World) (base a : Nat) (ps : List Pr) (n : Int) (c : Cel) (s : Nat) (e : Ending) (w' : World) : Prop :=
  e = .returned (.int .i64 n) ∧ ExN w' base a w.heap.size ps c s ∧ Mv (fun k => k = a) w w'
/-- What a change leaves. -/
def ChPost (w : World) (base a : Nat) (n : Int) (c : Cel) (s : Nat) (e : Ending) (w' : World) : Prop :=
  e = .returned (.int .i64 n) ∧ ExC w' base a c s ∧ Mv (fun k => k = a) w w'
theorem write_end {u v2 : Value} {w3 : World} {i j at_ e : Nat} (h : Ex w base a v ps s) (hij : i ≤ j) (_ : j ≤ ps.length) (hT : Tou ((rnOf ps).take i) (((rnOf ps).take j).drop i) ((rnOf ps).drop j) at_ e)
    (hle : e ≤ 4096) (hl : e = at_ + l.length) (hne : l ≠ []) (hb : Bk w3 a 109 #[.bool true, .int .i64 (s : Int), v2])
    (hr : Rl 218 w3 base v2 (ps.take i ++ ([⟨at_ - (headR (((rnOf ps).take j).drop i) at_).length, u, headR (((rnOf ps).take j).drop i) at_ ++ l ++ tailR (((rnOf ps).take j).drop i) e⟩] ++ ps.drop j))) :
    ∃ v', Ex (w3.setCell ⟨a, 1, none⟩ (.int .i64 ((max s e : Nat) : Int))) base a v' (ps.take i ++ ([⟨at_ - (headR (((rnOf ps).take j).drop i) at_).length, u, headR (((rnOf ps).take j).drop i) at_ ++ l ++ tailR (((rnOf ps).take j).drop i) e⟩] ++ ps.drop j)) (max s e) ∧
      celP (ps.take i ++ ([⟨at_ - (headR (((rnOf ps).take j).drop i) at_).length, u, headR (((rnOf ps).take j).drop i) at_ ++ l ++ tailR (((rnOf ps).take j).drop i) e⟩] ++ ps.drop j)) = wrC (celP ps) at_ l := by
  have hsp := rows_split (rnOf ps) i j hij
  have hm : Mv (fun k => k = a) w3 (w3.setCell ⟨a, 1, none⟩ (.int .i64 ((max s e : Nat) : Int))) := Mv.set (S := fun k => k = a) (Mv.refl _ _) (p := ⟨a, 1, none⟩) rfl _
  have hcell := hT.write_cell l hl
  have hris := hT.write_ris l hl hne
  have hq : rnOf (ps.take i ++ ([⟨at_ - (headR (((rnOf ps).take j).drop i) at_).length, u, headR (((rnOf ps).take j).drop i) at_ ++ l ++ tailR (((rnOf ps).take j).drop i) e⟩] ++ ps.drop j)) =
      (rnOf ps).take i ++ ((at_ - (headR (((rnOf ps).take j).drop i) at_).length, headR (((rnOf ps).take j).drop i) at_ ++ l ++ tailR (((rnOf ps).take j).drop i) e) :: (rnOf ps).drop j) := by
    rw [rnOf_append, rnOf_append, rnOf_take, rnOf_drop]; rfl
  rw [← hq] at hcell hris
  rw [← hsp] at hcell
  have hc : celP (ps.take i ++ ([⟨at_ - (headR (((rnOf ps).take j).drop i) at_).length, u, headR (((rnOf ps).take j).drop i) at_ ++ l ++ tailR (((rnOf ps).take j).drop i) e⟩] ++ ps.drop j)) = wrC (celP ps) at_ l := by
    funext p
    rw [celP, hcell p, wrC, hl]
    rfl
  refine ⟨v2, ⟨hb.store 1 _, hr.mv hm (fun k cs hk e => absurd (bk_type (e ▸ hk) hb) (by decide)) (fun k cs hk e => absurd (bk_type (e ▸ hk) hb) (by decide)), h.le, hris, ?_, by have := h.max; omega⟩, hc⟩
  refine ris_end _ _ hris fun p hp => ?_
  have := (h.upto.wr at_ l) p (by rw [← hl]; exact hp)
  rw [← hc] at this
  exact this
theorem nw_mid {n i j : Nat} {qs : List Pr} (h : ∀ p ∈ qs, ∀ k, p.val.ownBlock = some k → n ≤ k) : Nw n ps (ps.take i ++ (qs ++ ps.drop j)) := fun p hp => by
  rcases List.mem_append.1 hp with hp | hp
  · exact .inl (List.mem_of_mem_take hp)
  · rcases List.mem_append.1 hp with hp | hp
    · exact .inr (h p hp)
    · exact .inl (List.mem_of_mem_drop hp)
theorem nw_refl (n : Nat) (ps : List Pr) : Nw n ps ps := fun _ h => .inl h
theorem Rl.one {T : TypeId} {w : World} {base p : Nat} {u : Value} {m : List UInt8} (hu : Ob w base u m) (hb : base ≤ w.heap.size) :
    Rl T (w.alloc (.cells #[.int .i64 (p : Int), u] T)) base (.slice (some ⟨w.heap.size, 0, none⟩) 1 1) [⟨p, u, m⟩] :=
  ⟨⟨rfl, .inr ⟨w.heap.size, 1, [], [], by simp, hb, by rw [heap_alloc_new]; simp [prV], Nat.le_refl _, by simp, by simp [maxLen]⟩⟩,
   fun q hq => by rw [List.mem_singleton.1 hq]; exact hu.alloc _⟩
theorem head_le {M : List Rn} {at_ n : Nat} (h : ∀ q ∈ M, q.2.length ≤ n) : (headR M at_).length ≤ n := by
  unfold headR
  split
  · simp
  · next m hm => have := h m (List.mem_of_head? hm); rw [List.length_take]; omega
theorem tail_le {M : List Rn} {e n : Nat} (h : ∀ q ∈ M, q.2.length ≤ n) : (tailR M e).length ≤ n := by
  unfold tailR
  split
  · simp
  · next m hm => have := h m (List.mem_of_getLast? hm); rw [List.length_drop]; omega
theorem Ex.mid_le (h : Ex w base a v ps s) (i j : Nat) : ∀ q ∈ ((rnOf ps).take j).drop i, q.2.length ≤ 4096 := fun q hq => by
  have := h.fin q (List.mem_of_mem_take (List.mem_of_mem_drop hq))
  have := h.max
  omega
set_option maxRecDepth 100000 in
set_option maxHeartbeats 4000000 in
theorem exwrite_new {u : Value} {B : Nat} (w : World) (h : Ex w base a v ps s) (at_ : Int) (hu : Bs w B u l) (hB : B ≤ w.heap.size) (hbase : base ≤ w.heap.size) :
    Calls Try.prog 57 #[.pointer (some ⟨a, 0, none⟩), .int .i64 at_, u] w (ChN w base a ps (exE at_ l.length) (if exE at_ l.length ≠ 0 ∨ l = [] then celP ps else wrC (celP ps) at_.toNat l) (if exE at_ l.length ≠ 0 ∨ l = [] then s else max s (at_.toNat + l.length))) := by
  obtain ⟨h0, h1, h2⟩ := h.cells
  have hll := hu.len
  have HC := Lib.hid (fun wx (hx : Ab w wx) => check_any wx a ((hx.cells a 0 h.blk.lt).trans h0) at_ (l.length : Int) (by omega))
  have HE := Lib.hid h
  have HU := Lib.hid hu
  obtain ⟨A, c, rfl, hc1, hc2, -⟩ := id hu
  by_cases hbad : exE at_ l.length ≠ 0 ∨ l = []
  · rw [if_pos hbad, if_pos hbad]
    by_cases hl0 : l = []
    · subst hl0
      have HC0 := Lib.hid (check_any w a h0 at_ 0 (by omega))
      have hE : exE at_ ((([] : List UInt8).length : Nat) : Int) = exE at_ 0 := rfl
      rw [hE]
      clear hbad hE HC hu h h0 h1 h2
      obtain ⟨E, hE⟩ : ∃ E, exE at_ 0 = E := ⟨_, rfl⟩
      rw [hE] at HC0 ⊢
      by_cases hx : E = 0
      · subst hx
        clear hE
        go_enter Try.func57, Try.ntmps57
        go_wp2_with (go_at_call 108; (with_reducible refine HC0.out.mono ?_); rintro e w2 ⟨rfl, rfl⟩)
        go_ret
        exact ⟨rfl, ⟨_, _, HE.out, rfl, nw_refl _ _⟩, Mv.refl _ _⟩
      · clear hE
        go_enter Try.func57, Try.ntmps57
        go_wp2_with (go_at_call 108; (with_reducible refine HC0.out.mono ?_); rintro e w2 ⟨rfl, rfl⟩)
        go_ret
        exact ⟨rfl, ⟨_, _, HE.out, rfl, nw_refl _ _⟩, Mv.refl _ _⟩
    · have hx : exE at_ l.length ≠ 0 := by rcases hbad with h | h; exact h; exact absurd h hl0
      obtain ⟨E, hE⟩ : ∃ E, exE at_ l.length = E := ⟨_, rfl⟩
      rw [hE] at HC hx ⊢
      have HC0 := Lib.hid (HC.out w (Ab.refl w))
      clear hbad hE hl0 HC hu h h0 h1 h2
      go_enter Try.func57, Try.ntmps57
      go_wp2_with (go_at_call 108; (with_reducible refine HC0.out.mono ?_); rintro e w2 ⟨rfl, rfl⟩)
      go_ret
      exact ⟨rfl, ⟨_, _, HE.out, rfl, nw_refl _ _⟩, Mv.refl _ _⟩
  · rw [if_neg hbad, if_neg hbad]
    have he0 : exE at_ l.length = 0 := by
      rcases Int.decEq (exE at_ l.length) 0 with h | h
      · exact absurd (.inl h) hbad
      · exact h
    have hne : l ≠ [] := fun h => hbad (.inr h)
    have hrange : 0 ≤ at_ ∧ at_ + (l.length : Int) ≤ 4096 := by
      unfold exE at he0
      split at he0
      · cases he0
      · split at he0
        · cases he0
        · omega
    obtain ⟨t, rfl⟩ : ∃ t : Nat, at_ = (t : Int) := ⟨at_.toNat, by omega⟩
    rw [Int.toNat_natCast]
    rw [he0] at HC ⊢
    obtain ⟨e, he⟩ : ∃ e, t + l.length = e := ⟨_, rfl⟩
    have he4 : e ≤ 4096 := by omega
    have e1 : (t : Int) + (l.length : Int) = (e : Int) := by omega
    have e2 : IntKind.i64.wrap (e : Int) = (e : Int) := IntWalk.i64_in _ (by omega)
    have e3 : ¬ (l.length : Int) = 0 := fun h => hne (List.eq_nil_of_length_eq_zero (by omega))
    rw [he]
    have HN := Lib.hid (And.intro hne (And.intro he (And.intro he4 (show t ≤ e by omega))))
    clear hbad he0 hne hrange h0 h1 h2 h hu he he4 hll
    go_enter Try.func57, Try.ntmps57
    go_wp2_with (first | (go_at_call 108; (refine (HC.out _ (Ab.refl w)).mono ?_); rintro e w2 ⟨rfl, rfl⟩))
    refine (touched_any w HE.out t e HN.out.2.2.2).mono ?_
    rintro en w2 ⟨i, j, rfl, hij, hj, hT, ha2⟩
    rw [rnOf_length] at hj
    have HT := Lib.hid (And.intro hij (And.intro hj (And.intro hT ha2)))
    clear hij hj hT ha2
    go_wp2_with fail
    refine (around_any w2 (HE.out.ab HT.out.2.2.2) i j t e HT.out.1 HT.out.2.1 HT.out.2.2.1 HN.out.2.2.1).mono ?_
    rintro en w3 ⟨u1, u2, rfl, hb1, hb2, ha3⟩
    have hq1 := (head_len HT.out.2.2.1.m1).1
    have hq2 := head_le (at_ := t) (HE.out.mid_le i j)
    have hq3 := tail_le (e := e) (HE.out.mid_le i j)
    obtain ⟨A1, c1, rfl, -, -, -⟩ := id hb1
    obtain ⟨A2, c2, rfl, -, -, -⟩ := id hb2
    have h3 : Ab w w3 := HT.out.2.2.2.trans ha3
    have hbu := HU.out.ab h3 hB
    have hb1' := hb1.more (B' := w3.heap.size) ha3.size
    have hb2' := hb2.more (B' := w3.heap.size) ha3.size
    have hbu' := hbu.more (B' := w3.heap.size) (Nat.le_trans hB h3.size)
    have HW := Lib.hid (fun (P : List UInt8 → List UInt8 → Prop) (hP : P (headR (((rnOf ps).take j).drop i) t) (tailR (((rnOf ps).take j).drop i) e)) => hP)
    obtain ⟨H, hH⟩ : ∃ H, headR (((rnOf ps).take j).drop i) t = H := ⟨_, rfl⟩
    obtain ⟨R, hR⟩ : ∃ R, tailR (((rnOf ps).take j).drop i) e = R := ⟨_, rfl⟩
    rw [hH] at hb1' hq1 hq2 ⊢
    rw [hR] at hb2' hq3 ⊢
    clear hb1 hb2 hbu
    have HL := Lib.hid (fun wx (g : Nat) (hx : Ab w3 wx) (hb : Bk wx g 30 #[.slice A1 H.length c1, .slice A l.length c, .slice A2 R.length c2]) =>
      concat8_any wx g 3 [.slice A1 H.length c1, .slice A l.length c, .slice A2 R.length c2] [H.length, l.length, R.length] [H, l, R] hb rfl rfl rfl
      (fun k hk => by
        match k, hk with
        | 0, _ => exact ⟨⟨A1, c1, rfl⟩, fun wy hy => src_bs Try.underlying30 (hb1'.ab (hx.trans hy) (Nat.le_refl _))⟩
        | 1, _ => exact ⟨⟨A, c, rfl⟩, fun wy hy => src_bs Try.underlying30 (hbu'.ab (hx.trans hy) (Nat.le_refl _))⟩
        | 2, _ => exact ⟨⟨A2, c2, rfl⟩, fun wy hy => src_bs Try.underlying30 (hb2'.ab (hx.trans hy) (Nat.le_refl _))⟩
        | k + 3, hk => exact absurd hk (by omega))
      (by have := HN.out.2.2.1; have := HN.out.2.1; simp; omega) (by omega)
      (fun k hk => by
        match k, hk with
        | 0, _ => rfl
        | 1, _ => rfl
        | 2, _ => rfl
        | k + 3, hk => exact absurd hk (by omega)))
    obtain ⟨p, hp⟩ : ∃ p, t - H.length = p := ⟨_, rfl⟩
    have n1 : (t : Int) - (H.length : Int) = (p : Int) := by omega
    have n2 : IntKind.i64.wrap (p : Int) = (p : Int) := IntWalk.i64_in _ (by have := HN.out.2.2; omega)
    have H3 := Lib.hid (And.intro h3 (And.intro hH (And.intro hR hp)))
    clear hb1' hb2' hbu' hq1 hq2 hq3 h3 ha3 hH hR hp HW
    go_wp2_with fail
    refine (HL.out _ _ ((Ab.refl w3).alloc _) (Bk.made _ _ _)).mono ?_
    rintro en w5 ⟨A5, c5, rfl, ho5, ha5⟩
    have h5 : Ab w w5 := H3.out.1.trans (((Ab.refl w3).alloc (.cells #[.slice A1 H.length c1, .slice A l.length c, .slice A2 R.length c2] 30)).trans ha5)
    have ho6 := ho5.lower (b' := base) (Nat.le_trans hbase (Nat.le_trans H3.out.1.size (by simp)))
    have hnb := ho5.blk
    have hw3 := H3.out.1.size
    have H5 := Lib.hid (And.intro h5 ho6)
    have HNB := Lib.hid (fun k (hk : Value.ownBlock _ = some k) => Nat.le_trans (Nat.le_trans hw3 (by simp)) (hnb k hk).1)
    clear hnb hw3
    clear h5 ho6 ho5 ha5
    obtain ⟨Z, hZ⟩ : ∃ Z, [H.length, l.length, R.length].sum = Z := ⟨_, rfl⟩
    rw [hZ] at H5 HNB ⊢
    clear hZ
    go_wp2_with fail
    have hrl := Rl.one (T := 218) (p := p) H5.out.2 (Nat.le_trans hbase H5.out.1.size)
    refine (replace_any _ ((HE.out.ab H5.out.1).ab ((Ab.refl w5).alloc _)) i j (Nat.le_trans HT.out.1 HT.out.2.1) HT.out.2.1 hrl (by simp) (Nat.le_trans hbase (Nat.le_trans H5.out.1.size (by simp)))).mono ?_
    rintro en w7 ⟨rfl, v7, hb7, hr7, hm7⟩
    have k1 : w7.cell? ⟨a, 1, none⟩ = some (.int .i64 (s : Int)) := hb7.cell rfl
    have kz := hb7.free 1
    have H7 := Lib.hid (And.intro hb7 (And.intro hr7 ((Mv.of_ab (H5.out.1.trans ((Ab.refl w5).alloc _))).trans hm7)))
    clear hb7 hr7 hm7 hrl
    go_wp2_with fail
    have hm8 : Mv (fun k => k = a) w7 (w7.setCell ⟨a, 1, none⟩ (.int .i64 (max (s : Int) (e : Int)))) := Mv.set (S := fun k => k = a) (Mv.refl _ _) (p := ⟨a, 1, none⟩) rfl _
    obtain ⟨-, hH, hR, hp⟩ := H3.out
    obtain ⟨hb7, hr7, hm7⟩ := H7.out
    have ef : [H, l, R].flatten = H ++ l ++ R := by simp
    rw [ef, ← hp, ← hH, ← hR] at hr7
    obtain ⟨v9, hend, hcel⟩ := write_end HE.out HT.out.1 HT.out.2.1 HT.out.2.2.1 HN.out.2.2.1 HN.out.2.1.symm HN.out.1 hb7 hr7
    rw [show ((max s e : Nat) : Int) = max (s : Int) (e : Int) by omega] at hend
    go_ret
    exact ⟨rfl, ⟨_, _, hend, hcel, nw_mid (fun p hp k hk => by rw [List.mem_singleton.1 hp] at hk; exact HNB.out k hk)⟩, hm7.trans hm8⟩
theorem ChN.ch {n : Int} {c : Cel} {e : Ending} (h : ChN w base a ps n c s e w') : ChPost w base a n c s e w' := ⟨h.1, h.2.1.exC, h.2.2⟩
theorem exwrite_any {u : Value} {B : Nat} (w : World) (h : Ex w base a v ps s) (at_ : Int) (hu : Bs w B u l) (hB : B ≤ w.heap.size) (hbase : base ≤ w.heap.size) :
    Calls Try.prog 57 #[.pointer (some ⟨a, 0, none⟩), .int .i64 at_, u] w (ChPost w base a (exE at_ l.length) (if exE at_ l.length ≠ 0 ∨ l = [] then celP ps else wrC (celP ps) at_.toNat l) (if exE at_ l.length ≠ 0 ∨ l = [] then s else max s (at_.toNat + l.length))) :=
  (exwrite_new w h at_ hu hB hbase).mono fun _ _ h => h.ch
end Go.Proofs.Ytniodjigncicbaa.Dg

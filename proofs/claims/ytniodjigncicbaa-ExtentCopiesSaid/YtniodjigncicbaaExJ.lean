/- The program's map: Zero and Truncate. -/
import Derived.Test.YtniodjigncicbaaExI
namespace Go.Proofs.Ytniodjigncicbaa.Dg
open Go.RowKit
variable {w w' : World} {base a s : Nat} {v : Value} {ps : List Pr} {l : List UInt8}
attribute [local go_sem ↓] Go.wp_at_zero Go.wp_at_succ
theorem hole_end {v2 : Value} {w3 : World} {i j at_ e : Nat} {qs : List Pr} (h : Ex w base a v ps s) (hij : i ≤ j) (hT : Tou ((rnOf ps).take i) (((rnOf ps).take j).drop i) ((rnOf ps).drop j) at_ e)
    (hlt : at_ < e) (hq : rnOf qs = leftR (((rnOf ps).take j).drop i) at_ e) (hb : Bk w3 a 109 #[.bool true, .int .i64 (s : Int), v2]) (hr : Rl 218 w3 base v2 (ps.take i ++ (qs ++ ps.drop j))) :
    ∃ v', Ex w3 base a v' (ps.take i ++ (qs ++ ps.drop j)) s ∧ celP (ps.take i ++ (qs ++ ps.drop j)) = hoC (celP ps) at_ e := by
  have hsp := rows_split (rnOf ps) i j hij
  have hcell := hT.hole_cell
  have hris := hT.hole_ris hlt
  have e1 : rnOf (ps.take i ++ (qs ++ ps.drop j)) = (rnOf ps).take i ++ (leftR (((rnOf ps).take j).drop i) at_ e ++ (rnOf ps).drop j) := by
    rw [rnOf_append, rnOf_append, rnOf_take, rnOf_drop, hq]
  rw [← e1] at hcell hris
  rw [← hsp] at hcell
  have hc : celP (ps.take i ++ (qs ++ ps.drop j)) = hoC (celP ps) at_ e := by
    funext p
    rw [celP, hcell p, hoC]
    rfl
  refine ⟨v2, ⟨hb, hr, h.le, hris, ?_, h.max⟩, hc⟩
  refine ris_end _ _ hris fun p hp => ?_
  have := (h.upto.ho at_ e) p hp
  rw [← hc] at this
  exact this
/-- Another size. -/
theorem ExN.resize {c : Cel} {n : Nat} (h : ExN w base a n ps c s) (s2 : Nat) (hu : Upto c s2) (hm : s2 ≤ 4096) : ExN (w.setCell ⟨a, 1, none⟩ (.int .i64 (s2 : Int))) base a n ps c s2 := by
  obtain ⟨v, ps, h, rfl, hn⟩ := h
  have hv : Mv (fun k => k = a) w (w.setCell ⟨a, 1, none⟩ (.int .i64 (s2 : Int))) := Mv.set (S := fun k => k = a) (Mv.refl _ _) (p := ⟨a, 1, none⟩) rfl _
  exact ⟨v, ps, ⟨h.blk.store 1 _, h.row.mv hv (fun k cs hk e => absurd (bk_type (e ▸ hk) h.blk) (by decide)) (fun k cs hk e => absurd (bk_type (e ▸ hk) h.blk) (by decide)), h.le, h.ris, ris_end _ _ h.ris hu, hm⟩, rfl, hn⟩
/-- Another size. -/
theorem ExC.resize {c : Cel} (h : ExC w base a c s) (s2 : Nat) (hu : Upto c s2) (hm : s2 ≤ 4096) : ExC (w.setCell ⟨a, 1, none⟩ (.int .i64 (s2 : Int))) base a c s2 := by
  obtain ⟨v, ps, h, rfl⟩ := h
  have hv : Mv (fun k => k = a) w (w.setCell ⟨a, 1, none⟩ (.int .i64 (s2 : Int))) := Mv.set (S := fun k => k = a) (Mv.refl _ _) (p := ⟨a, 1, none⟩) rfl _
  exact ⟨v, ps, ⟨h.blk.store 1 _, h.row.mv hv (fun k cs hk e => absurd (bk_type (e ▸ hk) h.blk) (by decide)) (fun k cs hk e => absurd (bk_type (e ▸ hk) h.blk) (by decide)), h.le, h.ris, ris_end _ _ h.ris hu, hm⟩, rfl⟩
theorem ExC.cells {c : Cel} (h : ExC w base a c s) : w.cell? ⟨a, 0, none⟩ = some (.bool true) ∧ w.cell? ⟨a, 1, none⟩ = some (.int .i64 (s : Int)) ∧ (∀ i, w.frozen? ⟨a, i, none⟩ = false) ∧ a < w.heap.size ∧ s ≤ 4096 := by
  obtain ⟨v, ps, h, rfl⟩ := h
  exact ⟨h.cells.1, h.cells.2.1, fun i => h.blk.free i, h.blk.lt, h.max⟩
set_option maxRecDepth 100000 in
set_option maxHeartbeats 8000000 in
theorem hole_any (w : World) (h : Ex w base a v ps s) (t e : Nat) (hlt : t < e) (he : e ≤ 4096) (hbase : base ≤ w.heap.size) :
    Calls Try.prog 115 #[.pointer (some ⟨a, 0, none⟩), .int .i64 (t : Int), .int .i64 (e : Int)] w fun en w' => en = .returned (.tuple #[]) ∧ ExN w' base a w.heap.size ps (hoC (celP ps) t e) s ∧ Mv (fun k => k = a) w w' := by
  have HE := Lib.hid h
  have HB := Lib.hid hbase
  clear h hbase
  go_enter Try.func115, Try.ntmps115
  go_wp2_with fail
  refine (touched_any w HE.out t e (Nat.le_of_lt hlt)).mono ?_
  rintro en w2 ⟨i, j, rfl, hij, hj, hT, ha2⟩
  rw [rnOf_length] at hj
  have HT := Lib.hid (And.intro hij (And.intro hj (And.intro hT ha2)))
  clear hij hj hT ha2
  go_wp2_with fail
  refine (around_any w2 (HE.out.ab HT.out.2.2.2) i j t e HT.out.1 HT.out.2.1 HT.out.2.2.1 he).mono ?_
  rintro en w3 ⟨u1, u2, rfl, hb1, hb2, ha3⟩
  have hq1 := (head_len HT.out.2.2.1.m1).1
  have hq2 := head_le (at_ := t) (HE.out.mid_le i j)
  have hq3 := tail_le (e := e) (HE.out.mid_le i j)
  obtain ⟨A1, c1, rfl, -, -, -⟩ := id hb1
  obtain ⟨A2, c2, rfl, -, -, -⟩ := id hb2
  have h3 : Ab w w3 := HT.out.2.2.2.trans ha3
  have hb1' := hb1.more (B' := w3.heap.size) ha3.size
  have hb2' := hb2.more (B' := w3.heap.size) ha3.size
  obtain ⟨H, hH⟩ : ∃ H, headR (((rnOf ps).take j).drop i) t = H := ⟨_, rfl⟩
  obtain ⟨R, hR⟩ : ∃ R, tailR (((rnOf ps).take j).drop i) e = R := ⟨_, rfl⟩
  rw [hH] at hb1' hq1 hq2 ⊢
  rw [hR] at hb2' hq3 ⊢
  clear hb1 hb2
  obtain ⟨p, hp⟩ : ∃ p, t - H.length = p := ⟨_, rfl⟩
  obtain ⟨nH, hnH⟩ : ∃ nH, H.length = nH := ⟨_, rfl⟩
  obtain ⟨nR, hnR⟩ : ∃ nR, R.length = nR := ⟨_, rfl⟩
  rw [hnH] at hb1'
  rw [hnR] at hb2'
  have HF := Lib.hid (And.intro hb1' (And.intro hb2' (And.intro hnH (And.intro hnR (And.intro h3 (And.intro hH (And.intro hR hp)))))))
  rw [hnH] at hq1 hq2 hp ⊢
  rw [hnR] at hq3 ⊢
  have n1 : (t : Int) - (nH : Int) = (p : Int) := by omega
  have n2 : IntKind.i64.wrap (p : Int) = (p : Int) := IntWalk.i64_in _ (by omega)
  have HQ := Lib.hid (And.intro hq2 hq3)
  have HBW := Lib.hid (show base ≤ w3.heap.size from Nat.le_trans HB.out h3.size)
  clear hb1' hb2' hq1 hq2 hq3 h3 ha3 hH hR hp hnH hnR
  by_cases cH : 0 < nH
  · have cH' : (0 : Int) < (nH : Int) := by omega
    by_cases cR : 0 < nR
    · have cR' : (0 : Int) < (nR : Int) := by omega
      go_wp2_with fail
      refine (clone_any w3 HF.out.1 (by rw [HF.out.2.2.1]; have := HQ.out; omega)).mono ?_
      rintro en w4 ⟨u4, rfl, ho4, ha4⟩
      obtain ⟨A4, c4, rfl, -, -⟩ := ho4.len_cap
      have h4 : Ab w w4 := HF.out.2.2.2.2.1.trans ha4
      have hbw4 : base ≤ w4.heap.size := Nat.le_trans HBW.out ha4.size
      have H4 := Lib.hid (And.intro (ho4.lower (b' := w.heap.size) HF.out.2.2.2.2.1.size) (And.intro h4 (And.intro hbw4 ha4)))
      rw [HF.out.2.2.1]
      clear ho4 ha4 h4 hbw4
      go_wp2_with (at_builtin; refine wpList_rl rfl _ _ rfl _ _ rfl rfl Try.underlying107 infoRun (by decide) w.heap.size [] p (.slice A4 nH c4) H (Rl.nil _ _ _) (src_pair Try.underlying107 w4 _ p (.slice A4 nH c4) rfl) (by rw [← HF.out.2.2.1]; exact H4.out.1.alloc _) (by simp) (Nat.le_trans H4.out.2.1.size (by simp)) ?_)
      intro A6 n6 c6 w6 hl6 hg6
      have hn6 : n6 = 1 := by
        obtain ⟨A7, c7, hv6, -, -⟩ := hl6.row.len_cap
        injection hv6 with _ hn _
      have hg6' := grown_ab ((H4.out.2.1).alloc (.cells #[.int .i64 (p : Int), .slice A4 nH c4] 218)) hg6 (fun k hk => by cases hk)
      have hg36 := grown_ab ((H4.out.2.2.2).alloc (.cells #[.int .i64 (p : Int), .slice A4 nH c4] 218)) hg6 (fun k hk => by cases hk)
      subst hn6
      have H6 := Lib.hid (And.intro hl6 (And.intro hg6' (And.intro hg36 (show base ≤ w6.heap.size from Nat.le_trans HBW.out hg36.size))))
      clear hl6 hg6 hg6' hg36
      go_wp2_with fail
      refine (clone_any w6 ((HF.out.2.1.ab H6.out.2.2.1 (Nat.le_refl _)).more H6.out.2.2.1.size) (by rw [HF.out.2.2.2.1]; have := HQ.out; omega)).mono ?_
      rintro en w8 ⟨u8, rfl, ho8, ha8⟩
      obtain ⟨A8, c8, rfl, -, -⟩ := ho8.len_cap
      have h8 : Ab w w8 := H6.out.2.1.trans ha8
      have hbw8 : base ≤ w8.heap.size := Nat.le_trans H6.out.2.2.2 ha8.size
      have H8 := Lib.hid (And.intro (ho8.lower (b' := w.heap.size) (H6.out.2.1.size)) (And.intro h8 (And.intro hbw8 (H6.out.1.ab ha8))))
      rw [HF.out.2.2.2.1]
      clear ho8 ha8 h8 hbw8
      go_wp2_with (at_builtin; refine wpList_rl rfl _ _ rfl _ _ rfl rfl Try.underlying107 infoRun (by decide) w.heap.size ([] ++ [⟨p, .slice A4 nH c4, H⟩]) e (.slice A8 nR c8) R (H8.out.2.2.2.ab ((Ab.refl w8).alloc _)) (src_pair Try.underlying107 w8 _ e (.slice A8 nR c8) rfl) (by rw [← HF.out.2.2.2.1]; exact H8.out.1.alloc _) (by simp) (Nat.le_trans H8.out.2.1.size (by simp)) ?_)
      intro A10 n10 c10 w10 hl10 hg10
      have hn10 : n10 = 2 := by
        obtain ⟨A7, c7, hv6, -, -⟩ := hl10.row.len_cap
        injection hv6 with _ hn _
      have hm10 : Ab w w10 := grown_ab ((H8.out.2.1).alloc (.cells #[.int .i64 (e : Int), .slice A8 nR c8] 218)) hg10 (fun k hk => (H8.out.2.2.2.row.blk k hk).1)
      subst hn10
      have H10 := Lib.hid (And.intro hl10 (And.intro hm10 (show base ≤ w10.heap.size from Nat.le_trans HB.out hm10.size)))
      clear hl10 hg10 hm10
      go_wp2_with fail
      refine (replace_any w10 (HE.out.ab H10.out.2.1) i j (Nat.le_trans HT.out.1 HT.out.2.1) HT.out.2.1 (H10.out.1.lower HB.out) (by simp) H10.out.2.2).mono ?_
      rintro en w12 ⟨rfl, v12, hb12, hr12, hm12⟩
      obtain ⟨v13, hend, hcel⟩ := hole_end HE.out HT.out.1 HT.out.2.2.1 hlt (by
        have hH := HF.out.2.2.2.2.2.1; have hR := HF.out.2.2.2.2.2.2.1; have hp := HF.out.2.2.2.2.2.2.2; have hnH := HF.out.2.2.1; have hnR := HF.out.2.2.2.1
        unfold leftR
        rw [hH, hR, if_pos (by omega), if_pos (by omega)]; (try rw [hp]); rfl) hb12 hr12
      have hm := (Mv.of_ab (S := fun k => k = a) H10.out.2.1).trans hm12
      go_wp2_with fail
      go_end0
      exact ⟨rfl, ⟨_, _, hend, hcel, nw_mid (fun p hp k hk => ((H10.out.1.own p hp).blk k hk).1)⟩, hm⟩
    · have cR' : ¬ (0 : Int) < (nR : Int) := by omega
      go_wp2_with fail
      refine (clone_any w3 HF.out.1 (by rw [HF.out.2.2.1]; have := HQ.out; omega)).mono ?_
      rintro en w4 ⟨u4, rfl, ho4, ha4⟩
      obtain ⟨A4, c4, rfl, -, -⟩ := ho4.len_cap
      have h4 : Ab w w4 := HF.out.2.2.2.2.1.trans ha4
      have hbw4 : base ≤ w4.heap.size := Nat.le_trans HBW.out ha4.size
      have H4 := Lib.hid (And.intro (ho4.lower (b' := w.heap.size) HF.out.2.2.2.2.1.size) (And.intro h4 (And.intro hbw4 ha4)))
      rw [HF.out.2.2.1]
      clear ho4 ha4 h4 hbw4
      go_wp2_with (at_builtin; refine wpList_rl rfl _ _ rfl _ _ rfl rfl Try.underlying107 infoRun (by decide) w.heap.size [] p (.slice A4 nH c4) H (Rl.nil _ _ _) (src_pair Try.underlying107 w4 _ p (.slice A4 nH c4) rfl) (by rw [← HF.out.2.2.1]; exact H4.out.1.alloc _) (by simp) (Nat.le_trans H4.out.2.1.size (by simp)) ?_)
      intro A6 n6 c6 w6 hl6 hg6
      have hn6 : n6 = 1 := by
        obtain ⟨A7, c7, hv6, -, -⟩ := hl6.row.len_cap
        injection hv6 with _ hn _
      have hg6' := grown_ab ((H4.out.2.1).alloc (.cells #[.int .i64 (p : Int), .slice A4 nH c4] 218)) hg6 (fun k hk => by cases hk)
      have hg36 := grown_ab ((H4.out.2.2.2).alloc (.cells #[.int .i64 (p : Int), .slice A4 nH c4] 218)) hg6 (fun k hk => by cases hk)
      subst hn6
      have H6 := Lib.hid (And.intro hl6 (And.intro hg6' (And.intro hg36 (show base ≤ w6.heap.size from Nat.le_trans HBW.out hg36.size))))
      clear hl6 hg6 hg6' hg36
      go_wp2_with fail
      refine (replace_any w6 (HE.out.ab H6.out.2.1) i j (Nat.le_trans HT.out.1 HT.out.2.1) HT.out.2.1 (H6.out.1.lower HB.out) (by simp) H6.out.2.2.2).mono ?_
      rintro en w12 ⟨rfl, v12, hb12, hr12, hm12⟩
      obtain ⟨v13, hend, hcel⟩ := hole_end HE.out HT.out.1 HT.out.2.2.1 hlt (by
        have hH := HF.out.2.2.2.2.2.1; have hR := HF.out.2.2.2.2.2.2.1; have hp := HF.out.2.2.2.2.2.2.2; have hnH := HF.out.2.2.1; have hnR := HF.out.2.2.2.1
        unfold leftR
        rw [hH, hR, if_pos (by omega), if_neg (by omega)]; (try rw [hp]); rfl) hb12 hr12
      have hm := (Mv.of_ab (S := fun k => k = a) H6.out.2.1).trans hm12
      go_wp2_with fail
      go_end0
      exact ⟨rfl, ⟨_, _, hend, hcel, nw_mid (fun p hp k hk => ((H6.out.1.own p hp).blk k hk).1)⟩, hm⟩
  · have cH' : ¬ (0 : Int) < (nH : Int) := by omega
    by_cases cR : 0 < nR
    · have cR' : (0 : Int) < (nR : Int) := by omega
      go_wp2_with fail
      refine (clone_any w3 ((HF.out.2.1.ab (Ab.refl w3) (Nat.le_refl _)).more (Ab.refl w3).size) (by rw [HF.out.2.2.2.1]; have := HQ.out; omega)).mono ?_
      rintro en w8 ⟨u8, rfl, ho8, ha8⟩
      obtain ⟨A8, c8, rfl, -, -⟩ := ho8.len_cap
      have h8 : Ab w w8 := HF.out.2.2.2.2.1.trans ha8
      have hbw8 : base ≤ w8.heap.size := Nat.le_trans HBW.out ha8.size
      have H8 := Lib.hid (And.intro (ho8.lower (b' := w.heap.size) (HF.out.2.2.2.2.1.size)) (And.intro h8 (And.intro hbw8 ((Rl.nil 218 w3 w.heap.size).ab ha8))))
      rw [HF.out.2.2.2.1]
      clear ho8 ha8 h8 hbw8
      go_wp2_with (at_builtin; refine wpList_rl rfl _ _ rfl _ _ rfl rfl Try.underlying107 infoRun (by decide) w.heap.size (([] : List Pr)) e (.slice A8 nR c8) R (H8.out.2.2.2.ab ((Ab.refl w8).alloc _)) (src_pair Try.underlying107 w8 _ e (.slice A8 nR c8) rfl) (by rw [← HF.out.2.2.2.1]; exact H8.out.1.alloc _) (by simp) (Nat.le_trans H8.out.2.1.size (by simp)) ?_)
      intro A10 n10 c10 w10 hl10 hg10
      have hn10 : n10 = 1 := by
        obtain ⟨A7, c7, hv6, -, -⟩ := hl10.row.len_cap
        injection hv6 with _ hn _
      have hm10 : Ab w w10 := grown_ab ((H8.out.2.1).alloc (.cells #[.int .i64 (e : Int), .slice A8 nR c8] 218)) hg10 (fun k hk => by cases hk)
      subst hn10
      have H10 := Lib.hid (And.intro hl10 (And.intro hm10 (show base ≤ w10.heap.size from Nat.le_trans HB.out hm10.size)))
      clear hl10 hg10 hm10
      go_wp2_with fail
      refine (replace_any w10 (HE.out.ab H10.out.2.1) i j (Nat.le_trans HT.out.1 HT.out.2.1) HT.out.2.1 (H10.out.1.lower HB.out) (by simp) H10.out.2.2).mono ?_
      rintro en w12 ⟨rfl, v12, hb12, hr12, hm12⟩
      obtain ⟨v13, hend, hcel⟩ := hole_end HE.out HT.out.1 HT.out.2.2.1 hlt (by
        have hH := HF.out.2.2.2.2.2.1; have hR := HF.out.2.2.2.2.2.2.1; have hp := HF.out.2.2.2.2.2.2.2; have hnH := HF.out.2.2.1; have hnR := HF.out.2.2.2.1
        unfold leftR
        rw [hH, hR, if_neg (by omega), if_pos (by omega)]; (try rw [hp]); rfl) hb12 hr12
      have hm := (Mv.of_ab (S := fun k => k = a) H10.out.2.1).trans hm12
      go_wp2_with fail
      go_end0
      exact ⟨rfl, ⟨_, _, hend, hcel, nw_mid (fun p hp k hk => ((H10.out.1.own p hp).blk k hk).1)⟩, hm⟩
    · have cR' : ¬ (0 : Int) < (nR : Int) := by omega
      go_wp2_with fail
      refine (replace_any w3 (HE.out.ab HF.out.2.2.2.2.1) i j (Nat.le_trans HT.out.1 HT.out.2.1) HT.out.2.1 ((Rl.nil 218 w3 w.heap.size).lower HB.out) (by simp) HBW.out).mono ?_
      rintro en w12 ⟨rfl, v12, hb12, hr12, hm12⟩
      obtain ⟨v13, hend, hcel⟩ := hole_end HE.out HT.out.1 HT.out.2.2.1 hlt (by
        have hH := HF.out.2.2.2.2.2.1; have hR := HF.out.2.2.2.2.2.2.1; have hp := HF.out.2.2.2.2.2.2.2; have hnH := HF.out.2.2.1; have hnR := HF.out.2.2.2.1
        unfold leftR
        rw [hH, hR, if_neg (by omega), if_neg (by omega)]; (try rw [hp]); rfl) hb12 hr12
      have hm := (Mv.of_ab (S := fun k => k = a) HF.out.2.2.2.2.1).trans hm12
      go_wp2_with fail
      go_end0
      exact ⟨rfl, ⟨_, _, hend, hcel, nw_mid (fun p hp k hk => (((Rl.nil 218 w3 w.heap.size).own p hp).blk k hk).1)⟩, hm⟩
end Go.Proofs.Ytniodjigncicbaa.Dg

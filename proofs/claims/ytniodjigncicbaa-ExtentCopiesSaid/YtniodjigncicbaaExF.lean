/- The bytes of the touched runs that stand ahead of a change and behind it. -/
import Derived.Test.YtniodjigncicbaaExE
namespace Go.Proofs.Ytniodjigncicbaa.Dg
open Go.RowKit
variable {w w' : World} {base a s : Nat} {v : Value} {ps : List Pr} {l : List UInt8}
attribute [local go_sem ↓] Go.wp_at_zero Go.wp_at_succ
theorem mid_head (ps : List Pr) (i j : Nat) (hij : i < j) (hj : j ≤ ps.length) : (((rnOf ps).take j).drop i).head? = some (ps[i].at_, ps[i].bytes) := by
  rw [List.head?_drop, List.getElem?_take_of_lt hij, List.getElem?_eq_getElem (by rw [rnOf_length]; omega), rnOf_get]
theorem mid_last (ps : List Pr) (i j : Nat) (hij : i < j) (hj : j ≤ ps.length) : (((rnOf ps).take j).drop i).getLast? = some (ps[j - 1].at_, ps[j - 1].bytes) := by
  rw [List.getLast?_eq_getElem?, List.length_drop, List.length_take, rnOf_length, Nat.min_eq_left hj, List.getElem?_drop, show i + (j - i - 1) = j - 1 by omega, List.getElem?_take_of_lt (by omega), List.getElem?_eq_getElem (by rw [rnOf_length]; omega), rnOf_get]
theorem mid_none (ps : List Pr) (i : Nat) : ((rnOf ps).take i).drop i = [] := List.drop_eq_nil_of_le (by rw [List.length_take]; omega)
def AroPost (w : World) (H T : List UInt8) (en : Ending) (w' : World) : Prop :=
  ∃ u1 u2, en = .returned (.tuple #[u1, u2]) ∧ Bs w' w.heap.size u1 H ∧ Bs w' w.heap.size u2 T ∧ Ab w w'
set_option maxRecDepth 100000 in
set_option maxHeartbeats 4000000 in
theorem around_any (w : World) (h : Ex w base a v ps s) (i j at_ e : Nat) (hij : i ≤ j) (hj : j ≤ ps.length) (ht : Tou ((rnOf ps).take i) (((rnOf ps).take j).drop i) ((rnOf ps).drop j) at_ e) (he : e ≤ 4096) :
    Calls Try.prog 110 #[.pointer (some ⟨a, 0, none⟩), .int .i64 (i : Int), .int .i64 (j : Int), .int .i64 (at_ : Int), .int .i64 (e : Int)] w (AroPost w (headR (((rnOf ps).take j).drop i) at_) (tailR (((rnOf ps).take j).drop i) e)) := by
  obtain ⟨-, -, h2⟩ := h.cells
  obtain ⟨A, c, rfl, hc1, hc2⟩ := h.row.row.len_cap
  have hlen := h.len
  by_cases hne : i = j
  · subst hne
    rw [mid_none]
    go_enter Try.func110, Try.ntmps110
    go_wp2
    go_ret2
    exact ⟨_, _, rfl, (Ob.nil w 0).bs, (Ob.nil w 0).bs, Ab.refl w⟩
  · have hlt : i < j := by omega
    obtain ⟨-, gb, off, Au, cu, rfl, hbg, hgl, hnc, hcm, hu, hu1, hu2, k1, k2⟩ := h.row.get i (by omega)
    obtain ⟨-, gb', off', Av, cv, hA', -, -, -, -, hv', hv1, hv2, j1, j2⟩ := h.row.get (j - 1) (by omega)
    injection hA' with hA'
    injection hA' with hA1 hA2
    subst hA1; subst hA2
    have hmh := mid_head ps i j hlt hj
    have hml := mid_last ps i j hlt hj
    have f1 := ht.m1 _ (List.mem_of_head? hmh)
    have f2 := ht.m2 _ (List.mem_of_head? hmh)
    have f3 := ht.m1 _ (List.mem_of_getLast? hml)
    have f4 := ht.m2 _ (List.mem_of_getLast? hml)
    have g1 := h.at_ (List.getElem_mem (show i < ps.length by omega))
    have g2 := h.at_ (List.getElem_mem (show j - 1 < ps.length by omega))
    have hb1 := (h.row.own ps[i] (List.getElem_mem (by omega))).bs
    have hb2 := (h.row.own ps[j - 1] (List.getElem_mem (by omega))).bs
    have hH : headR (((rnOf ps).take j).drop i) at_ = ps[i].bytes.take (at_ - ps[i].at_) := by unfold headR; rw [hmh]
    have hT : tailR (((rnOf ps).take j).drop i) e = ps[j - 1].bytes.drop (e - ps[j - 1].at_) := by unfold tailR; rw [hml]
    rw [hH, hT]
    rw [hu] at hb1
    rw [hv'] at hb2
    obtain ⟨l1, hl1⟩ : ∃ l1, ps[i].bytes = l1 := ⟨_, rfl⟩
    obtain ⟨l2, hl2⟩ : ∃ l2, ps[j - 1].bytes = l2 := ⟨_, rfl⟩
    obtain ⟨p1, hp1⟩ : ∃ p1, ps[i].at_ = p1 := ⟨_, rfl⟩
    obtain ⟨p2, hp2⟩ : ∃ p2, ps[j - 1].at_ = p2 := ⟨_, rfl⟩
    simp only [hl1, hl2, hp1, hp2] at *
    obtain ⟨m1, hm1⟩ : ∃ m1, l1.length = m1 := ⟨_, rfl⟩
    obtain ⟨m2, hm2⟩ : ∃ m2, l2.length = m2 := ⟨_, rfl⟩
    rw [hm1] at k2 f1 g1 hu1
    rw [hm2] at j2 f3 g2 hv1
    obtain ⟨q2, hq2⟩ : ∃ q2, p2 + m2 = q2 := ⟨_, rfl⟩
    obtain ⟨x1, hx1⟩ : ∃ x1, at_ - p1 = x1 := ⟨_, rfl⟩
    obtain ⟨x2, hx2⟩ : ∃ x2, e - p2 = x2 := ⟨_, rfl⟩
    obtain ⟨jj, hjj⟩ : ∃ jj, j - 1 = jj := ⟨_, rfl⟩
    rw [hjj] at j1 j2
    obtain ⟨N, hN⟩ : ∃ N, ps.length = N := ⟨_, rfl⟩
    rw [hN] at h2 hj hlen hnc
    have HB := Lib.hid (And.intro hb1 (And.intro hb2 (And.intro hm1 hm2)))
    have HQ := Lib.hid (And.intro hq2 (show q2 ≤ 9223372036854775807 by omega))
    have e1 : (j : Int) - 1 = (jj : Int) := by omega
    have e2 : IntKind.i64.wrap (jj : Int) = (jj : Int) := IntWalk.i64_in _ (by omega)
    have i1 : (0 : Int) ≤ (i : Int) := by omega
    have i2 : (i : Int) < (N : Int) := by omega
    have i3 : (0 : Int) ≤ (jj : Int) := by omega
    have i4 : (jj : Int) < (N : Int) := by omega
    have i5 : ¬ (i : Int) = (j : Int) := by omega
    have HN := Lib.hid (And.intro (show p1 ≤ at_ → (at_ : Int) - (p1 : Int) = (x1 : Int) by omega) (And.intro (show x1 ≤ m1 ∧ m1 ≤ cu by omega) (And.intro (show p2 ≤ e ∧ (e : Int) - (p2 : Int) = (x2 : Int) by omega) (And.intro (show e < q2 → x2 ≤ m2 by omega) (And.intro (show ¬ e < q2 → m2 ≤ x2 by omega) (show ¬ p1 < at_ → x1 = 0 by omega))))))
    have hal : a < w.heap.size := h.blk.lt
    have HC := Lib.hid (fun (wx : World) (hx : Ab w wx) => (And.intro ((hx.cells a 2 hal).trans h2) (And.intro ((hx.cells gb _ hgl).trans k1) (And.intro ((hx.cells gb _ hgl).trans k2) (And.intro ((hx.cells gb _ hgl).trans j1) ((hx.cells gb _ hgl).trans j2))))))
    have HW := Lib.hid (show x1 ≤ 4096 ∧ x2 ≤ 4096 by omega)
    rw [hx1, hx2]
    clear hb1 hb2 hm1 hm2 hq2 hx1 hx2 hjj hN f1 f2 f3 f4 g1 g2 hH hT hmh hml hl1 hl2 hp1 hp2 hu hv' hu1 hu2 hv1 hv2 ht h hbg hgl hnc hcm hc1 hc2 he hij hj hlt hne hlen hal
    go_enter Try.func110, Try.ntmps110
    go_wp2_with fail
    go_region_held3 (fun wx => wx.cell? ⟨a, 2, none⟩ = some (.slice (some ⟨gb, off, none⟩) N c) ∧ wx.cell? ⟨gb, off + i * 2, none⟩ = some (.int .i64 (p1 : Int)) ∧ wx.cell? ⟨gb, off + i * 2 + 1, none⟩ = some (.slice Au m1 cu) ∧ wx.cell? ⟨gb, off + jj * 2, none⟩ = some (.int .i64 (p2 : Int)) ∧ wx.cell? ⟨gb, off + jj * 2 + 1, none⟩ = some (.slice Av m2 cv))
      (first | exact ⟨h2, k1, k2, j1, j2⟩ | exact HC.out _ ((Ab.refl w).alloc _).drew | exact HC.out _ (((Ab.refl w).alloc _).alloc _).drew) (fail)
    · have hbA : Bk (((w.alloc (.cells #[.int .i64 (p1 : Int), .slice Au m1 cu] 218)).alloc (.cells #[.int .i64 (p2 : Int), .slice Av m2 cv] 218)).drew) (w.heap.size) 218 #[.int .i64 (p1 : Int), .slice Au m1 cu] := ((Bk.made w _ _).alloc _).drew
      have hbB : Bk (((w.alloc (.cells #[.int .i64 (p1 : Int), .slice Au m1 cu] 218)).alloc (.cells #[.int .i64 (p2 : Int), .slice Av m2 cv] 218)).drew) (w.heap.size + 1) 218 #[.int .i64 (p2 : Int), .slice Av m2 cv] := (Bk.new (by simp)).drew
      have hab : Ab w (((w.alloc (.cells #[.int .i64 (p1 : Int), .slice Au m1 cu] 218)).alloc (.cells #[.int .i64 (p2 : Int), .slice Av m2 cv] 218)).drew) := (((Ab.refl w).alloc _).alloc _).drew
      generalize ((w.alloc (.cells #[.int .i64 (p1 : Int), .slice Au m1 cu] 218)).alloc (.cells #[.int .i64 (p2 : Int), .slice Av m2 cv] 218)).drew = w4 at *
      have x0 : w4.cell? ⟨w.heap.size, 0, none⟩ = some (.int .i64 (p1 : Int)) := hbA.cell rfl
      have x1' : w4.cell? ⟨w.heap.size, 1, none⟩ = some (.slice Au m1 cu) := hbA.cell rfl
      have y0 : w4.cell? ⟨w.heap.size + 1, 0, none⟩ = some (.int .i64 (p2 : Int)) := hbB.cell rfl
      have y1 : w4.cell? ⟨w.heap.size + 1, 1, none⟩ = some (.slice Av m2 cv) := hbB.cell rfl
      have HA := Lib.hid (And.intro hab (And.intro hbB.lt hbA.lt))
      clear hbA hbB hab
      by_cases c1 : p1 < at_
      · have c1' : (p1 : Int) < (at_ : Int) := by omega
        have n1 := HN.out.1 (Nat.le_of_lt c1)
        have n2 : IntKind.i64.wrap (x1 : Int) = (x1 : Int) := IntWalk.i64_in _ (by have := HW.out; omega)
        have hs1 := fun wx => run_slice_head Au m1 cu x1 (x1 : Int) rfl (by have := HN.out.2.1; omega) wx
        by_cases c2 : e < q2
        · have c2' : (e : Int) < (q2 : Int) := by omega
          have n3 := HN.out.2.2.1.2
          have n4 : IntKind.i64.wrap (x2 : Int) = (x2 : Int) := IntWalk.i64_in _ (by have := HW.out; omega)
          have hs2 := fun wx => run_slice_tail Av m2 cv x2 (HN.out.2.2.2.1 c2) wx
          have hcu := cutB HB.out.2.1 x2 (by rw [HB.out.2.2.2]; exact HN.out.2.2.2.1 c2) (n := m2 - x2) (by rw [HB.out.2.2.2])
          generalize (if cv = x2 then Av else Option.map (fun x => x.add x2) Av) = At at hs2 hcu
          have HCU := Lib.hid hcu
          clear hcu
          go_wp2_with (go_at_call 137; (refine (rend_any _ p2 Av m2 cv q2 HQ.out.1 HQ.out.2).mono ?_); rintro e wz ⟨rfl, haz⟩; have z0 := (haz.cells _ 0 HA.out.2.1).trans y0; have z1 := (haz.cells _ 1 HA.out.2.1).trans y1; have HZ := Lib.hid haz; clear haz)
          go_ret2
          exact ⟨_, _, rfl, ((take_bs HB.out.1 x1 (by rw [HB.out.2.2.1]; exact HN.out.2.1.1)).ab (HA.out.1.trans HZ.out) (Nat.le_refl _)), (HCU.out.ab (HA.out.1.trans HZ.out) (Nat.le_refl _)), HA.out.1.trans HZ.out⟩
        · have c2' : ¬ (e : Int) < (q2 : Int) := by omega
          go_wp2_with (go_at_call 137; (refine (rend_any _ p2 Av m2 cv q2 HQ.out.1 HQ.out.2).mono ?_); rintro e wz ⟨rfl, haz⟩; have z0 := (haz.cells _ 0 HA.out.2.1).trans y0; have z1 := (haz.cells _ 1 HA.out.2.1).trans y1; have HZ := Lib.hid haz; clear haz)
          go_ret2
          exact ⟨_, _, rfl, ((take_bs HB.out.1 x1 (by rw [HB.out.2.2.1]; exact HN.out.2.1.1)).ab (HA.out.1.trans HZ.out) (Nat.le_refl _)), (by rw [List.drop_eq_nil_of_le (by rw [HB.out.2.2.2]; exact HN.out.2.2.2.2.1 c2)]; exact (Ob.nil w 0).bs.ab (HA.out.1.trans HZ.out) (Nat.le_refl _)), HA.out.1.trans HZ.out⟩
      · have c1' : ¬ (p1 : Int) < (at_ : Int) := by omega
        by_cases c2 : e < q2
        · have c2' : (e : Int) < (q2 : Int) := by omega
          have n3 := HN.out.2.2.1.2
          have n4 : IntKind.i64.wrap (x2 : Int) = (x2 : Int) := IntWalk.i64_in _ (by have := HW.out; omega)
          have hs2 := fun wx => run_slice_tail Av m2 cv x2 (HN.out.2.2.2.1 c2) wx
          have hcu := cutB HB.out.2.1 x2 (by rw [HB.out.2.2.2]; exact HN.out.2.2.2.1 c2) (n := m2 - x2) (by rw [HB.out.2.2.2])
          generalize (if cv = x2 then Av else Option.map (fun x => x.add x2) Av) = At at hs2 hcu
          have HCU := Lib.hid hcu
          clear hcu
          go_wp2_with (go_at_call 137; (refine (rend_any _ p2 Av m2 cv q2 HQ.out.1 HQ.out.2).mono ?_); rintro e wz ⟨rfl, haz⟩; have z0 := (haz.cells _ 0 HA.out.2.1).trans y0; have z1 := (haz.cells _ 1 HA.out.2.1).trans y1; have HZ := Lib.hid haz; clear haz)
          go_ret2
          exact ⟨_, _, rfl, (by rw [HN.out.2.2.2.2.2 c1]; exact (Ob.nil w 0).bs.ab (HA.out.1.trans HZ.out) (Nat.le_refl _)), (HCU.out.ab (HA.out.1.trans HZ.out) (Nat.le_refl _)), HA.out.1.trans HZ.out⟩
        · have c2' : ¬ (e : Int) < (q2 : Int) := by omega
          go_wp2_with (go_at_call 137; (refine (rend_any _ p2 Av m2 cv q2 HQ.out.1 HQ.out.2).mono ?_); rintro e wz ⟨rfl, haz⟩; have z0 := (haz.cells _ 0 HA.out.2.1).trans y0; have z1 := (haz.cells _ 1 HA.out.2.1).trans y1; have HZ := Lib.hid haz; clear haz)
          go_ret2
          exact ⟨_, _, rfl, (by rw [HN.out.2.2.2.2.2 c1]; exact (Ob.nil w 0).bs.ab (HA.out.1.trans HZ.out) (Nat.le_refl _)), (by rw [List.drop_eq_nil_of_le (by rw [HB.out.2.2.2]; exact HN.out.2.2.2.2.1 c2)]; exact (Ob.nil w 0).bs.ab (HA.out.1.trans HZ.out) (Nat.le_refl _)), HA.out.1.trans HZ.out⟩
    · have hbA : Bk (((w.alloc (.cells #[.int .i64 (p2 : Int), .slice Av m2 cv] 218)).alloc (.cells #[.int .i64 (p1 : Int), .slice Au m1 cu] 218)).drew) (w.heap.size) 218 #[.int .i64 (p2 : Int), .slice Av m2 cv] := ((Bk.made w _ _).alloc _).drew
      have hbB : Bk (((w.alloc (.cells #[.int .i64 (p2 : Int), .slice Av m2 cv] 218)).alloc (.cells #[.int .i64 (p1 : Int), .slice Au m1 cu] 218)).drew) (w.heap.size + 1) 218 #[.int .i64 (p1 : Int), .slice Au m1 cu] := (Bk.new (by simp)).drew
      have hab : Ab w (((w.alloc (.cells #[.int .i64 (p2 : Int), .slice Av m2 cv] 218)).alloc (.cells #[.int .i64 (p1 : Int), .slice Au m1 cu] 218)).drew) := (((Ab.refl w).alloc _).alloc _).drew
      generalize ((w.alloc (.cells #[.int .i64 (p2 : Int), .slice Av m2 cv] 218)).alloc (.cells #[.int .i64 (p1 : Int), .slice Au m1 cu] 218)).drew = w4 at *
      have x0 : w4.cell? ⟨w.heap.size + 1, 0, none⟩ = some (.int .i64 (p1 : Int)) := hbB.cell rfl
      have x1' : w4.cell? ⟨w.heap.size + 1, 1, none⟩ = some (.slice Au m1 cu) := hbB.cell rfl
      have y0 : w4.cell? ⟨w.heap.size, 0, none⟩ = some (.int .i64 (p2 : Int)) := hbA.cell rfl
      have y1 : w4.cell? ⟨w.heap.size, 1, none⟩ = some (.slice Av m2 cv) := hbA.cell rfl
      have HA := Lib.hid (And.intro hab (And.intro hbA.lt hbB.lt))
      clear hbA hbB hab
      by_cases c1 : p1 < at_
      · have c1' : (p1 : Int) < (at_ : Int) := by omega
        have n1 := HN.out.1 (Nat.le_of_lt c1)
        have n2 : IntKind.i64.wrap (x1 : Int) = (x1 : Int) := IntWalk.i64_in _ (by have := HW.out; omega)
        have hs1 := fun wx => run_slice_head Au m1 cu x1 (x1 : Int) rfl (by have := HN.out.2.1; omega) wx
        by_cases c2 : e < q2
        · have c2' : (e : Int) < (q2 : Int) := by omega
          have n3 := HN.out.2.2.1.2
          have n4 : IntKind.i64.wrap (x2 : Int) = (x2 : Int) := IntWalk.i64_in _ (by have := HW.out; omega)
          have hs2 := fun wx => run_slice_tail Av m2 cv x2 (HN.out.2.2.2.1 c2) wx
          have hcu := cutB HB.out.2.1 x2 (by rw [HB.out.2.2.2]; exact HN.out.2.2.2.1 c2) (n := m2 - x2) (by rw [HB.out.2.2.2])
          generalize (if cv = x2 then Av else Option.map (fun x => x.add x2) Av) = At at hs2 hcu
          have HCU := Lib.hid hcu
          clear hcu
          go_wp2_with (go_at_call 137; (refine (rend_any _ p2 Av m2 cv q2 HQ.out.1 HQ.out.2).mono ?_); rintro e wz ⟨rfl, haz⟩; have z0 := (haz.cells _ 0 HA.out.2.1).trans y0; have z1 := (haz.cells _ 1 HA.out.2.1).trans y1; have HZ := Lib.hid haz; clear haz)
          go_ret2
          exact ⟨_, _, rfl, ((take_bs HB.out.1 x1 (by rw [HB.out.2.2.1]; exact HN.out.2.1.1)).ab (HA.out.1.trans HZ.out) (Nat.le_refl _)), (HCU.out.ab (HA.out.1.trans HZ.out) (Nat.le_refl _)), HA.out.1.trans HZ.out⟩
        · have c2' : ¬ (e : Int) < (q2 : Int) := by omega
          go_wp2_with (go_at_call 137; (refine (rend_any _ p2 Av m2 cv q2 HQ.out.1 HQ.out.2).mono ?_); rintro e wz ⟨rfl, haz⟩; have z0 := (haz.cells _ 0 HA.out.2.1).trans y0; have z1 := (haz.cells _ 1 HA.out.2.1).trans y1; have HZ := Lib.hid haz; clear haz)
          go_ret2
          exact ⟨_, _, rfl, ((take_bs HB.out.1 x1 (by rw [HB.out.2.2.1]; exact HN.out.2.1.1)).ab (HA.out.1.trans HZ.out) (Nat.le_refl _)), (by rw [List.drop_eq_nil_of_le (by rw [HB.out.2.2.2]; exact HN.out.2.2.2.2.1 c2)]; exact (Ob.nil w 0).bs.ab (HA.out.1.trans HZ.out) (Nat.le_refl _)), HA.out.1.trans HZ.out⟩
      · have c1' : ¬ (p1 : Int) < (at_ : Int) := by omega
        by_cases c2 : e < q2
        · have c2' : (e : Int) < (q2 : Int) := by omega
          have n3 := HN.out.2.2.1.2
          have n4 : IntKind.i64.wrap (x2 : Int) = (x2 : Int) := IntWalk.i64_in _ (by have := HW.out; omega)
          have hs2 := fun wx => run_slice_tail Av m2 cv x2 (HN.out.2.2.2.1 c2) wx
          have hcu := cutB HB.out.2.1 x2 (by rw [HB.out.2.2.2]; exact HN.out.2.2.2.1 c2) (n := m2 - x2) (by rw [HB.out.2.2.2])
          generalize (if cv = x2 then Av else Option.map (fun x => x.add x2) Av) = At at hs2 hcu
          have HCU := Lib.hid hcu
          clear hcu
          go_wp2_with (go_at_call 137; (refine (rend_any _ p2 Av m2 cv q2 HQ.out.1 HQ.out.2).mono ?_); rintro e wz ⟨rfl, haz⟩; have z0 := (haz.cells _ 0 HA.out.2.1).trans y0; have z1 := (haz.cells _ 1 HA.out.2.1).trans y1; have HZ := Lib.hid haz; clear haz)
          go_ret2
          exact ⟨_, _, rfl, (by rw [HN.out.2.2.2.2.2 c1]; exact (Ob.nil w 0).bs.ab (HA.out.1.trans HZ.out) (Nat.le_refl _)), (HCU.out.ab (HA.out.1.trans HZ.out) (Nat.le_refl _)), HA.out.1.trans HZ.out⟩
        · have c2' : ¬ (e : Int) < (q2 : Int) := by omega
          go_wp2_with (go_at_call 137; (refine (rend_any _ p2 Av m2 cv q2 HQ.out.1 HQ.out.2).mono ?_); rintro e wz ⟨rfl, haz⟩; have z0 := (haz.cells _ 0 HA.out.2.1).trans y0; have z1 := (haz.cells _ 1 HA.out.2.1).trans y1; have HZ := Lib.hid haz; clear haz)
          go_ret2
          exact ⟨_, _, rfl, (by rw [HN.out.2.2.2.2.2 c1]; exact (Ob.nil w 0).bs.ab (HA.out.1.trans HZ.out) (Nat.le_refl _)), (by rw [List.drop_eq_nil_of_le (by rw [HB.out.2.2.2]; exact HN.out.2.2.2.2.1 c2)]; exact (Ob.nil w 0).bs.ab (HA.out.1.trans HZ.out) (Nat.le_refl _)), HA.out.1.trans HZ.out⟩
end Go.Proofs.Ytniodjigncicbaa.Dg

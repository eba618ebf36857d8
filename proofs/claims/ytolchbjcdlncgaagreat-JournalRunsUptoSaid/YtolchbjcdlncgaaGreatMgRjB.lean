/- Texts joined: RjB. -/
import Derived.Test.YtolchbjcdlncgaaGreatMgDkU
import Derived.Test.YtolchbjcdlncgaaGreatMgRjA
import Derived.Test.YtolchbjcdlncgaaGreatMgWrL
/- The reference's journal: Open, Append. -/
namespace Go.Proofs.YtolchbjcdlncgaaGreat.Dg
open Go.RowKit
variable {w w' : World} {base a g2 gk torn B : Nat} {v2 u : Value} {rs : List (List UInt8)} {r : Dst} {l : List UInt8}
attribute [local go_sem ↓] Go.wp_at_zero Go.wp_at_succ
theorem Rj.apart (h : Rj w base gk g2 v2 r torn) : ¬ Own g2 v2 gk := by
  intro ho
  rcases ho with e | e
  · exact absurd (Bk.inj h.blk (e ▸ h.rk.1)) (by decide)
  · exact absurd (h.rk.2.1.type e h.blk) (by decide)
theorem Rj.turn {v3 : Value} {r3 : Dst} (h : Rj w base gk g2 v2 r torn) (hr : Rk w' base g2 v3 r3) (ht : Turn g2 v2 v3 w w') : Rj w' base gk g2 v3 r3 torn := ⟨hr, ht.1.bk h.blk h.apart, h.le⟩
theorem opened_torn (hok : r.Ok) (h0 : tornD r = 0) : opened r = r := by
  have h1 := opened_at r
  unfold tornD at h0
  have e : r.base + sizeL (recsOf r.bytes) = r.fin := by omega
  unfold opened
  rw [e]
  exact leave_fin hok
set_option maxRecDepth 100000 in
set_option maxHeartbeats 2000000 in
theorem ROpen_any (w : World) (h : Rk w base g2 v2 r) (hc : r.lim = none) (hbase : base ≤ w.heap.size) :
    Calls Tryz.prog 49 #[.pointer (some ⟨g2, 0, none⟩)] w fun e w' => ∃ gk v3, e = .returned (.pointer (some ⟨gk, 0, none⟩)) ∧ Rj w' base gk g2 v3 (opened r) (tornD r) ∧ Turn g2 v2 v3 w w' ∧ w.heap.size ≤ gk := by
  have hr1 : Rj (w.alloc (.cells #[.pointer (some ⟨g2, 0, none⟩), .int .i64 0] 74)) base w.heap.size g2 v2 r 0 := ⟨h.ab ((Ab.refl w).alloc _), Bk.made w _ _, hbase⟩
  have ha1 := (Ab.refl w).alloc (.cells #[.pointer (some ⟨g2, 0, none⟩), .int .i64 0] 74)
  have H1 := Lib.hid (And.intro hr1 ha1)
  have hf := h.ok.reach
  have hop := opened_at r
  have HOK := Lib.hid h.ok
  have HC := Lib.hid (show r.cold = false by unfold Dst.cold; rw [hc]; rfl)
  obtain ⟨f, hff⟩ : ∃ f, r.fin = f := ⟨_, rfl⟩
  obtain ⟨y, hy⟩ : ∃ y, r.base + sizeL (recsOf r.bytes) = y := ⟨_, rfl⟩
  obtain ⟨t, ht⟩ : ∃ t, tornD r = t := ⟨_, rfl⟩
  have hft : f - y = t := by rw [← hff, ← hy, ← ht]; rfl
  rw [hff] at hf hop
  rw [hy] at hop
  have e1 : IntKind.i64.wrap ((f : Int) - (y : Int)) = (t : Int) := by rw [IntWalk.i64_in _ (by omega)]; omega
  have HH := Lib.hid (And.intro hff (And.intro hy (And.intro ht hop)))
  clear hr1 ha1 h hc hop hff hy ht hft hf
  go_enter Tryz.func49, Tryz.ntmps49
  go_wp2_with fail
  generalize w.alloc (.cells #[.pointer (some ⟨g2, 0, none⟩), .int .i64 0] 74) = w1 at *
  refine (rrecords_any w1 H1.out.1).mono ?_
  rintro e w2 ⟨A, n, c, y', -, hy', rfl, -, ha2⟩
  obtain rfl : y' = y := by rw [hy', HH.out.2.1]
  have hr2 := H1.out.1.ab ha2
  have H2 := Lib.hid (And.intro hr2 (H1.out.2.trans ha2))
  clear hy' ha2 hr2
  go_wp2_with fail
  have hre := rend_at H2.out.1.rk 0
  rw [HH.out.1] at hre
  have HE := Lib.hid hre
  clear hre
  refine (show Calls Tryz.prog 42 #[.pointer (some ⟨g2, 0, none⟩)] w2 _ from HE.out).mono ?_
  rintro e w3 ⟨rfl, m, rfl⟩
  have hr3 := H2.out.1.ab ((Ab.refl w2).drewN m)
  have hb3 := hr3.blk
  have q1 : (w2.drewN m).cell? ⟨w.heap.size, 1, none⟩ = some (.int .i64 0) := hb3.cell rfl
  have z1 := hb3.free 1
  have hb4 : Bk ((w2.drewN m).setCell ⟨w.heap.size, 1, none⟩ (.int .i64 (t : Int))) w.heap.size 74 #[.pointer (some ⟨g2, 0, none⟩), .int .i64 (t : Int)] := (hb3.store 1 (.int .i64 (t : Int))).eq_ (by simp only [List.setIfInBounds_toArray, List.set_cons_zero, List.set_cons_succ])
  have hrk4 : Rk ((w2.drewN m).setCell ⟨w.heap.size, 1, none⟩ (.int .i64 (t : Int))) base g2 v2 r := hr3.rk.mv (S := (· = w.heap.size)) (Mv.set (S := (· = w.heap.size)) (p := ⟨w.heap.size, 1, none⟩) (Mv.refl _ _) rfl _) (fun k hk e => hr3.apart (e ▸ hk))
  have ha4 : Ab w ((w2.drewN m).setCell ⟨w.heap.size, 1, none⟩ (.int .i64 (t : Int))) := (H2.out.2.drewN m).set (Nat.le_refl _) _
  have q4 := hb4.cell (i := 1) rfl
  have H4 := Lib.hid (And.intro hb4 (And.intro hrk4 ha4))
  clear hr3 hb3 hb4 hrk4 ha4 H2 H1
  have hw4 : ∃ w4, (w2.drewN m).setCell ⟨w.heap.size, 1, none⟩ (.int .i64 (t : Int)) = w4 := ⟨_, rfl⟩
  by_cases ht0 : t = 0
  · have hop : opened r = r := opened_torn HOK.out (by rw [HH.out.2.2.1]; exact ht0)
    have hnt : ¬ (0 : Int) < (t : Int) := by omega
    have HO := Lib.hid hop
    clear hop hw4 ht0
    go_wp2_with fail
    go_ret
    exact ⟨w.heap.size, v2, rfl, by rw [HO.out, HH.out.2.2.1]; exact ⟨H4.out.2.1, H4.out.1, hbase⟩, Turn.of_ab H4.out.2.2, Nat.le_refl _⟩
  · have hnt : (0 : Int) < (t : Int) := by omega
    have hcu := rcut_any _ H4.out.2.1 (y' : Int) (Nat.le_trans hbase H4.out.2.2.size)
    rw [(cut_leave y' (by have := HH.out.2.2.2.1; omega) (by rw [HH.out.1]; exact HH.out.2.2.2.2) HC.out).1] at hcu
    have HCU := Lib.hid hcu
    clear hcu hw4 ht0
    go_wp2_with fail
    refine HCU.out.mono ?_
    rintro e w5 ⟨rfl, v5, hr5, ht5⟩
    have hj5 := Rj.turn (⟨H4.out.2.1, H4.out.1, hbase⟩ : Rj _ base w.heap.size g2 v2 r t) hr5 ht5
    have H5 := Lib.hid (And.intro hj5 ht5)
    clear hr5 ht5 hj5
    go_wp2_with fail
    go_ret
    exact ⟨w.heap.size, v5, rfl, by rw [HH.out.2.2.1, show opened r = r.leave y' by unfold opened; rw [HH.out.2.1]]; exact H5.out.1, Turn.after H4.out.2.2 H5.out.2, Nat.le_refl _⟩
/-- Append. -/
def RAppPost (w : World) (base gk g2 : Nat) (v2 : Value) (r : Dst) (torn : Nat) (l : List UInt8) (e : Ending) (w' : World) : Prop :=
  ∃ n : Nat, n = (bif appJ r l then r.fin else 0) ∧ e = .returned (.tuple #[.int .i64 (n : Int), .int .i64 (appJE r l : Int)]) ∧ ∃ v3 r3, Rj w' base gk g2 v3 r3 torn ∧ Turn g2 v2 v3 w w' ∧ r3 = (bif appJ r l then { r with bytes := r.bytes ++ frameL l } else r)
set_option maxRecDepth 100000 in
set_option maxHeartbeats 2000000 in
theorem RAppend_any (w : World) (h : Rj w base gk g2 v2 r torn) (hx : Bs w w.heap.size u l) (hbase : base ≤ w.heap.size) (hroom : r.fin + 8 + l.length ≤ 4611686018427387904 ∨ r.fits (8 + l.length) = false) :
    Calls Tryz.prog 31 #[.pointer (some ⟨gk, 0, none⟩), u] w (RAppPost w base gk g2 v2 r torn l) := by
  have HR := Lib.hid h
  have HX := Lib.hid hx
  have c0 := h.ptr
  have hgl := h.blk.lt
  obtain ⟨A, c, rfl, h1, h2, -⟩ := id hx
  clear h hx
  by_cases hbig : 524288 < l.length
  · have hf : appJ r l = false := by unfold appJ; rw [decide_eq_false (by omega)]; rfl
    have hE : appJE r l = 27 := by unfold appJE; rw [decide_eq_false (by omega)]; rfl
    go_enter Tryz.func31, Tryz.ntmps31
    go_wp2_with fail
    go_ret2
    exact ⟨0, by rw [hf]; rfl, by rw [hE]; rfl, v2, r, HR.out, Turn.of_ab (Ab.refl _), by rw [hf]; rfl⟩
  have hnb : ¬ 524288 < l.length := hbig
  have hroom2 : r.fin + (8 + l.length) ≤ 4611686018427387904 ∨ r.fits (8 + l.length) = false := by rcases hroom with h | h; exact .inl (by omega); exact .inr h
  have hz : r.appAt (8 + l.length) = (bif appJ r l then r.fin else 0) ∧ r.appE (8 + l.length) = appJE r l ∧ r.app (frameL l) = (bif appJ r l then { r with bytes := r.bytes ++ frameL l } else r) := by
    unfold appJ appJE Dst.appAt Dst.appE Dst.app
    rw [decide_eq_true (show l.length ≤ 524288 by omega), frameL_length]
    cases r.fits (8 + l.length) <;> exact ⟨rfl, rfl, rfl⟩
  have HZ := Lib.hid hz
  have HRM := Lib.hid hroom2
  have HX1 := Lib.hid (show Bs w.drew w.drew.heap.size (.slice A l.length c) l from HX.out)
  have HLB := Lib.hid (show l.length ≤ 524288 by omega)
  clear hroom hbig hz hroom2
  go_enter Tryz.func31, Tryz.ntmps31
  go_wp2_with fail
  go_region_held3 (fun wx => wx.cell? ⟨gk, 0, none⟩ = some (.pointer (some ⟨g2, 0, none⟩))) (first | exact c0 | exact q0 | exact q1) (first | (go_at_call 65; (with_reducible refine (rframe_any w.drew HX1.out HLB.out).mono ?_); rintro e w3 ⟨v3, rfl, hv3, ha3⟩; (have q0 := (ha3.cells gk 0 hgl).trans c0); (have H3 := Lib.hid (And.intro hv3 ((Ab.refl w).drew.trans ha3))); (obtain ⟨A3, c3, rfl, -, -⟩ := hv3.len_cap); clear hv3 ha3) | (go_at_call 14; (with_reducible refine (rappend_any w3 (HR.out.ab H3.out.2).rk H3.out.1.bs (Nat.le_refl _) (by rw [frameL_length]; exact HRM.out) (Nat.le_trans hbase H3.out.2.size)).mono ?_); rw [frameL_length, HZ.out.1, HZ.out.2.1, HZ.out.2.2]; rintro e w4 ⟨rfl, v4, hr4, ht4⟩; (have q1 := ((HR.out.ab H3.out.2).turn hr4 ht4).ptr); (have H4 := Lib.hid (And.intro hr4 ht4)); clear hr4 ht4))
  go_wp2
  go_ret2
  exact ⟨_, rfl, rfl, v4, _, (HR.out.ab H3.out.2).turn H4.out.1 H4.out.2, Turn.after H3.out.2 H4.out.2, rfl⟩
end Go.Proofs.YtolchbjcdlncgaaGreat.Dg

/- The reference's disk in memory: Crash, of a number below nought. -/
import Derived.Test.YtolchbjcdlncgaaDkS
namespace Go.Proofs.Ytolchbjcdlncgaa.Dg
open Go.RowKit
variable {w w' : World} {base g : Nat} {v : Value} {d : Dst}
attribute [local go_sem ↓] Go.wp_at_zero Go.wp_at_succ
set_option maxRecDepth 100000 in
set_option maxHeartbeats 2000000 in
theorem rcrash_neg (w : World) (h : Rk w base g v d) (k : Int) (hk : k < 0)  (to : Nat) (hto1 : d.synced ≤ to) (hto2 : to ≤ d.fin) (hto : Dst.within d.lim (min (d.synced + 0) d.fin) = to) (hok2 : ({ d with bytes := d.bytes.take (to - d.base), synced := to, lim := none } : Dst).Ok) (hbase : base ≤ w.heap.size) :
    Calls Try.prog 73 #[.pointer (some ⟨g, 0, none⟩), .int .i64 k] w fun e w' => e = .returned (.tuple #[]) ∧ ∃ v', Rk w' base g v' { d with bytes := d.bytes.take (to - d.base), synced := to, lim := none } ∧ Turn g v v' w w' := by
  have hfz := h.free
  have hr := h.bound
  have hok := h.ok
  have HD := Lib.hid h
  obtain ⟨h0, h1, h2, h3, h4⟩ := h.cells
  obtain ⟨A, c, rfl, hc1, hc2⟩ := h.len_cap
  have HE := Lib.hid (rend_at h)
  obtain ⟨f, hf⟩ : ∃ f, d.fin = f := ⟨_, rfl⟩
  rw [hf] at HE hto hto2
  have hf2 : d.base + d.bytes.length = f := hf
  have hsf : d.synced ≤ f := by rw [← hf]; exact hok.synced
  have hbs := hok.base
  obtain ⟨s, hs⟩ : ∃ s, d.synced = s := ⟨_, rfl⟩
  rw [hs] at h2 hto hto1 hsf hbs
  obtain ⟨lo, hlo⟩ : ∃ lo, to - d.base = lo := ⟨_, rfl⟩
  have hll : lo ≤ d.bytes.length := by omega
  have hsl := fun wx => run_slice_head A d.bytes.length c lo (lo : Int) rfl (by omega) wx
  have HW := Lib.hid (fun (wy : World) (hy : Ab w wy) => take_bs ((h.2.1.bs).ab hy (Nat.le_refl _)) lo hll)
  rw [hlo] at hok2 ⊢
  have HL := Lib.hid (show ([] : List UInt8).length + (d.bytes.take lo).length ≤ 200000000000000 by have := hok.room; have := hok.size2; rw [List.length_take]; simp; omega)
  have ek : (to : Int) - (d.base : Int) = (lo : Int) := by omega
  have wk : IntKind.i64.wrap (lo : Int) = (lo : Int) := IntWalk.i64_in _ (by omega)
  have wf : IntKind.i64.wrap ((f : Int) - (s : Int)) = (f : Int) - (s : Int) := IntWalk.i64_in _ (by omega)
  have H3 := Lib.hid hok2
  have hca1 : ∀ n, ((w.drewN n).alloc (.cells #[] 5)).cell? ⟨g, 1, none⟩ = some (.int .i64 (d.base : Int)) := fun n => (h.ab (((Ab.refl w).drewN n).alloc (.cells #[] 5))).cells.2.1
  have hca3 : ∀ n, ((w.drewN n).alloc (.cells #[] 5)).cell? ⟨g, 3, none⟩ = some (.slice A d.bytes.length c) := fun n => (h.ab (((Ab.refl w).drewN n).alloc (.cells #[] 5))).cells.2.2.2.1
  have hwA : (0 < f - s ∧ min (s + 0) f = s + 0) ∨ (f - s ≤ 0 ∧ min (s + 0) f = f) := by omega
  obtain ⟨L, hL⟩ : ∃ L, d.lim = L := ⟨_, rfl⟩
  rw [hL] at h4 hto
  have hlim := hok.lim
  clear h h0 hf hok hlo hok2 hbs
  rcases hwA with ⟨ha, he⟩ | ⟨ha, he⟩
  · rw [he] at hto
    have a1 : (0 : Int) < (f : Int) - (s : Int) := by omega
    obtain ⟨e, hee⟩ : ∃ e, s + 0 = e := ⟨_, rfl⟩
    rw [hee] at hto
    have a2 : (s : Int) = (e : Int) := by omega
    have hse : s = e := by omega
    subst hse
    clear a2 hee
    have a3 : IntKind.i64.wrap (s : Int) = (s : Int) := IntWalk.i64_in _ (by omega)
    have a4 : (s : Int) + 0 = (s : Int) := by omega
    cases L with
    | none =>
      replace h4 : w.cell? ⟨g, 4, none⟩ = some (.int .i64 (-1)) := h4
      replace hto : s = to := hto
      subst hto
      clear hr hf2 hsf hto1 hto2 hll hc1 hc2 hlim hL ha he
      go_enter Try.func73, Try.ntmps73
      go_wp2_with (go_at_call 77; (refine (HE.out 0).mono ?_); rintro e w3 ⟨rfl, k3, rfl⟩)
      go_region_law ((refine step_bytes3 (by rfl) _ _ _ (by rfl) _ _ (by rfl) (by rfl) w.heap.size [] _ (Ob.made _ #[] w.heap.size (Nat.le_refl _) (by simp [maxLen])) (src_bs Try.underlying30 (HW.out _ (Ab.alloc (Ab.drew ((Ab.refl w).drewN k3)) _))) HL.out (by simp) ?_; intro A5 n5 c5 w5 ho5 hg5; (have ha5 := grown_ab (Ab.alloc (Ab.drew ((Ab.refl w).drewN k3)) (.cells #[] 5)) hg5 (fun k hk => by injection hk with hk; exact Nat.le_of_eq hk)); (have hd5 := HD.out.ab ha5); (obtain ⟨-, hcb, hcs, hcv, hcl⟩ := hd5.cells); (have hf5 := hd5.free); (have H5 := Lib.hid (And.intro ho5 ha5)); clear ho5 hg5 ha5 hd5))
      all_goals
        go_wp2
        go_end0
        have hs := HD.out.put (w2 := w5) (d2 := { d with bytes := d.bytes.take lo, synced := s, lim := none }) (v2 := .slice A5 n5 c5) (H5.out.1.lower hbase) H5.out.2 (fun k hk => .inr (H5.out.1.blk k hk).1) (setg 4 (.int .i64 (-1)) (setg 2 (.int .i64 (s : Int)) (setg 3 (.slice A5 n5 c5) (Mv.refl _ _)))) (fun hb => Bk.eq_ (((hb.store 3 _).store 2 _).store 4 _) (by simp only [List.setIfInBounds_toArray, List.set_cons_zero, List.set_cons_succ]; rfl)) H3.out
        exact ⟨rfl, .slice A5 n5 c5, hs⟩
    | some l =>
      replace h4 : w.cell? ⟨g, 4, none⟩ = some (.int .i64 (l : Int)) := h4
      replace hto : min s l = to := hto
      have b0 : (0 : Int) ≤ (l : Int) := by omega
      by_cases hle : (l : Int) < (s : Int)
      · obtain rfl : l = to := by omega
        clear hto hr hf2 hsf hto1 hto2 hll hc1 hc2 hlim hL ha he
        go_enter Try.func73, Try.ntmps73
        go_wp2_with (go_at_call 77; (refine (HE.out 0).mono ?_); rintro e w3 ⟨rfl, k3, rfl⟩)
        go_region_law ((refine step_bytes3 (by rfl) _ _ _ (by rfl) _ _ (by rfl) (by rfl) w.heap.size [] _ (Ob.made _ #[] w.heap.size (Nat.le_refl _) (by simp [maxLen])) (src_bs Try.underlying30 (HW.out _ (Ab.alloc (Ab.drew ((Ab.refl w).drewN k3)) _))) HL.out (by simp) ?_; intro A5 n5 c5 w5 ho5 hg5; (have ha5 := grown_ab (Ab.alloc (Ab.drew ((Ab.refl w).drewN k3)) (.cells #[] 5)) hg5 (fun k hk => by injection hk with hk; exact Nat.le_of_eq hk)); (have hd5 := HD.out.ab ha5); (obtain ⟨-, hcb, hcs, hcv, hcl⟩ := hd5.cells); (have hf5 := hd5.free); (have H5 := Lib.hid (And.intro ho5 ha5)); clear ho5 hg5 ha5 hd5))
        all_goals
          go_wp2
          go_end0
          have hs := HD.out.put (w2 := w5) (d2 := { d with bytes := d.bytes.take lo, synced := l, lim := none }) (v2 := .slice A5 n5 c5) (H5.out.1.lower hbase) H5.out.2 (fun k hk => .inr (H5.out.1.blk k hk).1) (setg 4 (.int .i64 (-1)) (setg 2 (.int .i64 (l : Int)) (setg 3 (.slice A5 n5 c5) (Mv.refl _ _)))) (fun hb => Bk.eq_ (((hb.store 3 _).store 2 _).store 4 _) (by simp only [List.setIfInBounds_toArray, List.set_cons_zero, List.set_cons_succ]; rfl)) H3.out
          exact ⟨rfl, .slice A5 n5 c5, hs⟩
      · obtain rfl : s = to := by omega
        clear hto hr hf2 hsf hto1 hto2 hll hc1 hc2 hlim hL ha he
        go_enter Try.func73, Try.ntmps73
        go_wp2_with (go_at_call 77; (refine (HE.out 0).mono ?_); rintro e w3 ⟨rfl, k3, rfl⟩)
        go_region_law ((refine step_bytes3 (by rfl) _ _ _ (by rfl) _ _ (by rfl) (by rfl) w.heap.size [] _ (Ob.made _ #[] w.heap.size (Nat.le_refl _) (by simp [maxLen])) (src_bs Try.underlying30 (HW.out _ (Ab.alloc (Ab.drew ((Ab.refl w).drewN k3)) _))) HL.out (by simp) ?_; intro A5 n5 c5 w5 ho5 hg5; (have ha5 := grown_ab (Ab.alloc (Ab.drew ((Ab.refl w).drewN k3)) (.cells #[] 5)) hg5 (fun k hk => by injection hk with hk; exact Nat.le_of_eq hk)); (have hd5 := HD.out.ab ha5); (obtain ⟨-, hcb, hcs, hcv, hcl⟩ := hd5.cells); (have hf5 := hd5.free); (have H5 := Lib.hid (And.intro ho5 ha5)); clear ho5 hg5 ha5 hd5))
        all_goals
          go_wp2
          go_end0
          have hs := HD.out.put (w2 := w5) (d2 := { d with bytes := d.bytes.take lo, synced := s, lim := none }) (v2 := .slice A5 n5 c5) (H5.out.1.lower hbase) H5.out.2 (fun k hk => .inr (H5.out.1.blk k hk).1) (setg 4 (.int .i64 (-1)) (setg 2 (.int .i64 (s : Int)) (setg 3 (.slice A5 n5 c5) (Mv.refl _ _)))) (fun hb => Bk.eq_ (((hb.store 3 _).store 2 _).store 4 _) (by simp only [List.setIfInBounds_toArray, List.set_cons_zero, List.set_cons_succ]; rfl)) H3.out
          exact ⟨rfl, .slice A5 n5 c5, hs⟩
  · rw [he] at hto
    have a1 : ¬ (0 : Int) < (f : Int) - (s : Int) := by omega
    cases L with
    | none =>
      replace h4 : w.cell? ⟨g, 4, none⟩ = some (.int .i64 (-1)) := h4
      replace hto : f = to := hto
      subst hto
      clear hr hf2 hsf hto1 hto2 hll hc1 hc2 hlim hL ha he
      go_enter Try.func73, Try.ntmps73
      go_wp2_with (go_at_call 77; (refine (HE.out 0).mono ?_); rintro e w3 ⟨rfl, k3, rfl⟩)
      go_region_law ((refine step_bytes3 (by rfl) _ _ _ (by rfl) _ _ (by rfl) (by rfl) w.heap.size [] _ (Ob.made _ #[] w.heap.size (Nat.le_refl _) (by simp [maxLen])) (src_bs Try.underlying30 (HW.out _ (Ab.alloc (Ab.drew ((Ab.refl w).drewN k3)) _))) HL.out (by simp) ?_; intro A5 n5 c5 w5 ho5 hg5; (have ha5 := grown_ab (Ab.alloc (Ab.drew ((Ab.refl w).drewN k3)) (.cells #[] 5)) hg5 (fun k hk => by injection hk with hk; exact Nat.le_of_eq hk)); (have hd5 := HD.out.ab ha5); (obtain ⟨-, hcb, hcs, hcv, hcl⟩ := hd5.cells); (have hf5 := hd5.free); (have H5 := Lib.hid (And.intro ho5 ha5)); clear ho5 hg5 ha5 hd5))
      all_goals
        go_wp2
        go_end0
        have hs := HD.out.put (w2 := w5) (d2 := { d with bytes := d.bytes.take lo, synced := f, lim := none }) (v2 := .slice A5 n5 c5) (H5.out.1.lower hbase) H5.out.2 (fun k hk => .inr (H5.out.1.blk k hk).1) (setg 4 (.int .i64 (-1)) (setg 2 (.int .i64 (f : Int)) (setg 3 (.slice A5 n5 c5) (Mv.refl _ _)))) (fun hb => Bk.eq_ (((hb.store 3 _).store 2 _).store 4 _) (by simp only [List.setIfInBounds_toArray, List.set_cons_zero, List.set_cons_succ]; rfl)) H3.out
        exact ⟨rfl, .slice A5 n5 c5, hs⟩
    | some l =>
      replace h4 : w.cell? ⟨g, 4, none⟩ = some (.int .i64 (l : Int)) := h4
      replace hto : min f l = to := hto
      have b0 : (0 : Int) ≤ (l : Int) := by omega
      by_cases hle : (l : Int) < (f : Int)
      · obtain rfl : l = to := by omega
        clear hto hr hf2 hsf hto1 hto2 hll hc1 hc2 hlim hL ha he
        go_enter Try.func73, Try.ntmps73
        go_wp2_with (go_at_call 77; (refine (HE.out 0).mono ?_); rintro e w3 ⟨rfl, k3, rfl⟩)
        go_region_law ((refine step_bytes3 (by rfl) _ _ _ (by rfl) _ _ (by rfl) (by rfl) w.heap.size [] _ (Ob.made _ #[] w.heap.size (Nat.le_refl _) (by simp [maxLen])) (src_bs Try.underlying30 (HW.out _ (Ab.alloc (Ab.drew ((Ab.refl w).drewN k3)) _))) HL.out (by simp) ?_; intro A5 n5 c5 w5 ho5 hg5; (have ha5 := grown_ab (Ab.alloc (Ab.drew ((Ab.refl w).drewN k3)) (.cells #[] 5)) hg5 (fun k hk => by injection hk with hk; exact Nat.le_of_eq hk)); (have hd5 := HD.out.ab ha5); (obtain ⟨-, hcb, hcs, hcv, hcl⟩ := hd5.cells); (have hf5 := hd5.free); (have H5 := Lib.hid (And.intro ho5 ha5)); clear ho5 hg5 ha5 hd5))
        all_goals
          go_wp2
          go_end0
          have hs := HD.out.put (w2 := w5) (d2 := { d with bytes := d.bytes.take lo, synced := l, lim := none }) (v2 := .slice A5 n5 c5) (H5.out.1.lower hbase) H5.out.2 (fun k hk => .inr (H5.out.1.blk k hk).1) (setg 4 (.int .i64 (-1)) (setg 2 (.int .i64 (l : Int)) (setg 3 (.slice A5 n5 c5) (Mv.refl _ _)))) (fun hb => Bk.eq_ (((hb.store 3 _).store 2 _).store 4 _) (by simp only [List.setIfInBounds_toArray, List.set_cons_zero, List.set_cons_succ]; rfl)) H3.out
          exact ⟨rfl, .slice A5 n5 c5, hs⟩
      · obtain rfl : f = to := by omega
        clear hto hr hf2 hsf hto1 hto2 hll hc1 hc2 hlim hL ha he
        go_enter Try.func73, Try.ntmps73
        go_wp2_with (go_at_call 77; (refine (HE.out 0).mono ?_); rintro e w3 ⟨rfl, k3, rfl⟩)
        go_region_law ((refine step_bytes3 (by rfl) _ _ _ (by rfl) _ _ (by rfl) (by rfl) w.heap.size [] _ (Ob.made _ #[] w.heap.size (Nat.le_refl _) (by simp [maxLen])) (src_bs Try.underlying30 (HW.out _ (Ab.alloc (Ab.drew ((Ab.refl w).drewN k3)) _))) HL.out (by simp) ?_; intro A5 n5 c5 w5 ho5 hg5; (have ha5 := grown_ab (Ab.alloc (Ab.drew ((Ab.refl w).drewN k3)) (.cells #[] 5)) hg5 (fun k hk => by injection hk with hk; exact Nat.le_of_eq hk)); (have hd5 := HD.out.ab ha5); (obtain ⟨-, hcb, hcs, hcv, hcl⟩ := hd5.cells); (have hf5 := hd5.free); (have H5 := Lib.hid (And.intro ho5 ha5)); clear ho5 hg5 ha5 hd5))
        all_goals
          go_wp2
          go_end0
          have hs := HD.out.put (w2 := w5) (d2 := { d with bytes := d.bytes.take lo, synced := f, lim := none }) (v2 := .slice A5 n5 c5) (H5.out.1.lower hbase) H5.out.2 (fun k hk => .inr (H5.out.1.blk k hk).1) (setg 4 (.int .i64 (-1)) (setg 2 (.int .i64 (f : Int)) (setg 3 (.slice A5 n5 c5) (Mv.refl _ _)))) (fun hb => Bk.eq_ (((hb.store 3 _).store 2 _).store 4 _) (by simp only [List.setIfInBounds_toArray, List.set_cons_zero, List.set_cons_succ]; rfl)) H3.out
          exact ⟨rfl, .slice A5 n5 c5, hs⟩
end Go.Proofs.Ytolchbjcdlncgaa.Dg

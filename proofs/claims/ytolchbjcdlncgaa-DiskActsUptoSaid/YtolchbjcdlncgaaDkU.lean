/- The reference's disk in memory: Cut. -/
import Derived.Test.YtolchbjcdlncgaaDkT
namespace Go.Proofs.Ytolchbjcdlncgaa.Dg
open Go.RowKit
variable {w w' : World} {base g : Nat} {v : Value} {d : Dst}
attribute [local go_sem ↓] Go.wp_at_zero Go.wp_at_succ
set_option maxRecDepth 100000 in
set_option maxHeartbeats 1000000 in
/-- Cut. -/
theorem rcut_any (w : World) (h : Rk w base g v d) (at_ : Int) (hbase : base ≤ w.heap.size) :
    Calls Try.prog 68 #[.pointer (some ⟨g, 0, none⟩), .int .i64 at_] w fun e w' => e = .returned (.int .i64 (d.cutE at_ : Int)) ∧ ∃ v', Rk w' base g v' (d.cut at_) ∧ Turn g v v' w w' := by
  have hfz := h.free
  have hr := h.bound
  have hok := h.ok
  have HD := Lib.hid h
  obtain ⟨h0, h1, h2, h3, h4⟩ := h.cells
  obtain ⟨A, c, rfl, hc1, hc2⟩ := h.len_cap
  have HE := Lib.hid (rend_at h)
  have HF := Lib.hid (rfrozen_at h)
  obtain ⟨f, hf⟩ : ∃ f, d.fin = f := ⟨_, rfl⟩
  rw [hf] at HE
  obtain ⟨fr, hfr⟩ : ∃ fr, d.cold = fr := ⟨_, rfl⟩
  rw [hfr] at HF
  have hsy := hok.synced
  cases hgood : d.cuts at_ with
  | false =>
    have E1 : d.cutE at_ = 22 := by unfold Dst.cutE; rw [hgood]; rfl
    have E2 : d.cut at_ = d := by unfold Dst.cut; rw [hgood]; rfl
    rw [E1, E2]
    have hb : ¬ ((d.base : Int) ≤ at_ ∧ at_ ≤ (d.fin : Int)) := of_decide_eq_false hgood
    rw [hf] at hb
    clear h h0 h3 h4 hgood E1 E2 hf hr hc1 hc2 hfr
    by_cases b1 : at_ < (d.base : Int)
    · clear hb
      go_enter Try.func68, Try.ntmps68
      go_wp2_with (first | (go_at_call 77; (first | (refine (HE.out _).mono ?_) | (refine (HE.out 0).mono ?_)); rintro e w3 ⟨rfl, k3, rfl⟩) | (go_at_call 79; (first | (refine (HF.out _).mono ?_) | (refine (HF.out 0).mono ?_)); rintro e w6 ⟨rfl, k6, rfl⟩))
      go_ret
      exact ⟨rfl, .slice A d.bytes.length c, HD.out.ab (Ab.refl w), Turn.of_ab (Ab.refl w)⟩
    · have b2 : (f : Int) < at_ := by omega
      clear hb
      go_enter Try.func68, Try.ntmps68
      go_wp2_with (first | (go_at_call 77; (first | (refine (HE.out _).mono ?_) | (refine (HE.out 0).mono ?_)); rintro e w3 ⟨rfl, k3, rfl⟩) | (go_at_call 79; (first | (refine (HF.out _).mono ?_) | (refine (HF.out 0).mono ?_)); rintro e w6 ⟨rfl, k6, rfl⟩))
      go_ret
      exact ⟨rfl, .slice A d.bytes.length c, HD.out.ab ((Ab.refl w).drewN _), Turn.of_ab ((Ab.refl w).drewN _)⟩
  | true =>
    have E1 : d.cutE at_ = 0 := by unfold Dst.cutE; rw [hgood]; rfl
    rw [E1]
    have hb : ((d.base : Int) ≤ at_ ∧ at_ ≤ (d.fin : Int)) := of_decide_eq_true hgood
    rw [hf] at hb
    have c1 : ¬ at_ < (d.base : Int) := by omega
    have c2 : ¬ (f : Int) < at_ := by omega
    cases fr with
    | true =>
      have E2 : d.cut at_ = d := by unfold Dst.cut; rw [hgood, hfr]; rfl
      rw [E2]
      clear h h0 h3 h4 hgood E1 E2 hf hr hc1 hc2 hfr hb
      go_enter Try.func68, Try.ntmps68
      go_wp2_with (first | (go_at_call 77; (first | (refine (HE.out _).mono ?_) | (refine (HE.out 0).mono ?_)); rintro e w3 ⟨rfl, k3, rfl⟩) | (go_at_call 79; (first | (refine (HF.out _).mono ?_) | (refine (HF.out 0).mono ?_)); rintro e w6 ⟨rfl, k6, rfl⟩))
      go_ret
      exact ⟨rfl, .slice A d.bytes.length c, HD.out.ab ((Ab.refl w).drewN _), Turn.of_ab ((Ab.refl w).drewN _)⟩
    | false =>
      have E2 : d.cut at_ = d.leave at_.toNat := by unfold Dst.cut; rw [hgood, hfr]; rfl
      have hk := hok.cut at_
      rw [E2] at hk ⊢
      obtain ⟨x, rfl⟩ : ∃ x : Nat, at_ = (x : Int) := ⟨at_.toNat, by omega⟩
      rw [Int.toNat_natCast] at hk ⊢
      unfold Dst.leave at hk ⊢
      obtain ⟨lo, hlo⟩ : ∃ lo, x - d.base = lo := ⟨_, rfl⟩
      have hll : lo ≤ d.bytes.length := by unfold Dst.fin at hf; omega
      have hsl := fun wx => run_slice_head A d.bytes.length c lo (lo : Int) rfl (by omega) wx
      have HW := Lib.hid (fun (wy : World) (hy : Ab w wy) => take_bs ((h.2.1.bs).ab hy (Nat.le_refl _)) lo hll)
      rw [hlo] at hk ⊢
      have HL := Lib.hid (show ([] : List UInt8).length + (d.bytes.take lo).length ≤ 200000000000000 by have := hok.room; have := hok.size2; rw [List.length_take]; simp; omega)
      have ek : (x : Int) - (d.base : Int) = (lo : Int) := by omega
      have wk : IntKind.i64.wrap (lo : Int) = (lo : Int) := IntWalk.i64_in _ (by omega)
      have hca1 : ∀ n, ((w.drewN n).alloc (.cells #[] 5)).cell? ⟨g, 1, none⟩ = some (.int .i64 (d.base : Int)) := fun n => (h.ab (((Ab.refl w).drewN n).alloc (.cells #[] 5))).cells.2.1
      have hca3 : ∀ n, ((w.drewN n).alloc (.cells #[] 5)).cell? ⟨g, 3, none⟩ = some (.slice A d.bytes.length c) := fun n => (h.ab (((Ab.refl w).drewN n).alloc (.cells #[] 5))).cells.2.2.2.1
      clear h h0 h4 hgood E1 E2 hf hr hc1 hc2 hfr hb hlo hll hok hsy
      by_cases hsx : (x : Int) < (d.synced : Int)
      · rw [show min d.synced x = x by omega] at hk ⊢
        have H3 := Lib.hid hk
        clear hk
        go_enter Try.func68, Try.ntmps68
        go_wp2_with (first | (go_at_call 77; (first | (refine (HE.out _).mono ?_) | (refine (HE.out 0).mono ?_)); rintro e w3 ⟨rfl, k3, rfl⟩) | (go_at_call 79; (first | (refine (HF.out _).mono ?_) | (refine (HF.out 0).mono ?_)); rintro e w6 ⟨rfl, k6, rfl⟩))
        go_region_law ((refine step_bytes3 (by rfl) _ _ _ (by rfl) _ _ (by rfl) (by rfl) w.heap.size [] _ (Ob.made _ #[] w.heap.size (Nat.le_refl _) (by simp [maxLen])) (src_bs Try.underlying30 (HW.out _ (Ab.alloc (Ab.drew ((Ab.refl w).drewN k6)) _))) HL.out (by simp) ?_; intro A5 n5 c5 w5 ho5 hg5; (have ha5 := grown_ab (Ab.alloc (Ab.drew ((Ab.refl w).drewN k6)) (.cells #[] 5)) hg5 (fun k hk => by injection hk with hk; exact Nat.le_of_eq hk)); (have hd5 := HD.out.ab ha5); (obtain ⟨-, hcb, hcs, hcv, hcl⟩ := hd5.cells); (have hf5 := hd5.free); (have H5 := Lib.hid (And.intro ho5 ha5)); clear ho5 hg5 ha5 hd5))
        all_goals
          go_wp2
          go_ret
          have hs := HD.out.put (w2 := w5) (d2 := { d with bytes := d.bytes.take lo, synced := x }) (v2 := .slice A5 n5 c5) (H5.out.1.lower hbase) H5.out.2 (fun k hk => .inr (H5.out.1.blk k hk).1) (setg 2 (.int .i64 (x : Int)) (setg 3 (.slice A5 n5 c5) (Mv.refl _ _))) (fun hb => (hb.store 3 _).store 2 _) H3.out
          exact ⟨rfl, .slice A5 n5 c5, hs⟩
      · rw [show min d.synced x = d.synced by omega] at hk ⊢
        have H3 := Lib.hid hk
        clear hk
        go_enter Try.func68, Try.ntmps68
        go_wp2_with (first | (go_at_call 77; (first | (refine (HE.out _).mono ?_) | (refine (HE.out 0).mono ?_)); rintro e w3 ⟨rfl, k3, rfl⟩) | (go_at_call 79; (first | (refine (HF.out _).mono ?_) | (refine (HF.out 0).mono ?_)); rintro e w6 ⟨rfl, k6, rfl⟩))
        go_region_law ((refine step_bytes3 (by rfl) _ _ _ (by rfl) _ _ (by rfl) (by rfl) w.heap.size [] _ (Ob.made _ #[] w.heap.size (Nat.le_refl _) (by simp [maxLen])) (src_bs Try.underlying30 (HW.out _ (Ab.alloc (Ab.drew ((Ab.refl w).drewN k6)) _))) HL.out (by simp) ?_; intro A5 n5 c5 w5 ho5 hg5; (have ha5 := grown_ab (Ab.alloc (Ab.drew ((Ab.refl w).drewN k6)) (.cells #[] 5)) hg5 (fun k hk => by injection hk with hk; exact Nat.le_of_eq hk)); (have hd5 := HD.out.ab ha5); (obtain ⟨-, hcb, hcs, hcv, hcl⟩ := hd5.cells); (have hf5 := hd5.free); (have H5 := Lib.hid (And.intro ho5 ha5)); clear ho5 hg5 ha5 hd5))
        all_goals
          go_wp2
          go_ret
          have hs := HD.out.put (w2 := w5) (d2 := { d with bytes := d.bytes.take lo, synced := d.synced }) (v2 := .slice A5 n5 c5) (H5.out.1.lower hbase) H5.out.2 (fun k hk => .inr (H5.out.1.blk k hk).1) (setg 3 (.slice A5 n5 c5) (Mv.refl _ _)) (fun hb => hb.store 3 _) H3.out
          exact ⟨rfl, .slice A5 n5 c5, hs⟩
end Go.Proofs.Ytolchbjcdlncgaa.Dg

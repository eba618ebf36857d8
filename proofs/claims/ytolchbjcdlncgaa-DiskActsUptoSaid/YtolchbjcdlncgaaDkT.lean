/- The reference's disk in memory: Trim, Cut, Crash. -/
import Derived.Test.YtolchbjcdlncgaaDkS
namespace Go.Proofs.Ytolchbjcdlncgaa.Dg
open Go.RowKit
variable {w w' : World} {base g : Nat} {v : Value} {d : Dst}
attribute [local go_sem ↓] Go.wp_at_zero Go.wp_at_succ
set_option maxRecDepth 100000 in
set_option maxHeartbeats 1000000 in
/-- Trim. -/
theorem rtrim_any (w : World) (h : Rk w base g v d) (at_ : Int) (hbase : base ≤ w.heap.size) :
    Calls Try.prog 66 #[.pointer (some ⟨g, 0, none⟩), .int .i64 at_] w fun e w' => e = .returned (.int .i64 (d.trimE at_ : Int)) ∧ ∃ v', Rk w' base g v' (d.trim at_) ∧ Turn g v v' w w' := by
  have hfz := h.free
  have hr := h.bound
  have hok := h.ok
  have HD := Lib.hid h
  obtain ⟨h0, h1, h2, h3, h4⟩ := h.cells
  obtain ⟨A, c, rfl, hc1, hc2⟩ := h.len_cap
  have HE := Lib.hid (rend_at h)
  have HF := Lib.hid (rfrozen_at h)
  obtain ⟨f, hf⟩ : ∃ f, d.fin = f := ⟨_, rfl⟩
  rw [hf] at HE
  obtain ⟨fr, hfr⟩ : ∃ fr, d.cold = fr := ⟨_, rfl⟩
  rw [hfr] at HF
  have hsy := hok.synced
  cases hgood : d.trims at_ with
  | false =>
    have E1 : d.trimE at_ = 22 := by unfold Dst.trimE; rw [hgood]; rfl
    have E2 : d.trim at_ = d := by unfold Dst.trim; rw [hgood]; rfl
    rw [E1, E2]
    have hb : ¬ ((d.base : Int) ≤ at_ ∧ at_ ≤ (d.synced : Int)) := of_decide_eq_false hgood
    clear h h0 h3 h4 hgood E1 E2 hf hr hc1 hc2 hfr
    by_cases b1 : at_ < (d.base : Int)
    · clear hb
      go_enter Try.func66, Try.ntmps66
      go_wp2_with (first | (go_at_call 77; (first | (refine (HE.out _).mono ?_) | (refine (HE.out 0).mono ?_)); rintro e w3 ⟨rfl, k3, rfl⟩) | (go_at_call 79; (first | (refine (HF.out _).mono ?_) | (refine (HF.out 0).mono ?_)); rintro e w6 ⟨rfl, k6, rfl⟩))
      go_ret
      exact ⟨rfl, .slice A d.bytes.length c, HD.out.ab (Ab.refl w), Turn.of_ab (Ab.refl w)⟩
    · have b2 : (d.synced : Int) < at_ := by omega
      clear hb
      go_enter Try.func66, Try.ntmps66
      go_wp2_with (first | (go_at_call 77; (first | (refine (HE.out _).mono ?_) | (refine (HE.out 0).mono ?_)); rintro e w3 ⟨rfl, k3, rfl⟩) | (go_at_call 79; (first | (refine (HF.out _).mono ?_) | (refine (HF.out 0).mono ?_)); rintro e w6 ⟨rfl, k6, rfl⟩))
      go_ret
      exact ⟨rfl, .slice A d.bytes.length c, HD.out.ab (Ab.refl w), Turn.of_ab (Ab.refl w)⟩
  | true =>
    have E1 : d.trimE at_ = 0 := by unfold Dst.trimE; rw [hgood]; rfl
    rw [E1]
    have hb : ((d.base : Int) ≤ at_ ∧ at_ ≤ (d.synced : Int)) := of_decide_eq_true hgood
    have c1 : ¬ at_ < (d.base : Int) := by omega
    have c2 : ¬ (d.synced : Int) < at_ := by omega
    cases fr with
    | true =>
      have E2 : d.trim at_ = d := by unfold Dst.trim; rw [hgood, hfr]; rfl
      rw [E2]
      clear h h0 h3 h4 hgood E1 E2 hf hr hc1 hc2 hfr hb
      go_enter Try.func66, Try.ntmps66
      go_wp2_with (first | (go_at_call 77; (first | (refine (HE.out _).mono ?_) | (refine (HE.out 0).mono ?_)); rintro e w3 ⟨rfl, k3, rfl⟩) | (go_at_call 79; (first | (refine (HF.out _).mono ?_) | (refine (HF.out 0).mono ?_)); rintro e w6 ⟨rfl, k6, rfl⟩))
      go_ret
      exact ⟨rfl, .slice A d.bytes.length c, HD.out.ab ((Ab.refl w).drewN _), Turn.of_ab ((Ab.refl w).drewN _)⟩
    | false =>
      have E2 : d.trim at_ = { d with base := at_.toNat, bytes := d.bytes.drop (at_.toNat - d.base) } := by unfold Dst.trim; rw [hgood, hfr]; rfl
      have hk := hok.trim at_
      rw [E2] at hk ⊢
      obtain ⟨x, rfl⟩ : ∃ x : Nat, at_ = (x : Int) := ⟨at_.toNat, by omega⟩
      rw [Int.toNat_natCast] at hk ⊢
      obtain ⟨lo, hlo⟩ : ∃ lo, x - d.base = lo := ⟨_, rfl⟩
      obtain ⟨m, hm⟩ : ∃ m, d.bytes.length - lo = m := ⟨_, rfl⟩
      have hll : lo ≤ d.bytes.length := by unfold Dst.fin at hsy; omega
      have hsl := fun wx => run_slice_from A d.bytes.length c lo hll wx
      rw [hm] at hsl
      have HW := Lib.hid (fun (wy : World) (hy : Ab w wy) => (show Bs wy w.heap.size (.slice (winA A c lo) m (c - lo)) (d.bytes.drop lo) by
        have h2 := midB ((h.2.1.bs).ab hy (Nat.le_refl _)) lo d.bytes.length hll (Nat.le_refl _)
        rw [List.take_of_length_le (by rw [List.length_drop]; omega), hm] at h2
        exact h2))
      rw [hlo] at hk ⊢
      have HL := Lib.hid (show ([] : List UInt8).length + (d.bytes.drop lo).length ≤ 200000000000000 by have := hok.room; have := hok.size2; rw [List.length_drop]; simp; omega)
      have H3 := Lib.hid hk
      have ek : (x : Int) - (d.base : Int) = (lo : Int) := by omega
      have wk : IntKind.i64.wrap (lo : Int) = (lo : Int) := IntWalk.i64_in _ (by omega)
      have hca1 : ∀ n, ((w.drewN n).alloc (.cells #[] 5)).cell? ⟨g, 1, none⟩ = some (.int .i64 (d.base : Int)) := fun n => (h.ab (((Ab.refl w).drewN n).alloc (.cells #[] 5))).cells.2.1
      have hca3 : ∀ n, ((w.drewN n).alloc (.cells #[] 5)).cell? ⟨g, 3, none⟩ = some (.slice A d.bytes.length c) := fun n => (h.ab (((Ab.refl w).drewN n).alloc (.cells #[] 5))).cells.2.2.2.1
      clear h h0 h4 hgood E1 E2 hf hr hc1 hc2 hfr hb hk hlo hm hll hok hsy
      go_enter Try.func66, Try.ntmps66
      go_wp2_with (first | (go_at_call 77; (first | (refine (HE.out _).mono ?_) | (refine (HE.out 0).mono ?_)); rintro e w3 ⟨rfl, k3, rfl⟩) | (go_at_call 79; (first | (refine (HF.out _).mono ?_) | (refine (HF.out 0).mono ?_)); rintro e w6 ⟨rfl, k6, rfl⟩))
      go_region_law ((refine step_bytes3 (by rfl) _ _ _ (by rfl) _ _ (by rfl) (by rfl) w.heap.size [] _ (Ob.made _ #[] w.heap.size (Nat.le_refl _) (by simp [maxLen])) (src_bs Try.underlying30 (HW.out _ (Ab.alloc (Ab.drew ((Ab.refl w).drewN k6)) _))) HL.out (by simp) ?_; intro A5 n5 c5 w5 ho5 hg5; (have ha5 := grown_ab (Ab.alloc (Ab.drew ((Ab.refl w).drewN k6)) (.cells #[] 5)) hg5 (fun k hk => by injection hk with hk; exact Nat.le_of_eq hk)); (have hd5 := HD.out.ab ha5); (obtain ⟨-, hcb, hcs, hcv, hcl⟩ := hd5.cells); (have hf5 := hd5.free); (have H5 := Lib.hid (And.intro ho5 ha5)); clear ho5 hg5 ha5 hd5))
      all_goals
        go_wp2
        go_ret
        have hs := HD.out.put (w2 := w5) (d2 := { d with base := x, bytes := d.bytes.drop lo }) (v2 := .slice A5 n5 c5) (H5.out.1.lower hbase) H5.out.2 (fun k hk => .inr (H5.out.1.blk k hk).1) (setg 1 (.int .i64 (x : Int)) (setg 3 (.slice A5 n5 c5) (Mv.refl _ _))) (fun hb => (hb.store 3 _).store 1 _) H3.out
        exact ⟨rfl, .slice A5 n5 c5, hs⟩
end Go.Proofs.Ytolchbjcdlncgaa.Dg

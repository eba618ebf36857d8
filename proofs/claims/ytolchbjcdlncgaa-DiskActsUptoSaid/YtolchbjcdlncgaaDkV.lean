/- The reference's disk in memory: Read. -/
import Derived.Test.YtolchbjcdlncgaaDkS
namespace Go.Proofs.Ytolchbjcdlncgaa.Dg
open Go.RowKit
variable {w w' : World} {base g : Nat} {v : Value} {d : Dst}
attribute [local go_sem ↓] Go.wp_at_zero Go.wp_at_succ
set_option maxRecDepth 100000 in
set_option maxHeartbeats 1000000 in
/-- Read. -/
theorem rread_any (w : World) (h : Rk w base g v d) (at_ n : Int) (hn : -9223372036854775808 ≤ n ∧ n ≤ 9223372036854775807) :
    Calls Try.prog 63 #[.pointer (some ⟨g, 0, none⟩), .int .i64 at_, .int .i64 n] w fun e w' => ∃ u, e = .returned (.tuple #[u, .int .i64 (d.gotE at_ n : Int)]) ∧ Ob w' w.heap.size u (d.got at_ n) ∧ Ab w w' := by
  have hfz := h.free
  have hr := h.bound
  have hok := h.ok
  have HD := Lib.hid h
  obtain ⟨h0, h1, h2, h3, h4⟩ := h.cells
  obtain ⟨A, c, rfl, hc1, hc2⟩ := h.len_cap
  have HE := Lib.hid (rend_at h)
  obtain ⟨f, hf⟩ : ∃ f, d.fin = f := ⟨_, rfl⟩
  rw [hf] at HE
  have hfr : f ≤ 4611686018427387904 := by rw [← hf]; exact hr
  have hf2 : d.base + d.bytes.length = f := hf
  cases hgood : d.has at_ n with
  | false =>
    have E1 : d.gotE at_ n = 22 := by unfold Dst.gotE; rw [hgood]; rfl
    have E2 : d.got at_ n = [] := by unfold Dst.got; rw [hgood]; rfl
    rw [E1, E2]
    have hb : ¬ ((d.base : Int) ≤ at_ ∧ at_ ≤ (d.fin : Int) ∧ 0 ≤ n ∧ n ≤ (d.fin : Int) - at_) := of_decide_eq_false hgood
    rw [hf] at hb
    clear h h0 h2 h3 h4 hgood E1 E2 hf hf2 hr hc1 hc2 hn hok
    by_cases b1 : at_ < (d.base : Int)
    · clear hb
      go_enter Try.func63, Try.ntmps63
      go_wp2_with (first | (go_at_call 77; (first | (refine (HE.out _).mono ?_) | (refine (HE.out 0).mono ?_)); rintro e w3 ⟨rfl, k3, rfl⟩))
      refine bodyPost_ret (v := .tuple #[.slice none 0 0, .int .i64 22]) ?_ rfl ⟨.slice none 0 0, rfl, Ob.nil _ _, Ab.refl w⟩
      simp [results, Try.results63, go_sem]
    by_cases b2 : (f : Int) < at_
    · clear hb
      go_enter Try.func63, Try.ntmps63
      go_wp2_with (first | (go_at_call 77; (first | (refine (HE.out _).mono ?_) | (refine (HE.out 0).mono ?_)); rintro e w3 ⟨rfl, k3, rfl⟩))
      refine bodyPost_ret (v := .tuple #[.slice none 0 0, .int .i64 22]) ?_ rfl ⟨.slice none 0 0, rfl, Ob.nil _ _, (Ab.refl w).drewN _⟩
      simp [results, Try.results63, go_sem]
    have e1 : IntKind.i64.wrap ((f : Int) - at_) = (f : Int) - at_ := IntWalk.i64_in _ (by omega)
    by_cases b3 : n < 0
    · clear hb
      go_enter Try.func63, Try.ntmps63
      go_wp2_with (first | (go_at_call 77; (first | (refine (HE.out _).mono ?_) | (refine (HE.out 0).mono ?_)); rintro e w3 ⟨rfl, k3, rfl⟩))
      refine bodyPost_ret (v := .tuple #[.slice none 0 0, .int .i64 22]) ?_ rfl ⟨.slice none 0 0, rfl, Ob.nil _ _, (Ab.refl w).drewN _⟩
      simp [results, Try.results63, go_sem]
    have b4 : (f : Int) - at_ < n := by omega
    clear hb
    go_enter Try.func63, Try.ntmps63
    go_wp2_with (first | (go_at_call 77; (first | (refine (HE.out _).mono ?_) | (refine (HE.out 0).mono ?_)); rintro e w3 ⟨rfl, k3, rfl⟩))
    refine bodyPost_ret (v := .tuple #[.slice none 0 0, .int .i64 22]) ?_ rfl ⟨.slice none 0 0, rfl, Ob.nil _ _, (Ab.refl w).drewN _⟩
    simp [results, Try.results63, go_sem]
  | true =>
    have E1 : d.gotE at_ n = 0 := by unfold Dst.gotE; rw [hgood]; rfl
    have E2 : d.got at_ n = (d.bytes.drop (at_.toNat - d.base)).take n.toNat := by unfold Dst.got; rw [hgood]; rfl
    rw [E1, E2]
    have hb : ((d.base : Int) ≤ at_ ∧ at_ ≤ (d.fin : Int) ∧ 0 ≤ n ∧ n ≤ (d.fin : Int) - at_) := of_decide_eq_true hgood
    rw [hf] at hb
    obtain ⟨b1, b2, b3, b4⟩ := hb
    obtain ⟨lo, hlo⟩ : ∃ lo, at_.toNat - d.base = lo := ⟨_, rfl⟩
    obtain ⟨m, rfl⟩ : ∃ m : Nat, n = (m : Int) := ⟨n.toNat, by omega⟩
    rw [Int.toNat_natCast]
    have hle : lo + m ≤ d.bytes.length := by omega
    obtain ⟨hi, hhi⟩ : ∃ hi, lo + m = hi := ⟨_, rfl⟩
    have hsl := fun wx => run_slice_mid A d.bytes.length c lo hi (by omega) (by omega) wx
    rw [show hi - lo = m by omega] at hsl
    have HW := Lib.hid (fun (wy : World) (hy : Ab w wy) => (show Bs wy w.heap.size (.slice (winA A c lo) m (c - lo)) ((d.bytes.drop lo).take m) by
      have h2 := midB ((h.2.1.bs).ab hy (Nat.le_refl _)) lo hi (by omega) (by omega)
      rw [show hi - lo = m by omega] at h2
      exact h2))
    rw [hlo]
    have HL := Lib.hid (show ([] : List UInt8).length + ((d.bytes.drop lo).take m).length ≤ 200000000000000 by have := hok.room; have := hok.size2; rw [List.length_take, List.length_drop]; simp; omega)
    have c1 : ¬ at_ < (d.base : Int) := by omega
    have c2 : ¬ (f : Int) < at_ := by omega
    have c3 : ¬ (m : Int) < 0 := by omega
    have c4 : ¬ (f : Int) - at_ < (m : Int) := by omega
    have e1 : IntKind.i64.wrap ((f : Int) - at_) = (f : Int) - at_ := IntWalk.i64_in _ (by omega)
    have ek : at_ - (d.base : Int) = (lo : Int) := by omega
    have wk : IntKind.i64.wrap (lo : Int) = (lo : Int) := IntWalk.i64_in _ (by omega)
    have ek2 : (lo : Int) + (m : Int) = (hi : Int) := by omega
    have wk2 : IntKind.i64.wrap (hi : Int) = (hi : Int) := IntWalk.i64_in _ (by omega)
    have hca1 : ∀ n, ((w.drewN n).alloc (.cells #[] 5)).cell? ⟨g, 1, none⟩ = some (.int .i64 (d.base : Int)) := fun n => (h.ab (((Ab.refl w).drewN n).alloc (.cells #[] 5))).cells.2.1
    have hca3 : ∀ n, ((w.drewN n).alloc (.cells #[] 5)).cell? ⟨g, 3, none⟩ = some (.slice A d.bytes.length c) := fun n => (h.ab (((Ab.refl w).drewN n).alloc (.cells #[] 5))).cells.2.2.2.1
    clear h h0 h2 h4 hgood E1 E2 hf hf2 hr hc1 hc2 hn b1 b2 b3 b4 hlo hle hhi hok
    go_enter Try.func63, Try.ntmps63
    go_wp2_with (first | (go_at_call 77; (first | (refine (HE.out _).mono ?_) | (refine (HE.out 0).mono ?_)); rintro e w3 ⟨rfl, k3, rfl⟩))
    go_region_law ((refine step_bytes3 (by rfl) _ _ _ (by rfl) _ _ (by rfl) (by rfl) w.heap.size [] _ (Ob.made _ #[] w.heap.size (Nat.le_refl _) (by simp [maxLen])) (src_bs Try.underlying30 (HW.out _ (Ab.alloc (Ab.drew ((Ab.refl w).drewN k3)) _))) HL.out (by simp) ?_; intro A5 n5 c5 w5 ho5 hg5; (have ha5 := grown_ab (Ab.alloc (Ab.drew ((Ab.refl w).drewN k3)) (.cells #[] 5)) hg5 (fun k hk => by injection hk with hk; exact Nat.le_of_eq hk)); (have H5 := Lib.hid (And.intro ho5 ha5)); clear ho5 hg5 ha5))
    all_goals
      go_wp2
      refine bodyPost_ret (v := .tuple #[.slice A5 n5 c5, .int .i64 0]) ?_ rfl ⟨.slice A5 n5 c5, rfl, H5.out.1, H5.out.2⟩
      simp [results, Try.results63, go_sem]
end Go.Proofs.Ytolchbjcdlncgaa.Dg

/- The program's disk in memory: Flip. -/
import Derived.Test.YtolchbjcdlncgaaDkG
import Derived.StillTailTactics
namespace Go.Proofs.Ytolchbjcdlncgaa.Dg
open Go.RowKit
variable {w w' : World} {base g : Nat} {v : Value} {d : Dst}
attribute [local go_sem ↓] Go.wp_at_zero Go.wp_at_succ
theorem bit_turn (y : UInt8) (m : Nat) (h : m < 8) : bits .xor .u8 (n8 y) (2 ^ m % 256) = n8 (Dst.turned y m) := by
  unfold Dst.turned
  rw [← xor8]
  congr 1
  match m, h with
  | 0, _ => rfl
  | 1, _ => rfl
  | 2, _ => rfl
  | 3, _ => rfl
  | 4, _ => rfl
  | 5, _ => rfl
  | 6, _ => rfl
  | 7, _ => rfl
theorem Dk.flip_ {gb off n c : Nat} (h : Dk w base g (.slice (some ⟨gb, off, none⟩) n c) d) (k : Nat) (hk : k < d.bytes.length) (y : UInt8) (hok : ({ d with bytes := d.bytes.set k y } : Dst).Ok) :
    Dk (w.setCell ⟨gb, off + k, none⟩ (.int .u8 (n8 y))) base g (.slice (some ⟨gb, off, none⟩) n c) { d with bytes := d.bytes.set k y } ∧ Turn g (.slice (some ⟨gb, off, none⟩) n c) (.slice (some ⟨gb, off, none⟩) n c) w (w.setCell ⟨gb, off + k, none⟩ (.int .u8 (n8 y))) :=
  ⟨⟨h.1.far (fun e => h.apart (by rw [e]; rfl)) _, h.2.1.set k hk y, h.2.2.1, hok⟩, Mv.set (S := Own g (.slice (some ⟨gb, off, none⟩) n c)) (p := ⟨gb, off + k, none⟩) (Mv.refl _ w) (.inr rfl) _, fun _ h => .inl h⟩
set_option maxRecDepth 100000 in
set_option maxHeartbeats 1000000 in
/-- Flip. -/
theorem Flip_any (w : World) (h : Dk w base g v d) (at_ bit : Int) :
    Calls Try.prog 69 #[.pointer (some ⟨g, 0, none⟩), .int .i64 at_, .int .i64 bit] w fun e w' => e = .returned (.int .i64 (d.flipE at_ bit : Int)) ∧ Dk w' base g v (d.flip at_ bit) ∧ Turn g v v w w' := by
  obtain ⟨h0, h1, h2, h3, h4, h5, h6⟩ := h.cells
  have hfz := h.free
  have hr := h.bound
  have hok := h.ok
  have HD := Lib.hid h
  obtain ⟨A, c, rfl, hc1, hc2⟩ := h.len_cap
  have H0 := Lib.hid h0
  have HE := Lib.hid (fun n0 => end_at w n0 g d.base h2 h4 (by omega))
  have HF := Lib.hid (fun n0 => frozen_at w n0 g d.lim d.base h2 h4 h5 h6 (by omega))
  obtain ⟨f, hf⟩ : ∃ f, d.base + d.bytes.length = f := ⟨_, rfl⟩
  rw [hf] at HE HF
  obtain ⟨fr, hfr⟩ : ∃ fr, Dst.coldL f d.lim = fr := ⟨_, rfl⟩
  rw [hfr] at HF
  have hcold : d.cold = fr := by rw [← hfr, ← hf]; rfl
  have hfin : d.fin = f := hf
  have hba : d.base ≤ f := by omega
  have hfr2 : f ≤ 4611686018427387904 := by omega
  cases hgood : d.flips at_ bit with
  | false =>
    have E1 : d.flipE at_ bit = 22 := by unfold Dst.flipE; rw [hgood]; rfl
    have E2 : d.flip at_ bit = d := by unfold Dst.flip; rw [hgood]; rfl
    rw [E1, E2]
    have hb : ¬ ((d.base : Int) ≤ at_ ∧ at_ < (d.fin : Int) ∧ 0 ≤ bit ∧ bit < 8) := of_decide_eq_false hgood
    rw [hfin] at hb
    clear h h0 h1 h4 h5 h6 hgood E1 E2 hfin hf hr hc1 hc2 hcold hfr
    by_cases b1 : at_ < (d.base : Int)
    · clear hb
      go_enter Try.func69, Try.ntmps69
      go_wp2_with (first | (go_at_call 119; (refine (ready_any _ g true H0.out).mono ?_); rintro e w2 ⟨rfl, rfl⟩) | (go_at_call 120; (first | (refine (HE.out _).mono ?_) | (refine (HE.out 0).mono ?_)); rintro e w3 ⟨rfl, k3, rfl⟩) | (go_at_call 121; (first | (refine (HF.out _).mono ?_) | (refine (HF.out 0).mono ?_)); rintro e w6 ⟨rfl, k6, rfl⟩))
      go_ret
      exact ⟨rfl, HD.out.ab (Ab.refl w), Turn.of_ab (Ab.refl w)⟩
    by_cases b2 : (f : Int) ≤ at_
    · clear hb
      go_enter Try.func69, Try.ntmps69
      go_wp2_with (first | (go_at_call 119; (refine (ready_any _ g true H0.out).mono ?_); rintro e w2 ⟨rfl, rfl⟩) | (go_at_call 120; (first | (refine (HE.out _).mono ?_) | (refine (HE.out 0).mono ?_)); rintro e w3 ⟨rfl, k3, rfl⟩) | (go_at_call 121; (first | (refine (HF.out _).mono ?_) | (refine (HF.out 0).mono ?_)); rintro e w6 ⟨rfl, k6, rfl⟩))
      go_ret
      exact ⟨rfl, HD.out.ab ((Ab.refl w).drewN _), Turn.of_ab ((Ab.refl w).drewN _)⟩
    by_cases b3 : bit < 0
    · clear hb
      go_enter Try.func69, Try.ntmps69
      go_wp2_with (first | (go_at_call 119; (refine (ready_any _ g true H0.out).mono ?_); rintro e w2 ⟨rfl, rfl⟩) | (go_at_call 120; (first | (refine (HE.out _).mono ?_) | (refine (HE.out 0).mono ?_)); rintro e w3 ⟨rfl, k3, rfl⟩) | (go_at_call 121; (first | (refine (HF.out _).mono ?_) | (refine (HF.out 0).mono ?_)); rintro e w6 ⟨rfl, k6, rfl⟩))
      go_ret
      exact ⟨rfl, HD.out.ab ((Ab.refl w).drewN _), Turn.of_ab ((Ab.refl w).drewN _)⟩
    · have b4 : 8 ≤ bit := by omega
      clear hb
      go_enter Try.func69, Try.ntmps69
      go_wp2_with (first | (go_at_call 119; (refine (ready_any _ g true H0.out).mono ?_); rintro e w2 ⟨rfl, rfl⟩) | (go_at_call 120; (first | (refine (HE.out _).mono ?_) | (refine (HE.out 0).mono ?_)); rintro e w3 ⟨rfl, k3, rfl⟩) | (go_at_call 121; (first | (refine (HF.out _).mono ?_) | (refine (HF.out 0).mono ?_)); rintro e w6 ⟨rfl, k6, rfl⟩))
      go_ret
      exact ⟨rfl, HD.out.ab ((Ab.refl w).drewN _), Turn.of_ab ((Ab.refl w).drewN _)⟩
  | true =>
    have E1 : d.flipE at_ bit = 0 := by unfold Dst.flipE; rw [hgood]; rfl
    have hb : ((d.base : Int) ≤ at_ ∧ at_ < (d.fin : Int) ∧ 0 ≤ bit ∧ bit < 8) := of_decide_eq_true hgood
    have E2 : d.flip at_ bit = { d with bytes := d.bytes.set (at_.toNat - d.base) (Dst.turned (d.bytes.getD (at_.toNat - d.base) 0) bit.toNat) } := by unfold Dst.flip; rw [hgood]; rfl
    have hk := hok.flip at_ bit
    rw [E2] at hk
    rw [E1, E2]
    rw [hfin] at hb
    obtain ⟨x, rfl⟩ : ∃ x : Nat, at_ = (x : Int) := ⟨at_.toNat, by omega⟩
    obtain ⟨m, rfl⟩ : ∃ m : Nat, bit = (m : Int) := ⟨bit.toNat, by omega⟩
    rw [Int.toNat_natCast, Int.toNat_natCast] at hk ⊢
    have c1 : ¬ (x : Int) < (d.base : Int) := by omega
    have c2 : ¬ (f : Int) ≤ (x : Int) := by omega
    have c3 : ¬ (m : Int) < 0 := by omega
    have c4 : ¬ 8 ≤ (m : Int) := by omega
    have hne : d.bytes ≠ [] := by intro e; rw [e] at hf; simp at hf; omega
    obtain ⟨gb, off, cap, hv, hgb, hlt, hlc, hcm, hfrz, hcl⟩ := h.2.1.form hne
    injection hv with hA hn' hc'
    clear hn' hc'
    subst hA
    obtain ⟨k, hk0⟩ : ∃ k, x - d.base = k := ⟨_, rfl⟩
    have hkl : k < d.bytes.length := by omega
    have hcell := hcl k hkl
    have hfk := hfrz (off + k)
    rw [hk0] at hk ⊢
    have hgne : gb ≠ g := fun e => h.apart (by rw [e]; rfl)
    have H5 := Lib.hid (And.intro hk hgne)
    have ek : (x : Int) - (d.base : Int) = (k : Int) := by omega
    have wk : IntKind.i64.wrap (k : Int) = (k : Int) := IntWalk.i64_in _ (by omega)
    have k0 : (0 : Int) ≤ (k : Int) := by omega
    have k1 : (k : Int) < (d.bytes.length : Int) := by omega
    generalize d.bytes.getD k 0 = y at *
    clear h h0 h1 h5 h6 hgood E1 E2 hfin hf hr hc1 hc2 hcold hfr hok hcl hfrz hk hlc hcm hlt hgne hk0
    go_enter Try.func69, Try.ntmps69
    go_wp2_with (first | (go_at_call 119; (refine (ready_any _ g true H0.out).mono ?_); rintro e w2 ⟨rfl, rfl⟩) | (go_at_call 120; (first | (refine (HE.out _).mono ?_) | (refine (HE.out 0).mono ?_)); rintro e w3 ⟨rfl, k3, rfl⟩) | (go_at_call 121; (first | (refine (HF.out _).mono ?_) | (refine (HF.out 0).mono ?_)); rintro e w6 ⟨rfl, k6, rfl⟩))
    refine wp_region_still_tail 16 (by kernel_rfl) (by kernel_rfl) ?_
    simp only [List.take_succ_cons, List.take_zero, List.drop_succ_cons, List.drop_zero]
    change wpStill _ _ (w.drewN k3).drew (fun a' => wpList _ _ _ _ a' (w.drewN k3).drew) _ _
    repeat still_step
    try refine wpStill_nil ?_
    go_wp2
    go_ret
    rw [bit_turn y m (by omega)]
    exact ⟨rfl, (HD.out.ab ((Ab.refl w).drewN (k3 + 1))).flip_ k hkl _ H5.out.1 |>.1, Turn.after ((Ab.refl w).drewN (k3 + 1)) ((HD.out.ab ((Ab.refl w).drewN (k3 + 1))).flip_ k hkl _ H5.out.1).2⟩
end Go.Proofs.Ytolchbjcdlncgaa.Dg

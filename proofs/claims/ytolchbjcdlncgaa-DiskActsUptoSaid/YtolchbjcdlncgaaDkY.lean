/- The reference's disk in memory: Flip. -/
import Derived.Test.YtolchbjcdlncgaaDkS
import Derived.StillTailTactics
namespace Go.Proofs.Ytolchbjcdlncgaa.Dg
open Go.RowKit
variable {w w' : World} {base g : Nat} {v : Value} {d : Dst}
attribute [local go_sem ↓] Go.wp_at_zero Go.wp_at_succ
theorem Rk.flip_ {gb n c : Nat} (h : Rk w base g (.slice (some ⟨gb, 0, none⟩) n c) d) (k : Nat) (y : UInt8) (hok : ({ d with bytes := d.bytes.set k y } : Dst).Ok) :
    Rk (w.setCell ⟨gb, k, none⟩ (.int .u8 (n8 y))) base g (.slice (some ⟨gb, 0, none⟩) n c) { d with bytes := d.bytes.set k y } ∧ Turn g (.slice (some ⟨gb, 0, none⟩) n c) (.slice (some ⟨gb, 0, none⟩) n c) w (w.setCell ⟨gb, k, none⟩ (.int .u8 (n8 y))) :=
  ⟨⟨h.1.far (fun e => h.apart (by rw [e]; rfl)) _, h.2.1.set k y, h.2.2.1, hok⟩, Mv.set (S := Own g (.slice (some ⟨gb, 0, none⟩) n c)) (p := ⟨gb, k, none⟩) (Mv.refl _ w) (.inr rfl) _, fun _ h => .inl h⟩
set_option maxRecDepth 100000 in
set_option maxHeartbeats 1000000 in
/-- Flip. -/
theorem rflip_any (w : World) (h : Rk w base g v d) (at_ bit : Int) (hbase : base ≤ w.heap.size) :
    Calls Try.prog 70 #[.pointer (some ⟨g, 0, none⟩), .int .i64 at_, .int .i64 bit] w fun e w' => e = .returned (.int .i64 (d.flipE at_ bit : Int)) ∧ ∃ v', Rk w' base g v' (d.flip at_ bit) ∧ Turn g v v' w w' := by
  have hfz := h.free
  have hr := h.bound
  have hok := h.ok
  have HD := Lib.hid h
  obtain ⟨h0, h1, h2, h3, h4⟩ := h.cells
  obtain ⟨A, c, rfl, hc1, hc2⟩ := h.len_cap
  have HE := Lib.hid (rend_at h)
  obtain ⟨f, hf⟩ : ∃ f, d.fin = f := ⟨_, rfl⟩
  rw [hf] at HE
  have hf2 : d.base + d.bytes.length = f := hf
  cases hgood : d.flips at_ bit with
  | false =>
    have E1 : d.flipE at_ bit = 22 := by unfold Dst.flipE; rw [hgood]; rfl
    have E2 : d.flip at_ bit = d := by unfold Dst.flip; rw [hgood]; rfl
    rw [E1, E2]
    have hb : ¬ ((d.base : Int) ≤ at_ ∧ at_ < (d.fin : Int) ∧ 0 ≤ bit ∧ bit < 8) := of_decide_eq_false hgood
    rw [hf] at hb
    clear h h0 h2 h3 h4 hgood E1 E2 hf hf2 hr hc1 hc2 hok
    by_cases b1 : at_ < (d.base : Int)
    · clear hb
      go_enter Try.func70, Try.ntmps70
      go_wp2_with (go_at_call 77; (first | (refine (HE.out _).mono ?_) | (refine (HE.out 0).mono ?_)); rintro e w3 ⟨rfl, k3, rfl⟩)
      go_ret
      exact ⟨rfl, .slice A d.bytes.length c, HD.out.ab (Ab.refl w), Turn.of_ab (Ab.refl w)⟩
    by_cases b2 : (f : Int) ≤ at_
    · clear hb
      go_enter Try.func70, Try.ntmps70
      go_wp2_with (go_at_call 77; (first | (refine (HE.out _).mono ?_) | (refine (HE.out 0).mono ?_)); rintro e w3 ⟨rfl, k3, rfl⟩)
      go_ret
      exact ⟨rfl, .slice A d.bytes.length c, HD.out.ab ((Ab.refl w).drewN _), Turn.of_ab ((Ab.refl w).drewN _)⟩
    by_cases b3 : bit < 0
    · clear hb
      go_enter Try.func70, Try.ntmps70
      go_wp2_with (go_at_call 77; (first | (refine (HE.out _).mono ?_) | (refine (HE.out 0).mono ?_)); rintro e w3 ⟨rfl, k3, rfl⟩)
      go_ret
      exact ⟨rfl, .slice A d.bytes.length c, HD.out.ab ((Ab.refl w).drewN _), Turn.of_ab ((Ab.refl w).drewN _)⟩
    · have b4 : 7 < bit := by omega
      clear hb
      go_enter Try.func70, Try.ntmps70
      go_wp2_with (go_at_call 77; (first | (refine (HE.out _).mono ?_) | (refine (HE.out 0).mono ?_)); rintro e w3 ⟨rfl, k3, rfl⟩)
      go_ret
      exact ⟨rfl, .slice A d.bytes.length c, HD.out.ab ((Ab.refl w).drewN _), Turn.of_ab ((Ab.refl w).drewN _)⟩
  | true =>
    have E1 : d.flipE at_ bit = 0 := by unfold Dst.flipE; rw [hgood]; rfl
    have hb : ((d.base : Int) ≤ at_ ∧ at_ < (d.fin : Int) ∧ 0 ≤ bit ∧ bit < 8) := of_decide_eq_true hgood
    have E2 : d.flip at_ bit = { d with bytes := d.bytes.set (at_.toNat - d.base) (Dst.turned (d.bytes.getD (at_.toNat - d.base) 0) bit.toNat) } := by unfold Dst.flip; rw [hgood]; rfl
    have hk := hok.flip at_ bit
    rw [E2] at hk
    rw [E1, E2]
    rw [hf] at hb
    obtain ⟨x, rfl⟩ : ∃ x : Nat, at_ = (x : Int) := ⟨at_.toNat, by omega⟩
    obtain ⟨m, rfl⟩ : ∃ m : Nat, bit = (m : Int) := ⟨bit.toNat, by omega⟩
    rw [Int.toNat_natCast, Int.toNat_natCast] at hk ⊢
    have c1 : ¬ (x : Int) < (d.base : Int) := by omega
    have c2 : ¬ (f : Int) ≤ (x : Int) := by omega
    have c3 : ¬ (m : Int) < 0 := by omega
    have c4 : ¬ 7 < (m : Int) := by omega
    have hm8 : m < 8 := by omega
    have hne : d.bytes ≠ [] := by intro e; rw [e] at hf2; simp at hf2; omega
    obtain ⟨k, hk0⟩ : ∃ k, x - d.base = k := ⟨_, rfl⟩
    have hkl : k < d.bytes.length := by omega
    rw [hk0] at hk ⊢
    obtain ⟨y, hy⟩ : ∃ y, d.bytes.getD k 0 = y := ⟨_, rfl⟩
    rw [hy] at hk ⊢
    have ek : (x : Int) - (d.base : Int) = (k : Int) := by omega
    have wk : IntKind.i64.wrap (k : Int) = (k : Int) := IntWalk.i64_in _ (by omega)
    have k0 : (0 : Int) ≤ (k : Int) := by omega
    have k1 : (k : Int) < (d.bytes.length : Int) := by omega
    have HBT := Lib.hid (bit_turn y m hm8)
    have HMN := Lib.hid (show min m 8 = m by omega)
    have HY := Lib.hid hy
    have HKL := Lib.hid hkl
    have HNE0 := Lib.hid hne
    have HNE := Lib.hid (show ([] ++ d.bytes) ≠ [] from hne)
    have HOK := Lib.hid hok
    have H5 := Lib.hid hk
    have HL := Lib.hid (show ([] : List UInt8).length + d.bytes.length ≤ 200000000000000 by have := hok.room; have := hok.size2; simp; omega)
    clear h h0 h2 h4 hgood E1 E2 hf hf2 hr hc1 hc2 hb hok hk hk0 hne hkl hm8 hy
    go_enter Try.func70, Try.ntmps70
    go_wp2_with (first | (go_at_call 77; (first | (refine (HE.out _).mono ?_) | (refine (HE.out 0).mono ?_)); rintro e w3 ⟨rfl, k3, rfl⟩; (have hca := (HD.out.ab (((Ab.refl w).drewN k3).alloc (.cells #[] 5))).cells.2.2.2.1)) | (at_builtin; refine wpList_bytes rfl _ _ _ rfl _ _ rfl rfl w.heap.size [] d.bytes (Ob.made (w.drewN k3) #[] w.heap.size (Nat.le_refl _) (by simp [maxLen])) (src_bs Try.underlying30 (HD.out.2.1.ab (((Ab.refl w).drewN k3).alloc _)).bs) HL.out (by simp) ?_; intro v5 w5 ho5 hg5 hb5; (have ha5 := grown_ab (((Ab.refl w).drewN k3).alloc _) hg5 (fun k hk => by injection hk with hk; exact Nat.le_of_eq hk)); (obtain ⟨gb, cap, rfl, -, -, -, -, -, -⟩ := ho5.form HNE.out); (have hp := HD.out.put (w2 := w5) (d2 := d) (v2 := .slice (some ⟨gb, 0, none⟩) d.bytes.length cap) (ho5.lower hbase) ha5 (fun k hk => .inr (ho5.blk k hk).1) (setg 3 (.slice (some ⟨gb, 0, none⟩) d.bytes.length cap) (Mv.refl _ _)) (fun hb => hb.store 3 _) HOK.out); (have hd5 := HD.out.ab ha5); (obtain ⟨-, hcb, hcs, hcv, hcl5⟩ := hd5.cells); (have hf5 := hd5.free); (obtain ⟨-, hb6, -, hv6, -⟩ := hp.1.cells); (obtain ⟨gb', cap', hv', -, -, -, -, hfr6, hcl6⟩ := hp.1.2.1.form HNE0.out); (injection hv' with hA' hB' hC'); clear hB' hC'; (injection hA' with hA'); (injection hA' with hA'); subst hA'; (have hby := hcl6 k HKL.out); (rw [HY.out] at hby); (have hfb := hfr6 k); (have H6 := Lib.hid hp); clear ho5 hg5 hb5 ha5 hp hd5 hcl6 hfr6))
    refine wp_region_still_tail 17 (by kernel_rfl) (by kernel_rfl) ?_
    simp only [List.take_succ_cons, List.take_zero, List.drop_succ_cons, List.drop_zero]
    change wpStill _ _ (World.drew _) (fun a' => wpList _ _ _ _ a' (World.drew _)) _ _
    repeat still_step
    try refine wpStill_nil ?_
    go_wp2
    go_ret
    rw [HMN.out, HBT.out]
    have hz := H6.out.1.flip_ k _ H5.out
    exact ⟨rfl, _, hz.1.ab ((Ab.refl _).drew), H6.out.2.trans (hz.2.still ((Ab.refl _).drew))⟩
end Go.Proofs.Ytolchbjcdlncgaa.Dg

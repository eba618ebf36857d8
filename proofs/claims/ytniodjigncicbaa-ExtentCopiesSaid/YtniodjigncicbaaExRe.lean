/- The reference's object: Read. -/
import Derived.Test.YtniodjigncicbaaExRd
import Derived.Test.YtniodjigncicbaaExN
namespace Go.Proofs.Ytniodjigncicbaa.Dg
open Go.RowKit
variable {w w' : World} {base b s : Nat} {v u vd vh : Value} {c : Cel} {l : List UInt8}
attribute [local go_sem ↓] Go.wp_at_zero Go.wp_at_succ
theorem readR_dat (c : Cel) (s t m : Nat) (h : t + m ≤ s) : ((datR c s).drop t).take m = readC c t m := by
  apply List.ext_getElem?
  intro i
  rw [readC_get]
  by_cases hi : i < m
  · rw [if_pos hi, List.getElem?_take_of_lt hi, List.getElem?_drop]
    simp [datR, show t + i < s by omega]
  · rw [if_neg hi]
    exact List.getElem?_eq_none (by rw [List.length_take]; omega)
set_option maxRecDepth 100000 in
set_option maxHeartbeats 4000000 in
theorem rread_any (w : World) (h : Rf w base b vd vh c s) (at_ n : Int) (h63 : at_ ≤ 9223372036854775807 ∧ n ≤ 9223372036854775807) :
    Calls Try.prog 65 #[.pointer (some ⟨b, 0, none⟩), .int .i64 at_, .int .i64 n] w fun e w' => ∃ v, e = .returned (.tuple #[v, .int .i64 (gotE at_ n)]) ∧ Ob w' w.heap.size v (gotC c s at_ n) ∧ Ab w w' := by
  obtain ⟨A, cp, rfl, hcp, hcm⟩ := h.dat.len_cap
  have k0 : w.cell? ⟨b, 0, none⟩ = some (.slice A s cp) := h.blk.cell rfl
  have hmax := h.max
  unfold gotE gotC
  by_cases hneg : at_ < 0 ∨ n < 0
  · rw [if_pos hneg, if_pos hneg]
    by_cases h1 : at_ < 0
    · clear hneg
      go_enter Try.func65, Try.ntmps65
      go_wp2_with fail
      go_ret2
      exact ⟨_, rfl, Ob.nil _ _, Ab.refl _⟩
    · have h2 : n < 0 := by omega
      clear hneg
      go_enter Try.func65, Try.ntmps65
      go_wp2_with fail
      go_ret2
      exact ⟨_, rfl, Ob.nil _ _, Ab.refl _⟩
  rw [if_neg hneg, if_neg hneg]
  have c1 : ¬ at_ < 0 := by omega
  have c2 : ¬ n < 0 := by omega
  by_cases hge : at_ ≥ (s : Int)
  · have hz : (min n ((s : Int) - at_)).toNat = 0 := by omega
    rw [hz, readC_zero]
    clear hneg hz
    go_enter Try.func65, Try.ntmps65
    go_wp2_with fail
    go_ret2
    exact ⟨_, rfl, Ob.nil _ _, Ab.refl _⟩
  obtain ⟨t, rfl⟩ : ∃ t : Nat, at_ = (t : Int) := ⟨at_.toNat, by omega⟩
  obtain ⟨r, hr⟩ : ∃ r : Nat, (s : Int) - (t : Int) = (r : Int) := ⟨s - t, by omega⟩
  obtain ⟨m, hm⟩ : ∃ m : Nat, (min n ((s : Int) - (t : Int))).toNat = m := ⟨_, rfl⟩
  rw [hm, Int.toNat_natCast]
  have wr : IntKind.i64.wrap (r : Int) = (r : Int) := IntWalk.i64_in _ (by omega)
  obtain ⟨hi, hhi⟩ : ∃ hi : Nat, t + m = hi := ⟨_, rfl⟩
  have s1 : (t : Int) + (m : Int) = (hi : Int) := by omega
  have s2 : IntKind.i64.wrap (hi : Int) = (hi : Int) := IntWalk.i64_in _ (by omega)
  have hs1 := fun wx => run_slice_mid A s cp t hi (by omega) (by omega) wx
  have hl : (datR c s).length = s := datR_length c s
  have hbs := midB (l := datR c s) (A := A) (c := cp) (by rw [hl]; exact (h.dat.bs8).1) t hi (by omega) (by omega)
  rw [show hi - t = m by omega, readR_dat c s t m (by omega)] at hbs
  rw [show hi - t = m by omega] at hs1
  have HBS := Lib.hid (And.intro hbs (show m ≤ 4096 by omega))
  have k1 := ((h.ab ((Ab.refl w).alloc (.cells #[] 5))).blk.cell (i := 0) rfl)
  have hlen : (readC c t m).length = m := readC_length c t m
  have HL := Lib.hid hlen
  by_cases hgt : n > (r : Int)
  · have hnm : (m : Int) = (r : Int) := by omega
    have hnm' : m = r := by omega
    subst hnm'
    clear hneg hm hhi hbs hlen hl h hcm hcp hnm
    go_enter Try.func65, Try.ntmps65
    go_wp2_with (at_builtin; refine wpList_bytes rfl _ _ _ rfl _ _ rfl rfl w.heap.size [] (readC c t m) (Ob.made w #[] w.heap.size (Nat.le_refl _) (by simp)) (src_bs Try.underlying30 (HBS.out.1.ab ((Ab.refl w).alloc _) (Nat.le_refl _))) (by rw [HL.out]; have := HBS.out.2; simp; omega) (by simp) ?_)
    intro v5 w5 ho5 hg5 hn5
    have h5 := Lib.hid (And.intro ho5 (grown_ab ((Ab.refl w).alloc _) hg5 (fun k hk => by injection hk with hk; exact Nat.le_of_eq hk)))
    clear ho5 hg5 hn5
    go_wp2_with fail
    go_ret2
    exact ⟨_, rfl, h5.out.1, h5.out.2⟩
  · have hnm : (m : Int) = n := by omega
    subst hnm
    clear hneg hm hhi hbs hlen hl h hcm hcp
    go_enter Try.func65, Try.ntmps65
    go_wp2_with (at_builtin; refine wpList_bytes rfl _ _ _ rfl _ _ rfl rfl w.heap.size [] (readC c t m) (Ob.made w #[] w.heap.size (Nat.le_refl _) (by simp)) (src_bs Try.underlying30 (HBS.out.1.ab ((Ab.refl w).alloc _) (Nat.le_refl _))) (by rw [HL.out]; have := HBS.out.2; simp; omega) (by simp) ?_)
    intro v5 w5 ho5 hg5 hn5
    have h5 := Lib.hid (And.intro ho5 (grown_ab ((Ab.refl w).alloc _) hg5 (fun k hk => by injection hk with hk; exact Nat.le_of_eq hk)))
    clear ho5 hg5 hn5
    go_wp2_with fail
    go_ret2
    exact ⟨_, rfl, h5.out.1, h5.out.2⟩
end Go.Proofs.Ytniodjigncicbaa.Dg

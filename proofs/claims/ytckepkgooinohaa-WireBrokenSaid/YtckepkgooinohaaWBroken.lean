/- The walk through WireBroken. -/
import Derived.Test.YtckepkgooinohaaWrZ
import Derived.Test.YtckepkgooinohaaWrJ
namespace Go.Proofs.Ytckepkgooinohaa.wireBroken
open Go.RowKit Go.ChangeShapes Go.WideShapes Go.ChangeAt Dg
theorem uf_at {l : List UInt8} {w : World} {k : Nat} (hk : ufE l = k) {e : Ending} {w' : World} (h : UfPost l w e w') : ∃ u n, e = .returned (.tuple #[u, .int .i64 n, .int .i64 (k : Int)]) ∧ Ab w w' ∧ ∃ A m c, u = .slice A m c := by
  obtain ⟨u, h1, h2, h3⟩ := h
  exact ⟨u, _, by rw [h1, hk], h3, h2.shape⟩
set_option maxRecDepth 100000 in
set_option maxHeartbeats 4000000 in
theorem walk (v : Value) (l : List UInt8) (a : Int) (x : UInt8) (w : World) (hv : Bs w w.heap.size v l) :
    Calls Try.prog 8 #[v, .int .i64 a, .int .u8 (n8 x)] w (LawPost w) := by
  obtain ⟨A, c, rfl, hlc, hcm, -⟩ := id hv
  have hlm : l.length ≤ 9223372036854775807 := by omega
  by_cases hlong : l.length = 0 ∨ 524288 < l.length
  · rcases hlong with hl0 | hl0
    · go_enter Try.func8, Try.ntmps8
      go_wp2_with fail
      refine (awake_any _).mono ?_
      rintro e w1 ⟨rfl, ha⟩
      go_wp2_with fail
      go_ret
      exact ⟨rfl, ha⟩
    · have h0 : ¬ l.length = 0 := by omega
      go_enter Try.func8, Try.ntmps8
      go_wp2_with fail
      refine (awake_any _).mono ?_
      rintro e w1 ⟨rfl, ha⟩
      go_wp2_with fail
      go_ret
      exact ⟨rfl, ha⟩
  · have hl0 : 0 < l.length := by omega
    have hl1 : l.length ≤ 524288 := by omega
    have hz0 : ((l.length : Int) == 0) = false := by rw [beq_eq_false_iff_ne]; omega
    have hz1 : ¬ 524288 < l.length := by omega
    obtain ⟨i, hi⟩ : ∃ i : Nat, IntKind.u64.wrap a % (l.length : Int) = (i : Int) := ⟨(IntKind.u64.wrap a % (l.length : Int)).toNat, by have := Int.emod_nonneg (IntKind.u64.wrap a) (show (l.length : Int) ≠ 0 by omega); omega⟩
    have hil : i < l.length := by have := Int.emod_lt_of_pos (IntKind.u64.wrap a) (show (0 : Int) < (l.length : Int) by omega); omega
    have hi2 : (IntKind.u64.wrap a).tmod (l.length : Int) = (i : Int) := by rw [Int.tmod_eq_emod_of_nonneg (by rw [IntKind.wrap_u64]; omega)]; exact hi
    obtain ⟨k, hk⟩ : ∃ k, 8 + i = k := ⟨_, rfl⟩
    have hk2 : (8 : Int) + (i : Int) = (k : Int) := by omega
    obtain ⟨j, hj⟩ : ∃ j : Nat, n8 x % 8 = (j : Int) := ⟨(n8 x % 8).toNat, by have := Int.emod_nonneg (n8 x) (show (8 : Int) ≠ 0 by omega); omega⟩
    have hj8 : j < 8 := by have := Int.emod_lt_of_pos (n8 x) (show (0 : Int) < 8 by omega); omega
    have hj2 : (n8 x).tmod 8 = (j : Int) := by rw [Int.tmod_eq_emod_of_nonneg (n8_nn x)]; exact hj
    have HV := Lib.hid hv
    clear hv hlong
    go_enter Try.func8, Try.ntmps8
    go_wp2_with fail
    refine (frame_any w HV.out (Nat.le_refl _) hl1).mono ?_
    rintro e w1 ⟨v1, rfl, ho1, ha1⟩
    have hfn := frameL_length l
    have HT := Lib.hid (And.intro (fun y hy => broken_told l i hil hl1 y hy) (begin_told l i hil hl1))
    have hg0 : ∀ (hh : i < l.length), (frameL l).getD (8 + i) 0 = l[i] := fun hh => by
      rw [frameL_hdr, List.getD_eq_getElem?_getD, List.getElem?_append_right (by rw [hdr_length]; omega), hdr_length, show 8 + i - 8 = i by omega, List.getElem?_eq_getElem hh]; rfl
    have HG := Lib.hid hg0
    clear hg0
    rw [hk] at HT HG
    generalize frameL l = fl at *
    have hne1 : fl ≠ [] := by intro e; subst e; simp at hfn; omega
    obtain ⟨g, cap, rfl, hbg, hglt, hfc, hfcm, hgf, hgc⟩ := ho1.form hne1
    obtain ⟨N, hN⟩ : ∃ N, fl.length = N := ⟨_, rfl⟩
    rw [hN] at hfn hfc ho1 ⊢
    have hNl : ((N : Int) != (l.length : Int) + 8) = false := by simp; omega
    have hNl2 : ((N : Int) == (l.length : Int) + 8) = true := by simp; omega
    have hN9 : (N : Int) ≤ 9223372036854775807 := by omega
    have hs1 := ha1.size
    have H1 := Lib.hid (And.intro ho1 (And.intro ha1 hN))
    have HC := Lib.hid hgc
    have HFN := Lib.hid hfn
    clear ho1 ha1 hN hgc hgf hfn
    go_wp2_with (at_builtin; refine wpList_bytes3 rfl _ _ _ rfl _ _ rfl rfl w1.heap.size [] fl (Ob.made w1 #[] _ (Nat.le_refl _) (by simp [maxLen])) ?ap2 ?ap3 (by simp) ?_)
    case ap2 => exact src_bs Try.underlying25 (B := w1.heap.size) ((H1.out.1.bs).ab ((Ab.refl w1).alloc _) (Nat.le_refl _))
    case ap3 => rw [H1.out.2.2]; simp; have := HFN.out; omega
    intro A3 n3 c3 w3 ho3 hf3
    have ho3 : Ob w3 w1.heap.size (.slice A3 n3 c3) fl := ho3
    obtain ⟨g3, cap3, hv3, hbg3, hglt3, hfc3, hfcm3, hgf3, hgc3⟩ := ho3.form hne1
    injection hv3 with hA3 hn3 hc3
    subst hA3
    rw [H1.out.2.2] at hn3
    subst hn3
    have hf13 : Fr w1.heap.size w1 w3 := ((Fr.refl w1.heap.size w1).alloc _).trans hf3
    have ha13 : Ab w1 w3 := hf13.ab (Ab.refl w1) (Nat.le_refl _)
    have hkN : k < n3 := by have := HFN.out; omega
    have hcell3 := hgc3 k (by rw [H1.out.2.2]; exact hkN)
    have hfree3 := hgf3 k
    rw [HG.out hil] at hcell3
    have hkN2 : (k : Int) < (n3 : Int) := by omega
    have hk0 : (0 : Int) ≤ (k : Int) := by omega
    subst hc3
    have hcap9 : c3 ≤ 9223372036854775807 := by unfold maxLen at hfcm3; exact hfcm3
    have H3 := Lib.hid (And.intro ho3 ha13)
    have HI := Lib.hid (And.intro hi (And.intro hi2 (And.intro hj hj2)))
    clear ho3 hf3 hf13 ha13 hgf3 hgc3
    go_wp2_with fail
    have hxor : bits .xor .u8 (n8 l[i]) ((2 : Int) ^ j % 256) = n8 (l[i] ^^^ UInt8.ofNat (2 ^ j)) := by
      rw [← xor8, ← byte_of]; norm_cast
    rw [hxor]
    have hne2 : l[i] ≠ l[i] ^^^ UInt8.ofNat (2 ^ j) := fun e => xor_bit l[i] j hj8 e.symm
    have hE74 := HT.out.1 _ hne2
    generalize l[i] ^^^ UInt8.ofNat (2 ^ j) = y at *
    have ho4 := H3.out.1.set k y
    have hb4 : Ab w (w3.setCell ⟨g3, k, none⟩ (.int .u8 (n8 y))) := (H1.out.2.1.trans H3.out.2).set (by show w.heap.size ≤ g3; omega) _
    have hf4 : Bs (w3.setCell ⟨g3, k, none⟩ (.int .u8 (n8 y))) w1.heap.size (.slice (some ⟨g, 0, none⟩) n3 cap) fl :=
      ((H1.out.1.bs).ab H3.out.2 (Nat.le_refl _)).keep fun b o hb => World.cell?_of_block (a := ⟨b, o, none⟩) (Below.heap_setCell w3 ⟨g3, k, none⟩ _ b (by show b ≠ g3; omega))
    have hs4 : w1.heap.size ≤ (w3.setCell ⟨g3, k, none⟩ (.int .u8 (n8 y))).heap.size := by have := H3.out.2.size; simpa using this
    generalize w3.setCell ⟨g3, k, none⟩ (.int .u8 (n8 y)) = w4 at *
    have HO4 := Lib.hid (And.intro ho4.bs (And.intro hb4 (And.intro hf4 hs4)))
    have hE11 := HT.out.2
    clear ho4 hb4 hf4 hcell3 hxor hne2
    refine (unframe_any w4 HO4.out.1 (Nat.le_refl _)).mono ?_
    intro e w5 h5
    obtain ⟨u5, n5, rfl, ha5, A5, m5, c5, rfl⟩ := uf_at hE74 h5
    clear h5 hE74
    have hsl := fun wx => run_slice_head (some ⟨g, 0, none⟩) n3 cap k (k : Int) rfl (by omega) wx
    go_wp2_with fail
    have hb5 : Bs w5 w1.heap.size (.slice (some ⟨g, 0, none⟩) k cap) (fl.take k) := take_bs (HO4.out.2.2.1.ab ha5 hs4) k (by rw [H1.out.2.2]; omega)
    refine (unframe_any w5 hb5 (Nat.le_trans hs4 ha5.size)).mono ?_
    intro e w6 h6
    obtain ⟨u6, n6, rfl, ha6, A6, m6, c6, rfl⟩ := uf_at hE11 h6
    have ha7 : Ab w w6 := (HO4.out.2.1.trans ha5).trans ha6
    clear h6 hE11 hb5 hsl
    go_wp2_with fail
    refine (num_any _ _).mono ?_
    rintro e w7 ⟨rfl, rfl⟩
    go_wp2_with fail
    refine (num_any _ _).mono ?_
    rintro e w7 ⟨rfl, rfl⟩
    go_wp2_with fail
    refine (awake_any _).mono ?_
    rintro e w8 ⟨rfl, ha8⟩
    go_wp2_with fail
    go_ret
    exact ⟨rfl, ha7.trans ha8⟩
end Go.Proofs.Ytckepkgooinohaa.wireBroken

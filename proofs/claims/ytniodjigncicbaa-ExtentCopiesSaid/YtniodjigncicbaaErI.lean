/- The walk through ExtentCopies. -/
import Derived.Test.YtniodjigncicbaaErF
import Derived.Test.YtniodjigncicbaaErH
import Derived.Test.YtniodjigncicbaaExAc
namespace Go.Proofs.Ytniodjigncicbaa.Dg
open Go.RowKit Go.Shelf
variable {w w' W : World} {base a b s B : Nat} {v u vd vh : Value} {ps : List Pr} {l : List UInt8} {c : Cel}
attribute [local go_sem ↓] Go.wp_at_zero Go.wp_at_succ
def Py (W : World) (a b : Nat) (w : World) : Prop := ∃ v ps vd vh c s, Px w W.heap.size a b v ps vd vh c s ∧ Ab W w
theorem px_new (W : World) : Py W W.heap.size (W.heap.size + 1) ((W.alloc (.cells #[.bool true, .int .i64 0, .slice none 0 0] 109)).alloc (.cells #[.slice none 0 0, .slice none 0 0] 70)) :=
  ⟨.slice none 0 0, [], .slice none 0 0, .slice none 0 0, celP [], 0, ⟨(exnew_ex W).ab ((Ab.refl _).alloc _), rfl, ⟨Bk.new (by simp), Og.nil _ _ _ _, Og.nil _ _ _ _, by omega, fun p _ => rfl, by omega⟩, fun p hp => by cases hp⟩, ((Ab.refl W).alloc _).alloc _⟩
/-- The lists that came in. -/
def In5 (W : World) (A0 : Option Addr) (n : Nat) (K M N : Nat → Int) (Z : Nat → Value) (L : Nat → List UInt8) : Prop :=
  (n ≠ 0 → ∃ bb off, A0 = some ⟨bb, off, none⟩ ∧ Acts5 W bb off n K M N Z L) ∧ ∀ i, i < n → (L i).length ≤ 200000000000000
/-- act, whatever it does. -/
theorem act_py (W w : World) (a b : Nat) (k p q : Int) (z : Value) (l : List UInt8) (hp : Py W a b w) (hz : Bs W W.heap.size z l) (hl : l.length ≤ 200000000000000) (h1 : p ≤ 9223372036854775807) (h2 : q ≤ 9223372036854775807) :
    Calls Try.prog 26 #[.pointer (some ⟨a, 0, none⟩), .pointer (some ⟨b, 0, none⟩), .agg #[.int .i64 k, .int .i64 p, .int .i64 q, z]] w fun e w' => e = .returned (.bool true) ∧ Py W a b w' := by
  obtain ⟨v, ps, vd, vh, c, s, h, hab⟩ := hp
  refine (xact_any k h (hz.ab hab (Nat.le_refl _)) (Nat.le_refl _) hl hab.size h1 h2).mono fun e w' hx => ?_
  obtain ⟨he, v', ps', vd', vh', c', s', h', ht⟩ := hx
  exact ⟨he, v', ps', vd', vh', c', s', h', PxT.ab h ht hab (Nat.le_refl _)⟩
theorem act_pz (W w : World) {n0 a b a2 b2 : Nat} {y : Value} {m : List UInt8} (k p q : Int) (z : Value) (l : List UInt8) (hp : Pz W n0 a b v ps vd vh c s y m a2 b2 w) (hz : Bs W W.heap.size z l) (hl : l.length ≤ 200000000000000) (h1 : p ≤ 9223372036854775807) (h2 : q ≤ 9223372036854775807) :
    Calls Try.prog 26 #[.pointer (some ⟨a2, 0, none⟩), .pointer (some ⟨b2, 0, none⟩), .agg #[.int .i64 k, .int .i64 p, .int .i64 q, z]] w fun e w' => e = .returned (.bool true) ∧ Pz W n0 a b v ps vd vh c s y m a2 b2 w' := by
  obtain ⟨v2, ps2, vd2, vh2, c2, s2, h, hg⟩ := hp.two
  refine (xact_any k h (hz.ab hp.ab (Nat.le_refl _)) (Nat.le_refl _) hl hp.ab.size h1 h2).mono fun e w' hx => ?_
  obtain ⟨he, v', ps', vd', vh', c', s', h', ht⟩ := hx
  exact ⟨he, hp.act h hg h' ht⟩
theorem runs_pz1 (W w : World) {n0 a b a2 b2 : Nat} {y : Value} {m : List UInt8} (hp : Pz W n0 a b v ps vd vh c s y m a2 b2 w) :
    Calls Try.prog 32 #[.pointer (some ⟨a, 0, none⟩), .pointer (some ⟨b, 0, none⟩)] w fun e w' => e = .returned (.bool true) ∧ Pz W n0 a b v ps vd vh c s y m a2 b2 w' :=
  (xruns_any w hp.px).mono fun _ _ hx => ⟨hx.1, hp.mv_ab hx.2⟩
theorem runs_pz2 (W w : World) {n0 a b a2 b2 : Nat} {y : Value} {m : List UInt8} (hp : Pz W n0 a b v ps vd vh c s y m a2 b2 w) :
    Calls Try.prog 32 #[.pointer (some ⟨a2, 0, none⟩), .pointer (some ⟨b2, 0, none⟩)] w fun e w' => e = .returned (.bool true) ∧ Pz W n0 a b v ps vd vh c s y m a2 b2 w' := by
  obtain ⟨v2, ps2, vd2, vh2, c2, s2, h, -⟩ := hp.two
  exact (xruns_any w h).mono fun _ _ hx => ⟨hx.1, hp.mv_ab hx.2⟩
set_option maxRecDepth 100000 in
set_option maxHeartbeats 100000000 in
theorem copies_walk5 (W : World) (A0 : Option Addr) (n cap : Nat) (K M N : Nat → Int) (Z : Nat → Value) (L : Nat → List UInt8) (hn : n ≤ cap) (hc : cap ≤ 9223372036854775807) (HO : Hid (In5 W A0 n K M N Z L))
    (A1 : Option Addr) (n1 cap1 : Nat) (K1 M1 N1 : Nat → Int) (Z1 : Nat → Value) (L1 : Nat → List UInt8) (hn1 : n1 ≤ cap1) (hc1 : cap1 ≤ 9223372036854775807) (HO1 : Hid (In5 W A1 n1 K1 M1 N1 Z1 L1)) :
    Calls Try.prog 5 #[.slice A0 n cap, .slice A1 n1 cap1] W fun e w' => e = .returned (.bool true) ∧ Ab W w' := by
  go_enter Try.func5, Try.ntmps5
  go_wp2_with (go_at_call 25; (with_reducible refine (exnew_any W).mono ?_); rintro e w1 ⟨rfl, rfl⟩)
  have h0 := px_new W
  generalize (W.alloc (.cells #[.bool true, .int .i64 0, .slice none 0 0] 109)).alloc (.cells #[.slice none 0 0, .slice none 0 0] 70) = w2 at *
  have H0 := Lib.hid h0
  clear h0
  go_loopw [8, 21] (fun _ i wr => ∃ j : Nat, j ≤ n ∧ i = .int .i64 (j : Int) ∧ Hid (Py W W.heap.size (W.heap.size + 1) wr)) (fun _ i _ => n - (intOf i).toNat)
  case atStart => exact ⟨0, Nat.zero_le _, rfl, H0⟩
  case round =>
    obtain ⟨j, hj, rfl, HP⟩ := hrel
    by_cases hlt : j < n
    · obtain ⟨bb, off, rfl, hacts⟩ := HO.out.1 (by omega)
      have hb := hacts.lt (by omega)
      obtain ⟨v, ps, vd, vh, c, s, hpx, hwr⟩ := HP.out
      have k0 := (hwr.cells bb (off + j * 4) hb).trans (hacts.c0 j hlt)
      have k1 := (hwr.cells bb (off + (j * 4 + 1)) hb).trans (hacts.c1 j hlt)
      have k2 := (hwr.cells bb (off + (j * 4 + 2)) hb).trans (hacts.c2 j hlt)
      have k3 := (hwr.cells bb (off + (j * 4 + 3)) hb).trans (hacts.c3 j hlt)
      rw [← Nat.add_assoc] at k1 k2 k3
      have hbs := hacts.bs j hlt
      have HQ := Lib.hid (And.intro (hacts.m9 j hlt) (And.intro (hacts.n9 j hlt).2 (HO.out.2 j hlt)))
      obtain ⟨A9, c9, hz9, -⟩ := id hbs
      rw [hz9] at k3 hbs
      have i1 : (0 : Int) ≤ (j : Int) := by omega
      have i2 : (j : Int) < (n : Int) := by omega
      have HB := Lib.hid (And.intro hbs (show j + 1 ≤ n by omega))
      have hab6 : Ab wr (wr.alloc (.cells #[.int .i64 (K j), .int .i64 (M j), .int .i64 (N j), .slice A9 (L j).length c9] 72)) := (Ab.refl wr).alloc _
      have H6 := Lib.hid (show Py W W.heap.size (W.heap.size + 1) (wr.alloc (.cells #[.int .i64 (K j), .int .i64 (M j), .int .i64 (N j), .slice A9 (L j).length c9] 72)) from ⟨v, ps, vd, vh, c, s, hpx.ab hab6, hwr.trans hab6⟩)
      clear hpx hwr hbs hacts hz9 HP hab6
      go_wp2_with (go_at_call 26; (with_reducible refine (act_py W _ _ _ (K j) (M j) (N j) _ (L j) H6.out HB.out.1 HQ.out.2.2 HQ.out.1 HQ.out.2.1).mono ?_); rintro e w7 ⟨rfl, h7⟩; have H7 := Lib.hid h7; clear h7)
      go_roundw
      case rel => exact ⟨j + 1, HB.out.2, by go_num, H7⟩
      case measure => have := HB.out.2; simp [intOf]; omega
    · have i2 : ¬ (j : Int) < (n : Int) := by omega
      obtain ⟨v, ps, vd, vh, c, s, hpx, hwr⟩ := HP.out
      have HX := Lib.hid (show ExC wr W.heap.size W.heap.size c s from ⟨_, _, hpx.ex, hpx.cel⟩)
      have HPX := Lib.hid (And.intro hpx hwr)
      clear hpx hwr HP
      go_wp2_with (first
        | (go_at_call 27; (with_reducible refine (bytesX_any wr HX.out HPX.out.2.size).mono ?_); rintro e w3 ⟨A3, k3, rfl, ho3, ha3⟩; (have H3 := Lib.hid (And.intro ho3 (And.intro (HPX.out.1.ab ha3) (HPX.out.2.trans ha3)))); clear ho3 ha3)
        | (go_at_call 28; (with_reducible refine (excopy_any w3 H3.out.2.1.ex H3.out.2.2.size).mono ?_); rintro e w4 ⟨rfl, he4, ha4⟩; (have HX4 := Lib.hid (show ExC w4 W.heap.size w3.heap.size c s from ⟨_, _, he4, H3.out.2.1.cel⟩)); (have H4 := Lib.hid (And.intro he4 ha4)); clear he4 ha4)
        | (go_at_call 27; (with_reducible refine (bytesX_any w4 HX4.out (H3.out.2.2.trans H4.out.2).size).mono ?_); rintro e w5 ⟨A5, k5, rfl, ho5, ha5⟩; (have H5 := Lib.hid (And.intro ho5 ha5)); clear ho5 ha5)
        | (go_at_call 29; (with_reducible refine (same_two w5 H5.out.1.bs (H3.out.1.ab (H4.out.2.trans H5.out.2)).bs).mono ?_); rintro e wz ⟨rfl, rfl⟩)
        | (go_at_call 30; (with_reducible refine (exsize_any w5 (H4.out.1.ab H5.out.2)).mono ?_); rintro e wz ⟨rfl, rfl⟩)
        | (go_at_call 30; (with_reducible refine (exsize_any w5 (H3.out.2.1.ab (H4.out.2.trans H5.out.2)).ex).mono ?_); rintro e wz ⟨rfl, rfl⟩)
        | (go_at_call 31; (with_reducible refine (rcopy_any w5 (H3.out.2.1.ab (H4.out.2.trans H5.out.2)).rf).mono ?_); rintro e w6 ⟨b2, vd2, vh2, rfl, hr6, ha6⟩; (have H6 := Lib.hid (pz_new H3.out.2.1 (H3.out.1.lower HPX.out.2.size) H3.out.2.2 (H4.out.1.ab H5.out.2) (H4.out.2.trans H5.out.2) hr6 ha6)); clear hr6 ha6))
      go_loopw [13, 54] (fun _ i wx => ∃ j : Nat, j ≤ n1 ∧ i = .int .i64 (j : Int) ∧ Hid (Pz W w3.heap.size W.heap.size (W.heap.size + 1) v ps vd vh c s (.slice A3 s k3) (datR c s) w3.heap.size b2 wx)) (fun _ i _ => n1 - (intOf i).toNat)
      case atStart => exact ⟨0, Nat.zero_le _, rfl, H6⟩
      case round =>
        obtain ⟨j, hj, rfl, HP⟩ := hrel
        by_cases hlt : j < n1
        · obtain ⟨bb, off, rfl, hacts⟩ := HO1.out.1 (by omega)
          have hb := hacts.lt (by omega)
          have hwr := HP.out.ab
          have k0 := (hwr.cells bb (off + j * 4) hb).trans (hacts.c0 j hlt)
          have k1 := (hwr.cells bb (off + (j * 4 + 1)) hb).trans (hacts.c1 j hlt)
          have k2 := (hwr.cells bb (off + (j * 4 + 2)) hb).trans (hacts.c2 j hlt)
          have k3' := (hwr.cells bb (off + (j * 4 + 3)) hb).trans (hacts.c3 j hlt)
          rw [← Nat.add_assoc] at k1 k2 k3'
          have hbs := hacts.bs j hlt
          have HQ := Lib.hid (And.intro (hacts.m9 j hlt) (And.intro (hacts.n9 j hlt).2 (HO1.out.2 j hlt)))
          obtain ⟨A9, c9, hz9, -⟩ := id hbs
          rw [hz9] at k3' hbs
          have i1 : (0 : Int) ≤ (j : Int) := by omega
          have i2 : (j : Int) < (n1 : Int) := by omega
          have HB := Lib.hid (And.intro hbs (show j + 1 ≤ n1 by omega))
          have H8 := Lib.hid (HP.out.mv_ab ((Ab.refl wr).alloc (.cells #[.int .i64 (K1 j), .int .i64 (M1 j), .int .i64 (N1 j), .slice A9 (L1 j).length c9] 72)))
          clear hwr hbs hacts hz9 HP
          go_wp2_with (go_at_call 26; (with_reducible refine (act_pz W _ (K1 j) (M1 j) (N1 j) _ (L1 j) H8.out HB.out.1 HQ.out.2.2 HQ.out.1 HQ.out.2.1).mono ?_); rintro e w7 ⟨rfl, h7⟩; have H7 := Lib.hid h7; clear h7)
          go_roundw
          case rel => exact ⟨j + 1, HB.out.2, by go_num, H7⟩
          case measure => have := HB.out.2; simp [intOf]; omega
        · have i2 : ¬ (j : Int) < (n1 : Int) := by omega
          have HX9 := Lib.hid (show ExC wr W.heap.size W.heap.size c s from ⟨_, _, HP.out.px.ex, HP.out.px.cel⟩)
          go_wp2_with (first
            | (go_at_call 27; (with_reducible refine (bytesX_any wr HX9.out HP.out.ab.size).mono ?_); rintro e w7 ⟨A7, k7, rfl, ho7, ha7⟩; (have H7 := Lib.hid (And.intro ho7 (HP.out.mv_ab ha7))); clear ho7 ha7)
            | (go_at_call 29; (with_reducible refine (same_two w7 H7.out.1.bs H7.out.2.ob.bs).mono ?_); rintro e wz ⟨rfl, rfl⟩)
            | (go_at_call 32; (with_reducible refine (runs_pz1 W w7 H7.out.2).mono ?_); rintro e w8 ⟨rfl, h8⟩; have H8 := Lib.hid h8; clear h8)
            | (go_at_call 32; (with_reducible refine (runs_pz2 W w8 H8.out).mono ?_); rintro e w9 ⟨rfl, h9⟩; have H9 := Lib.hid h9; clear h9)
            | (go_at_call 33; (with_reducible refine (exlives_any w9).mono ?_); rintro e w10 ⟨rfl, ha10⟩; have H10 := Lib.hid ha10; clear ha10))
          go_ret
          exact ⟨rfl, H9.out.ab.trans H10.out⟩
end Go.Proofs.Ytniodjigncicbaa.Dg

/- The walk through ExtentActs. -/
import Derived.Test.YtlbkfnmhcgildaaErF
import Derived.Test.YtlbkfnmhcgildaaExAc
namespace Go.Proofs.Ytlbkfnmhcgildaa.Dg
open Go.RowKit Go.Shelf
variable {w w' W : World} {base a b s B : Nat} {v u vd vh : Value} {ps : List Pr} {l : List UInt8} {c : Cel}
attribute [local go_sem ↓] Go.wp_at_zero Go.wp_at_succ
def Py (W : World) (a b : Nat) (w : World) : Prop := ∃ v ps vd vh c s, Px w W.heap.size a b v ps vd vh c s ∧ Ab W w
theorem px_new (W : World) : Py W W.heap.size (W.heap.size + 1) ((W.alloc (.cells #[.bool true, .int .i64 0, .slice none 0 0] 122)).alloc (.cells #[.slice none 0 0, .slice none 0 0] 70)) :=
  ⟨.slice none 0 0, [], .slice none 0 0, .slice none 0 0, celP [], 0, ⟨(exnew_ex W).ab ((Ab.refl _).alloc _), rfl, ⟨Bk.new (by simp), Og.nil _ _ _ _, Og.nil _ _ _ _, by omega, fun p _ => rfl, by omega⟩, fun p hp => by cases hp⟩, ((Ab.refl W).alloc _).alloc _⟩
/-- The map is copied, the old one goes another way. -/
theorem px_copy {w1 w2 w3 : World} {b' : Nat} {vd' vh' : Value} (h : Px w base a b v ps vd vh c s) (h1 : Ex w1 base w.heap.size v ps s) (ha1 : Ab w w1) (hm : Mv (fun k => k = a) w1 w2) (hr : Rf w3 w2.heap.size b' vd' vh' c s) (ha3 : Ab w2 w3) (hb : base ≤ w.heap.size) :
    Px w3 base w.heap.size b' v ps vd' vh' c s := by
  have hal := (h.lt (k := a) (.inl rfl)).2
  have hle := Nat.le_trans ha1.size hm.size
  refine ⟨(h1.mv2 hm (fun e => by omega) (fun k hk e => ?_) (fun p hp k hk e => ?_)).ab ha3, h.cel, hr.lower (Nat.le_trans hb hle), fun p hp k hk e => ?_⟩
  · subst e
    obtain ⟨cs, hcs⟩ := h.ex.row.row.block hk
    exact absurd (bk_type hcs h.ex.blk) (by decide)
  · subst e
    exact absurd ((h.ex.row.own p hp).type hk h.ex.blk) (by decide)
  · have h8 := (h.lt (k := k) (.inr (.inr (.inl ⟨p, hp, hk⟩)))).2
    have h9 := (hr.ge e).1
    omega
theorem zz_any (W w : World) (a : Nat) (h : ExC w W.heap.size a c s) (hb : W.heap.size ≤ w.heap.size) :
    Calls Try.prog 31 #[.pointer (some ⟨a, 0, none⟩), .int .i64 0, .slice (some ⟨w.heap.size, 0, none⟩) 2 2] (w.alloc (.cells #[.int .u8 122, .int .u8 122] 5 (2, 3))) fun e w' => e = .returned (.int .i64 0) ∧ Mv (fun k => k = a) (w.alloc (.cells #[.int .u8 122, .int .u8 122] 5 (2, 3))) w' :=
  (write_ok _ (h.ab ((Ab.refl w).alloc _)) 0 (xbs_row (l := [122, 122]) (heap_alloc_new w _) (by simp)) (by simp) (Nat.le_trans hb ((Ab.refl w).alloc (.cells #[.int .u8 122, .int .u8 122] 5 (2, 3))).size) (by simp) (by simp)).mono fun _ _ hp => ⟨hp.1, hp.2.2⟩
set_option maxRecDepth 100000 in
set_option maxHeartbeats 100000000 in
theorem acts_walk5 (W : World) (A0 : Option Addr) (n cap : Nat) (K M N : Nat → Int) (Z : Nat → Value) (L : Nat → List UInt8) (hn : n ≤ cap) (hc : cap ≤ 9223372036854775807) (ho : n ≠ 0 → ∃ bb off, A0 = some ⟨bb, off, none⟩ ∧ Acts5 W bb off n K M N Z L) (hL : ∀ i, i < n → (L i).length ≤ 200000000000000) :
    Calls Try.prog 5 #[.slice A0 n cap] W fun e w' => e = .returned (.bool true) ∧ Ab W w' := by
  have HO := Lib.hid (And.intro ho hL)
  clear ho hL
  go_enter Try.func5, Try.ntmps5
  go_wp2_with (go_at_call 29; (with_reducible refine (exnew_any W).mono ?_); rintro e w1 ⟨rfl, rfl⟩)
  have h0 := px_new W
  generalize (W.alloc (.cells #[.bool true, .int .i64 0, .slice none 0 0] 122)).alloc (.cells #[.slice none 0 0, .slice none 0 0] 70) = w2 at *
  have H0 := Lib.hid h0
  clear h0
  go_loopw [3, 4, 7, 15] (fun s3 s4 _ i wr => ∃ j a b : Nat, j ≤ n ∧ i = .int .i64 (j : Int) ∧ s3 = .pointer (some ⟨a, 0, none⟩) ∧ s4 = .pointer (some ⟨b, 0, none⟩) ∧ Hid (Py W a b wr)) (fun _ _ _ i _ => n - (intOf i).toNat)
  case atStart => exact ⟨0, _, _, Nat.zero_le _, rfl, rfl, rfl, H0⟩
  case round =>
    obtain ⟨j, a, b, hj, rfl, rfl, rfl, HP⟩ := hrel
    by_cases hlt : j < n
    · obtain ⟨bb, off, rfl, hacts⟩ := HO.out.1 (by omega)
      have hb := hacts.lt (by omega)
      obtain ⟨v, ps, vd, vh, c, s, hpx, hwr⟩ := HP.out
      have k0 := (hwr.cells bb (off + j * 4) hb).trans (hacts.c0 j hlt)
      have k1 := (hwr.cells bb (off + (j * 4 + 1)) hb).trans (hacts.c1 j hlt)
      have k2 := (hwr.cells bb (off + (j * 4 + 2)) hb).trans (hacts.c2 j hlt)
      have k3 := (hwr.cells bb (off + (j * 4 + 3)) hb).trans (hacts.c3 j hlt)
      rw [← Nat.add_assoc] at k1 k2 k3
      have hbs := hacts.bs j hlt
      have HQ := Lib.hid (And.intro (hacts.m9 j hlt) (And.intro (hacts.n9 j hlt).2 (HO.out.2 j hlt)))
      obtain ⟨A9, c9, hz9, -⟩ := id hbs
      obtain ⟨k, hk⟩ : ∃ k, K j = k := ⟨_, rfl⟩
      rw [hk] at k0
      rw [hz9] at k3 hbs
      have i1 : (0 : Int) ≤ (j : Int) := by omega
      have i2 : (j : Int) < (n : Int) := by omega
      have HPX := Lib.hid (And.intro hpx (And.intro hwr (And.intro hbs (show j + 1 ≤ n by omega))))
      clear hpx hwr hbs hacts hk hz9
      by_cases hk4 : k = 4
      · subst hk4
        have hab6 : Ab wr (wr.alloc (.cells #[.int .i64 4, .int .i64 (M j), .int .i64 (N j), .slice A9 (L j).length c9] 72)) := (Ab.refl wr).alloc _
        have hbk6 := Bk.made wr 72 #[.int .i64 4, .int .i64 (M j), .int .i64 (N j), .slice A9 (L j).length c9]
        have x0 : (wr.alloc (.cells #[.int .i64 4, .int .i64 (M j), .int .i64 (N j), .slice A9 (L j).length c9] 72)).cell? ⟨wr.heap.size, 0, none⟩ = some (.int .i64 4) := hbk6.cell rfl
        have hpx6 := HPX.out.1.ab hab6
        have hw6 := HPX.out.2.1.trans hab6
        have hbs6 := HPX.out.2.2.1.ab hw6 (Nat.le_refl _)
        obtain ⟨w6, hw6e⟩ : ∃ w6, wr.alloc (.cells #[.int .i64 4, .int .i64 (M j), .int .i64 (N j), .slice A9 (L j).length c9] 72) = w6 := ⟨_, rfl⟩
        rw [hw6e] at hab6 hbk6 x0 hpx6 hw6 hbs6
        have H6 := Lib.hid (And.intro hpx6 (And.intro hw6 (And.intro hbs6 hbk6)))
        have HXO := Lib.hid (show ExC w6 W.heap.size a (celP ps) s from ⟨_, _, hpx6.ex, rfl⟩)
        have HNA := Lib.hid (HPX.out.1.act_out)
        clear hab6 hbk6 hpx6 hw6 hbs6
        go_wp2_with (go_at_call 30; (with_reducible refine (excopy_any w6 H6.out.1.ex H6.out.2.1.size).mono ?_); rintro e w7 ⟨rfl, he7, ha7⟩; (have H7 := Lib.hid (And.intro he7 ha7)); clear he7 ha7; have hv7 := Go.Joins.run_convert_bytes_const_at (P := Try.prog) w7 30 5 #[.int .u8 122, .int .u8 122] 2 2 w7.heap.size rfl Try.underlying30 Try.underlying5)
        go_wp2_with (first
          | (go_at_call 31; (with_reducible refine (zz_any W w7 a (HXO.out.ab H7.out.2) (Nat.le_trans H6.out.2.1.size H7.out.2.size)).mono ?_); rintro e w8 ⟨rfl, hm8⟩; (have HR8 := Lib.hid (((H6.out.1.ab H7.out.2).ab ((Ab.refl w7).alloc (.cells #[.int .u8 122, .int .u8 122] 5 (2, 3)))).rf.mv hm8 (fun k hk e => H6.out.1.a_out ((show k = a from e) ▸ hk)))); (have H8 := Lib.hid hm8); clear hm8)
          | (go_at_call 32; (with_reducible refine (rcopy_any w8 HR8.out).mono ?_); rintro e w9 ⟨b2, vd2, vh2, rfl, hr9, ha9⟩; (have H9 := Lib.hid (And.intro hr9 ha9)); clear hr9 ha9))
        have h70 : Ab w6 (w7.alloc (.cells #[.int .u8 122, .int .u8 122] 5 (2, 3))) := H7.out.2.alloc _
        have hpx9 := px_copy H6.out.1 (H7.out.1.ab ((Ab.refl w7).alloc (.cells #[.int .u8 122, .int .u8 122] 5 (2, 3)))) h70 H8.out H9.out.1 H9.out.2 H6.out.2.1.size
        have hw9 : Ab W w9 := (H8.out.ab (H6.out.2.1.trans h70) (fun k hk => by rw [hk]; exact (H6.out.1.lt (.inl rfl)).1)).trans H9.out.2
        have hbk9 := H9.out.2.bk (H8.out.bk (h70.bk H6.out.2.2.2) (fun e => HNA.out.1 e))
        have y0' : w9.cell? ⟨wr.heap.size, 0, none⟩ = some (.int .i64 4) := hbk9.cell rfl
        have y1' : w9.cell? ⟨wr.heap.size, 1, none⟩ = some (.int .i64 (M j)) := hbk9.cell rfl
        have y2' : w9.cell? ⟨wr.heap.size, 2, none⟩ = some (.int .i64 (N j)) := hbk9.cell rfl
        have y3' : w9.cell? ⟨wr.heap.size, 3, none⟩ = some (.slice A9 (L j).length c9) := hbk9.cell rfl
        have HP9 := Lib.hid (And.intro (hpx9.ab (Ab.refl w9).drew) (And.intro (hw9.trans (Ab.refl w9).drew) (And.intro (HPX.out.2.2.1.ab (hw9.trans (Ab.refl w9).drew) (Nat.le_refl _)) trivial)))
        clear h70 hpx9 hw9 hbk9 hv7 hw6e k0 k1 k2 k3 x0
        go_region_with (first
          | (go_at_call 33; (with_reducible refine (xact_any 4 HP9.out.1 HP9.out.2.2.1 (Nat.le_refl _) HQ.out.2.2 HP9.out.2.1.size HQ.out.1 HQ.out.2.1).mono ?_); rintro e w7 ⟨rfl, v7, ps7, vd7, vh7, c7, s7, h7, t7⟩; (obtain ⟨A7, cp7, rfl, -, -⟩ := h7.rf.dat.len_cap); (have y0 : w7.cell? ⟨b2, 0, none⟩ = some (.slice A7 s7 cp7) := h7.rf.blk.cell rfl); (have H7 := Lib.hid (And.intro h7 (PxT.ab HP9.out.1 t7 HP9.out.2.1 (Nat.le_refl _)))); (have HX7 := Lib.hid (show ExC w7 W.heap.size w6.heap.size c7 s7 from ⟨_, _, h7.ex, h7.cel⟩)); clear h7 t7)
          | (go_at_call 34; (with_reducible refine (exsize_any w7 H7.out.1.ex).mono ?_); rintro e wz ⟨rfl, rfl⟩)
          | (go_at_call 36; (with_reducible refine (bytesX_any w7 HX7.out H7.out.2.size).mono ?_); rintro e w8 ⟨A8, k8, rfl, ho8, ha8⟩; (have z0 : w8.cell? ⟨b2, 0, none⟩ = some (.slice A7 s7 cp7) := (H7.out.1.rf.ab ha8).blk.cell rfl); (have H8 := Lib.hid (And.intro ho8 (And.intro (H7.out.1.ab ha8) (H7.out.2.trans ha8)))); clear ho8 ha8)
          | (go_at_call 35; (with_reducible refine (same_two w8 H8.out.1.bs H8.out.2.1.rf.dat.bs8.1).mono ?_); rintro e wz ⟨rfl, rfl⟩))
        all_goals
          go_wp2_with fail
          go_roundw
          case rel => exact ⟨j + 1, _, _, HPX.out.2.2.2, by go_num, rfl, rfl, Lib.hid ⟨_, _, _, _, _, _, H8.out.2.1, H8.out.2.2⟩⟩
          case measure => have := HPX.out.2.2.2; simp [intOf]; omega

      · have hab6 : Ab wr ((wr.alloc (.cells #[.int .i64 k, .int .i64 (M j), .int .i64 (N j), .slice A9 (L j).length c9] 72)).drew) := ((Ab.refl wr).alloc _).drew
        have x6 : ∀ (i : Nat) (y : Value), (#[.int .i64 k, .int .i64 (M j), .int .i64 (N j), .slice A9 (L j).length c9] : Array Value)[i]? = some y → (wr.alloc (.cells #[.int .i64 k, .int .i64 (M j), .int .i64 (N j), .slice A9 (L j).length c9] 72)).cell? ⟨wr.heap.size, i, none⟩ = some y := fun i y hy => (Bk.made wr _ _).cell hy
        have x0 := x6 0 _ rfl
        have x1 := x6 1 _ rfl
        have x2 := x6 2 _ rfl
        have x3 := x6 3 _ rfl
        have HP6 := Lib.hid (And.intro (HPX.out.1.ab hab6) (And.intro (HPX.out.2.1.trans hab6) (And.intro (HPX.out.2.2.1.ab (HPX.out.2.1.trans hab6) (Nat.le_refl _)) trivial)))
        clear hab6 x6
        go_wp2_with fail
        go_region_with (first
          | (go_at_call 33; (with_reducible refine (xact_any k HP6.out.1 HP6.out.2.2.1 (Nat.le_refl _) HQ.out.2.2 HP6.out.2.1.size HQ.out.1 HQ.out.2.1).mono ?_); rintro e w7 ⟨rfl, v7, ps7, vd7, vh7, c7, s7, h7, t7⟩; (obtain ⟨A7, cp7, rfl, -, -⟩ := h7.rf.dat.len_cap); (have y0 : w7.cell? ⟨b, 0, none⟩ = some (.slice A7 s7 cp7) := h7.rf.blk.cell rfl); (have H7 := Lib.hid (And.intro h7 (PxT.ab HP6.out.1 t7 HP6.out.2.1 (Nat.le_refl _)))); (have HX7 := Lib.hid (show ExC w7 W.heap.size a c7 s7 from ⟨_, _, h7.ex, h7.cel⟩)); clear h7 t7)
          | (go_at_call 34; (with_reducible refine (exsize_any w7 H7.out.1.ex).mono ?_); rintro e wz ⟨rfl, rfl⟩)
          | (go_at_call 36; (with_reducible refine (bytesX_any w7 HX7.out H7.out.2.size).mono ?_); rintro e w8 ⟨A8, k8, rfl, ho8, ha8⟩; (have z0 : w8.cell? ⟨b, 0, none⟩ = some (.slice A7 s7 cp7) := (H7.out.1.rf.ab ha8).blk.cell rfl); (have H8 := Lib.hid (And.intro ho8 (And.intro (H7.out.1.ab ha8) (H7.out.2.trans ha8)))); clear ho8 ha8)
          | (go_at_call 35; (with_reducible refine (same_two w8 H8.out.1.bs H8.out.2.1.rf.dat.bs8.1).mono ?_); rintro e wz ⟨rfl, rfl⟩))
        all_goals
          go_wp2_with fail
          go_roundw
          case rel => exact ⟨j + 1, _, _, HPX.out.2.2.2, by go_num, rfl, rfl, Lib.hid ⟨_, _, _, _, _, _, H8.out.2.1, H8.out.2.2⟩⟩
          case measure => have := HPX.out.2.2.2; simp [intOf]; omega
    · have i2 : ¬ (j : Int) < (n : Int) := by omega
      obtain ⟨v, ps, vd, vh, c, s, hpx, hwr⟩ := HP.out
      have HPX := Lib.hid (And.intro hpx hwr)
      clear hpx hwr
      go_wp2_with (first
        | (go_at_call 37; (with_reducible refine (xruns_any wr HPX.out.1).mono ?_); rintro e w5 ⟨rfl, ha5⟩; have H5 := Lib.hid ha5; clear ha5)
        | (go_at_call 38; (with_reducible refine (exlives_any w5).mono ?_); rintro e w6 ⟨rfl, ha6⟩; have H6 := Lib.hid ha6; clear ha6))
      go_ret
      exact ⟨rfl, HPX.out.2.trans (H5.out.trans H6.out)⟩
end Go.Proofs.Ytlbkfnmhcgildaa.Dg

/- The reference's object: grow. -/
import Derived.Test.YtniodjigncicbaaExRa
namespace Go.Proofs.Ytniodjigncicbaa.Dg
open Go.RowKit
variable {w w' : World} {base b s : Nat} {v u vd vh : Value} {c : Cel} {l : List UInt8}
attribute [local go_sem ↓] Go.wp_at_zero Go.wp_at_succ
def lenAt (w : World) (b : Nat) : Nat := match w.cell? ⟨b, 0, none⟩ with
  | some (.slice _ k _) => k
  | _ => 0
theorem lenAt_rf (h : Rf w base b vd vh c s) : lenAt w b = s := by
  obtain ⟨A, cp, rfl, -, -⟩ := h.dat.len_cap
  unfold lenAt
  rw [show w.cell? ⟨b, 0, none⟩ = some (.slice A s cp) from h.blk.cell rfl]
/-- The bytes' row has grown. -/
theorem grown_dat {w1 w2 : World} {A : Option Addr} {cp n : Nat} {xs : List Value} (h : Rf w base b vd vh c s) (hab : Ab w w1) (ho : Og 5 1 w2 base (.slice A n cp) n xs) (hg : w1.grownBy w2 vd.ownBlock) {n0 : Nat} (hn : Value.ownBlock (.slice A n cp) = vd.ownBlock ∨ Value.ownBlock (.slice A n cp) = some n0) (hn0 : n0 = w1.heap.size) :
    Bk (w2.setCell ⟨b, 0, none⟩ (.slice A n cp)) b 70 #[.slice A n cp, vh] ∧ Og 5 1 (w2.setCell ⟨b, 0, none⟩ (.slice A n cp)) base (.slice A n cp) n xs ∧ Og 4 1 (w2.setCell ⟨b, 0, none⟩ (.slice A n cp)) base vh s (bV (hasR c s)) ∧
      RfT b vd vh (.slice A n cp) vh w (w2.setCell ⟨b, 0, none⟩ (.slice A n cp)) ∧ w2.cell? ⟨b, 0, none⟩ = some vd ∧ w2.frozen? ⟨b, 0, none⟩ = false := by
  subst hn0
  have hb1 := hab.bk h.blk
  have hne : vd.ownBlock ≠ some b := fun e => absurd (h.dat.type e h.blk) (by decide)
  have hb2 : Bk w2 b 70 #[vd, vh] := hb1.grown hg hne
  have hset : Mv (fun k => k = b) w2 (w2.setCell ⟨b, 0, none⟩ (.slice A n cp)) := Mv.set (S := fun k => k = b) (Mv.refl _ _) (p := ⟨b, 0, none⟩) rfl _
  have hm1 : Mv (fun k => vd.ownBlock = some k) w1 w2 := Mv.grown (Mv.refl _ w1) hg (fun k hk => .inl hk)
  have hh2 : Og 4 1 w2 base vh s (bV (hasR c s)) := (h.has.ab hab).mv hm1 (fun k hk e => by
    obtain ⟨cs, hcs⟩ := (h.has.ab hab).block hk
    exact absurd ((h.dat.ab hab).type e hcs) (by decide))
  refine ⟨hb2.store 0 _, ho.mvb hset hb2 (fun _ e => e) (by decide), hh2.mvb hset hb2 (fun _ e => e) (by decide), ⟨?_, fun k hk => ?_⟩, hb2.cell rfl, hb2.free 0⟩
  · exact ((Mv.of_ab hab).trans (hm1.mono fun k _ e => .inr (.inl e))).trans (hset.mono fun k _ e => .inl e)
  · rcases hk with hk | hk | hk
    · exact .inl (.inl hk)
    · rcases hn with hn | hn
      · exact .inl (.inr (.inl (hn ▸ hk)))
      · rw [hn] at hk
        injection hk with hk
        exact .inr (by have := hab.size; omega)
    · exact .inl (.inr (.inr hk))
/-- The marks' row has grown, too. -/
theorem grown_has {w1 w2 : World} {A : Option Addr} {cp n m : Nat} {xs ys : List Value} (hb : Bk w b 70 #[vd, vh]) (hd : Og 5 1 w base vd m ys) (hh : Og 4 1 w base vh s (bV (hasR c s))) (hab : Ab w w1) (ho : Og 4 1 w2 base (.slice A n cp) n xs) (hg : w1.grownBy w2 vh.ownBlock) {n0 : Nat} (hn : Value.ownBlock (.slice A n cp) = vh.ownBlock ∨ Value.ownBlock (.slice A n cp) = some n0) (hn0 : n0 = w1.heap.size) :
    Bk (w2.setCell ⟨b, 1, none⟩ (.slice A n cp)) b 70 #[vd, .slice A n cp] ∧ Og 4 1 (w2.setCell ⟨b, 1, none⟩ (.slice A n cp)) base (.slice A n cp) n xs ∧ Og 5 1 (w2.setCell ⟨b, 1, none⟩ (.slice A n cp)) base vd m ys ∧
      RfT b vd vh vd (.slice A n cp) w (w2.setCell ⟨b, 1, none⟩ (.slice A n cp)) ∧ w2.cell? ⟨b, 1, none⟩ = some vh ∧ w2.frozen? ⟨b, 1, none⟩ = false := by
  subst hn0
  have hb1 := hab.bk hb
  have hne : vh.ownBlock ≠ some b := fun e => absurd (hh.type e hb) (by decide)
  have hb2 : Bk w2 b 70 #[vd, vh] := hb1.grown hg hne
  have hset : Mv (fun k => k = b) w2 (w2.setCell ⟨b, 1, none⟩ (.slice A n cp)) := Mv.set (S := fun k => k = b) (Mv.refl _ _) (p := ⟨b, 1, none⟩) rfl _
  have hm1 : Mv (fun k => vh.ownBlock = some k) w1 w2 := Mv.grown (Mv.refl _ w1) hg (fun k hk => .inl hk)
  have hd2 : Og 5 1 w2 base vd m ys := (hd.ab hab).mv hm1 (fun k hk e => by
    obtain ⟨cs, hcs⟩ := (hd.ab hab).block hk
    exact absurd ((hh.ab hab).type e hcs) (by decide))
  refine ⟨hb2.store 1 _, ho.mvb hset hb2 (fun _ e => e) (by decide), hd2.mvb hset hb2 (fun _ e => e) (by decide), ⟨?_, fun k hk => ?_⟩, hb2.cell rfl, hb2.free 1⟩
  · exact ((Mv.of_ab hab).trans (hm1.mono fun k _ e => .inr (.inr e))).trans (hset.mono fun k _ e => .inl e)
  · rcases hk with hk | hk | hk
    · exact .inl (.inl hk)
    · exact .inl (.inr (.inl hk))
    · rcases hn with hn | hn
      · exact .inl (.inr (.inr (hn ▸ hk)))
      · rw [hn] at hk
        injection hk with hk
        exact .inr (by have := hab.size; omega)
set_option maxRecDepth 100000 in
set_option maxHeartbeats 2000000 in
theorem grow_any (w : World) (h : Rf w base b vd vh c s) (n : Nat) (hn : n ≤ 4096) (hbase : base ≤ w.heap.size) :
    Calls Try.prog 114 #[.pointer (some ⟨b, 0, none⟩), .int .i64 (n : Int)] w fun e w' => e = .returned (.tuple #[]) ∧ ∃ vd' vh', Rf w' base b vd' vh' c (max s n) ∧ RfT b vd vh vd' vh' w w' := by
  have HR := Lib.hid (And.intro h hbase)
  clear h hbase
  go_enter Try.func114, Try.ntmps114
  go_wp2_with fail
  go_loopw [4] (fun _ wr => ∃ k vd' vh', s ≤ k ∧ k ≤ max s n ∧ Hid (Rf wr base b vd' vh' c k ∧ RfT b vd vh vd' vh' w wr)) (fun _ wr => n - lenAt wr b)
  case atStart => exact ⟨s, vd, vh, Nat.le_refl _, by omega, Lib.hid ⟨HR.out.1, RfT.refl _ _ _ _⟩⟩
  case round =>
    obtain ⟨k, v1, v2, hsk, hkn, HI⟩ := hrel
    obtain ⟨A1, c1, rfl, -, -⟩ := HI.out.1.dat.len_cap
    obtain ⟨A2, c2, rfl, -, -⟩ := HI.out.1.has.len_cap
    have k0 : wr.cell? ⟨b, 0, none⟩ = some (.slice A1 k c1) := HI.out.1.blk.cell rfl
    by_cases hlt : k < n
    · have hlt' : (k : Int) < (n : Int) := by omega
      have hck : c k = none := HI.out.1.up k (Nat.le_refl _)
      have HB := Lib.hid (show base ≤ wr.heap.size from Nat.le_trans HR.out.2 HI.out.2.1.size)
      have ha4 : Ab wr (wr.alloc (.cells #[.int .u8 0] 5)) := (Ab.refl wr).alloc _
      have k1 := (ha4.bk HI.out.1.blk).cell (i := 0) rfl
      have HA4 := Lib.hid ha4
      have HCK := Lib.hid (And.intro hck hlt)
      clear ha4 hck hlt
      go_wp2_with (at_builtin; refine wpList_ogn rfl _ _ rfl _ _ rfl rfl Try.underlying30 info8 rfl base k ((datR c k).map u8v) 1 [.int .u8 0] (HI.out.1.dat.ab HA4.out) (src_elem Try.underlying30 wr (.int .u8 0) rfl) ⟨by omega, by omega⟩ (Nat.le_trans HB.out HA4.out.size) ?_)
      intro A3 c3 w3 ho3 hg3 hn3
      obtain ⟨hb4, hd4, hh4, ht4, q0, qf⟩ := grown_dat HI.out.1 HA4.out ho3 hg3 hn3 (World.size_alloc _ _).symm
      obtain ⟨w4, hw4⟩ : ∃ w4, w3.setCell ⟨b, 0, none⟩ (.slice A3 (k + 1) c3) = w4 := ⟨_, rfl⟩
      rw [hw4] at hb4 hd4 hh4 ht4
      have j1 := hb4.cell (i := 1) rfl
      have H4 := Lib.hid (And.intro hb4 (And.intro hd4 (And.intro hh4 (And.intro ht4 ht4.1.size))))
      have ha5 : Ab w4 (w4.alloc (.cells #[.bool false] 4)) := (Ab.refl _).alloc _
      have j2 := (ha5.bk hb4).cell (i := 1) rfl
      have HA5 := Lib.hid ha5
      clear hb4 hd4 hh4 ht4 ho3 hg3 hn3 ha5
      go_wp2_with (at_builtin; refine wpList_ogn rfl _ _ rfl _ _ rfl rfl Try.underlying68 infoBool rfl base k (bV (hasR c k)) 1 [.bool false] (H4.out.2.2.1.ab HA5.out) (src_elem Try.underlying68 _ (.bool false) rfl) ⟨by omega, by omega⟩ (Nat.le_trans HB.out (Nat.le_trans H4.out.2.2.2.2 HA5.out.size)) ?_)
      intro A5 c5 w5 ho5 hg5 hn5
      obtain ⟨hb6, hh6, hd6, ht6, r0, rf⟩ := grown_has H4.out.1 H4.out.2.1 H4.out.2.2.1 HA5.out ho5 hg5 hn5 (World.size_alloc _ _).symm
      have hrf : Rf (w5.setCell ⟨b, 1, none⟩ (.slice A5 (k + 1) c5)) base b (.slice A3 (k + 1) c3) (.slice A5 (k + 1) c5) c (k + 1) :=
        ⟨hb6, by rw [datR_succ _ _ HCK.out.1, List.map_append]; exact hd6, by rw [hasR_succ _ _ HCK.out.1]; unfold bV; rw [List.map_append]; exact hh6, HI.out.1.le, HI.out.1.up.mono (Nat.le_succ k), by have := HCK.out.2; omega⟩
      have H6 := Lib.hid (And.intro hrf (HI.out.2.trans (H4.out.2.2.2.1.trans ht6)))
      clear hb6 hh6 hd6 ht6 hrf ho5 hg5 hn5
      go_wp2_with fail
      go_roundw
      case rel => exact ⟨k + 1, _, _, by omega, by have := HCK.out.2; omega, H6⟩
      case measure => rw [lenAt_rf H6.out.1, lenAt_rf HI.out.1]; have := HCK.out.2; omega
    · have hlt' : ¬ (k : Int) < (n : Int) := by omega
      have hkm : k = max s n := by omega
      have HK := Lib.hid hkm
      clear hkm hlt
      go_wp2_with fail
      go_end0
      exact ⟨rfl, _, _, HK.out ▸ HI.out.1, HI.out.2⟩
end Go.Proofs.Ytniodjigncicbaa.Dg

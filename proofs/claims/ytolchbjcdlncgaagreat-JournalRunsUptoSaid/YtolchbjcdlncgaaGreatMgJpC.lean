/- Texts joined: JpC. -/
import Derived.Test.YtolchbjcdlncgaaGreatMgDkCc
import Derived.Test.YtolchbjcdlncgaaGreatMgJpB
/- The pair: open, ready. -/
namespace Go.Proofs.YtolchbjcdlncgaaGreat.Dg
open Go.RowKit
variable {W w w' : World} {gp g gj gk g2 torn torn' B C : Nat} {v v2 row u y pj pk : Value} {rs : List (List UInt8)} {d r : Dst} {l m : List UInt8}
attribute [local go_sem ↓] Go.wp_at_zero Go.wp_at_succ
/-- The disks in their pair; of the journals nothing is known. -/
structure Pd (W w : World) (gp g g2 : Nat) (v v2 : Value) (d r : Dst) (pj pk : Value) : Prop where
  dk : Dk w W.heap.size g v d
  rk : Rk w W.heap.size g2 v2 r
  al : Al d r
  apart : ∀ k, Own g v k → ¬ Own g2 v2 k
  blk : Bk w gp 47 #[.pointer (some ⟨g, 0, none⟩), pj, .pointer (some ⟨g2, 0, none⟩), pk]
  le : W.heap.size ≤ gp
  ab : Ab W w
theorem Al.opened (h : Al d r) : Al (opened d) (opened r) ∧ tornD r = tornD d := by
  obtain ⟨L, rfl, hL⟩ := h
  exact ⟨⟨L, rfl, hL⟩, rfl⟩
theorem Pd.gp_apart (h : Pd W w gp g g2 v v2 d r pj pk) : ¬ Own g v gp ∧ ¬ Own g2 v2 gp := by
  refine ⟨fun e => ?_, fun e => ?_⟩
  · rcases e with e | e
    · exact absurd (Bk.inj h.blk (e ▸ h.dk.1)) (by decide)
    · rcases h.dk.2.1 with ⟨rfl, _⟩ | ⟨g', cap, pre, post, rfl, _, hg, _⟩
      · simp [Value.ownBlock] at e
      · have : g' = gp := by simpa [Value.ownBlock] using e
        subst this
        exact absurd (Bk.inj h.blk hg) (by decide)
  · rcases e with e | e
    · exact absurd (Bk.inj h.blk (e ▸ h.rk.1)) (by decide)
    · exact absurd (h.rk.2.1.type e h.blk) (by decide)
theorem jall_pair {base : Nat} {cs : Array Value} (h : Jt w base gj g row torn v d rs) (hb : Bk w gp 47 cs) : ¬ JAll gj g row v gp := fun e => by
  rcases e with (e | e) | e | e
  · exact absurd (Bk.inj hb (e ▸ h.dk.1)) (by decide)
  · rcases h.dk.2.1 with ⟨rfl, _⟩ | ⟨g', cap, pre, post, rfl, _, hg, _⟩
    · simp [Value.ownBlock] at e
    · have : g' = gp := by simpa [Value.ownBlock] using e
      subst this
      exact absurd (Bk.inj hb hg) (by decide)
  · exact absurd (Bk.inj hb (e ▸ h.jb.blk)) (by decide)
  · exact absurd (h.jb.row.type e hb) (by decide)
theorem rall_pair {base : Nat} {cs : Array Value} (h : Rt w base gk g2 v2 r torn rs) (hb : Bk w gp 47 cs) : ¬ RAll gk g2 v2 gp := fun e => by
  rcases e with (e | e) | e
  · exact absurd (Bk.inj hb (e ▸ h.rj.rk.1)) (by decide)
  · exact absurd (h.rj.rk.2.1.type e hb) (by decide)
  · exact absurd (Bk.inj hb (e ▸ h.rj.blk)) (by decide)
theorem Own.lt_dk (h : Dk w B g v d) {k : Nat} (hk : Own g v k) : k < w.heap.size := by
  rcases hk with rfl | hk
  · exact h.1.lt
  · exact (h.2.1.blk k hk).2
theorem Own.lt_rk (h : Rk w B g v d) {k : Nat} (hk : Own g v k) : k < w.heap.size := by
  rcases hk with rfl | hk
  · exact h.1.lt
  · exact (h.2.1.blk k hk).2
theorem opened_none (h : d.lim = none) : (opened d).lim = none := h
/-- What open does. -/
def OpPost (W : World) (gp g g2 : Nat) (d r : Dst) (e : Ending) (w' : World) : Prop :=
  e = .returned (.bool true) ∧ ∃ gj gk row v v2, Pw W w' gp g gj gk g2 row v v2 (opened d) (opened r) (tornD d) (tornD r) (recsOf d.bytes)
set_option maxRecDepth 100000 in
set_option maxHeartbeats 2000000 in
theorem open_any (h : Pd W w gp g g2 v v2 d r pj pk) (hc : d.lim = none) (hc2 : r.lim = none) :
    Calls Tryz.prog 17 #[.pointer (some ⟨gp, 0, none⟩)] w (OpPost W gp g g2 d r) := by
  have HP := Lib.hid h
  have HC := Lib.hid (And.intro hc hc2)
  have c0 : w.cell? ⟨gp, 0, none⟩ = some (.pointer (some ⟨g, 0, none⟩)) := h.blk.cell rfl
  clear h hc hc2
  go_enter Tryz.func17, Tryz.ntmps17
  go_wp2_with fail
  refine (Open_any w HP.out.dk HC.out.1 HP.out.ab.size).mono ?_
  rintro e w2 ⟨gj, row, v', rfl, hj2, ht2, hn2⟩
  have hbk2 : Bk w2 gp _ _ := ht2.1.bk HP.out.blk HP.out.gp_apart.1
  have hrk2 := HP.out.rk.mv ht2.1 (fun k hk e => HP.out.apart k e hk)
  have c2 : w2.cell? ⟨gp, 2, none⟩ = some (.pointer (some ⟨g2, 0, none⟩)) := hbk2.cell rfl
  have hap2 : ∀ k, JAll gj g row v' k → ¬ Own g2 v2 k := fun k hk e => by
    have hlt := Own.lt_rk HP.out.rk e
    rcases hk with (hk | hk) | hk
    · exact HP.out.apart k (.inl hk) e
    · rcases ht2.2 k hk with h2 | h2
      · exact HP.out.apart k (.inr h2) e
      · omega
    · have := hn2 k hk; omega
  have H2 := Lib.hid (And.intro hj2 (And.intro ht2 (And.intro hbk2 (And.intro hrk2 hap2))))
  clear hj2 ht2 hn2 hbk2 hrk2 hap2 c0
  go_wp2_with (go_at_call 12; (with_reducible refine (jnum_any 0 w2).mono ?_); rintro e wz ⟨rfl, rfl⟩)
  refine (ROpen_any w2 H2.out.2.2.2.1 HC.out.2 (Nat.le_trans HP.out.ab.size H2.out.2.1.1.size)).mono ?_
  rintro e w3 ⟨gk, v3, rfl, hr3, ht3, hn3⟩
  have hbk3 : Bk w3 gp _ _ := ht3.1.bk H2.out.2.2.1 HP.out.gp_apart.2
  have hj3 := H2.out.1.mv ht3.1 (fun k hk e => H2.out.2.2.2.2 k hk e)
  have hap3 : ∀ k, JAll gj g row v' k → ¬ RAll gk g2 v3 k := fun k hk e => by
    have hlt := (H2.out.1.all_ge hk).2
    rcases e with (e | e) | e
    · exact H2.out.2.2.2.2 k hk (.inl e)
    · rcases ht3.2 k e with h2 | h2
      · exact H2.out.2.2.2.2 k hk (.inr h2)
      · omega
    · omega
  have hal := HP.out.al.opened
  have hrt : Rt w3 W.heap.size gk g2 v3 (opened r) (tornD r) (recsOf d.bytes) := ⟨hr3, by rw [hal.1.same.2.2.1]; exact opened_bytes d, (recs_split d.bytes).2.2.1⟩
  have q1 : w3.cell? ⟨gp, 1, none⟩ = some pj := hbk3.cell rfl
  have q3 : w3.cell? ⟨gp, 3, none⟩ = some pk := hbk3.cell rfl
  have z1 := hbk3.free 1
  have z3 := hbk3.free 3
  have hab2 : Ab W w2 := H2.out.2.1.ab HP.out.dk HP.out.ab (Nat.le_refl _)
  have hab3 : Ab W w3 := ht3.1.ab hab2 (fun k hk => by
    rcases hk with rfl | hk
    · exact HP.out.rk.2.2.1
    · exact (HP.out.rk.2.1.blk k hk).1)
  have hm5 : Mv (· = gp) w3 ((w3.setCell ⟨gp, 1, none⟩ (.pointer (some ⟨gj, 0, none⟩))).setCell ⟨gp, 3, none⟩ (.pointer (some ⟨gk, 0, none⟩))) :=
    Mv.set (S := (· = gp)) (p := ⟨gp, 3, none⟩) (Mv.set (S := (· = gp)) (p := ⟨gp, 1, none⟩) (Mv.refl _ w3) rfl _) rfl _
  have hb5 : Bk ((w3.setCell ⟨gp, 1, none⟩ (.pointer (some ⟨gj, 0, none⟩))).setCell ⟨gp, 3, none⟩ (.pointer (some ⟨gk, 0, none⟩))) gp 47 #[.pointer (some ⟨g, 0, none⟩), .pointer (some ⟨gj, 0, none⟩), .pointer (some ⟨g2, 0, none⟩), .pointer (some ⟨gk, 0, none⟩)] :=
    ((hbk3.store 1 _).store 3 _).eq_ (by simp only [List.setIfInBounds_toArray, List.set_cons_zero, List.set_cons_succ])
  have hpw : Pw W ((w3.setCell ⟨gp, 1, none⟩ (.pointer (some ⟨gj, 0, none⟩))).setCell ⟨gp, 3, none⟩ (.pointer (some ⟨gk, 0, none⟩))) gp g gj gk g2 row v' v3 (opened d) (opened r) (tornD d) (tornD r) (recsOf d.bytes) :=
    ⟨hj3.mv hm5 (fun k hk e => jall_pair hj3 hbk3 (e ▸ hk)), hrt.mv hm5 (fun k hk e => rall_pair hrt hbk3 (e ▸ hk)), hal.1, hap3, hb5, HP.out.le, (hab3.set (p := ⟨gp, 1, none⟩) HP.out.le _).set (p := ⟨gp, 3, none⟩) HP.out.le _⟩
  have HW := Lib.hid hpw
  have q1' : (w3.setCell ⟨gp, 1, none⟩ (.pointer (some ⟨gj, 0, none⟩))).cell? ⟨gp, 3, none⟩ = some pk := (hbk3.store 1 _).cell rfl
  have z3' := (hbk3.store 1 (.pointer (some ⟨gj, 0, none⟩))).free 3
  obtain ⟨-, s1, -, s3, -, -, s6⟩ := hpw.cells
  rw [hal.2] at s6
  have HT := Lib.hid hal.2
  clear hbk3 hj3 hap3 hal hrt hab2 hab3 hm5 hb5 hpw hr3 ht3 hn3
  go_wp2_with fail
  generalize (w3.setCell ⟨gp, 1, none⟩ (.pointer (some ⟨gj, 0, none⟩))).setCell ⟨gp, 3, none⟩ (.pointer (some ⟨gk, 0, none⟩)) = w5 at *
  go_region_held3 (fun wx => wx.cell? ⟨gp, 3, none⟩ = some (.pointer (some ⟨gk, 0, none⟩)) ∧ wx.cell? ⟨gk, 1, none⟩ = some (.int .i64 (tornD d : Int))) (first | exact ⟨s3, s6⟩ | exact ⟨t3, t6⟩) (first | (go_at_call 18; (with_reducible refine (Torn_any _ (HW.out.still (Ab.refl w5).drew).jt.jb).mono ?_); rintro e wz ⟨rfl, rfl⟩) | (go_at_call 9; (with_reducible refine (alike_any (HW.out.still (Ab.refl w5).drew)).mono ?_); rintro e w6 ⟨rfl, ha6⟩; (have t3 := (ha6.cells gp 3 HW.out.blk.lt).trans s3); (have t6 := (ha6.cells gk 1 HW.out.rt.rj.blk.lt).trans s6); (have H6 := Lib.hid ((Ab.refl w5).drew.trans ha6)); clear ha6))
  go_wp2
  go_ret
  exact ⟨rfl, gj, gk, row, v', v3, HW.out.still H6.out⟩
end Go.Proofs.YtolchbjcdlncgaaGreat.Dg

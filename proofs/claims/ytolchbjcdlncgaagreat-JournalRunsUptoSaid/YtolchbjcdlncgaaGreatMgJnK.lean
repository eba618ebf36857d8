/- Texts joined: JnK. -/
import Derived.Test.YtolchbjcdlncgaaGreatMgJnI
/- The journal: Trim. -/
namespace Go.Proofs.YtolchbjcdlncgaaGreat.Dg
open Go.RowKit
variable {w w' : World} {base a g gj torn B : Nat} {v row u : Value} {rs : List (List UInt8)} {d : Dst} {l : List UInt8}
attribute [local go_sem ↓] Go.wp_at_zero Go.wp_at_succ
/-- The records behind a Trim. -/
def trimRs (d : Dst) (rs : List (List UInt8)) (y : Int) (k : Nat) : List (List UInt8) := bif d.trims y && !d.cold then rs.drop k else rs
def TrimPost (w : World) (base gj g : Nat) (row : Value) (torn : Nat) (v : Value) (d : Dst) (rs : List (List UInt8)) (y : Int) (e : Ending) (w' : World) : Prop :=
  (∃ k, k ≤ rs.length ∧ y = ((plc d.base rs k : Nat) : Int) ∧ e = .returned (.int .i64 (d.sync.trimE y : Int)) ∧ ∃ row' v', Jt w' base gj g row' torn v' (d.sync.trim y) (trimRs d.sync rs y k) ∧ JTurn gj g row v row' v' w w') ∨
  ((∀ k, k ≤ rs.length → ((plc d.base rs k : Nat) : Int) ≠ y) ∧ e = .returned (.int .i64 2) ∧ Ab w w')
/-- The row is another window of the same block, or none. -/
theorem Jb.reset {v2 : Value} {a2 : Nat} {rs2 : List (List UInt8)} (h : Jb w base gj g row torn a rs) (ho : Rw w base v2 a2 rs2) (hs : ∀ j, v2.ownBlock = some j → row.ownBlock = some j) :
    Jb (w.setCell ⟨gj, 1, none⟩ v2) base gj g v2 torn a2 rs2 ∧ Mv (JOwn gj row) w (w.setCell ⟨gj, 1, none⟩ v2) ∧ (∀ k, JOwn gj v2 k → JOwn gj row k ∨ w.heap.size ≤ k) := by
  have hrow : row.ownBlock ≠ some gj := fun e => absurd (h.row.type e h.blk) (by decide)
  have hm : Mv (· = gj) w (w.setCell ⟨gj, 1, none⟩ v2) := Mv.set (S := (· = gj)) (p := ⟨gj, 1, none⟩) (Mv.refl _ w) rfl _
  refine ⟨⟨(h.blk.store 1 v2).eq_ (by simp only [List.setIfInBounds_toArray, List.set_cons_zero, List.set_cons_succ]), Og.mv ho hm (fun k hk e => hrow (e ▸ hs k hk)), h.le⟩, hm.mono fun _ _ e => .inl e, fun k hk => ?_⟩
  rcases hk with e | e
  · exact .inl (.inl e)
  · exact .inl (.inr (hs k e))
theorem sync_base (d : Dst) : d.sync.base = d.base ∧ d.sync.bytes = d.bytes ∧ d.sync.fin = d.fin := by unfold Dst.sync; cases d.cold <;> exact ⟨rfl, rfl, rfl⟩
theorem trim_moved (x : Int) (h : (d.trims x && !d.cold) = true) : d.trim x = { d with base := x.toNat, bytes := d.bytes.drop (x.toNat - d.base) } := by unfold Dst.trim; rw [h]; rfl
theorem trim_stays (x : Int) (h : (d.trims x && !d.cold) = false) : d.trim x = d := by unfold Dst.trim; rw [h]; rfl
/-- What the trimmed disk holds. -/
theorem trim_holds (hb : d.bytes = framesL rs) (k : Nat) (hk : k ≤ rs.length) {y : Int} (hy : y = ((plc d.base rs k : Nat) : Int)) :
    ∃ k', k' ≤ rs.length ∧ (d.trim y).base = plc d.base rs k' ∧ trimRs d rs y k = rs.drop k' ∧ (d.trim y).bytes = framesL (rs.drop k') := by
  cases hm : (d.trims y && !d.cold) with
  | false =>
    refine ⟨0, Nat.zero_le _, ?_, ?_, ?_⟩
    · rw [trim_stays y hm, plc_zero]
    · unfold trimRs; rw [hm]; rfl
    · rw [trim_stays y hm, hb]; rfl
  | true =>
    refine ⟨k, hk, ?_, ?_, ?_⟩
    · rw [trim_moved y hm]; show y.toNat = _; omega
    · unfold trimRs; rw [hm]; rfl
    · rw [trim_moved y hm]
      show d.bytes.drop (y.toNat - d.base) = _
      rw [hb, hy, Int.toNat_natCast, show plc d.base rs k - d.base = sizeL (rs.take k) by unfold plc; omega]
      exact frames_drop rs k
set_option maxRecDepth 100000 in
set_option maxHeartbeats 2000000 in
theorem JTrim_any (w : World) (h : Jt w base gj g row torn v d rs) (y : Int) :
    Calls Tryz.prog 23 #[.pointer (some ⟨gj, 0, none⟩), .int .i64 y] w (TrimPost w base gj g row torn v d rs y) := by
  have HT := Lib.hid h
  have c0 := h.ptr
  clear h
  go_enter Tryz.func23, Tryz.ntmps23
  go_wp2_with (go_at_call 50; (with_reducible refine (jready_any _ gj g c0).mono ?_); rintro e w2 ⟨rfl, rfl⟩)
  refine (find_any w HT.out y).mono ?_
  rintro e w3 ⟨ha3, hor⟩
  rcases hor with ⟨k, p0, p1, p2, hsp, hy, rfl⟩ | ⟨hn, rfl⟩
  · have h4 := (HT.out.ab ha3).ab ((Ab.refl w3).alloc (.cells #[.int .i64 p0, .int .i64 p1, .int .i64 p2] 94))
    have ha4 := ha3.trans ((Ab.refl w3).alloc (.cells #[.int .i64 p0, .int .i64 p1, .int .i64 p2] 94))
    have HK := Lib.hid (show k ≤ rs.length ∧ y = ((plc d.base rs k : Nat) : Int) from ⟨Nat.le_of_lt hsp.1, by rw [hy]; exact hsp.2.1⟩)
    clear hsp hy
    have q4 := h4.ptr
    have HT4 := Lib.hid h4
    have H4 := Lib.hid ha4
    clear h4 ha4 ha3 c0
    go_wp2_with fail
    generalize w3.alloc (.cells #[.int .i64 p0, .int .i64 p1, .int .i64 p2] 94) = w4 at *
    · skip
      refine (Sync_any w4 HT4.out.dk).mono ?_
      rintro e w5 ⟨rfl, hd5, ht5⟩
      have h5 := HT4.out.disk hd5 ht5 (sync_base d).1 (sync_base d).2.1
      have q5 := h5.ptr
      have htr := Trim_any w5 h5.dk y
      have H5 := Lib.hid (And.intro h5 ht5)
      have HTR := Lib.hid htr
      clear h5 hd5 ht5 htr q4
      go_wp2_with fail
      refine HTR.out.mono ?_
      rintro e w6 ⟨rfl, v6, hd6, ht6⟩
      have hj6 := H5.out.1.jb.mv ht6.1 (fun k hk => H5.out.1.jb.apart H5.out.1.dk k hk)
      obtain ⟨k', hk', hb', hr', hby'⟩ := trim_holds (d := d.sync) H5.out.1.bytes k HK.out.1 (y := y) (by rw [(sync_base d).1]; exact HK.out.2)
      have hst := standing_any w6 hd6 hj6 k' hk' hb' HT4.out.len1
      have HST := Lib.hid hst
      have H6 := Lib.hid (And.intro hd6 (And.intro ht6 (And.intro hj6 (And.intro hr' hby'))))
      clear hd6 ht6 hj6 hb' hr' hby' hst q5
      go_wp2_with fail
      refine HST.out.mono ?_
      rintro e w7 ⟨A7, n7, c7, hn7, rfl, hr7, ho7, ha7⟩
      have hj7 := H6.out.2.2.1.ab ha7
      have r1 : w7.cell? ⟨gj, 1, none⟩ = some row := hj7.blk.cell rfl
      have z1 := hj7.blk.free 1
      obtain ⟨hj8, hm8, hn8⟩ := hj7.reset hr7 ho7
      have hd8 := (H6.out.1.ab ha7).mv hm8 (fun k hk e => hj7.apart (H6.out.1.ab ha7) k e hk)
      have ht8 := ((((JTurn.of_ab H4.out).trans (JTurn.disk H5.out.2)).trans (JTurn.disk H6.out.2.1)).trans (JTurn.of_ab ha7)).trans (jturn_row hm8 hn8)
      rw [← H6.out.2.2.2.1] at hj8
      have H8 := Lib.hid (And.intro (show Jt _ base gj g _ torn v6 (d.sync.trim y) (trimRs d.sync rs y k) from ⟨hd8, hj8, by rw [H6.out.2.2.2.1]; exact H6.out.2.2.2.2, by rw [H6.out.2.2.2.1]; exact HT4.out.small.drop k'⟩) ht8)
      clear hj7 hj8 hm8 hn8 hd8 ht8 hr7 ho7 ha7 hn7 hk'
      go_wp2_with fail
      go_ret
      exact .inl ⟨k, HK.out.1, HK.out.2, rfl, _, _, H8.out.1, H8.out.2⟩
  · have h4 := (HT.out.ab ha3).ab ((Ab.refl w3).alloc (.cells #[.int .i64 0, .int .i64 0, .int .i64 0] 94))
    have ha4 := ha3.trans ((Ab.refl w3).alloc (.cells #[.int .i64 0, .int .i64 0, .int .i64 0] 94))
    have q4 := h4.ptr
    have HE := Lib.hid (End_any _ h4.dk)
    have HFN := Lib.hid h4.fin
    obtain ⟨f, hf⟩ : ∃ f, d.fin = f := ⟨_, rfl⟩
    rw [hf] at HE HFN
    have HN := Lib.hid hn
    have HT0 := Lib.hid h4
    have H0 := Lib.hid ha4
    clear h4 ha4 ha3 c0 hn hf
    by_cases hyf : y = (f : Int)
    · obtain ⟨k, hkl⟩ : ∃ k, k = rs.length := ⟨_, rfl⟩
      have HK := Lib.hid (show k ≤ rs.length ∧ y = ((plc d.base rs k : Nat) : Int) from ⟨Nat.le_of_eq hkl, by rw [hyf, HFN.out, plc_len _ _ _ (Nat.le_of_eq hkl.symm)]⟩)
      have hyb : (y != (f : Int)) = false := by rw [hyf]; simp
      have HYF := Lib.hid hyf
      clear hkl hyf
      go_wp2_with fail
      refine HE.out.mono ?_
      rintro e w4 ⟨rfl, ha4⟩
      have HT4 := Lib.hid (HT0.out.ab ha4.ab)
      have H4 := Lib.hid (H0.out.trans ha4.ab)
      have q4 := HT4.out.ptr
      clear ha4
      go_wp2_with fail
      refine (Sync_any w4 HT4.out.dk).mono ?_
      rintro e w5 ⟨rfl, hd5, ht5⟩
      have h5 := HT4.out.disk hd5 ht5 (sync_base d).1 (sync_base d).2.1
      have q5 := h5.ptr
      have htr := Trim_any w5 h5.dk y
      have H5 := Lib.hid (And.intro h5 ht5)
      have HTR := Lib.hid htr
      clear h5 hd5 ht5 htr q4
      go_wp2_with fail
      refine HTR.out.mono ?_
      rintro e w6 ⟨rfl, v6, hd6, ht6⟩
      have hj6 := H5.out.1.jb.mv ht6.1 (fun k hk => H5.out.1.jb.apart H5.out.1.dk k hk)
      obtain ⟨k', hk', hb', hr', hby'⟩ := trim_holds (d := d.sync) H5.out.1.bytes k HK.out.1 (y := y) (by rw [(sync_base d).1]; exact HK.out.2)
      have hst := standing_any w6 hd6 hj6 k' hk' hb' HT4.out.len1
      have HST := Lib.hid hst
      have H6 := Lib.hid (And.intro hd6 (And.intro ht6 (And.intro hj6 (And.intro hr' hby'))))
      clear hd6 ht6 hj6 hb' hr' hby' hst q5
      go_wp2_with fail
      refine HST.out.mono ?_
      rintro e w7 ⟨A7, n7, c7, hn7, rfl, hr7, ho7, ha7⟩
      have hj7 := H6.out.2.2.1.ab ha7
      have r1 : w7.cell? ⟨gj, 1, none⟩ = some row := hj7.blk.cell rfl
      have z1 := hj7.blk.free 1
      obtain ⟨hj8, hm8, hn8⟩ := hj7.reset hr7 ho7
      have hd8 := (H6.out.1.ab ha7).mv hm8 (fun k hk e => hj7.apart (H6.out.1.ab ha7) k e hk)
      have ht8 := ((((JTurn.of_ab H4.out).trans (JTurn.disk H5.out.2)).trans (JTurn.disk H6.out.2.1)).trans (JTurn.of_ab ha7)).trans (jturn_row hm8 hn8)
      rw [← H6.out.2.2.2.1] at hj8
      have H8 := Lib.hid (And.intro (show Jt _ base gj g _ torn v6 (d.sync.trim y) (trimRs d.sync rs y k) from ⟨hd8, hj8, by rw [H6.out.2.2.2.1]; exact H6.out.2.2.2.2, by rw [H6.out.2.2.2.1]; exact HT4.out.small.drop k'⟩) ht8)
      clear hj7 hj8 hm8 hn8 hd8 ht8 hr7 ho7 ha7 hn7 hk'
      go_wp2_with fail
      go_ret
      exact .inl ⟨k, HK.out.1, HK.out.2, rfl, _, _, H8.out.1, H8.out.2⟩
    · have hyb : (y != (f : Int)) = true := by rw [bne_iff_ne]; exact hyf
      go_wp2_with fail
      refine HE.out.mono ?_
      rintro e w4 ⟨rfl, ha4⟩
      have H4 := Lib.hid (H0.out.trans ha4.ab)
      clear ha4
      go_wp2_with fail
      go_ret
      refine .inr ⟨fun k hk e => ?_, rfl, H4.out⟩
      rcases Nat.lt_or_ge k rs.length with h | h
      · exact HN.out k h e
      · rw [plc_len _ _ _ h] at e
        exact hyf (by rw [← e, HFN.out])
end Go.Proofs.YtolchbjcdlncgaaGreat.Dg

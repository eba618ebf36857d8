/- Texts joined: JpF JoA. -/
import Derived.Lib.SmallJoins
import Derived.Test.YtolchbjcdlncgaaGreatMgJpD
/- awake. -/
namespace Go.Proofs.YtolchbjcdlncgaaGreat.Dg
open Go.RowKit
variable {W w w' : World} {gp g gj gk g2 torn torn' B C base s : Nat} {v v2 row u y pj pk : Value} {rs : List (List UInt8)} {d r : Dst} {l m : List UInt8}
attribute [local go_sem ↓] Go.wp_at_zero Go.wp_at_succ
/-- The journal in its pair. -/
structure Jp (W w : World) (gp gj g : Nat) (row v p2 p3 : Value) (d : Dst) (rs : List (List UInt8)) : Prop where
  jt : Jt w W.heap.size gj g row 0 v d rs
  blk : Bk w gp 47 #[.pointer (some ⟨g, 0, none⟩), .pointer (some ⟨gj, 0, none⟩), p2, p3]
  ab : Ab W w
theorem Jp.still {p2 p3 : Value} (h : Jp W w gp gj g row v p2 p3 d rs) (k : Ab w w') : Jp W w' gp gj g row v p2 p3 d rs := ⟨h.jt.ab k, k.bk h.blk, h.ab.trans k⟩
theorem Jp.turn {p2 p3 row' v' : Value} {d' : Dst} {rs' : List (List UInt8)} (h : Jp W w gp gj g row v p2 p3 d rs) (hj : Jt w' W.heap.size gj g row' 0 v' d' rs') (ht : JTurn gj g row v row' v' w w') : Jp W w' gp gj g row' v' p2 p3 d' rs' :=
  ⟨hj, ht.1.bk h.blk (jall_pair h.jt h.blk), ht.ab h.jt h.ab (Nat.le_refl _)⟩
theorem Jp.p0 {p2 p3 : Value} (h : Jp W w gp gj g row v p2 p3 d rs) : w.cell? ⟨gp, 0, none⟩ = some (.pointer (some ⟨g, 0, none⟩)) := h.blk.cell rfl
theorem Jp.p1 {p2 p3 : Value} (h : Jp W w gp gj g row v p2 p3 d rs) : w.cell? ⟨gp, 1, none⟩ = some (.pointer (some ⟨gj, 0, none⟩)) := h.blk.cell rfl
theorem bs_made2 (w : World) (cs : List UInt8) (n : Nat) (fr : Nat × Nat) (hn : cs.length = n) (t : n ≤ 1000) : Bs (w.alloc (.cells (cs.map u8v).toArray 5 fr)) (w.alloc (.cells (cs.map u8v).toArray 5 fr)).heap.size (.slice (some ⟨w.heap.size, 0, none⟩) n n) cs := by
  subst hn
  have := bs_row (l := cs) (heap_alloc_new w (.cells (cs.map u8v).toArray 5 fr)) (by omega)
  rw [World.size_alloc]
  exact this
theorem Jp.app {p2 p3 : Value} (h : Jp W w gp gj g row v p2 p3 (dK s rs) rs) (cs : List UInt8) (n k : Nat) (fr : Nat × Nat) (hk : cs.length = k) (hn : sizeL rs = n) (h1 : n + 8 + k ≤ 1000) :
    Calls Tryz.prog 20 #[.pointer (some ⟨gj, 0, none⟩), .slice (some ⟨w.heap.size, 0, none⟩) k k] (w.alloc (.cells (cs.map u8v).toArray 5 fr)) fun e w' => e = .returned (.tuple #[.int .i64 (n : Int), .int .i64 0]) ∧ ∃ row' v', Jp W w' gp gj g row' v' p2 p3 (dK s (rs ++ [cs])) (rs ++ [cs]) := by
  have hs := h.still ((Ab.refl w).alloc (.cells (cs.map u8v).toArray 5 fr))
  exact (aw_app _ hs.jt (bs_made2 w cs k fr hk (by omega)) (Nat.le_refl _) hs.ab.size n hn (by omega)).mono fun e w' ⟨he, row', v', hj, ht⟩ => ⟨he, row', v', hs.turn hj ht⟩
set_option maxRecDepth 100000 in
set_option maxHeartbeats 2000000 in
theorem awake_any (w : World) : Calls Tryz.prog 7 #[] w fun e w' => e = .returned (.bool true) ∧ Ab w w' := by
  go_enter Tryz.func7, Tryz.ntmps7
  go_wp2_with fail
  refine (pready_any w 1000).mono ?_
  rintro e w1 hor
  rcases hor with ⟨h, -⟩ | ⟨-, gp, rfl, g, gj, gk, g2, row, v, v2, hp⟩
  · omega
  have hj1 : Jp w w1 gp gj g row v (.pointer (some ⟨g2, 0, none⟩)) (.pointer (some ⟨gk, 0, none⟩)) (dK 0 []) [] := ⟨hp.jt, hp.blk, hp.ab⟩
  have q1 := hj1.p1
  have H1 := Lib.hid hj1
  clear hp hj1
  have hcw1 := Go.Joins.run_convert_bytes_const_at (P := Tryz.prog) w1 27 5 #[.int .u8 97] 1 1 w1.heap.size rfl Tryz.underlying27 Tryz.underlying5
  go_wp2_with fail
  refine (show Calls Tryz.prog 20 #[.pointer (some ⟨gj, 0, none⟩), .slice (some ⟨w1.heap.size, 0, none⟩) 1 1] (w1.alloc (.cells #[.int .u8 97] 5 (1, 2))) _ from H1.out.app [97] 0 1 (1, 2) rfl rfl (by omega)).mono ?_
  rintro e w2 ⟨rfl, row2, v2', h2⟩
  have q2 := h2.p1
  have H2 := Lib.hid (show Jp w w2 gp gj g row2 v2' _ _ (dK 0 [[97]]) [[97]] from h2)
  clear h2 H1 q1 hcw1
  have hcw2 := Go.Joins.run_convert_bytes_const_at (P := Tryz.prog) w2 27 5 #[.int .u8 98, .int .u8 99] 2 2 w2.heap.size rfl Tryz.underlying27 Tryz.underlying5
  go_wp2_with fail
  refine (show Calls Tryz.prog 20 #[.pointer (some ⟨gj, 0, none⟩), .slice (some ⟨w2.heap.size, 0, none⟩) 2 2] (w2.alloc (.cells #[.int .u8 98, .int .u8 99] 5 (2, 3))) _ from H2.out.app [98, 99] 9 2 (2, 3) rfl rfl (by omega)).mono ?_
  rintro e w3 ⟨rfl, row3, v3, h3⟩
  have q3 := h3.p1
  have H3 := Lib.hid (show Jp w w3 gp gj g row3 v3 _ _ (dK 0 aR) aR from h3)
  clear h3 H2 q2 hcw2
  go_wp2_with fail
  refine (aw_sync w3 H3.out.jt 19 rfl).mono ?_
  rintro e w4 ⟨rfl, hj4, ht4⟩
  have h4 := H3.out.turn hj4 ht4
  have q4 := h4.p1
  have H4 := Lib.hid h4
  clear h4 hj4 ht4 q3 H3
  have hcw4 := Go.Joins.run_convert_bytes_const_at (P := Tryz.prog) w4 27 5 #[.int .u8 100] 1 1 w4.heap.size rfl Tryz.underlying27 Tryz.underlying5
  go_wp2_with fail
  refine (show Calls Tryz.prog 20 #[.pointer (some ⟨gj, 0, none⟩), .slice (some ⟨w4.heap.size, 0, none⟩) 1 1] (w4.alloc (.cells #[.int .u8 100] 5 (1, 2))) _ from H4.out.app [100] 19 1 (1, 2) rfl rfl (by omega)).mono ?_
  rintro e w5 ⟨rfl, row5, v5, h5⟩
  have q5 := h5.p0
  have H5 := Lib.hid h5
  clear h5 q4 H4 hcw4
  go_wp2_with fail
  refine (aw_crash w5 H5.out.jt.dk).mono ?_
  rintro e w6 ⟨rfl, v6, hd6, ht6⟩
  have hb6 := ht6.1.bk H5.out.blk (fun e => jall_pair H5.out.jt H5.out.blk (.inl e))
  have q6 : w6.cell? ⟨gp, 0, none⟩ = some (.pointer (some ⟨g, 0, none⟩)) := hb6.cell rfl
  have H6 := Lib.hid (And.intro hd6 (ht6.ab H5.out.jt.dk H5.out.ab (Nat.le_refl _)))
  clear hd6 ht6 hb6 q5 H5
  go_wp2_with fail
  refine (aw_open w6 H6.out.1 H6.out.2.size).mono ?_
  rintro e w7 ⟨gj7, row7, v7, rfl, hj7, ht7⟩
  have H7 := Lib.hid (And.intro hj7 (ht7.ab H6.out.1 H6.out.2 (Nat.le_refl _)))
  clear hj7 ht7 q6
  go_wp2_with (first | (go_at_call 12; (with_reducible refine (jnum_any 0 w7).mono ?_); rintro e wz ⟨rfl, rfl⟩) | (go_at_call 18; (with_reducible refine (Torn_any w7 H7.out.1.jb).mono ?_); rintro e wz ⟨rfl, rfl⟩) | (go_at_call 27; (with_reducible refine (Count_any w7 H7.out.1).mono ?_); rintro e w8 ⟨rfl, ha8⟩; rw [show aR.length = 2 from rfl]; (have H8 := Lib.hid ha8); clear ha8))
  go_ret
  exact ⟨rfl, H7.out.2.trans H8.out⟩
end Go.Proofs.YtolchbjcdlncgaaGreat.Dg

/- JournalOpens' walk. -/
namespace Go.Proofs.YtolchbjcdlncgaaGreat.Dg
open Go.RowKit
variable {W w w' : World} {gp g gj gk g2 torn torn' B C base : Nat} {v v' v2 row u y pj pk : Value} {rs : List (List UInt8)} {d r d' : Dst} {l m : List UInt8}
attribute [local go_sem ↓] Go.wp_at_zero Go.wp_at_succ
/-- Two disks of the call's own. -/
structure Ds (W w : World) (g g2 : Nat) (v v2 : Value) (d r : Dst) : Prop where
  dk : Dk w W.heap.size g v d
  rk : Rk w W.heap.size g2 v2 r
  apart : ∀ k, Own g v k → ¬ Own g2 v2 k
  ab : Ab W w
theorem Ds.still (h : Ds W w g g2 v v2 d r) (k : Ab w w') : Ds W w' g g2 v v2 d r := ⟨h.dk.ab k, h.rk.ab k, h.apart, h.ab.trans k⟩
theorem Ds.turn (h : Ds W w g g2 v v2 d r) (hd : Dk w' W.heap.size g v' d') (ht : Turn g v v' w w') : Ds W w' g g2 v' v2 d' r :=
  ⟨hd, h.rk.mv ht.1 (fun k hk e => h.apart k e hk), fun k hk e => by
    rcases hk with hk | hk
    · exact h.apart k (.inl hk) e
    · rcases ht.2 k hk with h2 | h2
      · exact h.apart k (.inr h2) e
      · have := Own.lt_rk h.rk e; omega, ht.ab h.dk h.ab (Nat.le_refl _)⟩
theorem Ds.turn2 (h : Ds W w g g2 v v2 d r) (hd : Rk w' W.heap.size g2 v' d') (ht : Turn g2 v2 v' w w') : Ds W w' g g2 v v' d d' :=
  ⟨h.dk.mv ht.1 (fun k hk e => h.apart k hk e), hd, fun k hk e => by
    rcases e with e | e
    · exact h.apart k hk (.inl e)
    · rcases ht.2 k e with h2 | h2
      · exact h.apart k hk (.inr h2)
      · have := Own.lt_dk h.dk hk; omega, ht.1.ab h.ab (fun k hk => by
    rcases hk with rfl | hk
    · exact h.rk.2.2.1
    · exact (h.rk.2.1.blk k hk).1)⟩
theorem Ds.pair (h : Ds W w g g2 v v2 d r) (al : Al d r) :
    Pd W (w.alloc (.cells #[.pointer (some ⟨g, 0, none⟩), .pointer none, .pointer (some ⟨g2, 0, none⟩), .pointer none] 47)) w.heap.size g g2 v v2 d r (.pointer none) (.pointer none) :=
  ⟨h.dk.ab ((Ab.refl w).alloc _), h.rk.ab ((Ab.refl w).alloc _), al, h.apart, Bk.made w _ _, h.ab.size, h.ab.alloc _⟩
theorem ds_made (W w1 w2 : World) (n : Nat) (hd : Dk w1 W.heap.size W.heap.size (.slice none 0 0) (Dst.new n)) (ha1 : Ab W w1) (hr : Rk w2 W.heap.size w1.heap.size (.slice none 0 0) (Dst.new n)) (ha2 : Ab w1 w2) :
    Ds W w2 W.heap.size w1.heap.size (.slice none 0 0) (.slice none 0 0) (Dst.new n) (Dst.new n) :=
  ⟨hd.ab ha2, hr, fun k h1 h2 => by
    rcases h1 with rfl | h1
    · rcases h2 with h2 | h2
      · have := hd.1.lt; omega
      · simp [Value.ownBlock] at h2
    · simp [Value.ownBlock] at h1, ha1.trans ha2⟩
theorem Pw.pd {rs : List (List UInt8)} (h : Pw W w gp g gj gk g2 row v v2 d r torn torn' rs) : Pd W w gp g g2 v v2 d r (.pointer (some ⟨gj, 0, none⟩)) (.pointer (some ⟨gk, 0, none⟩)) :=
  ⟨h.jt.dk, h.rt.rj.rk, h.al, fun k hk e => h.apart k (.inl hk) (.inl e), h.blk, h.le, h.ab⟩
theorem opened_zero (d : Dst) : tornD (opened d) = 0 := by
  have h1 : recsOf (opened d).bytes = recsOf d.bytes := by
    rw [opened_bytes]
    have := recs_frames [] ufE_nil (recsOf d.bytes) (recs_split d.bytes).2.2.1
    rw [List.append_nil] at this
    exact this
  unfold tornD
  rw [h1]
  unfold Dst.fin
  rw [opened_bytes, framesL_length]
  show d.base + _ - (d.base + _) = 0
  omega
/-- The new disk that took these bytes. -/
def dO (l : List UInt8) (s : Nat) : Dst := ⟨l.length + 100, 0, s, l, none⟩
theorem dO_app (l : List UInt8) : (Dst.new (l.length + 100)).app ([] ++ l) = dO l 0 ∧ (Dst.new (l.length + 100)).app l = dO l 0 := by
  have hf : (Dst.new (l.length + 100)).fits l.length = true := decide_eq_true (by show l.length ≤ l.length + 100 - 0; omega)
  have h : (Dst.new (l.length + 100)).app l = dO l 0 := by
    unfold Dst.app; rw [hf]; rfl
  exact ⟨h, h⟩
theorem dO_sync (l : List UInt8) : (dO l 0).sync = dO l l.length := by
  have hc : (dO l 0).cold = false := rfl
  unfold Dst.sync
  rw [hc]
  show (⟨_, _, (dO l 0).fin, _, _⟩ : Dst) = _
  rw [show (dO l 0).fin = l.length from Nat.zero_add _]
  rfl
set_option maxRecDepth 100000 in
set_option maxHeartbeats 2000000 in
theorem opens_walk (v : Value) (l : List UInt8) (b : Bool) (w : World) (hl : Bs w w.heap.size v l) :
    Calls Tryz.prog 4 #[v, .bool b] w fun e w' => e = .returned (.bool true) ∧ Ab w w' := by
  have HB := Lib.hid hl
  obtain ⟨A, c, rfl, hlc, hcm, -⟩ := hl
  by_cases hbig : 1048576 < l.length
  · go_enter Tryz.func4, Tryz.ntmps4
    go_wp2_with (go_at_call 7; (refine (awake_any w).mono ?_); rintro e w2 ⟨rfl, ha2⟩; (have H2 := Lib.hid ha2); clear ha2)
    go_ret
    exact ⟨rfl, H2.out⟩
  have h1 : Calls Tryz.prog 10 #[.int .i64 ((l.length : Int) + 100)] w fun e w' => e = .returned (.tuple #[.pointer (some ⟨w.heap.size, 0, none⟩), .int .i64 0]) ∧ Dk w' w.heap.size w.heap.size (.slice none 0 0) (Dst.new (l.length + 100)) ∧ Ab w w' := (New_any w _).mono fun e w' h => by
    rcases h with ⟨h, _⟩ | ⟨_, h3, h4, h5⟩
    · omega
    · exact ⟨h3, h4 _ (Nat.le_refl _), h5⟩
  have h2 : ∀ wx, w.heap.size ≤ wx.heap.size → Calls Tryz.prog 11 #[.int .i64 ((l.length : Int) + 100)] wx fun e w' => e = .returned (.tuple #[.pointer (some ⟨wx.heap.size, 0, none⟩), .int .i64 0]) ∧ Rk w' w.heap.size wx.heap.size (.slice none 0 0) (Dst.new (l.length + 100)) ∧ Ab wx w' := fun wx hx => (rnew_any wx _).mono fun e w' h => by
    rcases h with ⟨h, _⟩ | ⟨_, h3, h4, h5⟩
    · omega
    · exact ⟨h3, h4 _ hx, h5⟩
  have H1 := Lib.hid h1
  have H2 := Lib.hid h2
  have HL := Lib.hid (show l.length ≤ 1048576 by omega)
  clear h1 h2
  go_enter Tryz.func4, Tryz.ntmps4
  go_wp2_with (first | (go_at_call 10; (with_reducible refine H1.out.mono ?_); rintro e w1 ⟨rfl, hd1, ha1⟩; (have HD1 := Lib.hid (And.intro hd1 ha1)); clear hd1 ha1) | (go_at_call 11; (with_reducible refine (H2.out w1 HD1.out.2.size).mono ?_); rintro e w2 ⟨rfl, hr2, ha2⟩; (have HS := Lib.hid (ds_made w w1 w2 _ HD1.out.1 HD1.out.2 hr2 ha2)); clear hr2 ha2) | (go_at_call 12; (with_reducible refine (jnum_any 0 w2).mono ?_); rintro e wz ⟨rfl, rfl⟩) | (at_builtin; refine wpList_bytes3 rfl _ _ _ rfl _ _ rfl rfl w2.heap.size [] l (Ob.made w2 #[] _ (Nat.le_refl _) (by simp [maxLen])) (src_bs Tryz.underlying27 (HB.out.ab (HS.out.ab.alloc _) (Nat.le_refl _))) (by have := HL.out; simp; omega) (by simp) ?_))
  intro A3 n3 c3 w3 ho3 hf3
  have ho3 : Ob w3 w2.heap.size (.slice A3 n3 c3) l := ho3
  have ha3 : Ab w2 w3 := hf3.ab ((Ab.refl w2).alloc _) (Nat.le_refl _)
  have H3 := Lib.hid (And.intro ho3 (HS.out.still ha3))
  clear ho3 hf3 ha3
  go_wp2_with fail
  refine (Append_any w3 H3.out.2.dk H3.out.1.bs (.inl (by have := HL.out; show 0 + 0 + l.length ≤ _; omega)) H3.out.2.ab.size).mono ?_
  rintro e w4 ⟨rfl, v4, hd4, ht4⟩
  rw [(dO_app l).2] at hd4
  have H4 := Lib.hid (H3.out.2.turn hd4 ht4)
  clear hd4 ht4
  go_wp2_with fail
  refine (rappend_any w4 H4.out.rk (HB.out.ab H4.out.ab (Nat.le_refl _)) H4.out.ab.size (.inl (by have := HL.out; show 0 + 0 + l.length ≤ _; omega)) H4.out.ab.size).mono ?_
  rintro e w5 ⟨rfl, v5, hd5, ht5⟩
  rw [(dO_app l).2] at hd5
  have H5 := Lib.hid (H4.out.turn2 hd5 ht5)
  clear hd5 ht5
  cases b
  · go_wp2_with fail
    refine (open_any (H5.out.pair (al_refl _ rfl)) rfl rfl).mono ?_
    rintro e w6 ⟨rfl, gj6, gk6, row6, v6, u6, h6⟩
    have q6 := h6.blk.cell (i := 1) rfl
    have H6 := Lib.hid h6
    clear h6
    go_wp2_with fail
    refine (open_any H6.out.pd rfl rfl).mono ?_
    rintro e w7 ⟨rfl, gj7, gk7, row7, v7, u7, h7⟩
    rw [opened_zero] at h7
    have q7 : w7.cell? ⟨w5.heap.size, 1, none⟩ = some (.pointer (some ⟨gj7, 0, none⟩)) := h7.blk.cell rfl
    have H7 := Lib.hid h7
    clear h7 q6
    go_wp2_with (first | (go_at_call 18; (with_reducible refine (Torn_any w7 H7.out.jt.jb).mono ?_); rintro e wz ⟨rfl, rfl⟩) | (go_at_call 7; (refine (awake_any w7).mono ?_); rintro e w8 ⟨rfl, ha8⟩; (have H8 := Lib.hid ha8); clear ha8))
    go_ret
    exact ⟨rfl, H7.out.ab.trans H8.out⟩
  · go_wp2_with fail
    refine (Sync_any w5 H5.out.dk).mono ?_
    rintro e y4 ⟨rfl, hd4, ht4⟩
    rw [dO_sync] at hd4
    have K4 := Lib.hid (H5.out.turn hd4 ht4)
    clear hd4 ht4
    go_wp2_with fail
    refine (rsync_any y4 K4.out.rk).mono ?_
    rintro e y5 ⟨rfl, hd5, ht5⟩
    rw [dO_sync] at hd5
    have K5 := Lib.hid (K4.out.turn2 hd5 ht5)
    clear hd5 ht5
    go_wp2_with fail
    refine (open_any (K5.out.pair (al_refl _ rfl)) rfl rfl).mono ?_
    rintro e w6 ⟨rfl, gj6, gk6, row6, v6, u6, h6⟩
    have q6 := h6.blk.cell (i := 1) rfl
    have H6 := Lib.hid h6
    clear h6
    go_wp2_with fail
    refine (open_any H6.out.pd rfl rfl).mono ?_
    rintro e w7 ⟨rfl, gj7, gk7, row7, v7, u7, h7⟩
    rw [opened_zero] at h7
    have q7 : w7.cell? ⟨y5.heap.size, 1, none⟩ = some (.pointer (some ⟨gj7, 0, none⟩)) := h7.blk.cell rfl
    have H7 := Lib.hid h7
    clear h7 q6
    go_wp2_with (first | (go_at_call 18; (with_reducible refine (Torn_any w7 H7.out.jt.jb).mono ?_); rintro e wz ⟨rfl, rfl⟩) | (go_at_call 7; (refine (awake_any w7).mono ?_); rintro e w8 ⟨rfl, ha8⟩; (have H8 := Lib.hid ha8); clear ha8))
    go_ret
    exact ⟨rfl, H7.out.ab.trans H8.out⟩
end Go.Proofs.YtolchbjcdlncgaaGreat.Dg

/- The walk through ExtentRuns: the acts, and the extents gone through. -/
import Derived.Test.YtlbkfnmhcgildaaExT
import Derived.Test.YtlbkfnmhcgildaaExAc
namespace Go.Proofs.Ytlbkfnmhcgildaa.Dg
open Go.RowKit Go.Shelf
variable {w w' W : World} {base a s B : Nat} {v u : Value} {ps : List Pr} {l : List UInt8} {c : Cel}
/-- Some map. -/
def Lany (W : World) (a : Nat) (w : World) : Prop := ∃ c s, Lq W a c s w
attribute [local go_sem ↓] Go.wp_at_zero Go.wp_at_succ
attribute [local go_sem] Oper.semAt_some
/-- The bytes told so far, and where the last of them ends. -/
def lastR (R : List Rn) : Int := match R.getLast? with
  | none => -1
  | some q => ((q.1 + q.2.length : Nat) : Int)
theorem lastR_snoc (R : List Rn) (q : Rn) : lastR (R ++ [q]) = ((q.1 + q.2.length : Nat) : Int) := by simp [lastR]
theorem lastR_lt {R : List Rn} {q : Rn} (h : Ris (R ++ [q])) : lastR R < (q.1 : Int) := by
  unfold lastR
  split
  · omega
  · next r hr =>
    have := ((ris_append R [q]).1 h).2.2 r (List.mem_of_getLast? hr) q (by simp)
    omega
theorem dat_snoc {R : List Rn} {f s : Nat} {bs : List UInt8} (h : Ris (R ++ [(f, bs)])) : datR (wrC (cellR R) f bs) s = datR (cellR (R ++ [(f, bs)])) s := by
  refine datR_ext fun p _ => ?_
  rw [cellR_append, cellR_one, wrC]
  by_cases hp : f ≤ p ∧ p < f + bs.length
  · rw [if_pos hp, if_pos hp.1, cellR_none R p fun q hq => .inr (by have := ((ris_append R [(f, bs)]).1 h).2.2 q hq _ (List.mem_singleton.2 rfl); simp only at this; omega), Option.none_or]
  · rw [if_neg hp]
    by_cases h1 : f ≤ p
    · rw [if_pos h1, List.getElem?_eq_none (by omega), Option.or_none]
    · rw [if_neg h1, Option.or_none]
/-- While the runs are told: the bytes in g, the last end in gl. -/
def TlI (R : List Rn) (w8 : World) (base g gl s k : Nat) (pre : List Pr) (X : World) : Prop :=
  Mv (fun j => j = g ∨ j = gl) w8 X ∧ Ob X base (.slice (some ⟨g, 0, none⟩) s k) (datR (cellR (rnOf pre)) s) ∧ Bk X gl 3 #[.int .i64 (lastR (rnOf pre))] ∧ rnOf pre = R.take pre.length
theorem bk_own {g : Nat} {t : TypeId} {cs : Array Value} {row : Option Nat} (h : Bk w g t cs) (hg : w.grownBy w' row) (hr : ∀ r, row = some r → ∃ o : Obj, w.heap[r]? = some o ∧ o.isCells = false) : Bk w' g t cs :=
  h.grown hg (fun e => by
    obtain ⟨o, ho, hc⟩ := hr g e
    unfold Bk at h
    rw [h] at ho
    cases ho
    cases hc)
theorem TlI.own {R : List Rn} {w8 : World} {g gl k : Nat} : OwnFrom w8.heap.size (TlI R w8 base g gl s k) := fun _ _ _ _ hs hg hr =>
  ⟨hs.1.grown hg (fun k e => .inr (hr k e).1), ob_own hs.2.1 hg (fun r e => (hr r e).2), bk_own hs.2.2.1 hg (fun r e => (hr r e).2), hs.2.2.2⟩
theorem cell_far {p : Addr} {k o : Nat} (h : k ≠ p.block) (u : Value) : (w.setCell p u).cell? ⟨k, o, none⟩ = w.cell? ⟨k, o, none⟩ := World.cell?_of_block (a := ⟨k, o, none⟩) (Below.heap_setCell w p u k h)
set_option maxRecDepth 100000 in
set_option maxHeartbeats 8000000 in
theorem runs_walk5 (W : World) (A0 : Option Addr) (n cap : Nat) (K M N : Nat → Int) (Z : Nat → Value) (L : Nat → List UInt8) (hn : n ≤ cap) (hc : cap ≤ 9223372036854775807) (ho : n ≠ 0 → ∃ bb off, A0 = some ⟨bb, off, none⟩ ∧ Acts5 W bb off n K M N Z L) :
    Calls Try.prog 7 #[.slice A0 n cap] W fun e w' => e = .returned (.bool true) ∧ Ab W w' := by
  have HO := Lib.hid ho
  have hb1 : Bk (W.alloc (.cells #[.bool false] 4)) W.heap.size 4 #[.bool false] := Bk.made W _ _
  have hw1 : Ab W (W.alloc (.cells #[.bool false] 4)) := (Ab.refl W).alloc _
  have hs1 : (W.alloc (.cells #[.bool false] 4)).heap.size = W.heap.size + 1 := by simp
  clear ho
  refine (callsIn_wide (n := 2)).1 ?_
  refine callsIn_of_wp_marks Try.func7 rfl trivial ?_ rfl
  simp only [Try.ntmps7, List.size_toArray, List.length_cons, List.length_nil, Nat.reduceAdd, Nat.reduceSub, Array.replicate_succ, Array.replicate_zero, List.push_toArray, List.append_toArray, List.nil_append, List.cons_append]
  refine (wpIn_wide (n := 2)).2 ?_
  have HNW := Lib.hid (newq (W.alloc (.cells #[.bool false] 4)) (Ab.refl _))
  go_wp2_with (go_at_call 29; (with_reducible refine HNW.out.mono ?_); rintro e w3 ⟨rfl, h3, -⟩; have H3 := Lib.hid h3; clear h3)
  rw [hs1] at H3
  generalize W.alloc (.cells #[.bool false] 4) = W1 at *
  have HW1 := Lib.hid (And.intro hb1 (And.intro hw1 hs1))
  clear hb1 hw1 hs1 HNW
  go_loopw [17] (fun i wr => ∃ j : Nat, j ≤ n ∧ i = .int .i64 (j : Int) ∧ Lany W1 (W.heap.size + 1) wr) (fun i _ => n - (intOf i).toNat)
  case atStart => exact ⟨0, Nat.zero_le _, rfl, _, _, H3.out⟩
  case round =>
    obtain ⟨j, hj, rfl, c, s, hq⟩ := hrel
    have HQ := Lib.hid hq
    clear hq
    by_cases hlt : j < n
    · obtain ⟨bb, off, rfl, hacts⟩ := HO.out (by omega)
      have hb := hacts.lt (by omega)
      have hwr : Ab W wr := HW1.out.2.1.trans HQ.out.2
      have k0 := (hwr.cells bb (off + j * 4) hb).trans (hacts.c0 j hlt)
      have k1 := (hwr.cells bb (off + (j * 4 + 1)) hb).trans (hacts.c1 j hlt)
      have k2 := (hwr.cells bb (off + (j * 4 + 2)) hb).trans (hacts.c2 j hlt)
      have k3 := (hwr.cells bb (off + (j * 4 + 3)) hb).trans (hacts.c3 j hlt)
      rw [← Nat.add_assoc] at k1 k2 k3
      have hbs := hacts.bs j hlt
      have hn9 := (hacts.n9 j hlt).2
      obtain ⟨Az, cz, hzj, -, -, -⟩ := id hbs
      rw [hzj] at hbs k3
      obtain ⟨lz, hlz⟩ : ∃ lz, L j = lz := ⟨_, rfl⟩
      obtain ⟨kj, hkj⟩ : ∃ kj, K j = kj := ⟨_, rfl⟩
      obtain ⟨mj, hmj⟩ : ∃ mj, M j = mj := ⟨_, rfl⟩
      obtain ⟨nj, hnj⟩ : ∃ nj, N j = nj := ⟨_, rfl⟩
      rw [hlz] at hbs k3
      rw [hkj] at k0
      rw [hmj] at k1
      rw [hnj] at k2 hn9
      obtain ⟨Lz, hLz⟩ : ∃ Lz, lz.length = Lz := ⟨_, rfl⟩
      rw [hLz] at k3 hbs
      have ha4 : Ab wr (wr.alloc (.cells #[.int .i64 kj, .int .i64 mj, .int .i64 nj, .slice Az Lz cz] 72)) := (Ab.refl wr).alloc _
      have hbox := Bk.made wr 72 #[.int .i64 kj, .int .i64 mj, .int .i64 nj, .slice Az Lz cz]
      have x0 : (wr.alloc (.cells #[.int .i64 kj, .int .i64 mj, .int .i64 nj, .slice Az Lz cz] 72)).cell? ⟨wr.heap.size, 0, none⟩ = some (.int .i64 kj) := hbox.cell rfl
      have x1 : (wr.alloc (.cells #[.int .i64 kj, .int .i64 mj, .int .i64 nj, .slice Az Lz cz] 72)).cell? ⟨wr.heap.size, 1, none⟩ = some (.int .i64 mj) := hbox.cell rfl
      have x2 : (wr.alloc (.cells #[.int .i64 kj, .int .i64 mj, .int .i64 nj, .slice Az Lz cz] 72)).cell? ⟨wr.heap.size, 2, none⟩ = some (.int .i64 nj) := hbox.cell rfl
      have x3 : (wr.alloc (.cells #[.int .i64 kj, .int .i64 mj, .int .i64 nj, .slice Az Lz cz] 72)).cell? ⟨wr.heap.size, 3, none⟩ = some (.slice Az Lz cz) := hbox.cell rfl
      have HCw := Lib.hid (writeq _ (HQ.out.ab ha4) mj ((hbs.ab (hwr.trans ha4) (Nat.le_refl _)).more (B' := (wr.alloc (.cells #[.int .i64 kj, .int .i64 mj, .int .i64 nj, .slice Az Lz cz] 72)).heap.size) (hwr.trans ha4).size) (Nat.le_refl _))
      have HCz := Lib.hid (zeroq _ (HQ.out.ab ha4) mj nj hn9)
      have HCt := Lib.hid (truncq _ (HQ.out.ab ha4) mj)
      have HLT := Lib.hid hlt
      have hi0 : (0 : Int) ≤ (j : Int) := by omega
      have hi1 : (j : Int) < (n : Int) := by omega
      have HQ4 := Lib.hid (HQ.out.ab ha4)
      clear hwr hbox hb hacts hbs hzj hlz hkj hmj hnj hLz hn9 ha4
      by_cases d0 : kj = 0
      · subst d0
        go_wp2_with (go_at_call 31; (with_reducible refine HCw.out.mono ?_); rintro e w5 ⟨rfl, h5⟩; have H5 := Lib.hid h5; clear h5)
        go_roundw
        case rel => exact ⟨j + 1, HLT.out, by go_num, _, _, H5.out⟩
        case measure => have := HLT.out; simp [intOf]; omega
      by_cases d1 : kj = 1
      · subst d1
        go_wp2_with (go_at_call 40; (with_reducible refine HCz.out.mono ?_); rintro e w5 ⟨rfl, h5⟩; have H5 := Lib.hid h5; clear h5)
        go_roundw
        case rel => exact ⟨j + 1, HLT.out, by go_num, _, _, H5.out⟩
        case measure => have := HLT.out; simp [intOf]; omega
      by_cases d2 : kj = 2
      · subst d2
        go_wp2_with (go_at_call 41; (with_reducible refine HCt.out.mono ?_); rintro e w5 ⟨rfl, h5⟩; have H5 := Lib.hid h5; clear h5)
        go_roundw
        case rel => exact ⟨j + 1, HLT.out, by go_num, _, _, H5.out⟩
        case measure => have := HLT.out; simp [intOf]; omega
      · go_wp2_with fail
        go_roundw
        case rel => exact ⟨j + 1, HLT.out, by go_num, _, _, HQ4.out⟩
        case measure => have := HLT.out; simp [intOf]; omega
    · have hjn : ¬ (j : Int) < (n : Int) := by omega
      obtain ⟨wq, rfl⟩ : ∃ x, x = wr := ⟨_, rfl⟩
      clear hlt
      have HSz := Lib.hid (sizeq wq HQ.out)
      obtain ⟨i0, hi, hz0, hz1, hz2⟩ := info_parts info8
      have HI := Lib.hid (And.intro hi (And.intro hz0 (And.intro hz1 hz2)))
      have hs4 := HQ.out.1.cells.2.2.2.2
      have HG := Lib.hid (show W1.heap.size ≤ wq.heap.size from HQ.out.2.size)
      clear hi hz0 hz1 hz2
      go_wp2_with (first
        | (go_at_call 34; (with_reducible refine HSz.out.mono ?_); rintro e wz ⟨rfl, rfl⟩)
        | (refine wpList_make_full wq rfl _ _ 30 rfl W1.heap.size 5 i0 (.int .u8 0) 1 Try.underlying30 HI.out.1 HI.out.2.1 HI.out.2.2.1 .i64 .i64 (s : Int) (s : Int) s rfl rfl (by rfl) (by rfl) (by rw [HI.out.2.2.2]; omega) (by unfold maxLen; omega) HG.out ?_))
      intro w6 ho6 hg6
      have ho6 : Ob w6 W1.heap.size (.slice (some ⟨wq.heap.size, 0, none⟩) s s) (datR (cellR []) s) := by
        rw [← readC_dat, readC_nil]
        unfold Ob
        rw [List.length_replicate, List.map_replicate]
        have e : (madeCells #[Value.int IntKind.u8 0] s).toList = List.replicate s (u8v 0) := by
          unfold madeCells
          apply List.ext_getElem
          · simp
          · intro i h1 h2
            simp [u8v, n8, Nat.mod_one]
        rw [← e]
        exact ho6
      have ha6 : Ab wq w6 := grown_ab (Ab.refl wq) hg6 (fun k hk => by cases hk)
      have hg7 : wq.heap.size < w6.heap.size := (ho6.blk _ rfl).2
      have bS : Bk ((w6.alloc (.cells #[.slice (some ⟨wq.heap.size, 0, none⟩) s s] 30)).alloc (.cells #[.int .i64 (-1)] 3)) w6.heap.size 30 #[.slice (some ⟨wq.heap.size, 0, none⟩) s s] := (Bk.made w6 _ _).alloc _
      have bL : Bk ((w6.alloc (.cells #[.slice (some ⟨wq.heap.size, 0, none⟩) s s] 30)).alloc (.cells #[.int .i64 (-1)] 3)) (w6.heap.size + 1) 3 #[.int .i64 (-1)] := Bk.new (by simp)
      have ha7 : Ab wq ((w6.alloc (.cells #[.slice (some ⟨wq.heap.size, 0, none⟩) s s] 30)).alloc (.cells #[.int .i64 (-1)] 3)) := (ha6.alloc _).alloc _
      have ho7 := (ho6.alloc (.cells #[.slice (some ⟨wq.heap.size, 0, none⟩) s s] 30)).alloc (.cells #[.int .i64 (-1)] 3)
      have h67 : ((w6.alloc (.cells #[.slice (some ⟨wq.heap.size, 0, none⟩) s s] 30)).alloc (.cells #[.int .i64 (-1)] 3)).heap.size = w6.heap.size + 2 := by simp
      obtain ⟨v, ps, hx, hcel⟩ := HQ.out.1
      have HX := Lib.hid (And.intro hx hcel)
      have hEx := extents_any _ (hx.ab ha7)
      rw [h67] at hEx
      have HEx := Lib.hid hEx
      clear hEx
      have H7 := Lib.hid (And.intro bS (And.intro bL (And.intro ha7 (And.intro ho7 (And.intro h67 hg7)))))
      clear ho6 hg6 ha6 hg7 bS bL ha7 ho7 h67 hx hcel
      go_wp2_with (go_at_call 42; (with_reducible refine HEx.out.mono ?_); rintro e w8 ⟨rfl, hb8, ha8⟩; unfold extF; have H8 := Lib.hid (And.intro hb8 ha8); clear hb8 ha8)
      have hab8 : Ab wq w8 := H7.out.2.2.1.trans H8.out.2
      have hsz8 : w6.heap.size + 2 ≤ w8.heap.size := by have := H8.out.2.size; rw [H7.out.2.2.2.2.1] at this; exact this
      have hgg := H7.out.2.2.2.2.2
      have hh := ext_hands w8 (w6.heap.size + 2) W1.heap.size (fun k => k = wq.heap.size ∨ k = w6.heap.size + 1) (fun k e => by omega) H8.out.1 (HX.out.1.row.ab hab8)
        (fun k hk e => by have := (HX.out.1.row.row.blk k hk).2; omega) (fun p hp k hk e => by have := ((HX.out.1.row.own p hp).blk k hk).2; omega) (by have := HX.out.1.len; omega) (fun p hp => by have := HX.out.1.at_ hp; omega)
      have hI0 : TlI (rnOf ps) w8 W1.heap.size wq.heap.size (w6.heap.size + 1) s s [] w8 := ⟨Mv.refl _ _, H7.out.2.2.2.1.ab H8.out.2, H8.out.2.bk H7.out.2.1, rfl⟩
      have HH8 := Lib.hid (And.intro (H8.out.2.bk H7.out.1) (And.intro hab8 (And.intro hsz8 hgg)))
      clear hab8 hsz8 hgg
      refine range_some ?h1 ?h2 ?h3 hh ?h4 ?h5 (TlI (rnOf ps) w8 W1.heap.size wq.heap.size (w6.heap.size + 1) s s) (fun _ _ => False) ?h6 ?h7 ?h8 hI0 ?a1 ?as1 ?bo1 ?do1 ?st1
      case h1 => rfl
      case h2 => exact enters_of Try.func80 (by kernel_rfl) rfl
      case h3 => exact fun _ => rfl
      case h4 => exact fun k e => by have := HH8.out.2.2; omega
      case h5 => exact fun _ _ _ _ h hk => h.cells hk
      case h6 => exact TlI.own
      case h7 => exact fun _ _ _ _ _ h => h.elim
      case h8 => exact fun _ _ _ _ _ _ _ h hl ho e => h.put hl ho e
      case as1 =>
        intro l x X K hK
        gi_wp2
        exact hK
      case st1 =>
        rintro D cd X hD h hK1
        exact h.elim
      case do1 =>
        rintro D xs X hD hxs ⟨hmv, hout, -, -⟩ hK1
        clear hh hI0
        rw [hxs, show cellR (rnOf ps) = c from HX.out.2] at hout
        have habX : Ab wq X := hmv.ab HH8.out.2.1 (fun k e => by have := HH8.out.2.2; omega)
        have c6 : X.cell? ⟨w6.heap.size, 0, none⟩ = some (.slice (some ⟨wq.heap.size, 0, none⟩) s s) := (hmv.cell HH8.out.1.lt (by have := HH8.out.2.2; omega) 0).trans (HH8.out.1.cell rfl)
        have hqX := HQ.out.ab habX
        have hbr := hqX.2.bk HW1.out.1
        have HX1 := Lib.hid (And.intro hD (And.intro hK1 (And.intro hqX (And.intro hout hbr))))
        have HBy := Lib.hid (bytesq X.drew (HX1.out.2.2.1.ab (Ab.refl X).drew))
        have HNE := Lib.hid (show w6.heap.size ≠ W.heap.size by have := HW1.out.2.2; have := HG.out; have := HH8.out.2.2.2; omega)
        have HXl := Lib.hid (show w6.heap.size < X.heap.size from Nat.lt_of_lt_of_le HH8.out.1.lt hmv.size)
        have r0 : X.cell? ⟨W.heap.size, 0, none⟩ = some (.bool false) := hbr.cell rfl
        have rz := hbr.free 0
        clear hD hK1 hmv hout habX hqX hbr hxs
        go_wp2_with fail
        go_region_held3 (fun wx => wx.cell? ⟨w6.heap.size, 0, none⟩ = some (.slice (some ⟨wq.heap.size, 0, none⟩) s s)) (first | exact c6 | exact q6 | exact z6 | exact y6) (first
          | (go_at_call 36; (with_reducible refine HBy.out.mono ?_); rintro e w9 ⟨A9, k9, rfl, ho9, hq9, ha9⟩; (have q6 := (ha9.cells w6.heap.size 0 HXl.out).trans c6); (have H9 := Lib.hid (And.intro ho9 (show Ab X w9 from (Ab.refl X).drew.trans ha9))); clear ho9 hq9 ha9)
          | (go_at_call 35; (refine (same_same w9 (HX1.out.2.2.2.1.ab H9.out.2).bs H9.out.1.bs).mono ?_); rintro e wz ⟨rfl, rfl⟩)
          | (go_at_call 38; (with_reducible refine (exlives_any w9).mono ?_); rintro e w10 ⟨rfl, ha10⟩; (have hX10 := H9.out.2.trans ha10); (have z6 := (hX10.cells w6.heap.size 0 HXl.out).trans c6); (have hb10 := hX10.bk HX1.out.2.2.2.2); (have r10 : w10.cell? ⟨W.heap.size, 0, none⟩ = some (.bool false) := hb10.cell rfl); (have rz10 := hb10.free 0); (have y6 : (w10.setCell ⟨W.heap.size, 0, none⟩ (.bool true)).cell? ⟨w6.heap.size, 0, none⟩ = some (.slice (some ⟨wq.heap.size, 0, none⟩) s s) := (cell_far (p := ⟨W.heap.size, 0, none⟩) HNE.out _).trans z6); (have H10 := Lib.hid hX10); clear hX10 hb10))
        have hD1 : w10.heap[D]? = some (.deferred (some [])) := (Below.block H10.out _ (Array.getElem?_eq_some_iff.1 HX1.out.2.1).1).trans HX1.out.2.1
        have HE := Lib.hid (And.intro hD1 (show W.heap.size ≤ D by have := HX1.out.1; have := HH8.out.2.1.size; have := HG.out; have := HW1.out.2.2; omega))
        clear hD1
        go_wp2_with fail
        have hK1 := (KeepsOthers.setCell w10 ⟨W.heap.size, 0, none⟩ (.bool true)).same D _ HE.out.1 rfl
        refine ⟨by simp, .inl ⟨_, _, rfl, run_takeDeferred hK1, ?_⟩⟩
        have hc4 := cell_kept (World.cell?_setCell_same' w10 ⟨W.heap.size, 0, none⟩ (.bool true) (by rw [r10]; rfl)) (grownBy_putObj' _ D (.deferred none)) (fun r e => by cases e; exact ⟨_, hK1, rfl⟩)
        refine ⟨.bool true, ?_, rfl, ?_⟩
        · simp [results, Try.f7, go_sem, hc4]
        · have hA := HW1.out.2.1.trans (HX1.out.2.2.1.2.trans H10.out)
          exact Below.trans (hA.set (Nat.le_refl _) _) (belowK_b (w := W) (Nat.le_refl _) _ D _ _ HE.out.2 hK1 rfl rfl)
      case bo1 =>
        rintro l2 pre ⟨f, u, bs⟩ X hl2 ⟨hmv, hout, hlast, hpre⟩ ⟨⟨pp, hpp, hpa, hpb⟩, hob⟩
        simp only at hpa hpb
        replace hob : Ob X w8.heap.size u bs := hob
        obtain ⟨hkp, hxk⟩ := List.getElem?_eq_some_iff.1 hpp
        have hrx : (rnOf ps)[pre.length]? = some (f, bs) := by
          rw [List.getElem?_eq_getElem (by rw [rnOf_length]; exact hkp), rnOf_get ps _ hkp, hxk, hpa, hpb]
        have hnx : rnOf (pre ++ [⟨f, u, bs⟩]) = rnOf pre ++ [(f, bs)] := by rw [rnOf_append]; rfl
        obtain ⟨hkr, hrk⟩ := List.getElem?_eq_some_iff.1 hrx
        have htk : rnOf pre ++ [(f, bs)] = (rnOf ps).take (pre.length + 1) := by rw [List.take_succ_eq_append_getElem hkr, hrk, ← hpre]
        have hris : Ris (rnOf pre ++ [(f, bs)]) := by
          have h1 := HX.out.1.ris
          rw [← List.take_append_drop (pre.length + 1) (rnOf ps)] at h1
          rw [htk]
          exact ((ris_append _ _).1 h1).1
        have hfin : f + bs.length ≤ s := HX.out.1.fin _ (List.mem_of_getElem? hrx)
        have hne : bs ≠ [] := ris_ne hris (f, bs) (by simp)
        have hlt := lastR_lt hris
        have hd := dat_snoc (s := s) hris
        rw [← hnx] at hd
        have hls : lastR (rnOf (pre ++ [⟨f, u, bs⟩])) = ((f + bs.length : Nat) : Int) := by rw [hnx]; exact lastR_snoc (rnOf pre) (f, bs)
        obtain ⟨A2, c2, rfl, hc1, hc2⟩ := hob.len_cap
        obtain ⟨gb, cb, hv, hgb1, hgb2, -, -, -, hcl⟩ := hob.form hne
        injection hv with hv1 hv2 hv3
        subst hv1; subst hv3
        clear hv2
        have c6 : X.cell? ⟨w6.heap.size, 0, none⟩ = some (.slice (some ⟨wq.heap.size, 0, none⟩) s s) := (hmv.cell HH8.out.1.lt (by have := HH8.out.2.2; omega) 0).trans (HH8.out.1.cell rfl)
        obtain ⟨la, hla⟩ : ∃ la, lastR (rnOf pre) = la := ⟨_, rfl⟩
        have c7 : X.cell? ⟨w6.heap.size + 1, 0, none⟩ = some (.int .i64 la) := by rw [← hla]; exact hlast.cell rfl
        obtain ⟨Lb, hLb⟩ : ∃ Lb, bs.length = Lb := ⟨_, rfl⟩
        have hl0 : 0 < Lb := by rcases Nat.eq_zero_or_pos Lb with h | h; exact absurd (List.eq_nil_of_length_eq_zero (hLb.trans h)) hne; exact h
        rw [hLb] at hfin hcl hnx hd hls
        rw [hla] at hlt
        obtain ⟨e, he⟩ : ∃ e, f + Lb = e := ⟨_, rfl⟩
        have e1 : (f : Int) + (Lb : Int) = (e : Int) := by omega
        have e2 : IntKind.i64.wrap (e : Int) = (e : Int) := IntWalk.i64_in _ (by omega)
        have e3 : ¬ (Lb : Int) = 0 := by omega
        have e4 : ¬ (f : Int) ≤ la := by omega
        have e5 : ¬ (s : Int) < (e : Int) := by omega
        have HT := Lib.hid (And.intro hmv (And.intro hout (And.intro hlast (And.intro hob (And.intro hLb (And.intro hd (And.intro hls (And.intro hnx (And.intro htk (And.intro hcl (And.intro hgb1 hgb2)))))))))))
        have HNN := Lib.hid (And.intro he (And.intro hfin hl0))
        clear hmv hout hlast hob hd hls hnx htk hcl hpp hpa hpb hkp hxk hrx hkr hrk hris hne hpre hlt hla hc1 hc2 hgb1 hgb2 hh hI0
        rw [hLb]
        clear hLb
        have HGN := Lib.hid (show wq.heap.size < w6.heap.size ∧ w6.heap.size + 2 ≤ w8.heap.size ∧ w8.heap.size ≤ gb ∧ gb < X.heap.size ∧ wq.heap.size < X.heap.size by
          have h1 := HH8.out.2.2; have h2 := HT.out.2.2.2.2.2.2.2.2.2.2; have h3 := HT.out.1.size; omega)
        gi_wp2
        gi_loopw [10, 11, 72] (fun _ _ i wr => ∃ j2 : Nat, j2 ≤ Lb ∧ i = .int .i64 (j2 : Int) ∧ Hid (Mv (fun k => k = wq.heap.size) X wr ∧ Ob wr W1.heap.size (.slice (some ⟨wq.heap.size, 0, none⟩) s s) (datR (wrC (cellR (rnOf pre)) f (bs.take j2)) s))) (fun _ _ i _ => Lb - (intOf i).toNat)
        case atStart => exact ⟨0, Nat.zero_le _, rfl, Lib.hid ⟨Mv.refl _ _, by rw [List.take_zero, wrC_nil]; exact HT.out.2.1⟩⟩
        case round =>
          obtain ⟨j2, hj2, rfl, HI2⟩ := hrel
          have d6 := (HI2.out.1.cell (show w6.heap.size < X.heap.size by have := HGN.out; omega) (by have := HGN.out; omega) 0).trans c6
          by_cases hlt2 : j2 < Lb
          · have d1 := (HI2.out.1.cell (show gb < X.heap.size from HGN.out.2.2.2.1) (by have := HGN.out; omega) j2).trans (HT.out.2.2.2.2.2.2.2.2.2.1 j2 hlt2)
            obtain ⟨x, hx⟩ : ∃ x, bs.getD j2 0 = x := ⟨_, rfl⟩
            rw [hx] at d1
            obtain ⟨q, hq⟩ : ∃ q, f + j2 = q := ⟨_, rfl⟩
            have hqs : q < s := by have := HNN.out; omega
            have f1 : (f : Int) + (j2 : Int) = (q : Int) := by omega
            have f2 : IntKind.i64.wrap (q : Int) = (q : Int) := IntWalk.i64_in _ (by omega)
            have f3 : (0 : Int) ≤ (q : Int) := by omega
            have f4 : (q : Int) < (s : Int) := by omega
            have f5 : (0 : Int) ≤ (j2 : Int) := by omega
            have f6 : (j2 : Int) < (Lb : Int) := by omega
            have hdl := datR_length (wrC (cellR (rnOf pre)) f (bs.take j2)) s
            obtain ⟨gg, cc, hv, -, -, -, -, hfr, hcc⟩ := HI2.out.2.form (by intro e; rw [e] at hdl; simp at hdl; omega)
            injection hv with hv1 hv2 hv3
            injection hv1 with hv1
            injection hv1 with hv1 hv4
            subst hv1
            clear hv2 hv3 hv4
            have d2 := hcc q (by rw [hdl]; exact hqs)
            have d3 := hfr q
            obtain ⟨y, hy⟩ : ∃ y, n8 ((datR (wrC (cellR (rnOf pre)) f (bs.take j2)) s).getD q 0) = y := ⟨_, rfl⟩
            rw [hy] at d2
            have hset := HI2.out.2.set q x
            have hds := datR_set (wrC (cellR (rnOf pre)) f (bs.take j2)) s q (some x)
            rw [← hq, ← hx, wrC_step _ _ _ _ (by rw [HT.out.2.2.2.2.1]; exact hlt2)] at hds
            rw [hq, hx] at hds
            have hds' : (datR (wrC (cellR (rnOf pre)) f (bs.take j2)) s).set q x = datR (wrC (cellR (rnOf pre)) f (bs.take (j2 + 1))) s := hds
            rw [hds'] at hset
            have hmv9 : Mv (fun k => k = wq.heap.size) X (wr.setCell ⟨wq.heap.size, q, none⟩ (.int .u8 (n8 x))) := HI2.out.1.set (p := ⟨wq.heap.size, q, none⟩) rfl _
            have H9 := Lib.hid (And.intro hlt2 (And.intro hmv9 hset))
            clear hdl hcc hfr hy hset hds hds' hmv9 hx hq hqs hlt2
            gi_wp2
            go_roundw
            case rel => exact ⟨j2 + 1, H9.out.1, by go_num, Lib.hid ⟨H9.out.2.1, H9.out.2.2⟩⟩
            case measure => have := H9.out.1; simp [intOf]; omega
          · have f6 : ¬ (j2 : Int) < (Lb : Int) := by omega
            have hjl : j2 = Lb := by omega
            have hbl := HI2.out.1.bk HT.out.2.2.1 (by have := HGN.out; omega)
            have d7 : wr.cell? ⟨w6.heap.size + 1, 0, none⟩ = some (.int .i64 la) := (HI2.out.1.cell (show w6.heap.size + 1 < X.heap.size by have := HGN.out; omega) (by have := HGN.out; omega) 0).trans c7
            have d8 := hbl.free 0
            have hob2 := HI2.out.2
            rw [hjl, List.take_of_length_le (by rw [HT.out.2.2.2.2.1]; exact Nat.le_refl _), HT.out.2.2.2.2.2.1] at hob2
            have hmv9 : Mv (fun k => k = w6.heap.size + 1) wr (wr.setCell ⟨w6.heap.size + 1, 0, none⟩ (.int .i64 (e : Int))) := Mv.set (S := fun k => k = w6.heap.size + 1) (Mv.refl _ _) (p := ⟨w6.heap.size + 1, 0, none⟩) rfl _
            have hob3 := hmv9.ob hob2 (fun k hk e => by
              have : wq.heap.size = k := by simpa [Value.ownBlock] using hk
              have := HGN.out; omega)
            have hb3 := hbl.store 0 (.int .i64 (e : Int))
            have H9 := Lib.hid (And.intro hob3 (And.intro hb3 (And.intro HI2.out.1 hmv9)))
            clear hbl hob2 hmv9 hob3 hb3 hjl hlt2
            gi_wp2
            exact ⟨(H9.out.2.2.1.mono fun _ _ e => .inl (.inl e)).trans (H9.out.2.2.2.mono fun _ _ e => .inl (.inr e)), (HT.out.1.trans (H9.out.2.2.1.mono fun _ _ e => .inl e)).trans (H9.out.2.2.2.mono fun _ _ e => .inr e), H9.out.1,
              by rw [HT.out.2.2.2.2.2.2.1, HNN.out.1]; exact H9.out.2.1, by rw [HT.out.2.2.2.2.2.2.2.1, HT.out.2.2.2.2.2.2.2.2.1, List.length_append, List.length_singleton]⟩
end Go.Proofs.Ytlbkfnmhcgildaa.Dg

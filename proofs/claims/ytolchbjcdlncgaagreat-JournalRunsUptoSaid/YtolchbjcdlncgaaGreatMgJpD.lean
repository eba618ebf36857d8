/- Texts joined: JpD JpE. -/
import Derived.Test.YtolchbjcdlncgaaGreatMgJpC
/- The pair: ready. -/
namespace Go.Proofs.YtolchbjcdlncgaaGreat.Dg
open Go.RowKit
variable {W w w' : World} {gp g gj gk g2 torn torn' B C base : Nat} {v v2 row u y pj pk : Value} {rs : List (List UInt8)} {d r : Dst} {l m : List UInt8}
attribute [local go_sem ↓] Go.wp_at_zero Go.wp_at_succ
def ReadyPost (w : World) (n : Int) (e : Ending) (w' : World) : Prop :=
  ((n < 1 ∨ 4194304 < n) ∧ e = .returned (.tuple #[.pointer none, .bool true]) ∧ Ab w w') ∨
  ((1 ≤ n ∧ n ≤ 4194304) ∧ ∃ gp, e = .returned (.tuple #[.pointer (some ⟨gp, 0, none⟩), .bool true]) ∧ ∃ g gj gk g2 row v v2, Pw w w' gp g gj gk g2 row v v2 (Dst.new n.toNat) (Dst.new n.toNat) 0 0 [])
theorem al_refl (d : Dst) (h : d.lim = none) : Al d d := ⟨none, by cases d; simp_all, by rw [h]; trivial⟩
theorem opened_new (n : Nat) : opened (Dst.new n) = Dst.new n ∧ tornD (Dst.new n) = 0 ∧ recsOf (Dst.new n).bytes = [] := by
  have h1 : recsOf (Dst.new n).bytes = [] := recsOf_bad ufE_nil
  have h2 : tornD (Dst.new n) = 0 := by unfold tornD; rw [h1]; rfl
  refine ⟨?_, h2, h1⟩
  unfold opened
  rw [h1]
  rfl
theorem pd_made (W w1 w2 : World) (n : Nat) (hd : Dk w1 W.heap.size W.heap.size (.slice none 0 0) (Dst.new n)) (ha1 : Ab W w1) (hr : Rk w2 W.heap.size w1.heap.size (.slice none 0 0) (Dst.new n)) (ha2 : Ab w1 w2) :
    Pd W (w2.alloc (.cells #[.pointer (some ⟨W.heap.size, 0, none⟩), .pointer none, .pointer (some ⟨w1.heap.size, 0, none⟩), .pointer none] 47)) w2.heap.size W.heap.size w1.heap.size (.slice none 0 0) (.slice none 0 0) (Dst.new n) (Dst.new n) (.pointer none) (.pointer none) :=
  ⟨(hd.ab ha2).ab ((Ab.refl w2).alloc _), hr.ab ((Ab.refl w2).alloc _), al_refl _ rfl, fun k h1 h2 => by
    rcases h1 with rfl | h1
    · rcases h2 with h2 | h2
      · have := hd.1.lt; omega
      · simp [Value.ownBlock] at h2
    · simp [Value.ownBlock] at h1, Bk.made w2 _ _, Nat.le_trans ha1.size ha2.size, (ha1.trans ha2).alloc _⟩
set_option maxRecDepth 100000 in
set_option maxHeartbeats 2000000 in
theorem pready_any (w : World) (n : Int) : Calls Tryz.prog 6 #[.int .i64 n] w (ReadyPost w n) := by
  by_cases hbig : 4194304 < n
  · go_enter Tryz.func6, Tryz.ntmps6
    go_wp2_with fail
    go_ret2
    exact .inl ⟨.inr hbig, rfl, Ab.refl w⟩
  by_cases hsm : n < 1
  · have h1 : Calls Tryz.prog 10 #[.int .i64 n] w fun e w' => e = .returned (.tuple #[.pointer none, .int .i64 22]) ∧ w = w' := (New_any w n).mono fun e w' h => by
      rcases h with ⟨_, h⟩ | ⟨h, _⟩
      · exact h
      · omega
    have h2 : Calls Tryz.prog 11 #[.int .i64 n] w fun e w' => e = .returned (.tuple #[.pointer none, .int .i64 22]) ∧ w = w' := (rnew_any w n).mono fun e w' h => by
      rcases h with ⟨_, h⟩ | ⟨h, _⟩
      · exact h
      · omega
    have H1 := Lib.hid h1
    have H2 := Lib.hid h2
    have HS := Lib.hid hsm
    clear h1 h2 hsm
    go_enter Tryz.func6, Tryz.ntmps6
    go_wp2_with (first | (go_at_call 10; (with_reducible refine H1.out.mono ?_); rintro e w2 ⟨rfl, rfl⟩) | (go_at_call 11; (with_reducible refine H2.out.mono ?_); rintro e w2 ⟨rfl, rfl⟩) | (go_at_call 12; (with_reducible refine (jnum_any 22 w).mono ?_); rintro e w2 ⟨rfl, rfl⟩))
    go_ret2
    exact .inl ⟨.inl HS.out, rfl, Ab.refl w⟩
  obtain ⟨k, rfl⟩ : ∃ k : Nat, n = (k : Int) := ⟨n.toNat, by omega⟩
  have h1 : Calls Tryz.prog 10 #[.int .i64 (k : Int)] w fun e w' => e = .returned (.tuple #[.pointer (some ⟨w.heap.size, 0, none⟩), .int .i64 0]) ∧ Dk w' w.heap.size w.heap.size (.slice none 0 0) (Dst.new k) ∧ Ab w w' := (New_any w (k : Int)).mono fun e w' h => by
    rcases h with ⟨h, _⟩ | ⟨_, h3, h4, h5⟩
    · omega
    · exact ⟨h3, h4 _ (Nat.le_refl _), h5⟩
  have h2 : ∀ wx, w.heap.size ≤ wx.heap.size → Calls Tryz.prog 11 #[.int .i64 (k : Int)] wx fun e w' => e = .returned (.tuple #[.pointer (some ⟨wx.heap.size, 0, none⟩), .int .i64 0]) ∧ Rk w' w.heap.size wx.heap.size (.slice none 0 0) (Dst.new k) ∧ Ab wx w' := fun wx hx => (rnew_any wx (k : Int)).mono fun e w' h => by
    rcases h with ⟨h, _⟩ | ⟨_, h3, h4, h5⟩
    · omega
    · exact ⟨h3, h4 _ hx, h5⟩
  have H1 := Lib.hid h1
  have H2 := Lib.hid h2
  have HK := Lib.hid (And.intro hbig hsm)
  have hk4 : ¬ 4194304 < (k : Int) := hbig
  clear h1 h2 hsm hbig
  go_enter Tryz.func6, Tryz.ntmps6
  go_wp2_with (first | (go_at_call 10; (with_reducible refine H1.out.mono ?_); rintro e w1 ⟨rfl, hd1, ha1⟩; (have HD1 := Lib.hid (And.intro hd1 ha1)); clear hd1 ha1) | (go_at_call 11; (with_reducible refine (H2.out w1 HD1.out.2.size).mono ?_); rintro e w2 ⟨rfl, hr2, ha2⟩; (have HR2 := Lib.hid (And.intro hr2 ha2)); clear hr2 ha2) | (go_at_call 12; (with_reducible refine (jnum_any 0 w2).mono ?_); rintro e wz ⟨rfl, rfl⟩))
  refine (open_any (pd_made w w1 w2 k HD1.out.1 HD1.out.2 HR2.out.1 HR2.out.2) rfl rfl).mono ?_
  rintro e w5 ⟨rfl, gj, gk, row, v, v2, hp⟩
  rw [(opened_new k).1, (opened_new k).2.1, (opened_new k).2.2] at hp
  have HP := Lib.hid hp
  clear hp
  go_wp2_with fail
  go_ret2
  exact .inr ⟨by have := HK.out; omega, w2.heap.size, rfl, _, _, _, _, _, _, _, HP.out⟩
end Go.Proofs.YtolchbjcdlncgaaGreat.Dg

/- The document's example of journals. -/
namespace Go.Proofs.YtolchbjcdlncgaaGreat.Dg
open Go.RowKit
variable {W w w' : World} {gp g gj gk g2 torn torn' B C base s : Nat} {v v2 row u y pj pk : Value} {rs : List (List UInt8)} {d r : Dst} {l m : List UInt8}
attribute [local go_sem ↓] Go.wp_at_zero Go.wp_at_succ
/-- The disk of 1000 bytes that holds these frames. -/
def dK (s : Nat) (rs : List (List UInt8)) : Dst := ⟨1000, 0, s, framesL rs, none⟩
theorem dK_fin (s : Nat) (rs : List (List UInt8)) : (dK s rs).fin = sizeL rs := by
  show 0 + (framesL rs).length = _
  rw [framesL_length]; omega
theorem aw_app (w : World) (h : Jt w base gj g row torn v (dK s rs) rs) (hx : Bs w B u l) (hB : B ≤ w.heap.size) (hbase : base ≤ w.heap.size) (n : Nat) (hn : sizeL rs = n) (h1 : n + 8 + l.length ≤ 1000) :
    Calls Tryz.prog 20 #[.pointer (some ⟨gj, 0, none⟩), u] w fun e w' => e = .returned (.tuple #[.int .i64 (n : Int), .int .i64 0]) ∧ ∃ row' v', Jt w' base gj g row' torn v' (dK s (rs ++ [l])) (rs ++ [l]) ∧ JTurn gj g row v row' v' w w' := by
  have hfit : (dK s rs).fits (8 + l.length) = true := by
    refine decide_eq_true ?_
    show 8 + l.length ≤ 1000 - (framesL rs).length
    rw [framesL_length]; omega
  have hf : appJ (dK s rs) l = true := by unfold appJ; rw [hfit, decide_eq_true (by omega)]; rfl
  have hE : appJE (dK s rs) l = 0 := by unfold appJE; rw [hfit, decide_eq_true (by omega)]; rfl
  refine (JAppend_any w h hx hB hbase (.inl (by rw [dK_fin]; omega))).mono ?_
  rintro e w' ⟨k, hk, he, row', v', d', rs', hj, ht, hd, hr⟩
  rw [hf] at hk hd hr
  rw [hE] at he
  have hk2 : k = n := by rw [hk]; show (dK s rs).fin = n; rw [dK_fin, hn]
  have hd2 : d' = dK s (rs ++ [l]) := by
    rw [hd]
    show (⟨1000, 0, s, framesL rs ++ frameL l, none⟩ : Dst) = ⟨1000, 0, s, framesL (rs ++ [l]), none⟩
    rw [framesL_append, framesL, framesL, List.append_nil]
  have hr2 : rs' = rs ++ [l] := hr
  rw [hd2, hr2] at hj
  rw [hk2] at he
  exact ⟨he, row', v', hj, ht⟩
theorem aw_sync (w : World) (h : Jt w base gj g row torn v (dK s rs) rs) (n : Nat) (hn : sizeL rs = n) :
    Calls Tryz.prog 22 #[.pointer (some ⟨gj, 0, none⟩)] w fun e w' => e = .returned (.int .i64 0) ∧ Jt w' base gj g row torn v (dK n rs) rs ∧ JTurn gj g row v row v w w' := by
  have e : (dK s rs).sync = dK n rs := by
    have hc : (dK s rs).cold = false := rfl
    unfold Dst.sync
    rw [hc, dK_fin, hn]
    rfl
  have := JSync_any w h
  rw [e] at this
  exact this
def aR : List (List UInt8) := [[97], [98, 99]]
/-- Behind the crash. -/
def dC : Dst := ⟨1000, 0, 22, (framesL (aR ++ [[100]])).take 22, none⟩
theorem aR_size : sizeL aR = 19 := rfl
theorem aR3_size : sizeL (aR ++ [[100]]) = 28 := rfl
theorem aR_small : AllSmall aR := fun r hr => by
  simp only [aR, List.mem_cons, List.not_mem_nil, or_false] at hr
  rcases hr with rfl | rfl <;> simp
theorem dC_bytes : dC.bytes = framesL aR ++ (frameL [100]).take 3 := by
  show (framesL (aR ++ [[100]])).take 22 = _
  rw [framesL_append, List.take_append, framesL_length, aR_size, List.take_of_length_le (by rw [framesL_length, aR_size]; omega)]
  simp [framesL]
theorem dC_recs : recsOf dC.bytes = aR := by
  rw [dC_bytes]
  refine recs_frames _ ?_ aR aR_small
  unfold ufE
  rw [if_pos (by rw [List.length_take]; omega)]
  omega
theorem dC_len : dC.bytes.length = 22 := by rw [dC_bytes, List.length_append, framesL_length, aR_size, List.length_take, frameL_length]; rfl
theorem dC_torn : tornD dC = 3 := by
  unfold tornD Dst.fin
  rw [dC_recs, dC_len, aR_size]
  rfl
theorem aw_crash (w : World) (h : Dk w base g v (dK 19 (aR ++ [[100]]))) :
    Calls Tryz.prog 29 #[.pointer (some ⟨g, 0, none⟩), .int .i64 3] w fun e w' => e = .returned (.tuple #[]) ∧ ∃ v', Dk w' base g v' dC ∧ Turn g v v' w w' := by
  have e : (dK 19 (aR ++ [[100]])).crash 3 = dC := by
    have h2 : (dK 19 (aR ++ [[100]])).crashTo 3 = 22 := by
      unfold Dst.crashTo
      rw [dK_fin, aR3_size]
      rfl
    unfold Dst.crash
    rw [h2]
    rfl
  have := Crash_any w h 3 (by omega)
  rw [e] at this
  exact this
theorem aw_open (w : World) (h : Dk w base g v dC) (hbase : base ≤ w.heap.size) :
    Calls Tryz.prog 19 #[.pointer (some ⟨g, 0, none⟩)] w fun e w' => ∃ gj row v', e = .returned (.tuple #[.pointer (some ⟨gj, 0, none⟩), .int .i64 0]) ∧ Jt w' base gj g row 3 v' (opened dC) aR ∧ Turn g v v' w w' :=
  (Open_any w h rfl hbase).mono fun e w' ⟨gj, row, v', he, hj, ht, _⟩ => by
    rw [dC_torn, dC_recs] at hj
    exact ⟨gj, row, v', he, hj, ht⟩
theorem bs_made (w : World) (cs : List UInt8) (n : Nat) (hn : cs.length = n) (t : n ≤ 1000) : Bs (w.alloc (.cells (cs.map u8v).toArray 5)) (w.alloc (.cells (cs.map u8v).toArray 5)).heap.size (.slice (some ⟨w.heap.size, 0, none⟩) n n) cs := by
  subst hn
  have := bs_row (l := cs) (heap_alloc_new w (.cells (cs.map u8v).toArray 5)) (by omega)
  rw [World.size_alloc]
  exact this
end Go.Proofs.YtolchbjcdlncgaaGreat.Dg

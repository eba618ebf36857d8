/- The walk through WireStates. Made by wip/gen_laws.py. -/
import Derived.Test.YtniodjigncicbaaWrYt
import Derived.Test.YtniodjigncicbaaWrH
namespace Go.Proofs.Ytniodjigncicbaa.Dg
open Go.RowKit
attribute [local go_sem ↓] Go.wp_at_zero Go.wp_at_succ
theorem EncF.lift2 {W w : World} {s : Sch} {f : Nat → Option Value} {m : List UInt8} (h : EncF W W.heap.size s f m) (ha : Ab W w) : EncF w w.heap.size s f m := (h.ab ha (Nat.le_refl _)).more ha.size
theorem Bs.lift2 {W w : World} {v : Value} {m : List UInt8} (h : Bs W W.heap.size v m) (ha : Ab W w) : Bs w w.heap.size v m := (h.ab ha (Nat.le_refl _)).more ha.size
theorem Ts.lift2 {W w : World} {v : Value} {ss : List ByteArray} (h : Ts W W.heap.size v ss) (ha : Ab W w) : Ts w w.heap.size v ss := (h.ab ha (Nat.le_refl _)).more ha.size
theorem same_eq2 {B C : Nat} {u v : Value} {l : List UInt8} (w : World) (h : Bs w B v l) (k : Bs w C u l) : Calls Try.prog 8 #[v, u] w fun e w' => e = .returned (.bool true) ∧ w = w' :=
  (same_any w h k).mono fun _ _ ⟨h1, h2⟩ => ⟨by rw [h1]; simp, h2⟩
theorem par_texts (ss : List ByteArray) (h : (textsL ss).length ≤ 100000000) : Par (.list .text) (textsL ss) := by
  have hl : (textsL ss).length = 4 + (catL ss).length := by rw [textsL, List.length_append, lowL_length]
  have hc := length_le_cat ss
  refine ⟨ss.map fun s => textL s.data.toList, by rw [List.length_map]; rfl, by rw [List.length_map]; omega, fun x hx => ?_⟩
  have h1 : x.length ≤ (catL ss).length := mem_flat_len hx
  obtain ⟨s, -, rfl⟩ := List.mem_map.1 hx
  refine ⟨s.data.toList, rfl, ?_⟩
  rw [textL, List.length_append, lowL_length] at h1
  omega
theorem texts_of {w : World} {base : Nat} {A : Option Addr} {q c : Nat} {ss : List ByteArray} (h : EncF w base (.list .text) (fun k => (#[.slice A q c] : Array Value)[k]?) (textsL ss)) (hl : (textsL ss).length ≤ 100000000) : Ts w base (.slice A q c) ss := by
  obtain ⟨v, tt, hv, ht, he⟩ := enc_ts h
  have hv' : some (Value.slice A q c) = some v := hv
  injection hv' with hv'
  subst hv'
  rw [textsL_inj (by omega) he]
  exact ht
set_option maxRecDepth 100000 in
set_option maxHeartbeats 8000000 in
theorem states_walk (W : World) (mx0 : Int) (mx1 : Int) (mx2 : Int) (mA3 : Option Addr) (mq3 mc3 : Nat) (mA4 : Option Addr) (mq4 mc4 : Nat) (mA5 : Option Addr) (mq5 mc5 : Nat) (iA0 : Option Addr) (iq0 ic0 : Nat) (u : Value) (ss : List ByteArray) (bM bI : List UInt8) (hm : EncF W W.heap.size (.pair .num (.pair (.pair .num .num) (.pair (.list (.pair (.pair .num .num) (.pair .bool (.pair .num (.pair .text (.pair .num .num)))))) (.pair (.list (.pair .num (.pair .num (.pair .num (.pair .num .num))))) (.list (.pair .text (.pair (.pair .num .num) .word))))))) (fun k => (#[.int .i64 mx0, .int .i64 mx1, .int .i64 mx2, .slice mA3 mq3 mc3, .slice mA4 mq4 mc4, .slice mA5 mq5 mc5] : Array Value)[k]?) bM) (hi : EncF W W.heap.size (.list (.pair .num (.pair (.pair .num .num) (.pair .text (.pair .num (.pair .num (.pair .text .data))))))) (fun k => (#[.slice iA0 iq0 ic0] : Array Value)[k]?) bI) (hts : Ts W W.heap.size u ss) (lm : bM.length ≤ 100000000) (li : bI.length ≤ 100000000) (ll : (textsL ss).length ≤ 100000000) :
    Calls Try.prog 4 #[.agg #[.int .i64 mx0, .int .i64 mx1, .int .i64 mx2, .slice mA3 mq3 mc3, .slice mA4 mq4 mc4, .slice mA5 mq5 mc5], .agg #[.slice iA0 iq0 ic0], u] W fun e w' => e = .returned (.bool true) ∧ Ab W w' := by
  obtain ⟨uA, uc, rfl, -⟩ := id hts
  have hab : Ab W ((W.alloc (.cells #[.int .i64 mx0, .int .i64 mx1, .int .i64 mx2, .slice mA3 mq3 mc3, .slice mA4 mq4 mc4, .slice mA5 mq5 mc5] 48)).alloc (.cells #[.slice iA0 iq0 ic0] 51)) := ((Ab.refl W).alloc _).alloc _
  have hb1 : Bk ((W.alloc (.cells #[.int .i64 mx0, .int .i64 mx1, .int .i64 mx2, .slice mA3 mq3 mc3, .slice mA4 mq4 mc4, .slice mA5 mq5 mc5] 48)).alloc (.cells #[.slice iA0 iq0 ic0] 51)) W.heap.size 48 #[.int .i64 mx0, .int .i64 mx1, .int .i64 mx2, .slice mA3 mq3 mc3, .slice mA4 mq4 mc4, .slice mA5 mq5 mc5] := (Bk.made W _ _).alloc _
  have hb2 : Bk ((W.alloc (.cells #[.int .i64 mx0, .int .i64 mx1, .int .i64 mx2, .slice mA3 mq3 mc3, .slice mA4 mq4 mc4, .slice mA5 mq5 mc5] 48)).alloc (.cells #[.slice iA0 iq0 ic0] 51)) (W.heap.size + 1) 51 #[.slice iA0 iq0 ic0] := Bk.new (by simp)
  have HPM := Lib.hid (EncF.par _ _ _ hm (by omega))
  have HPI := Lib.hid (EncF.par _ _ _ hi (by omega))
  have HPL := Lib.hid (par_texts ss ll)
  have HL := Lib.hid (And.intro lm (And.intro li ll))
  have HU := Lib.hid hts
  clear lm li ll
  go_enter Try.func4, Try.ntmps4
  go_wp2_with fail
  obtain ⟨w2, hw2⟩ : ∃ w2, ((W.alloc (.cells #[.int .i64 mx0, .int .i64 mx1, .int .i64 mx2, .slice mA3 mq3 mc3, .slice mA4 mq4 mc4, .slice mA5 mq5 mc5] 48)).alloc (.cells #[.slice iA0 iq0 ic0] 51)) = w2 := ⟨_, rfl⟩
  rw [hw2] at hab hb1 hb2 ⊢
  have HM := Lib.hid (fun wx (hx : Ab w2 wx) => hm.lift2 (hab.trans hx))
  have HI := Lib.hid (fun wx (hx : Ab w2 wx) => hi.lift2 (hab.trans hx))
  have HT := Lib.hid (fun wx (hx : Ab w2 wx) => hts.lift2 (hab.trans hx))
  have HS := Lib.hid (fun wx (hx : Ab w2 wx) => (show wx.cell? ⟨W.heap.size, 0, none⟩ = some (.int .i64 mx0) ∧ wx.cell? ⟨W.heap.size, 1, none⟩ = some (.int .i64 mx1) ∧ wx.cell? ⟨W.heap.size, 2, none⟩ = some (.int .i64 mx2) ∧ wx.cell? ⟨W.heap.size, 3, none⟩ = some (.slice mA3 mq3 mc3) ∧ wx.cell? ⟨W.heap.size, 4, none⟩ = some (.slice mA4 mq4 mc4) ∧ wx.cell? ⟨W.heap.size, 5, none⟩ = some (.slice mA5 mq5 mc5) ∧ wx.cell? ⟨W.heap.size + 1, 0, none⟩ = some (.slice iA0 iq0 ic0) from ⟨(hx.bk hb1).cell rfl, (hx.bk hb1).cell rfl, (hx.bk hb1).cell rfl, (hx.bk hb1).cell rfl, (hx.bk hb1).cell rfl, (hx.bk hb1).cell rfl, (hx.bk hb2).cell rfl⟩))
  have HW := Lib.hid hab
  have HB := Lib.hid (And.intro hb1 hb2)
  clear hm hi hts hab hb1 hb2 hw2
  go_region_held3 (fun wx => wx.cell? ⟨W.heap.size, 0, none⟩ = some (.int .i64 mx0) ∧ wx.cell? ⟨W.heap.size, 1, none⟩ = some (.int .i64 mx1) ∧ wx.cell? ⟨W.heap.size, 2, none⟩ = some (.int .i64 mx2) ∧ wx.cell? ⟨W.heap.size, 3, none⟩ = some (.slice mA3 mq3 mc3) ∧ wx.cell? ⟨W.heap.size, 4, none⟩ = some (.slice mA4 mq4 mc4) ∧ wx.cell? ⟨W.heap.size, 5, none⟩ = some (.slice mA5 mq5 mc5) ∧ wx.cell? ⟨W.heap.size + 1, 0, none⟩ = some (.slice iA0 iq0 ic0)) (exact HS.out _ (by repeat (first | with_reducible exact Ab.refl _ | with_reducible assumption | with_reducible refine Ab.drew ?_ | with_reducible refine Ab.alloc ?_ _))) (first
    | (go_at_call 15; (refine (wire_State mx0 mx1 mx2 mA3 mq3 mc3 mA4 mq4 mc4 mA5 mq5 mc5 bM _ (HM.out _ (by repeat (first | with_reducible exact Ab.refl _ | with_reducible assumption | with_reducible refine Ab.drew ?_ | with_reducible refine Ab.alloc ?_ _))) HL.out.1).mono ?_); rintro e w3 ⟨v3, rfl, ho3, ha3⟩; (obtain ⟨A3, c3, rfl, -⟩ := id ho3.bs); (have ab3 : Ab w2 w3 := Ab.trans (by repeat (first | with_reducible exact Ab.refl _ | with_reducible assumption | with_reducible refine Ab.drew ?_ | with_reducible refine Ab.alloc ?_ _)) ha3); (have H3 := Lib.hid (fun wx (hx : Ab w3 wx) => ho3.bs.lift2 hx)); clear ho3 ha3)
    | (go_at_call 16; (refine (wire_Tx iA0 iq0 ic0 bI _ (HI.out _ (by repeat (first | with_reducible exact Ab.refl _ | with_reducible assumption | with_reducible refine Ab.drew ?_ | with_reducible refine Ab.alloc ?_ _))) HL.out.2.1).mono ?_); rintro e w4 ⟨v4, rfl, ho4, ha4⟩; (obtain ⟨A4, c4, rfl, -⟩ := id ho4.bs); (have ab34 : Ab w3 w4 := Ab.trans (by repeat (first | with_reducible exact Ab.refl _ | with_reducible assumption | with_reducible refine Ab.drew ?_ | with_reducible refine Ab.alloc ?_ _)) ha4); (have ab4 : Ab w2 w4 := ab3.trans ab34); (have H4 := Lib.hid (fun wx (hx : Ab w4 wx) => ho4.bs.lift2 hx)); (have H34 := Lib.hid (fun wx (hx : Ab w4 wx) => H3.out wx (ab34.trans hx))); clear ho4 ha4 ab34)
    | (go_at_call 17; (refine (strings_any ss _ _ (HT.out _ (by repeat (first | with_reducible exact Ab.refl _ | with_reducible assumption | with_reducible refine Ab.drew ?_ | with_reducible refine Ab.alloc ?_ _))) (by have := HL.out.2.2; omega)).mono ?_); rintro e w5 ⟨v5, rfl, ho5, ha5⟩; (obtain ⟨A5, c5, rfl, -⟩ := id ho5.bs); (have ab45 : Ab w4 w5 := Ab.trans (by repeat (first | with_reducible exact Ab.refl _ | with_reducible assumption | with_reducible refine Ab.drew ?_ | with_reducible refine Ab.alloc ?_ _)) ha5); (have ab5 : Ab w2 w5 := ab4.trans ab45); (have H5 := Lib.hid (fun wx (hx : Ab w5 wx) => ho5.bs.lift2 hx)); (have H35 := Lib.hid (fun wx (hx : Ab w5 wx) => H34.out wx (ab45.trans hx))); (have H45 := Lib.hid (fun wx (hx : Ab w5 wx) => H4.out wx (ab45.trans hx))); clear ho5 ha5 ab45))
  have p0 : w5.cell? ⟨W.heap.size, 0, none⟩ = some (.int .i64 mx0) := (ab5.bk HB.out.1).cell rfl
  have p1 : w5.cell? ⟨W.heap.size, 1, none⟩ = some (.int .i64 mx1) := (ab5.bk HB.out.1).cell rfl
  have p2 : w5.cell? ⟨W.heap.size, 2, none⟩ = some (.int .i64 mx2) := (ab5.bk HB.out.1).cell rfl
  have p3 : w5.cell? ⟨W.heap.size, 3, none⟩ = some (.slice mA3 mq3 mc3) := (ab5.bk HB.out.1).cell rfl
  have p4 : w5.cell? ⟨W.heap.size, 4, none⟩ = some (.slice mA4 mq4 mc4) := (ab5.bk HB.out.1).cell rfl
  have p5 : w5.cell? ⟨W.heap.size, 5, none⟩ = some (.slice mA5 mq5 mc5) := (ab5.bk HB.out.1).cell rfl
  have r0 : w5.cell? ⟨W.heap.size + 1, 0, none⟩ = some (.slice iA0 iq0 ic0) := (ab5.bk HB.out.2).cell rfl
  go_wp2_with (first
    | (go_at_call 18; (with_reducible refine (ref_State mx0 mx1 mx2 mA3 mq3 mc3 mA4 mq4 mc4 mA5 mq5 mc5 bM w5 (HM.out w5 ab5) HL.out.1).mono ?_); rintro e w6 ⟨v6, rfl, ho6, ha6⟩; (obtain ⟨A6, c6, rfl, -⟩ := id ho6.bs); (have ab6 : Ab w5 w6 := ha6); (have H6 := Lib.hid ho6.bs); (have s0 : w6.cell? ⟨W.heap.size + 1, 0, none⟩ = some (.slice iA0 iq0 ic0) := ((ab5.trans ab6).bk HB.out.2).cell rfl); clear ho6 ha6)
    | (go_at_call 8; (with_reducible refine (same_eq2 w6 (H35.out w6 ab6) H6.out).mono ?_); rintro e wz ⟨rfl, rfl⟩)
    | (go_at_call 19; (with_reducible refine (ref_Tx iA0 iq0 ic0 bI w6 (HI.out w6 (ab5.trans ab6)) HL.out.2.1).mono ?_); rintro e w7 ⟨v7, rfl, ho7, ha7⟩; (obtain ⟨A7, c7, rfl, -⟩ := id ho7.bs); (have ab7 : Ab w5 w7 := ab6.trans ha7); (have H7 := Lib.hid ho7.bs); clear ho7 ha7)
    | (go_at_call 8; (with_reducible refine (same_eq2 w7 (H45.out w7 ab7) H7.out).mono ?_); rintro e wz ⟨rfl, rfl⟩)
    | (go_at_call 20; (with_reducible refine (ref_Strings ss _ w7 (HT.out w7 (ab5.trans ab7)) HL.out.2.2).mono ?_); rintro e w8 ⟨v8, rfl, ho8, ha8⟩; (obtain ⟨A8, c8, rfl, -⟩ := id ho8.bs); (have ab8 : Ab w5 w8 := ab7.trans ha8); (have H8 := Lib.hid ho8.bs); clear ho8 ha8)
    | (go_at_call 8; (with_reducible refine (same_eq2 w8 (H5.out w8 ab8) H8.out).mono ?_); rintro e wz ⟨rfl, rfl⟩)
    | (go_at_call 21; (with_reducible refine (wread_State bM w8 (H35.out w8 ab8) HPM.out HL.out.1).mono ?_); rintro e w9 ⟨xx0, xx1, xx2, xA3, xq3, xc3, xA4, xq4, xc4, xA5, xq5, xc5, rfl, he9, ha9⟩; (have ab9 : Ab w5 w9 := ab8.trans ha9); (have HX := Lib.hid (fun wx (hx : Ab w9 wx) => (he9.encF (fun b hb => hb.2)).lift2 hx)); clear he9 ha9)
    | (go_at_call 22; (with_reducible refine (wread_Tx bI _ (H45.out _ (by repeat (first | with_reducible exact Ab.refl _ | with_reducible assumption | with_reducible refine Ab.drew ?_ | with_reducible refine Ab.alloc ?_ _))) HPI.out HL.out.2.1).mono ?_); rintro e w10 ⟨yA0, yq0, yc0, rfl, he10, ha10⟩; (have hbx : Bk w10 w9.heap.size 48 #[.int .i64 xx0, .int .i64 xx1, .int .i64 xx2, .slice xA3 xq3 xc3, .slice xA4 xq4 xc4, .slice xA5 xq5 xc5] := ha10.bk (Bk.made _ _ _)); (have BX10 := Lib.hid hbx); (have ab910 : Ab w9 w10 := Ab.trans (by repeat (first | with_reducible exact Ab.refl _ | with_reducible assumption | with_reducible refine Ab.drew ?_ | with_reducible refine Ab.alloc ?_ _)) ha10); (have ab10 : Ab w5 w10 := ab9.trans ab910); (have HY := Lib.hid (fun wx (hx : Ab w10 wx) => (he10.encF (fun b hb => hb.2)).lift2 hx)); clear he10 ha10 hbx)
    | (go_at_call 23; (with_reducible refine (wread_Strings (textsL ss) _ (H5.out _ (by repeat (first | with_reducible exact Ab.refl _ | with_reducible assumption | with_reducible refine Ab.drew ?_ | with_reducible refine Ab.alloc ?_ _))) HPL.out HL.out.2.2).mono ?_); rintro e w11 ⟨zA, zq, zc, rfl, he11, ha11⟩; (have by11 : Bk w11 w10.heap.size 51 #[.slice yA0 yq0 yc0] := ha11.bk (Bk.made _ _ _)); (have HY11 := Lib.hid by11); (have bx11 : Bk w11 w9.heap.size 48 #[.int .i64 xx0, .int .i64 xx1, .int .i64 xx2, .slice xA3 xq3 xc3, .slice xA4 xq4 xc4, .slice xA5 xq5 xc5] := ha11.bk (BX10.out.alloc _)); (have ab1011 : Ab w10 w11 := Ab.trans (by repeat (first | with_reducible exact Ab.refl _ | with_reducible assumption | with_reducible refine Ab.drew ?_ | with_reducible refine Ab.alloc ?_ _)) ha11); (have ab11 : Ab w5 w11 := ab10.trans ab1011); (have ab911 : Ab w9 w11 := ab910.trans ab1011); (have HZ := Lib.hid (fun wx (hx : Ab w11 wx) => (texts_of (he11.encF (fun b hb => hb.2)) HL.out.2.2).lift2 hx)); (have t0 : w11.cell? ⟨w9.heap.size, 0, none⟩ = some (.int .i64 xx0) := (bx11).cell rfl); (have t1 : w11.cell? ⟨w9.heap.size, 1, none⟩ = some (.int .i64 xx1) := (bx11).cell rfl); (have t2 : w11.cell? ⟨w9.heap.size, 2, none⟩ = some (.int .i64 xx2) := (bx11).cell rfl); (have t3 : w11.cell? ⟨w9.heap.size, 3, none⟩ = some (.slice xA3 xq3 xc3) := (bx11).cell rfl); (have t4 : w11.cell? ⟨w9.heap.size, 4, none⟩ = some (.slice xA4 xq4 xc4) := (bx11).cell rfl); (have t5 : w11.cell? ⟨w9.heap.size, 5, none⟩ = some (.slice xA5 xq5 xc5) := (bx11).cell rfl); (have tt0 : w11.cell? ⟨w10.heap.size, 0, none⟩ = some (.slice yA0 yq0 yc0) := (by11).cell rfl); clear he11 ha11 by11 bx11)
    | (go_at_call 13; (with_reducible refine (num_any 0 _).mono ?_); rintro e wz ⟨rfl, rfl⟩)
    | (go_at_call 18; (with_reducible refine (ref_State xx0 xx1 xx2 xA3 xq3 xc3 xA4 xq4 xc4 xA5 xq5 xc5 bM w11 (HX.out w11 ab911) HL.out.1).mono ?_); rintro e w12 ⟨v12, rfl, ho12, ha12⟩; (obtain ⟨A12, c12, rfl, -⟩ := id ho12.bs); (have ab1112 : Ab w11 w12 := ha12); (have ab12 : Ab w5 w12 := ab11.trans ha12); (have ab1012 : Ab w10 w12 := ab1011.trans ha12); (have H12 := Lib.hid ho12.bs); (have u0 : w12.cell? ⟨w10.heap.size, 0, none⟩ = some (.slice yA0 yq0 yc0) := (ha12.bk HY11.out).cell rfl); clear ho12 ha12)
    | (go_at_call 8; (with_reducible refine (same_eq2 w12 H12.out (H35.out w12 ab12)).mono ?_); rintro e wz ⟨rfl, rfl⟩)
    | (go_at_call 19; (with_reducible refine (ref_Tx yA0 yq0 yc0 bI w12 (HY.out w12 ab1012) HL.out.2.1).mono ?_); rintro e w13 ⟨v13, rfl, ho13, ha13⟩; (obtain ⟨A13, c13, rfl, -⟩ := id ho13.bs); (have ab13 : Ab w5 w13 := ab12.trans ha13); (have ab1113 : Ab w11 w13 := ab1112.trans ha13); (have H13 := Lib.hid ho13.bs); clear ho13 ha13)
    | (go_at_call 8; (with_reducible refine (same_eq2 w13 H13.out (H45.out w13 ab13)).mono ?_); rintro e wz ⟨rfl, rfl⟩)
    | (go_at_call 24; (with_reducible refine (texts_eq ss _ _ w13 (HZ.out w13 ab1113) (HT.out w13 (ab5.trans ab13)) (Nat.le_refl _) (Nat.le_refl _)).mono ?_); rintro e w14 ⟨rfl, ha14⟩)
    | (go_at_call 14; (with_reducible refine (awake_any w14).mono ?_); rintro e w15 ⟨rfl, ha15⟩))
  go_ret
  exact ⟨rfl, HW.out.trans (ab5.trans (ab13.trans (ha14.trans ha15)))⟩
end Go.Proofs.Ytniodjigncicbaa.Dg

/- Texts joined: RjA. -/
import Derived.Test.YtolchbjcdlncgaaGreatMgDkV
import Derived.Test.YtolchbjcdlncgaaGreatMgJnL
import Derived.Test.YtolchbjcdlncgaaGreatMgWrK
/- The reference's journal: Records. -/
namespace Go.Proofs.YtolchbjcdlncgaaGreat.Dg
open Go.RowKit
variable {w w' : World} {base a g2 gk torn B : Nat} {v2 u : Value} {rs : List (List UInt8)} {r : Dst} {l : List UInt8}
attribute [local go_sem ↓] Go.wp_at_zero Go.wp_at_succ
/-- The reference's journal in block gk. -/
structure Rj (w : World) (base gk g2 : Nat) (v2 : Value) (r : Dst) (torn : Nat) : Prop where
  rk : Rk w base g2 v2 r
  blk : Bk w gk 74 #[.pointer (some ⟨g2, 0, none⟩), .int .i64 (torn : Int)]
  le : base ≤ gk
theorem Rj.ab (h : Rj w base gk g2 v2 r torn) (hb : Ab w w') : Rj w' base gk g2 v2 r torn := ⟨h.rk.ab hb, hb.bk h.blk, h.le⟩
theorem Rj.ptr (h : Rj w base gk g2 v2 r torn) : w.cell? ⟨gk, 0, none⟩ = some (.pointer (some ⟨g2, 0, none⟩)) := h.blk.cell rfl
theorem infoRRec : (Tryz.prog.info? 81).map (fun i => (i.zero, i.size, i.bytes)) = some (some (.agg #[.int .i64 0, .slice none 0 0]), 2, 32) := by kernel_rfl
theorem Fd.at_ {dn : List (List UInt8)} (h : Fd l dn) : sizeL ((recsOf l).take dn.length) = sizeL dn := by rw [h.1, List.take_left]
theorem Fd.rec {dn : List (List UInt8)} (h : Fd l dn) (hg : ufE (l.drop (sizeL dn)) = 0) : (recsOf l).getD dn.length [] = ufC (l.drop (sizeL dn)) := by
  rw [h.1, recsOf_good hg, List.getD_eq_getElem?_getD, List.getElem?_append_right (Nat.le_refl _), Nat.sub_self]
  rfl
set_option maxRecDepth 100000 in
set_option maxHeartbeats 2000000 in
theorem rrecords_any (w : World) (h : Rj w base gk g2 v2 r torn) :
    Calls Tryz.prog 35 #[.pointer (some ⟨gk, 0, none⟩)] w fun e w' =>
      ∃ A n c y, n = (recsOf r.bytes).length ∧ y = r.base + sizeL (recsOf r.bytes) ∧ e = .returned (.tuple #[.slice A n c, .int .i64 (y : Int)]) ∧ Told 81 w' w.heap.size (.slice A n c) r.base (recsOf r.bytes) ∧ Ab w w' := by
  have HR := Lib.hid h
  have c0 := h.ptr
  have hgl := h.blk.lt
  have hok := h.rk.ok
  have hr := hok.reach
  have hN67 : r.bytes.length ≤ 67108864 := by have := hok.room; have := hok.size2; omega
  obtain ⟨-, d1, -, -, -⟩ := h.rk.cells
  obtain ⟨f, hf⟩ : ∃ f, r.fin = f := ⟨_, rfl⟩
  obtain ⟨b, hbb⟩ : ∃ b, r.base = b := ⟨_, rfl⟩
  obtain ⟨N, hN⟩ : ∃ N, r.bytes.length = N := ⟨_, rfl⟩
  have hfb : f = b + N := by rw [← hf, ← hbb, ← hN]; rfl
  rw [hbb] at d1
  rw [hf] at hr
  rw [hN] at hN67
  have e1 : IntKind.i64.wrap ((f : Int) - (b : Int)) = (N : Int) := by rw [IntWalk.i64_in _ (by omega)]; omega
  have HH := Lib.hid (And.intro hf (And.intro hbb hN))
  have hrd := fun n => rread_any (w.drewN n) (h.rk.ab ((Ab.refl w).drewN n)) (r.base : Int) (r.bytes.length : Int) (by rw [hN]; omega)
  rw [(got_all r).1, (got_all r).2, hbb, hN] at hrd
  have HRD := Lib.hid hrd
  have hbN : b + N ≤ 4611686018427387904 := by omega
  have hre := rend_at h.rk 1
  rw [hf] at hre
  have HE := Lib.hid (show Calls Tryz.prog 42 #[.pointer (some ⟨g2, 0, none⟩)] w.drew fun e w' => e = .returned (.int .i64 (f : Int)) ∧ ∃ m, w' = w.drewN m from hre)
  clear hre
  clear h hrd hok hf hbb hN hfb hr
  go_enter Tryz.func35, Tryz.ntmps35
  go_wp2_with fail
  go_region_held3 (fun wx => wx.cell? ⟨gk, 0, none⟩ = some (.pointer (some ⟨g2, 0, none⟩))) (first | exact c0 | exact q0) (first | (go_at_call 42; (with_reducible refine HE.out.mono ?_); rintro e w3 ⟨rfl, k3, rfl⟩) | (go_at_call 66; (with_reducible refine (HRD.out k3).mono ?_); rintro e w4 ⟨u4, rfl, hu4, ha4⟩; (have q0 := (ha4.cells gk 0 hgl).trans c0); (have H4 := Lib.hid (And.intro hu4 ha4)); (obtain ⟨A4, c4, rfl, -, -⟩ := hu4.len_cap); (rw [HH.out.2.2]); clear hu4 ha4))
  obtain ⟨L, hL⟩ : ∃ L, r.bytes = L := ⟨_, rfl⟩
  have ha5 : Ab w w4 := ((Ab.refl w).drewN k3).trans H4.out.2
  have hb5 := H4.out.1.bs
  rw [hL] at hb5
  have hLN : L.length = N := by rw [← hL]; exact HH.out.2.2
  rw [hLN] at hb5
  have h9 := hb5.len
  have HLN := Lib.hid hLN
  have H5 := Lib.hid (And.intro hb5 ha5)
  have HHL := Lib.hid hL
  clear hb5 ha5 hL hLN c0 d1 q0
  go_wp2_with fail
  go_loopw [4, 5, 7] (fun s4 s5 s7 wr => ∃ x y k : Nat, ∃ Ax cx A7 c7, s4 = .int .i64 (y : Int) ∧ s5 = .slice Ax (N - x) cx ∧ s7 = .slice A7 k c7 ∧ x ≤ N ∧ Hid (y = b + x) ∧ Hid (Bs wr w4.heap.size (.slice Ax (N - x) cx) (L.drop x) ∧ Ab w4 wr ∧ ToldTo 81 wr w4.heap.size (.slice A7 k c7) b (recsOf L) k ∧ ∃ dn, sizeL dn = x ∧ dn.length = k ∧ Fd L dn)) (fun s4 _ _ _ => b + N - (intOf s4).toNat)
  case atStart => exact ⟨0, b, 0, A4, c4, none, 0, rfl, rfl, rfl, Nat.zero_le _, Lib.hid rfl, Lib.hid ⟨H5.out.1, Ab.refl w4, ⟨[], Rl.nil _ _ _, rfl, Tells.nil _ _⟩, [], rfl, rfl, Fd.zero L⟩⟩
  case round =>
    obtain ⟨x, y, k, Ax, cx, A7, c7, rfl, rfl, rfl, hx, HY, HI⟩ := hrel
    obtain ⟨hbs, hab, htl, dn, hdx, hdk, hfd⟩ := HI.out
    obtain ⟨A0, c0, hv0, hcc, hcm, -⟩ := id hbs
    injection hv0 with hv1 hv2 hv3
    subst hv1; subst hv3
    rw [← hv2] at hcc
    clear hv2
    obtain ⟨E, hE⟩ : ∃ E, ufE (L.drop x) = E := ⟨_, rfl⟩
    obtain ⟨M, hM⟩ : ∃ M, ufN (L.drop x) = M := ⟨_, rfl⟩
    have HE := Lib.hid (And.intro hE hM)
    have HBS := Lib.hid (And.intro hbs (And.intro hab htl))
    have HD := Lib.hid (And.intro hdx (And.intro hdk hfd))
    clear HI hbs hab htl hdx hdk hfd
    by_cases hz : E = 0
    · have hn := HD.out.2.2.next (by rw [HD.out.1, hE, hz])
      rw [HD.out.1, hM] at hn
      have hxM := hn.2.2.2
      rw [HLN.out] at hxM
      have HNX := Lib.hid hn
      have HXM := Lib.hid hxM
      have hMx : M ≤ N - x := by omega
      have hsl := fun wx => run_slice_tail Ax (N - x) cx M hMx wx
      have hcut := cutB (n := N - x - M) (show Bs wr w4.heap.size (.slice Ax (L.drop x).length cx) (L.drop x) by rw [List.length_drop, HLN.out]; exact HBS.out.1) M (by rw [List.length_drop, HLN.out]; exact hMx) (by rw [List.length_drop, HLN.out])
      rw [List.drop_drop, show N - x - M = N - (x + M) by omega] at hcut
      rw [show N - x - M = N - (x + M) by omega] at hsl
      obtain ⟨A2, hA2⟩ : ∃ A2, (if cx = M then Ax else Option.map (fun q => q.add M) Ax) = A2 := ⟨_, rfl⟩
      rw [hA2] at hcut hsl
      have HCUT := Lib.hid hcut
      obtain ⟨z, hzz⟩ : ∃ z, y + M = z := ⟨_, rfl⟩
      have e5 : IntKind.i64.wrap ((y : Int) + (M : Int)) = (z : Int) := by have := HY.out; rw [IntWalk.i64_in _ (by omega)]; omega
      have HZ := Lib.hid hzz
      have hM0 : (0 : Int) ≤ (M : Int) := by omega
      subst hz
      clear hn hxM hcut hA2 hzz hE hM hMx
      go_wp2_with fail
      refine (runframe_any wr (HBS.out.1.more HBS.out.2.1.size)).mono ?_
      rintro e w5 ⟨u5, rfl, hu5, ha5⟩
      rw [HE.out.1, HE.out.2]
      obtain ⟨A5, c5, rfl, -, -⟩ := hu5.len_cap
      obtain ⟨ps, hrl, hpl, htt⟩ := HBS.out.2.2
      obtain ⟨C, hC⟩ : ∃ C, ufC (L.drop x) = C := ⟨_, rfl⟩
      rw [hC] at hu5 ⊢
      have HC := Lib.hid hC
      have H6 := Lib.hid (And.intro hu5 (And.intro ha5 (And.intro hrl (And.intro hpl htt))))
      clear hu5 ha5 hrl hpl htt hC
      go_wp2_with (at_builtin; refine wpList_rl rfl _ _ rfl _ _ rfl rfl Tryz.underlying77 infoRRec (by decide) w4.heap.size ps y (.slice A5 C.length c5) C ?ap1 ?ap2 ?ap3 ?ap4 ?ap5 ?_)
      case ap1 => exact (H6.out.2.2.1.ab H6.out.2.1).ab ((Ab.refl _).alloc _)
      case ap2 => exact src_pair Tryz.underlying77 w5 _ y (.slice A5 C.length c5) rfl
      case ap3 => exact (H6.out.1.lower (b' := w4.heap.size) HBS.out.2.1.size).ab ((Ab.refl _).alloc _)
      case ap4 => rw [H6.out.2.2.2.1, ← HD.out.2.1]; have := HD.out.2.2.len; have := HLN.out; omega
      case ap5 => exact Nat.le_trans HBS.out.2.1.size (Nat.le_trans H6.out.2.1.size (by simp))
      intro A8 n8 c8 w8 hl8 hg8
      have hn8 : n8 = k + 1 := by
        obtain ⟨A', c', hv6, -, -⟩ := hl8.row.len_cap
        injection hv6 with _ hn _
        rw [hn, List.length_append, H6.out.2.2.2.1]
        rfl
      subst hn8
      have ht8 := H6.out.2.2.2.2.snoc ⟨y, .slice A5 C.length c5, C⟩ (by rw [H6.out.2.2.2.1, ← HD.out.2.1]; unfold plc; rw [HD.out.2.2.at_, HD.out.1]; exact HY.out) (by rw [H6.out.2.2.2.1, ← HD.out.2.1, HD.out.2.2.rec (by rw [HD.out.1]; exact HE.out.1), HD.out.1]; exact HC.out.symm)
      have hab8 : Ab w4 w8 := grown_ab (HBS.out.2.1.trans (H6.out.2.1.trans ((Ab.refl w5).alloc (.cells #[.int .i64 (y : Int), .slice A5 C.length c5] 81)))) hg8 (fun j hj => (H6.out.2.2.1.row.blk j hj).1)
      have hbs8 : Bs w8 w4.heap.size (.slice A2 (N - (x + M)) (cx - M)) (L.drop (x + M)) :=
        Ob.app_far ((HCUT.out.ab H6.out.2.1 HBS.out.2.1.size).ab ((Ab.refl w5).alloc (.cells #[.int .i64 (y : Int), .slice A5 C.length c5] 81)) (Nat.le_trans HBS.out.2.1.size H6.out.2.1.size)) hg8 (fun j hj => (H6.out.2.2.1.row.blk j hj).1) (Nat.le_trans HBS.out.2.1.size (Nat.le_trans H6.out.2.1.size (by simp)))
      have H8 := Lib.hid (And.intro hbs8 (And.intro hab8 (show ToldTo 81 w8 w4.heap.size (.slice A8 (k + 1) c8) b (recsOf L) (k + 1) from ⟨_, hl8, by rw [List.length_append, H6.out.2.2.2.1]; rfl, ht8⟩)))
      clear hl8 hg8 ht8 hab8 hbs8
      go_wp2_with fail
      go_roundw
      case rel => exact ⟨x + M, z, k + 1, A2, cx - M, A8, c8, by go_num, rfl, rfl, HXM.out, Lib.hid (by have := HY.out; have := HZ.out; omega), Lib.hid ⟨H8.out.1, H8.out.2.1, H8.out.2.2, _, by rw [HNX.out.2.1], by rw [List.length_append, HD.out.2.1]; rfl, HNX.out.1⟩⟩
      case measure => have := HY.out; have := HZ.out; have := HXM.out; have := HNX.out.2.2.1; simp [intOf]; omega
    · have hd := HD.out.2.2.done (by rw [HD.out.1, hE]; exact hz)
      have HDD := Lib.hid hd
      have hz2 : ((E : Int) == 0) = false := by rw [beq_eq_false_iff_ne]; omega
      clear hd hE hM
      go_wp2_with fail
      refine (runframe_any wr (HBS.out.1.more HBS.out.2.1.size)).mono ?_
      rintro e w5 ⟨u5, rfl, hu5, ha5⟩
      rw [HE.out.1, HE.out.2]
      obtain ⟨A5, c5, rfl, -, -⟩ := hu5.len_cap
      have H6 := Lib.hid ha5
      clear hu5 ha5
      go_wp2_with fail
      obtain ⟨ps, hrl, hpl, htt⟩ := HBS.out.2.2
      have hb2 := HH.out.2.1
      have hL2 := HHL.out
      have hkl : k = (recsOf L).length := by rw [HDD.out, HD.out.2.1]
      refine bodyPost_ret (v := .tuple #[.slice A7 k c7, .int .i64 (y : Int)]) ?_ rfl ⟨A7, k, c7, y, by rw [hL2]; exact hkl, by rw [hL2, hb2, HDD.out, HD.out.1]; exact HY.out, rfl, ⟨ps, (hrl.lower H5.out.2.size).ab H6.out, by rw [hL2, hpl]; exact hkl, by rw [hL2, hb2]; exact htt⟩, H5.out.2.trans (HBS.out.2.1.trans H6.out)⟩
      simp [results, Tryz.results35, go_sem]
end Go.Proofs.YtolchbjcdlncgaaGreat.Dg

/- Texts joined: JpB. -/
import Derived.Test.YtolchbjcdlncgaaGreatMgJpA
/- alike: up to the range. -/
namespace Go.Proofs.YtolchbjcdlncgaaGreat.Dg
open Go.RowKit Go.Shelf
variable {W w w' : World} {gp g gj gk g2 torn torn' B C : Nat} {v v2 row u y : Value} {rs : List (List UInt8)} {d r : Dst} {l m : List UInt8}
attribute [local go_sem ↓] Go.wp_at_zero Go.wp_at_succ
attribute [local go_sem] Oper.semAt_some
set_option maxRecDepth 100000 in
set_option maxHeartbeats 4000000 in
theorem alike_any (h : Pw W w gp g gj gk g2 row v v2 d r torn torn' rs) :
    Calls Tryz.prog 9 #[.pointer (some ⟨gp, 0, none⟩)] w fun e w' => e = .returned (.bool true) ∧ Ab w w' := by
  have hw1 := (Ab.refl w).alloc (.cells #[.pointer (some ⟨gp, 0, none⟩)] 23)
  have hw2 := hw1.alloc (.cells #[.bool false] 4)
  have hb1 : Bk ((w.alloc (.cells #[.pointer (some ⟨gp, 0, none⟩)] 23)).alloc (.cells #[.bool false] 4)) w.heap.size 23 #[.pointer (some ⟨gp, 0, none⟩)] := (Bk.made w _ _).alloc _
  have hb2 : Bk ((w.alloc (.cells #[.pointer (some ⟨gp, 0, none⟩)] 23)).alloc (.cells #[.bool false] 4)) (w.heap.size + 1) 4 #[.bool false] := by
    have := Bk.made (w.alloc (.cells #[.pointer (some ⟨gp, 0, none⟩)] 23)) 4 #[.bool false]
    rwa [World.size_alloc] at this
  have hp2 := h.still hw2
  have e0 : ((w.alloc (.cells #[.pointer (some ⟨gp, 0, none⟩)] 23)).alloc (.cells #[.bool false] 4)).cell? ⟨w.heap.size, 0, none⟩ = some (.pointer (some ⟨gp, 0, none⟩)) := hb1.cell rfl
  obtain ⟨-, -, -, p3, -, -, -⟩ := hp2.cells
  have HP := Lib.hid (And.intro hp2 (And.intro hw2 (And.intro hb1 hb2)))
  have HL := Lib.hid (And.intro h.al (And.intro h.jt.len h.rt.recs))
  clear hp2 hw1 hw2 hb1 hb2 h
  refine (callsIn_wide (n := 2)).1 ?_
  refine callsIn_of_wp_marks Tryz.func9 rfl trivial ?_ rfl
  simp only [Tryz.ntmps9, List.size_toArray, List.length_cons, List.length_nil, Nat.reduceAdd, Nat.reduceSub, Array.replicate_succ, Array.replicate_zero, List.push_toArray, List.append_toArray, List.nil_append, List.cons_append]
  refine (wpIn_wide (n := 2)).2 ?_
  go_wp2_with fail
  generalize (w.alloc (.cells #[.pointer (some ⟨gp, 0, none⟩)] 23)).alloc (.cells #[.bool false] 4) = w2 at *
  refine HP.out.1.rt.records.mono ?_
  rintro e w3 ⟨A3, c3, rfl, ht3, ha3⟩
  obtain ⟨N, hN⟩ : ∃ N, rs.length = N := ⟨_, rfl⟩
  rw [hN] at ht3 ⊢
  have hb3 := Bk.made w3 77 #[.slice A3 N c3]
  have ha4 : Ab w2 (w3.alloc (.cells #[.slice A3 N c3] 77)) := ha3.alloc _
  have H4 := Lib.hid (And.intro ht3 (And.intro ha3 (And.intro ha4 hb3)))
  have hfn : r.fin = d.fin := HP.out.1.al.same.2.2.2.1
  obtain ⟨f, hf⟩ : ∃ f, d.fin = f := ⟨_, rfl⟩
  rw [hfn, hf]
  have HF := Lib.hid (And.intro hf hN)
  clear hfn hf hN
  have facts : ∀ wx, Ab (w3.alloc (.cells #[.slice A3 N c3] 77)) wx → Pw W wx gp g gj gk g2 row v v2 d r torn torn' rs ∧ wx.cell? ⟨w.heap.size, 0, none⟩ = some (.pointer (some ⟨gp, 0, none⟩)) ∧ wx.cell? ⟨w3.heap.size, 0, none⟩ = some (.slice A3 N c3) := fun wx hx =>
    ⟨HP.out.1.still (ha4.trans hx), ((ha4.trans hx).cells _ _ HP.out.2.2.1.lt).trans (HP.out.2.2.1.cell rfl), (hx.cells _ _ hb3.lt).trans (hb3.cell rfl)⟩
  have FX := Lib.hid facts
  obtain ⟨f0, f1, f2⟩ := facts _ (Ab.refl _)
  obtain ⟨s0, s1, s2, s3, s4, s5, -⟩ := f0.cells
  have F0 := Lib.hid f0
  clear facts f0 ha3 ha4 hb3 ht3 e0 p3
  go_wp2_with fail
  refine (Records_any _ F0.out.jt).mono ?_
  rintro e w5 ⟨b5, A5, c5, rfl, hb5, hle5, ht5, ha5⟩
  rw [HF.out.2] at hb5 ht5
  have H5 := Lib.hid (And.intro hb5 (And.intro hle5 (And.intro ht5 ha5)))
  obtain ⟨f0, f1, f2⟩ := FX.out _ ha5
  obtain ⟨s0, s1, s2, s3, s4, s5, -⟩ := f0.cells
  have F5 := Lib.hid f0
  clear f0 hb5 hle5 ht5 ha5 F0
  unfold recF
  go_wp2_with fail
  have PX := Lib.hid (fun wx (hx : Ab w5 wx) => F5.out.still hx)
  have cj : ∀ wx, Ab w5 wx → (wx.cell? ⟨w.heap.size, 0, none⟩ = some (.pointer (some ⟨gp, 0, none⟩)) ∧ wx.cell? ⟨w3.heap.size, 0, none⟩ = some (.slice A3 N c3) ∧ wx.cell? ⟨gp, 0, none⟩ = some (.pointer (some ⟨g, 0, none⟩)) ∧ wx.cell? ⟨gp, 1, none⟩ = some (.pointer (some ⟨gj, 0, none⟩)) ∧ wx.cell? ⟨gp, 2, none⟩ = some (.pointer (some ⟨g2, 0, none⟩)) ∧ wx.cell? ⟨g2, 1, none⟩ = some (.int .i64 (d.base : Int)) ∧ wx.cell? ⟨g2, 2, none⟩ = some (.int .i64 (d.synced : Int))) := fun wx hx => by
    obtain ⟨-, k1, k2⟩ := FX.out _ (H5.out.2.2.2.trans hx)
    obtain ⟨t0, t1, t2, -, t4, t5, -⟩ := (F5.out.still hx).cells
    exact ⟨k1, k2, t0, t1, t2, t4, t5⟩
  have K5 := cj _ (Ab.refl w5).drew
  have CJ := Lib.hid cj
  have re : ∀ wx, Ab w5 wx → Calls Tryz.prog 42 #[.pointer (some ⟨g2, 0, none⟩)] wx fun e w' => e = .returned (.int .i64 (f : Int)) ∧ Ab wx w' := fun wx hx => by
    have h1 := rend_at (F5.out.still hx).rt.rj.rk 0
    rw [(F5.out.still hx).al.same.2.2.2.1, HF.out.1] at h1
    exact (show Calls Tryz.prog 42 #[.pointer (some ⟨g2, 0, none⟩)] wx _ from h1).mono fun _ _ ⟨h2, m, h3⟩ => ⟨h2, h3 ▸ (Ab.refl wx).drewN m⟩
  have RE := Lib.hid re
  clear cj re f1 f2 s0 s1 s2 s3 s4 s5
  have hfn : ∀ wx : World, (binOp BinOp.eql 66 (.func (.func 61) #[] #[.pointer (some ⟨b5, 0, none⟩)]) .nilFunc).run Tryz.prog wx = .ok (.bool false) wx := fun wx => by kernel_rfl
  simp only [List.append]
  go_region_held3 (fun wx => wx.cell? ⟨w.heap.size, 0, none⟩ = some (.pointer (some ⟨gp, 0, none⟩)) ∧ wx.cell? ⟨w3.heap.size, 0, none⟩ = some (.slice A3 N c3) ∧ wx.cell? ⟨gp, 0, none⟩ = some (.pointer (some ⟨g, 0, none⟩)) ∧ wx.cell? ⟨gp, 1, none⟩ = some (.pointer (some ⟨gj, 0, none⟩)) ∧ wx.cell? ⟨gp, 2, none⟩ = some (.pointer (some ⟨g2, 0, none⟩)) ∧ wx.cell? ⟨g2, 1, none⟩ = some (.int .i64 (d.base : Int)) ∧ wx.cell? ⟨g2, 2, none⟩ = some (.int .i64 (d.synced : Int))) (first | exact K5 | exact K6 | exact K7 | exact K8 | exact K9) (first | (go_at_call 27; (with_reducible refine (Count_any w5.drew (PX.out _ (Ab.refl w5).drew).jt).mono ?_); rintro e w6 ⟨rfl, ha6⟩; rw [HF.out.2]; (have HA6 := Lib.hid ((Ab.refl w5).drew.trans ha6)); (have K6 := CJ.out w6 HA6.out)) | (go_at_call 25; (with_reducible refine (JEnd_any w6 (PX.out _ HA6.out).jt).mono ?_); rintro e w7 ⟨rfl, ha7⟩; rw [HF.out.1]; (have HA7 := Lib.hid (HA6.out.trans ha7)); (have K7 := CJ.out w7 HA7.out)) | (go_at_call 26; (with_reducible refine (JSynced_any w7 (PX.out _ HA7.out).jt).mono ?_); rintro e wz ⟨rfl, rfl⟩) | (go_at_call 40; (with_reducible refine (Base_any w7 (PX.out _ HA7.out).jt.dk).mono ?_); rintro e wz ⟨rfl, rfl⟩) | (go_at_call 41; (with_reducible refine (End_any w7 (PX.out _ HA7.out).jt.dk).mono ?_); rintro e w8 ⟨rfl, ha8⟩; rw [HF.out.1]; (have HA8 := Lib.hid (HA7.out.trans ha8.ab)); (have K8 := CJ.out w8 HA8.out)) | (go_at_call 42; (with_reducible refine (RE.out w8 HA8.out).mono ?_); rintro e w9 ⟨rfl, ha9⟩; (have HA9 := Lib.hid (HA8.out.trans ha9)); (have K9 := CJ.out w9 HA9.out)) | (go_at_call 43; (with_reducible refine (Synced_any w9 (PX.out _ HA9.out).jt.dk).mono ?_); rintro e wz ⟨rfl, rfl⟩))
  obtain ⟨ps5, hr5, hl5, ht5⟩ := H5.out.2.2.1
  obtain ⟨ps3, hr3, hl3, ht3⟩ := H4.out.1
  rw [HF.out.2] at hl5 hl3
  have hsz5 : ∀ p ∈ ps5, p.bytes.length ≤ 100000000000000 := fun p hp => by
    obtain ⟨k, hk, rfl⟩ := List.getElem_of_mem hp
    rw [(ht5 k hk).2]
    show (rs.getD k []).length ≤ _
    have hk2 : k < rs.length := by rw [HF.out.2, ← hl5]; exact hk
    rw [getD_rec hk2]
    have := F5.out.jt.small rs[k] (List.getElem_mem hk2)
    omega
  have HR5 := Lib.hid (And.intro (hr5.lower (b' := w3.heap.size + 1) (by simp)) (And.intro hl5 (And.intro ht5 hsz5)))
  have HR3 := Lib.hid (And.intro hr3 (And.intro hl3 ht3))
  clear hr5 hl5 ht5 hsz5 hr3 hl3 ht3
  have hNb : N ≤ 8388608 := by have := HL.out.2.1; rw [HF.out.2] at this; omega
  have HW3 := Lib.hid (show Ab w3 w5 from ((Ab.refl w3).alloc _).trans H5.out.2.2.2)
  by_cases hN0 : 0 < N
  · have hl3' : 0 < ps3.length := by rw [HR3.out.2.1]; exact hN0
    obtain ⟨gb, off, cap, hv, -, hgl, -, -, -, hcl⟩ := HR3.out.1.row.form (by omega)
    injection hv with hva hvn hvc
    subst hva; subst hvc
    clear hvn
    have g1 := (prV_get ps3 0 hl3').1
    rw [(HR3.out.2.2 0 hl3').1, HL.out.1.same.1, plc_zero] at g1
    have h39 : Ab w3 w9 := ((Ab.refl w3).alloc _).trans (H5.out.2.2.2.trans HA9.out)
    have k1 := (h39.cells gb _ hgl).trans (hcl _ _ g1)
    rw [Nat.zero_mul, Nat.add_zero] at k1
    have HG := Lib.hid (And.intro hgl (And.intro h39 hcl))
    clear hgl hcl h39 g1 hl3'
    go_wp2_with fail
    refine (First_any w9 (PX.out _ HA9.out).jt).mono ?_
    rintro e wa ⟨rfl, haa⟩
    have haa5 := HA9.out.trans haa
    obtain ⟨a1, a2, a3, a4, a5, a6, a7⟩ := CJ.out wa haa5
    have HAA := Lib.hid haa5
    clear haa haa5
    go_wp2_with fail
    have hwa : wa.heap.size ≤ (wa.alloc (.cells #[.int .i64 0] 3)).heap.size := by simp
    have hbox := Bk.made wa 3 #[.int .i64 0]
    have hal : Ab wa (wa.alloc (.cells #[.int .i64 0] 3)) := (Ab.refl wa).alloc _
    have hba : Bk wa b5 100 #[.slice A5 N c5] := HAA.out.bk H5.out.1
    have hra := HR5.out.1.ab HAA.out
    have H11 := Lib.hid (And.intro hbox hal)
    have HHD := Lib.hid (hands_any (rs := rs) (B := w3.heap.size + 1) wa (wa.alloc (.cells #[.int .i64 0] 3)) hal b5 A5 c5 wa.heap.size rfl (by rw [HF.out.2]; exact hba) ps5 (by rw [HF.out.2]; exact hra) (by rw [HF.out.2]; exact HR5.out.2.1) HR5.out.2.2.2)
    clear hwa hbox hal hba hra
    generalize wa.alloc (.cells #[.int .i64 0] 3) = w11 at *
    refine range_all rfl (enters_of Tryz.func61 (by kernel_rfl) rfl) (fun _ => rfl) H11.out.2.size HHD.out
      (fun pre X => (X.cell? ⟨wa.heap.size, 0, none⟩ = some (.int .i64 (pre.length : Int)) ∧ X.frozen? ⟨wa.heap.size, 0, none⟩ = false) ∧ Below wa.heap.size w11 X)
      (OwnFrom.and (Own.from (fun s A B row hs hg hr => ⟨cell_kept hs.1 hg hr, (frozen_kept hs.1 hg hr).trans hs.2⟩) _) (ownFrom_below H11.out.2.size H11.out.2.size))
      (fun pre x X X' i o o' h hl ho e => OkR.put h hl ho e)
      ⟨⟨H11.out.1.cell rfl, H11.out.1.free 0⟩, Below.refl _ _⟩ ?a1 ?assign ?body ?done
    case assign =>
      intro l x X K hK
      gi_wp2
      exact hK
    case body =>
      rintro l pre x X ⟨⟨hi, hz⟩, hbx⟩ hbw ⟨hat, hby, hlt, hbs⟩
      obtain ⟨k, hk⟩ : ∃ k, pre.length = k := ⟨_, rfl⟩
      rw [hk] at hi hat hby hlt
      have HAX := Lib.hid (show Ab wa X from Below.trans (show Below wa.heap.size wa w11 from H11.out.2) hbx)
      have hpx := F5.out.still (HAA.out.trans HAX.out)
      obtain ⟨e1, e2, e3, e4, -, -, -⟩ := CJ.out X (HAA.out.trans HAX.out)
      rw [getD_pr ps5 k hlt] at hat hby
      rw [(HR5.out.2.2.1 k hlt).1] at hat
      rw [(HR5.out.2.2.1 k hlt).2] at hby
      have hkN : k < N := by rw [← HR5.out.2.1]; exact hlt
      have hl3' : k < ps3.length := by rw [HR3.out.2.1]; exact hkN
      obtain ⟨g1, g2'⟩ := prV_get ps3 k hl3'
      rw [(HR3.out.2.2 k hl3').1, HL.out.1.same.1] at g1
      have h3X : Ab w3 X := HW3.out.trans (HAA.out.trans HAX.out)
      have k1 := (h3X.cells gb _ HG.out.1).trans (HG.out.2.2 _ _ g1)
      have k2 := (h3X.cells gb _ HG.out.1).trans (HG.out.2.2 _ _ g2')
      rw [← Nat.add_assoc] at k2
      have hob := (HR3.out.1.own ps3[k] (List.getElem_mem hl3')).ab h3X
      rw [(HR3.out.2.2 k hl3').2] at hob
      obtain ⟨q, hq⟩ : ∃ q, plc d.base rs k = q := ⟨_, rfl⟩
      obtain ⟨R, hR⟩ : ∃ R, rs.getD k [] = R := ⟨_, rfl⟩
      have hby' : x.bytes = R := by rw [hby]; exact hR
      replace hob : Ob X w2.heap.size ps3[k].val R := by rw [← hR]; exact hob
      rw [hby'] at hbs
      rw [hq] at k1 hat
      obtain ⟨Av, nv, cv, hval⟩ : ∃ A n c, ps3[k].val = .slice A n c := hob.shape
      rw [hval] at k2 hob
      obtain ⟨Ax, cx, hxv, -, -, -⟩ := id hbs
      have HB1 := Lib.hid (And.intro hbs (And.intro hob.bs (And.intro hpx.jt (And.intro hq (And.intro hR (And.intro hkN hk))))))
      have HXV := Lib.hid hxv
      have hk0 : (0 : Int) ≤ (k : Int) := by omega
      have hk1 : (k : Int) < (N : Int) := by omega
      have hkg : ¬ (N : Int) ≤ (k : Int) := by omega
      have HBX := Lib.hid (And.intro hbx hz)
      have HBI := Lib.hid (show wa.heap.size < X.heap.size from Nat.lt_of_lt_of_le H11.out.1.lt hbx.size)
      clear hbs hob hpx hq hR hby hby' g1 g2' hval hl3' hlt h3X hk hkN hbw hbx hz hxv
      gi_wp2
      refine ⟨trivial, (CallsIn.inRound l (callsIn_wide.2 (jsame_any X HB1.out.1 HB1.out.2.1))).mono ?_⟩
      rintro e X2 ⟨rfl, rfl⟩
      rw [beq_self_eq_true]
      gi_wp2
      refine ⟨trivial, (CallsIn.inRound l (callsIn_wide.2 (JRead_any X HB1.out.2.2.1 (q : Int)))).mono ?_⟩
      rintro e X3 ⟨ha3, hor⟩
      have hor2 : ∃ A n c, e = .returned (.tuple #[.slice A n c, .int .i64 0]) ∧ Ob X3 X.heap.size (.slice A n c) R := by
        rcases hor with ⟨k', hk', hqk, A', n', c', -, he, hob'⟩ | ⟨hno, -⟩
        · have hkk : k' = k := plc_inj d.base rs (Nat.le_of_lt hk') (by rw [HF.out.2]; exact Nat.le_of_lt HB1.out.2.2.2.2.2.1) (by rw [HB1.out.2.2.2.1]; omega)
          subst hkk
          rw [HB1.out.2.2.2.2.1] at hob'
          exact ⟨A', n', c', he, hob'⟩
        · exact absurd (by rw [HB1.out.2.2.2.1]) (hno k (by rw [HF.out.2]; exact HB1.out.2.2.2.2.2.1))
      clear hor
      obtain ⟨A', n', c', rfl, hob3⟩ := hor2
      have hi3 := (ha3.cells wa.heap.size 0 HBI.out).trans hi
      have hz3 := (ha3.frees wa.heap.size 0 HBI.out).trans HBX.out.2
      have H3 := Lib.hid (And.intro ha3 hob3)
      clear ha3 hob3
      gi_wp2
      refine ⟨trivial, (CallsIn.inRound l (callsIn_wide.2 (jsame_any X3 H3.out.2.bs (HB1.out.1.ab H3.out.1 (Nat.le_refl _))))).mono ?_⟩
      rintro e X4 ⟨rfl, rfl⟩
      rw [beq_self_eq_true]
      gi_wp2
      refine ⟨trivial, (CallsIn.inRound l (callsIn_wide.2 (jnum_any 0 X3))).mono ?_⟩
      rintro e X5 ⟨rfl, rfl⟩
      gi_wp2
      have hpk : ((pre ++ [x]).length : Int) = (k : Int) + 1 := by rw [List.length_append, HB1.out.2.2.2.2.2.2]; rfl
      refine ⟨(ab_keeps H3.out.1).trans (KeepsOthers.setCell _ _ _), (Below.mono H3.out.1 (Nat.le_of_lt HBI.out)).setCell (p := ⟨wa.heap.size, 0, none⟩) (Nat.le_refl _) _, ⟨?_, ?_⟩, (HBX.out.1.trans (Below.mono H3.out.1 (Nat.le_of_lt HBI.out))).setCell (p := ⟨wa.heap.size, 0, none⟩) (Nat.le_refl _) _⟩
      · rw [hpk]; exact World.cell?_setCell_same' _ _ _ (by rw [hi3]; rfl)
      · rw [World.frozen?_setCell]; exact hz3
    case done =>
      rintro D xs X hD hS ⟨⟨hi, hz⟩, hbx⟩ hK
      rw [hS, HR5.out.2.1] at hi
      have HAX := Lib.hid (show Ab wa X from Below.trans (show Below wa.heap.size wa w11 from H11.out.2) hbx)
      obtain ⟨e1, e2, e3, e4, -, -, -⟩ := CJ.out X (HAA.out.trans HAX.out)
      have h2X : Ab w2 X := H4.out.2.2.1.trans (H5.out.2.2.2.trans (HAA.out.trans HAX.out))
      have hbr := h2X.bk HP.out.2.2.2
      have r0 : X.cell? ⟨w.heap.size + 1, 0, none⟩ = some (.bool false) := hbr.cell rfl
      have rz := hbr.free 0
      have HK := Lib.hid (And.intro hK (And.intro hD (HP.out.2.1.trans h2X)))
      clear hbr h2X hK hD hS hbx
      go_wp2
      have hK' := (KeepsOthers.setCell X ⟨w.heap.size + 1, 0, none⟩ (.bool true)).same D _ HK.out.1 rfl
      refine ⟨by simp, .inl ⟨_, _, rfl, run_takeDeferred hK', ?_⟩⟩
      have hc5 := cell_kept (World.cell?_setCell_same' X ⟨w.heap.size + 1, 0, none⟩ (.bool true) (by rw [r0]; rfl)) (grownBy_putObj' _ D (.deferred none)) (fun r e => by cases e; exact ⟨_, hK', rfl⟩)
      refine ⟨.bool true, ?_, rfl, ?_⟩
      · simp [results, Tryz.f9, go_sem, hc5]
      · have hle : w.heap.size ≤ w11.heap.size := Nat.le_trans HP.out.2.1.size (Nat.le_trans (Nat.le_trans H4.out.2.2.1.size (Nat.le_trans H5.out.2.2.2.size HAA.out.size)) H11.out.2.size)
        exact (HK.out.2.2.set (by simp) _).trans_below (belowK_b (w := w11) hle _ D _ _ HK.out.2.1 hK' rfl rfl)
  · have hN00 : N = 0 := by omega
    have hfb : d.base = f := by
      have h1 := F5.out.jt.fin
      have h2 : rs = [] := List.eq_nil_of_length_eq_zero (by rw [HF.out.2]; exact hN00)
      rw [HF.out.1, h2] at h1
      simp [sizeL] at h1
      exact h1.symm
    have HFB := Lib.hid hfb
    clear hfb
    go_wp2_with fail
    refine (First_any w9 (PX.out _ HA9.out).jt).mono ?_
    rintro e wa ⟨rfl, haa⟩
    rw [HFB.out]
    have haa5 := HA9.out.trans haa
    obtain ⟨a1, a2, a3, a4, a5, a6, a7⟩ := CJ.out wa haa5
    have HAA := Lib.hid haa5
    clear haa haa5
    go_wp2_with fail
    have hwa : wa.heap.size ≤ (wa.alloc (.cells #[.int .i64 0] 3)).heap.size := by simp
    have hbox := Bk.made wa 3 #[.int .i64 0]
    have hal : Ab wa (wa.alloc (.cells #[.int .i64 0] 3)) := (Ab.refl wa).alloc _
    have hba : Bk wa b5 100 #[.slice A5 N c5] := HAA.out.bk H5.out.1
    have hra := HR5.out.1.ab HAA.out
    have H11 := Lib.hid (And.intro hbox hal)
    have HHD := Lib.hid (hands_any (rs := rs) (B := w3.heap.size + 1) wa (wa.alloc (.cells #[.int .i64 0] 3)) hal b5 A5 c5 wa.heap.size rfl (by rw [HF.out.2]; exact hba) ps5 (by rw [HF.out.2]; exact hra) (by rw [HF.out.2]; exact HR5.out.2.1) HR5.out.2.2.2)
    clear hwa hbox hal hba hra
    generalize wa.alloc (.cells #[.int .i64 0] 3) = w11 at *
    refine range_all rfl (enters_of Tryz.func61 (by kernel_rfl) rfl) (fun _ => rfl) H11.out.2.size HHD.out
      (fun pre X => (X.cell? ⟨wa.heap.size, 0, none⟩ = some (.int .i64 (pre.length : Int)) ∧ X.frozen? ⟨wa.heap.size, 0, none⟩ = false) ∧ Below wa.heap.size w11 X)
      (OwnFrom.and (Own.from (fun s A B row hs hg hr => ⟨cell_kept hs.1 hg hr, (frozen_kept hs.1 hg hr).trans hs.2⟩) _) (ownFrom_below H11.out.2.size H11.out.2.size))
      (fun pre x X X' i o o' h hl ho e => OkR.put h hl ho e)
      ⟨⟨H11.out.1.cell rfl, H11.out.1.free 0⟩, Below.refl _ _⟩ ?b1 ?assign2 ?body2 ?done2
    case assign2 =>
      intro l x X K hK
      gi_wp2
      exact hK
    case body2 =>
      rintro l pre x X - - ⟨-, -, hlt, -⟩
      rw [HR5.out.2.1] at hlt
      omega
    case done2 =>
      rintro D xs X hD hS ⟨⟨hi, hz⟩, hbx⟩ hK
      rw [hS, HR5.out.2.1] at hi
      have HAX := Lib.hid (show Ab wa X from Below.trans (show Below wa.heap.size wa w11 from H11.out.2) hbx)
      obtain ⟨e1, e2, e3, e4, -, -, -⟩ := CJ.out X (HAA.out.trans HAX.out)
      have h2X : Ab w2 X := H4.out.2.2.1.trans (H5.out.2.2.2.trans (HAA.out.trans HAX.out))
      have hbr := h2X.bk HP.out.2.2.2
      have r0 : X.cell? ⟨w.heap.size + 1, 0, none⟩ = some (.bool false) := hbr.cell rfl
      have rz := hbr.free 0
      have HK := Lib.hid (And.intro hK (And.intro hD (HP.out.2.1.trans h2X)))
      clear hbr h2X hK hD hS hbx
      go_wp2
      have hK' := (KeepsOthers.setCell X ⟨w.heap.size + 1, 0, none⟩ (.bool true)).same D _ HK.out.1 rfl
      refine ⟨by simp, .inl ⟨_, _, rfl, run_takeDeferred hK', ?_⟩⟩
      have hc5 := cell_kept (World.cell?_setCell_same' X ⟨w.heap.size + 1, 0, none⟩ (.bool true) (by rw [r0]; rfl)) (grownBy_putObj' _ D (.deferred none)) (fun r e => by cases e; exact ⟨_, hK', rfl⟩)
      refine ⟨.bool true, ?_, rfl, ?_⟩
      · simp [results, Tryz.f9, go_sem, hc5]
      · have hle : w.heap.size ≤ w11.heap.size := Nat.le_trans HP.out.2.1.size (Nat.le_trans (Nat.le_trans H4.out.2.2.1.size (Nat.le_trans H5.out.2.2.2.size HAA.out.size)) H11.out.2.size)
        exact (HK.out.2.2.set (by simp) _).trans_below (belowK_b (w := w11) hle _ D _ _ HK.out.2.1 hK' rfl rfl)
end Go.Proofs.YtolchbjcdlncgaaGreat.Dg

/- The walk through WireFrames. -/
import Derived.Test.YtckepkgooinohaaWrZ
import Derived.Test.YtckepkgooinohaaWrJ
import Derived.Test.YtckepkgooinohaaWrL
import Derived.Test.YtckepkgooinohaaWrM
namespace Go.Proofs.Ytckepkgooinohaa.wireFrames
open Go.RowKit Go.ChangeShapes Go.WideShapes Go.ChangeAt Dg
set_option maxRecDepth 100000 in
set_option maxHeartbeats 4000000 in
theorem walk_big (v u : Value) (l m : List UInt8) (w : World) (hv : Bs w w.heap.size v l) (hu : Bs w w.heap.size u m) (hl : l.length ≤ 140737488351232) (hbig : 524288 < l.length) :
    Calls Try.prog 4 #[v, u] w (LawPost w) := by
  have HV := Lib.hid hv
  obtain ⟨A, c, rfl, -, -, -⟩ := id hv
  obtain ⟨A', c', rfl, -, -, -⟩ := id hu
  clear hv hu
  go_enter Try.func4, Try.ntmps4
  go_wp2_with fail
  refine (lend_any w HV.out (by omega)).mono ?_
  rintro e w1 ⟨g, rfl, ho1, ha1⟩
  have H1 := Lib.hid (And.intro (lent_bs ho1) (And.intro ha1 ((HV.out.ab ha1 (Nat.le_refl _)).more ha1.size)))
  clear ho1 ha1
  go_wp2_with fail
  refine (frame_big w1 H1.out.1 hbig).mono ?_
  rintro e w2 ⟨rfl, rfl⟩
  go_wp2_with fail
  refine (rframe_big w1 H1.out.2.2 hbig).mono ?_
  rintro e w2 ⟨rfl, rfl⟩
  go_wp2_with fail
  refine (same_any (l := []) (m := []) (B := 0) (C := 0) w1 (bs_no w1) (bs_no w1)).mono ?_
  rintro e w2 ⟨rfl, rfl⟩
  have he : (([] : List UInt8) == []) = true := rfl
  rw [he]
  have hb : decide ((524288 : Int) < (l.length : Int)) = true := by rw [decide_eq_true_eq]; omega
  go_wp2_with fail
  refine (awake_any _).mono ?_
  rintro e w3 ⟨rfl, ha3⟩
  go_wp2_with fail
  go_ret
  exact ⟨rfl, H1.out.2.1.trans ha3⟩
set_option maxRecDepth 100000 in
set_option maxHeartbeats 6000000 in
theorem walk_small (v u : Value) (l m : List UInt8) (w : World) (hv : Bs w w.heap.size v l) (hu : Bs w w.heap.size u m) (hm : m.length ≤ 140737488351232) (hl1 : l.length ≤ 524288) :
    Calls Try.prog 4 #[v, u] w (LawPost w) := by
  have HV := Lib.hid hv
  have HU := Lib.hid hu
  obtain ⟨A, c, rfl, hlc, hcm, -⟩ := id hv
  obtain ⟨A', c', rfl, -, -, -⟩ := id hu
  have hnb : ¬ 524288 < l.length := by omega
  clear hv hu
  go_enter Try.func4, Try.ntmps4
  go_wp2_with fail
  refine (lend_any w HV.out (by omega)).mono ?_
  rintro e w1 ⟨g, rfl, ho1, ha1⟩
  have H1 := Lib.hid (And.intro (lent_bs ho1) (And.intro ha1 (And.intro ((HV.out.ab ha1 (Nat.le_refl _)).more ha1.size) ho1)))
  clear ho1 ha1
  go_wp2_with fail
  refine (frame_any w1 H1.out.1 (Nat.le_refl _) hl1).mono ?_
  rintro e w2 ⟨v2, rfl, ho2, ha2⟩
  have hfn := frameL_length l
  have HT := Lib.hid (whole_told l m hl1)
  obtain ⟨fl, hfl⟩ : ∃ fl, frameL l = fl := ⟨_, rfl⟩
  rw [hfl] at ho2 hfn HT
  have HFL := Lib.hid hfl
  clear hfl
  have hne1 : fl ≠ [] := by intro e; subst e; simp at hfn; omega
  obtain ⟨gf, cap, rfl, hbg, hglt, hfc, hfcm, -, -⟩ := ho2.form hne1
  obtain ⟨N, hN⟩ : ∃ N, fl.length = N := ⟨_, rfl⟩
  rw [hN] at hfn hfc ho2 ⊢
  have hcap9 : cap ≤ 9223372036854775807 := by unfold maxLen at hfcm; exact hfcm
  have hN9 : N ≤ 9223372036854775807 := by omega
  have hN0 : ((N : Int) == 0) = false := by rw [beq_eq_false_iff_ne]; omega
  have H2 := Lib.hid (And.intro ho2 (And.intro (H1.out.2.1.trans ha2) (And.intro ((H1.out.2.2.1.ab ha2 (Nat.le_refl _)).more ha2.size) (And.intro ha2 (And.intro hN hfn)))))
  clear ho2 ha2 hN hfn hfcm
  go_wp2_with fail
  refine (rframe_any w2 H2.out.2.2.1 hl1).mono ?_
  rintro e w3 ⟨v3, rfl, ho3, ha3⟩
  rw [HFL.out] at ho3
  obtain ⟨A3, n3, c3, rfl⟩ := ho3.shape
  have H3 := Lib.hid (And.intro (H2.out.1.ab ha3) (And.intro ho3.bs (And.intro (H2.out.2.1.trans ha3) (H2.out.2.2.2.1.trans ha3))))
  clear ho3 ha3
  go_wp2_with fail
  refine (same_any w3 H3.out.1.bs H3.out.2.1).mono ?_
  rintro e w4 ⟨rfl, rfl⟩
  have he : (fl == fl) = true := by simp
  rw [he]
  have hb : decide ((524288 : Int) < (l.length : Int)) = false := by rw [decide_eq_false_iff_not]; omega
  have hbase : w1.heap.size ≤ w3.heap.size := H3.out.2.2.2.size
  have hml : ([] : List UInt8).length + fl.length ≤ 200000000000000 := by rw [H2.out.2.2.2.2.1]; have := H2.out.2.2.2.2.2; simp; omega
  have hml2 : ([] ++ fl : List UInt8).length + m.length ≤ 200000000000000 := by rw [List.nil_append, H2.out.2.2.2.2.1]; have := H2.out.2.2.2.2.2; omega
  have HML := Lib.hid (And.intro hml hml2)
  clear hml hml2
  go_wp2_with (at_builtin; refine wpList_bytes3 rfl _ _ _ rfl _ _ rfl rfl w3.heap.size [] fl (Ob.made w3 #[] _ (Nat.le_refl _) (by simp [maxLen])) (src_bs Try.underlying25 (H3.out.1.bs.ab ((Ab.refl w3).alloc _) (Nat.le_refl _))) HML.out.1 (by simp) ?_)
  intro A5 n5 c5 w5 ho5 hf5
  have ha5 : Ab w3 w5 := hf5.ab ((Ab.refl w3).alloc _) (Nat.le_refl _)
  have hu5 : Bs w5 w.heap.size (.slice A' m.length c') m := HU.out.ab (H3.out.2.2.1.trans ha5) (Nat.le_refl _)
  have H5 := Lib.hid (And.intro ho5 (And.intro ha5 hu5))
  clear ho5 hf5 ha5 hu5
  go_wp2_with (at_builtin; refine wpList_bytes3 rfl _ _ _ rfl _ _ rfl rfl w3.heap.size _ m H5.out.1 (src_bs Try.underlying25 H5.out.2.2) HML.out.2 H5.out.2.1.size ?_)
  intro A6 n6 c6 w6 ho6 hf6
  have ho6 : Ob w6 w3.heap.size (.slice A6 n6 c6) (fl ++ m) := ho6
  have ha6 : Ab w3 w6 := hf6.ab H5.out.2.1 (Nat.le_refl _)
  have hn6 : (fl ++ m).length = n6 := by
    obtain ⟨A9, c9, hv9, -, -⟩ := ho6.len_cap
    injection hv9 with _ h9 _
    exact h9.symm
  have H6 := Lib.hid (And.intro ho6 (And.intro ha6 hn6))
  clear ho6 hf6 ha6 hn6 H5
  go_wp2_with fail
  refine (unframe_any w6 H6.out.1.bs (Nat.le_refl _)).mono ?_
  rintro e w7 ⟨u7, rfl, ho7, ha7⟩
  rw [HT.out.1, HT.out.2.2]
  rw [HT.out.2.1] at ho7
  obtain ⟨A7, n7, c7, rfl⟩ := ho7.shape
  have H7 := Lib.hid (And.intro ho7 ha7)
  clear ho7 ha7
  go_wp2_with fail
  refine (same_any w7 H7.out.1.bs (HV.out.ab (((H3.out.2.2.1).trans H6.out.2.1).trans H7.out.2) (Nat.le_refl _))).mono ?_
  rintro e w8 ⟨rfl, rfl⟩
  have he2 : (l == l) = true := by simp
  rw [he2]
  have hq : (((8 + l.length : Nat) : Int) == (N : Int)) = true := by rw [beq_iff_eq]; have := H2.out.2.2.2.2.2; omega
  have hq2 : ((8 : Int) + (l.length : Int) == (N : Int)) = true := by rw [beq_iff_eq]; have := H2.out.2.2.2.2.2; omega
  go_wp2_with fail
  refine (num_any _ _).mono ?_
  rintro e w8 ⟨rfl, rfl⟩
  clear hq hq2
  go_wp2_with fail
  refine (spoil_any w7 H7.out.1 (by omega)).mono ?_
  rintro e w8 ⟨rfl, hf8⟩
  have ha8 : Ab w6 w8 := hf8.ab H7.out.2 (Nat.le_refl _)
  have H8 := Lib.hid ha8
  clear hf8 ha8
  have hN6 : N ≤ (fl ++ m).length := by rw [List.length_append, H2.out.2.2.2.2.1]; omega
  have hs6 : (fl ++ m).take N = fl := by rw [List.take_append_of_le_length (by rw [H2.out.2.2.2.2.1]; exact Nat.le_refl _), List.take_of_length_le (by rw [H2.out.2.2.2.2.1]; exact Nat.le_refl _)]
  obtain ⟨A9, c9, hv9, hc9, hc10⟩ := H6.out.1.len_cap
  injection hv9 with h9a h9b h9c
  subst h9a h9c
  have hNc : N ≤ c6 := by omega
  have htk : Bs w8 w6.heap.size (.slice A6 N c6) fl := by
    have := take_bs (n := n6) (c := c6) (A := A6) (H6.out.1.bs.ab H8.out (Nat.le_refl _)) N hN6
    rwa [hs6] at this
  have HTK := Lib.hid htk
  have hsl := fun wx => run_slice_head A6 n6 c6 N (N : Int) rfl hNc wx
  clear hN6 hs6 htk hc9 hc10 h9b
  go_wp2_with fail
  refine (same_any w8 HTK.out (H3.out.1.bs.ab (H6.out.2.1.trans H8.out) (Nat.le_refl _))).mono ?_
  rintro e w9 ⟨rfl, rfl⟩
  rw [he]
  go_wp2_with fail
  refine (kept_any w8 g (H1.out.2.2.2.ab ((H3.out.2.2.2.trans H6.out.2.1).trans H8.out)) (HV.out.ab ((H3.out.2.2.1.trans H6.out.2.1).trans H8.out) (Nat.le_refl _)) (by omega)).mono ?_
  rintro e w9 ⟨rfl, ha9⟩
  go_wp2_with fail
  refine (awake_any _).mono ?_
  rintro e w10 ⟨rfl, ha10⟩
  go_wp2_with fail
  go_ret
  exact ⟨rfl, ((((H3.out.2.2.1.trans H6.out.2.1).trans H8.out).trans ha9).trans ha10)⟩
end Go.Proofs.Ytckepkgooinohaa.wireFrames

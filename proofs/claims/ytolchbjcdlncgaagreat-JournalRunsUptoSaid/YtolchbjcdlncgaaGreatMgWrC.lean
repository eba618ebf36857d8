/- Texts joined: WrC WrI. -/
import Derived.OwnWalk
import Derived.Deep.RegionHeld3
import Derived.Deep.DrawnRows
import Derived.IntWalk
import Derived.Test.YtolchbjcdlncgaaGreatMgDgAq
import Derived.Test.YtolchbjcdlncgaaGreatMgDgG
import Derived.Test.YtolchbjcdlncgaaGreatMgWrA
/- wire.Frame. -/
namespace Go.Proofs.YtolchbjcdlncgaaGreat.Dg
open Go.RowKit
variable {w w' : World} {base B : Nat} {v : Value} {l : List UInt8}
/-- A frame's bytes. -/
def frameL (l : List UInt8) : List UInt8 := lowL l.length 4 ++ lowL (crcL l).toNat 4 ++ l
theorem frameL_length (l : List UInt8) : (frameL l).length = 8 + l.length := by
  simp only [frameL, List.length_append, lowL_length]
set_option maxRecDepth 100000 in
set_option maxHeartbeats 1000000 in
theorem frame_big (w : World) (h : Bs w B v l) (hl : 524288 < l.length) :
    Calls Tryz.prog 54 #[v] w fun e w' => e = .returned (.slice none 0 0) ∧ w = w' := by
  obtain ⟨A, c, rfl, h1, h2, h3⟩ := h
  clear h3
  go_enter Tryz.func54, Tryz.ntmps54
  go_wp2
  go_ret
  exact ⟨rfl, rfl⟩
set_option maxRecDepth 100000 in
set_option maxHeartbeats 2000000 in
theorem frame_any (w : World) (h : Bs w B v l) (hB : B ≤ w.heap.size) (hl : l.length ≤ 524288) :
    Calls Tryz.prog 54 #[v] w fun e w' => ∃ v', e = .returned v' ∧ Ob w' w.heap.size v' (frameL l) ∧ Ab w w' := by
  have hnl : ¬ 524288 < l.length := by omega
  have HB := Lib.hid h
  obtain ⟨A, c, rfl, h1, h2, h3⟩ := h
  clear h3
  obtain ⟨i0, hi, hz0, hz1, hz2⟩ := info_parts info8
  have HI := Lib.hid (And.intro hi (And.intro hz0 (And.intro hz1 hz2)))
  clear hi hz0 hz1 hz2
  go_enter Tryz.func54, Tryz.ntmps54
  go_wp2_with (refine wpList_make_own w rfl _ _ 27 rfl w.heap.size 5 i0 (.int .u8 0) 1 Tryz.underlying27 HI.out.1 HI.out.2.1 HI.out.2.2.1 .i64 .i64 (8 + (l.length : Int)) (8 + l.length) rfl (by go_num) (by omega) (by rw [HI.out.2.2.2]; omega) (by unfold maxLen; omega) (Nat.le_refl _) ?_)
  intro w1 ho1 hg1
  have ho1 : Ob w1 w.heap.size (.slice (some ⟨w.heap.size, 0, none⟩) 0 (8 + l.length)) [] := ho1
  have ha1 : Ab w w1 := grown_ab (Ab.refl w) hg1 (fun k hk => by cases hk)
  have HH := Lib.hid (And.intro ho1 ha1)
  have hs1 := hg1.size
  clear ho1 hg1 ha1
  go_wp2_with fail
  refine (appendLow_any l.length (by omega) 4 (by omega) w1 _ [] w.heap.size HH.out.1 hs1 (by simp)).mono ?_
  rintro e w2 ⟨v2, rfl, ho2, hf2⟩
  have ha2 := hf2.ab HH.out.2 (Nat.le_refl _)
  have hs2 := ha2.size
  have H2 := Lib.hid (And.intro ho2 ha2)
  clear ho2 hf2 ha2 HH hs1
  go_wp2_with fail
  refine (new_any w2).mono ?_
  rintro e w3 ⟨rfl, he3, ha3⟩
  have hb3 : Bs w3 B (.slice A l.length c) l := (HB.out.ab H2.out.2 hB).ab ha3 (Nat.le_trans hB hs2)
  go_wp2_with fail
  refine (Crc_eng w2.heap.size B _ l w3 (.inl he3) (by omega) hb3 (Nat.le_trans hB hs2) (Nat.le_trans (Nat.le_trans hB hs2) ha3.size)).mono ?_
  rintro e w4 ⟨rfl, he4, hg4⟩
  have ha4 : Ab w2 w4 := hg4.ab ha3 (Nat.le_refl _)
  have ho4 := H2.out.1.ab ha4
  have H4 := Lib.hid (And.intro ho4 (H2.out.2.trans ha4))
  have hs4 := (H2.out.2.trans ha4).size
  clear he3 ha3 hb3 he4 hg4 ha4 ho4 H2 hs2
  have hcn : IntKind.u64.wrap (n32 (crcL l)) = ((crcL l).toNat : Int) := by
    have := (crcL l).toNat_lt
    rw [IntKind.wrap_u64]; unfold n32; omega
  go_wp2_with fail
  refine (appendLow_any (crcL l).toNat (by have := (crcL l).toNat_lt; omega) 4 (by omega) w4 _ _ w.heap.size H4.out.1 hs4 (by simp [lowL_length])).mono ?_
  rintro e w5 ⟨v5, rfl, ho5, hf5⟩
  have ho5 : Ob w5 w.heap.size v5 (lowL l.length 4 ++ lowL (crcL l).toNat 4) := by simpa using ho5
  have ha5 := hf5.ab H4.out.2 (Nat.le_refl _)
  have H5 := Lib.hid (And.intro ho5 ha5)
  have hs5 := ha5.size
  clear ho5 hf5 ha5 H4 hs4 hcn
  go_wp2_with (at_builtin; refine wpList_bytes rfl _ _ _ rfl _ _ rfl rfl w.heap.size _ l H5.out.1 ?ap2 ?ap3 hs5 ?_)
  case ap2 => exact src_bs Tryz.underlying27 (HB.out.ab H5.out.2 hB)
  case ap3 => simp [lowL_length]; omega
  intro v6 w6 ho6 hg6 hbl6
  have ha6 := (H5.out.1.grown hg6).ab H5.out.2 (Nat.le_refl _)
  have H6 := Lib.hid (And.intro ho6 ha6)
  clear ho6 hg6 hbl6 ha6 H5 hs5
  go_wp2_with fail
  go_ret
  exact ⟨_, rfl, H6.out.1, H6.out.2⟩
end Go.Proofs.YtolchbjcdlncgaaGreat.Dg

/- wire.Unframe. -/
namespace Go.Proofs.YtolchbjcdlncgaaGreat.Dg
open Go.RowKit
variable {w w' : World} {base B cb : Nat} {v : Value} {l : List UInt8}
/-- What Unframe answers: the error's number, the content, the frame's size. -/
def ufE (l : List UInt8) : Nat :=
  if l.length < 8 then 11 else if 524288 < valL (l.take 4) then 27 else if l.length < 8 + valL (l.take 4) then 11
  else if (crcL ((l.drop 8).take (valL (l.take 4)))).toNat = valL ((l.drop 4).take 4) then 0 else 74
def ufC (l : List UInt8) : List UInt8 := if ufE l = 0 then (l.drop 8).take (valL (l.take 4)) else []
def ufN (l : List UInt8) : Nat := if ufE l = 0 then 8 + valL (l.take 4) else 0
/-- The answer in memory. -/
def UfPost (l : List UInt8) (w : World) (e : Ending) (w' : World) : Prop :=
  ∃ u, e = .returned (.tuple #[u, .int .i64 (ufN l : Int), .int .i64 (ufE l : Int)]) ∧ Ob w' w.heap.size u (ufC l) ∧ Ab w w'
theorem uf_bad {l : List UInt8} {w w' : World} (k : Nat) (hk : ufE l = k) (h0 : k ≠ 0) (hab : Ab w w') : UfPost l w (.returned (.tuple #[.slice none 0 0, .int .i64 0, .int .i64 (k : Int)])) w' := by
  have hC : ufC l = [] := by unfold ufC; rw [if_neg (by rw [hk]; exact h0)]
  have hN : ufN l = 0 := by unfold ufN; rw [if_neg (by rw [hk]; exact h0)]
  exact ⟨.slice none 0 0, by rw [hN, hk]; rfl, by rw [hC]; exact Ob.nil _ _, hab⟩
theorem crc_new {w3 : World} (he : Eng w3 w.heap.size 0 0 noTab 0) (ha : Ab w w3) (hv : Bs w B v l) (hB : B ≤ w.heap.size) :
    Calls Tryz.prog 75 #[.pointer (some ⟨w.heap.size, 0, none⟩), v] w3 fun e w' => e = .returned (.int .u32 (n32 (crcL l))) ∧ Ab w w' :=
  (Crc_eng w.heap.size B v l w3 (.inl he) (by omega) (hv.ab ha hB) hB (Nat.le_trans hB ha.size)).mono fun _ _ ⟨h1, _, h3⟩ => ⟨h1, h3.ab ha (Nat.le_refl _)⟩
attribute [local go_sem ↓] Go.wp_at_zero Go.wp_at_succ
set_option maxRecDepth 100000 in
set_option maxHeartbeats 2000000 in
theorem unframe_any (w : World) (h : Bs w B v l) (hB : B ≤ w.heap.size) :
    Calls Tryz.prog 71 #[v] w (UfPost l w) := by
  have HB := Lib.hid h
  obtain ⟨A, c, rfl, h1, h2, -⟩ := id h
  have hlm : l.length ≤ 9223372036854775807 := by omega
  by_cases h8 : l.length < 8
  · have HP := Lib.hid (show ufE l = 11 by unfold ufE; rw [if_pos h8])
    clear h
    go_enter Tryz.func71, Tryz.ntmps71
    go_wp2_with fail
    refine bodyPost_ret (v := .tuple #[.slice none 0 0, .int .i64 0, .int .i64 11]) ?_ rfl (uf_bad 11 HP.out (by omega) (Ab.refl w))
    simp [results, Tryz.results71, go_sem]
  · have hsh := fun wx => run_slice_head A l.length c 4 4 rfl (by omega) wx
    have hbt := take_bs h 4 (by omega)
    obtain ⟨n, hn⟩ : ∃ n, valL (l.take 4) = n := ⟨_, rfl⟩
    have hn32 : n < 4294967296 := by
      have := valL_lt (l.take 4)
      rw [List.length_take, show min 4 l.length = 4 by omega] at this
      omega
    have HT := Lib.hid hbt
    have HN := Lib.hid hn
    by_cases hbig : 524288 < n
    · have HP := Lib.hid (show ufE l = 27 by unfold ufE; rw [if_neg h8, hn, if_pos hbig])
      clear h hbt hn
      go_enter Tryz.func71, Tryz.ntmps71
      go_wp2_with fail
      refine (lowFirst_any w HT.out (by rw [List.length_take]; omega)).mono ?_
      rintro e w2 ⟨rfl, rfl⟩
      rw [HN.out]
      go_wp2_with fail
      refine bodyPost_ret (v := .tuple #[.slice none 0 0, .int .i64 0, .int .i64 27]) ?_ rfl (uf_bad 27 HP.out (by omega) (Ab.refl w))
      simp [results, Tryz.results71, go_sem]
    · by_cases hsh2 : l.length < 8 + n
      · have HP := Lib.hid (show ufE l = 11 by unfold ufE; rw [if_neg h8, hn, if_neg hbig, if_pos hsh2])
        clear h hbt hn
        go_enter Tryz.func71, Tryz.ntmps71
        go_wp2_with fail
        refine (lowFirst_any w HT.out (by rw [List.length_take]; omega)).mono ?_
        rintro e w2 ⟨rfl, rfl⟩
        rw [HN.out]
        go_wp2_with fail
        refine bodyPost_ret (v := .tuple #[.slice none 0 0, .int .i64 0, .int .i64 11]) ?_ rfl (uf_bad 11 HP.out (by omega) (Ab.refl w))
        simp [results, Tryz.results71, go_sem]
      · have hmid := midB h 8 (8 + n) (by omega) (by omega)
        have hcks := midB h 4 8 (by omega) (by omega)
        rw [show 8 + n - 8 = n by omega] at hmid
        have hsl := fun wx => run_slice_mid A l.length c 8 (8 + n) (by omega) (by omega) wx
        rw [show 8 + n - 8 = n by omega] at hsl
        have hs4 := fun wx => run_slice_mid A l.length c 4 8 (by omega) (by omega) wx
        have hE : ufE l = if (crcL ((l.drop 8).take n)).toNat = valL ((l.drop 4).take 4) then 0 else 74 := by unfold ufE; rw [if_neg h8, hn, if_neg hbig, if_neg hsh2]
        have hctl : ((l.drop 8).take n).length = n := by rw [List.length_take, List.length_drop]; omega
        have hC : ufE l = 0 → ufC l = (l.drop 8).take n ∧ ufN l = 8 + n := fun h0 => by unfold ufC ufN; rw [if_pos h0, if_pos h0, hn]; exact ⟨rfl, rfl⟩
        have hkl : ((l.drop 4).take 4).length ≤ 8 := by rw [List.length_take]; omega
        generalize (l.drop 8).take n = ct at *
        generalize (l.drop 4).take 4 = cks at *
        obtain ⟨m, hm⟩ : ∃ m, (crcL ct).toNat = m := ⟨_, rfl⟩
        obtain ⟨k, hk⟩ : ∃ k, valL cks = k := ⟨_, rfl⟩
        have hcn : IntKind.u64.wrap (n32 (crcL ct)) = (m : Int) := by
          have := (crcL ct).toNat_lt
          rw [IntKind.wrap_u64, ← hm]; unfold n32; omega
        have hsz : IntKind.i64.wrap (8 + (n : Int)) = 8 + (n : Int) := IntWalk.i64_in _ (by omega)
        rw [hm, hk] at hE
        have HM := Lib.hid hmid
        have HK := Lib.hid hcks
        have HV := Lib.hid hk
        have HE := Lib.hid hE
        have HCC := Lib.hid hC
        have HL := Lib.hid hctl
        generalize winA A c 8 = A8 at *
        generalize winA A c 4 = A4 at *
        have hs4' : ∀ wx : World, (Instr.slice 27 (.slice A l.length c) (some (.int .i64 4)) (some (.int .i64 8)) none).run Tryz.prog wx = .ok (.slice A4 4 (c - 4)) wx := hs4
        have hsl' : ∀ wx : World, (Instr.slice 27 (.slice A l.length c) (some (.int .i64 8)) (some (.int .i64 (8 + (n : Int)))) none).run Tryz.prog wx = .ok (.slice A8 n (c - 8)) wx := hsl
        clear h hbt hn hmid hcks hk hE hC hctl hm hs4 hsl
        by_cases hmk : m = k
        · have hb1 : ((m : Int) != (k : Int)) = false := by simp [hmk]
          go_enter Tryz.func71, Tryz.ntmps71
          go_wp2_with fail
          refine (lowFirst_any w HT.out (by rw [List.length_take]; omega)).mono ?_
          rintro e w2 ⟨rfl, rfl⟩
          rw [HN.out]
          go_wp2_with fail
          go_region_held3 (fun _ => True) (trivial) (first | (go_at_call 74; (with_reducible refine (new_any _).mono ?_); rintro e w3 ⟨rfl, he3, ha3⟩; (have HE3 := Lib.hid (show Eng w3 w.heap.size 0 0 noTab 0 from he3)); (have HA3 := Lib.hid (Ab.trans (Ab.refl w).drew ha3)); clear he3 ha3) | (go_at_call 75; (with_reducible refine (crc_new HE3.out HA3.out HM.out hB).mono ?_); rintro e w4 ⟨rfl, ha4⟩; (have HW4 := Lib.hid ha4); clear ha4) | (go_at_call 82; (with_reducible refine (lowFirst_any _ (HK.out.ab HW4.out hB) hkl).mono ?_); rintro e w5 ⟨rfl, rfl⟩; rw [HV.out]))
          have h0 : ufE l = 0 := by rw [HE.out, if_pos hmk]
          obtain ⟨hc0, hn0⟩ := HCC.out h0
          have HR := Lib.hid (And.intro h0 (And.intro hc0 hn0))
          have hct2 : ([] : List UInt8).length + ct.length ≤ 200000000000000 := by rw [HL.out]; simp; omega
          have HX := Lib.hid hct2
          clear h0 hc0 hn0 hct2
          go_wp2_with (at_builtin; refine wpList_bytes3 rfl _ _ _ rfl _ _ rfl rfl w.heap.size [] ct (Ob.nil _ _) (src_bs Tryz.underlying27 (HM.out.ab HW4.out hB)) HX.out HW4.out.size ?_)
          intro A5 n5 c5 w5 ho5 hf5
          have ho5 : Ob w5 w.heap.size (.slice A5 n5 c5) ct := ho5
          have H5 := Lib.hid (And.intro ho5 (hf5.ab HW4.out (Nat.le_refl _)))
          clear ho5 hf5
          go_wp2_with fail
          refine bodyPost_ret (v := .tuple #[.slice A5 n5 c5, .int .i64 (8 + (n : Int)), .int .i64 0]) ?_ rfl ⟨.slice A5 n5 c5, ?_, ?_, H5.out.2⟩
          · simp [results, Tryz.results71, go_sem]
          · rw [HR.out.2.2, HR.out.1]; rfl
          · rw [HR.out.2.1]; exact H5.out.1
        · have hmk2 : ¬ (m : Int) = (k : Int) := by omega
          have hb1 : ((m : Int) == (k : Int)) = false := by rw [beq_eq_false_iff_ne]; exact hmk2
          go_enter Tryz.func71, Tryz.ntmps71
          go_wp2_with fail
          refine (lowFirst_any w HT.out (by rw [List.length_take]; omega)).mono ?_
          rintro e w2 ⟨rfl, rfl⟩
          rw [HN.out]
          go_wp2_with fail
          go_region_held3 (fun _ => True) (trivial) (first | (go_at_call 74; (with_reducible refine (new_any _).mono ?_); rintro e w3 ⟨rfl, he3, ha3⟩; (have HE3 := Lib.hid (show Eng w3 w.heap.size 0 0 noTab 0 from he3)); (have HA3 := Lib.hid (Ab.trans (Ab.refl w).drew ha3)); clear he3 ha3) | (go_at_call 75; (with_reducible refine (crc_new HE3.out HA3.out HM.out hB).mono ?_); rintro e w4 ⟨rfl, ha4⟩; (have HW4 := Lib.hid ha4); clear ha4) | (go_at_call 82; (with_reducible refine (lowFirst_any _ (HK.out.ab HW4.out hB) hkl).mono ?_); rintro e w5 ⟨rfl, rfl⟩; rw [HV.out]))
          have HP := Lib.hid (show ufE l = 74 by rw [HE.out, if_neg hmk])
          go_wp2_with fail
          refine bodyPost_ret (v := .tuple #[.slice none 0 0, .int .i64 0, .int .i64 74]) ?_ rfl (uf_bad 74 HP.out (by omega) HW4.out)
          simp [results, Tryz.results71, go_sem]
end Go.Proofs.YtolchbjcdlncgaaGreat.Dg

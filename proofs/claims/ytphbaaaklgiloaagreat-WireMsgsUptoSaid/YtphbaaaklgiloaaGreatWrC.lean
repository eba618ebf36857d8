/- wire.Frame. -/
import Derived.Test.YtphbaaaklgiloaaGreatWrB
import Derived.Test.YtphbaaaklgiloaaGreatDgXc
import Derived.OwnWalk
namespace Go.Proofs.YtphbaaaklgiloaaGreat.Dg
open Go.RowKit
variable {w w' : World} {base B : Nat} {v : Value} {l : List UInt8}
/-- A frame's bytes. -/
def frameL (l : List UInt8) : List UInt8 := lowL l.length 4 ++ lowL (crcL l).toNat 4 ++ l
theorem frameL_length (l : List UInt8) : (frameL l).length = 8 + l.length := by
  simp only [frameL, List.length_append, lowL_length]
set_option maxRecDepth 100000 in
set_option maxHeartbeats 1000000 in
theorem frame_big (w : World) (h : Bs w B v l) (hl : 524288 < l.length) :
    Calls Tryz.prog 37 #[v] w fun e w' => e = .returned (.slice none 0 0) ∧ w = w' := by
  obtain ⟨A, c, rfl, h1, h2, h3⟩ := h
  clear h3
  go_enter Tryz.func37, Tryz.ntmps37
  go_wp2
  go_ret
  exact ⟨rfl, rfl⟩
set_option maxRecDepth 100000 in
set_option maxHeartbeats 2000000 in
theorem frame_any (w : World) (h : Bs w B v l) (hB : B ≤ w.heap.size) (hl : l.length ≤ 524288) :
    Calls Tryz.prog 37 #[v] w fun e w' => ∃ v', e = .returned v' ∧ Ob w' w.heap.size v' (frameL l) ∧ Ab w w' := by
  have hnl : ¬ 524288 < l.length := by omega
  have HB := Lib.hid h
  obtain ⟨A, c, rfl, h1, h2, h3⟩ := h
  clear h3
  obtain ⟨i0, hi, hz0, hz1, hz2⟩ := info_parts info8
  have HI := Lib.hid (And.intro hi (And.intro hz0 (And.intro hz1 hz2)))
  clear hi hz0 hz1 hz2
  go_enter Tryz.func37, Tryz.ntmps37
  go_wp2_with (refine wpList_make_own w rfl _ _ 41 rfl w.heap.size 5 i0 (.int .u8 0) 1 Tryz.underlying41 HI.out.1 HI.out.2.1 HI.out.2.2.1 .i64 .i64 (8 + (l.length : Int)) (8 + l.length) rfl (by go_num) (by omega) (by rw [HI.out.2.2.2]; omega) (by unfold maxLen; omega) (Nat.le_refl _) ?_)
  intro w1 ho1 hg1
  have ho1 : Ob w1 w.heap.size (.slice (some ⟨w.heap.size, 0, none⟩) 0 (8 + l.length)) [] := ho1
  have ha1 : Ab w w1 := grown_ab (Ab.refl w) hg1 (fun k hk => by cases hk)
  have HH := Lib.hid (And.intro ho1 ha1)
  have hs1 := hg1.size
  clear ho1 hg1 ha1
  go_wp2_with fail
  refine (appendLow_any l.length (by omega) 4 (by omega) w1 _ [] w.heap.size HH.out.1 hs1 (by simp)).mono ?_
  rintro e w2 ⟨v2, rfl, ho2, hf2⟩
  have ha2 := hf2.ab HH.out.2 (Nat.le_refl _)
  have hs2 := ha2.size
  have H2 := Lib.hid (And.intro ho2 ha2)
  clear ho2 hf2 ha2 HH hs1
  go_wp2_with fail
  refine (new_any w2).mono ?_
  rintro e w3 ⟨rfl, he3, ha3⟩
  have hb3 : Bs w3 B (.slice A l.length c) l := (HB.out.ab H2.out.2 hB).ab ha3 (Nat.le_trans hB hs2)
  go_wp2_with fail
  refine (Crc_eng w2.heap.size B _ l w3 (.inl he3) (by omega) hb3 (Nat.le_trans hB hs2) (Nat.le_trans (Nat.le_trans hB hs2) ha3.size)).mono ?_
  rintro e w4 ⟨rfl, he4, hg4⟩
  have ha4 : Ab w2 w4 := hg4.ab ha3 (Nat.le_refl _)
  have ho4 := H2.out.1.ab ha4
  have H4 := Lib.hid (And.intro ho4 (H2.out.2.trans ha4))
  have hs4 := (H2.out.2.trans ha4).size
  clear he3 ha3 hb3 he4 hg4 ha4 ho4 H2 hs2
  have hcn : IntKind.u64.wrap (n32 (crcL l)) = ((crcL l).toNat : Int) := by
    have := (crcL l).toNat_lt
    rw [IntKind.wrap_u64]; unfold n32; omega
  go_wp2_with fail
  refine (appendLow_any (crcL l).toNat (by have := (crcL l).toNat_lt; omega) 4 (by omega) w4 _ _ w.heap.size H4.out.1 hs4 (by simp [lowL_length])).mono ?_
  rintro e w5 ⟨v5, rfl, ho5, hf5⟩
  have ho5 : Ob w5 w.heap.size v5 (lowL l.length 4 ++ lowL (crcL l).toNat 4) := by simpa using ho5
  have ha5 := hf5.ab H4.out.2 (Nat.le_refl _)
  have H5 := Lib.hid (And.intro ho5 ha5)
  have hs5 := ha5.size
  clear ho5 hf5 ha5 H4 hs4 hcn
  go_wp2_with (at_builtin; refine wpList_bytes rfl _ _ _ rfl _ _ rfl rfl w.heap.size _ l H5.out.1 ?ap2 ?ap3 hs5 ?_)
  case ap2 => exact src_bs Tryz.underlying41 (HB.out.ab H5.out.2 hB)
  case ap3 => simp [lowL_length]; omega
  intro v6 w6 ho6 hg6 hbl6
  have ha6 := (H5.out.1.grown hg6).ab H5.out.2 (Nat.le_refl _)
  have H6 := Lib.hid (And.intro ho6 ha6)
  clear ho6 hg6 hbl6 ha6 H5 hs5
  go_wp2_with fail
  go_ret
  exact ⟨_, rfl, H6.out.1, H6.out.2⟩
end Go.Proofs.YtphbaaaklgiloaaGreat.Dg

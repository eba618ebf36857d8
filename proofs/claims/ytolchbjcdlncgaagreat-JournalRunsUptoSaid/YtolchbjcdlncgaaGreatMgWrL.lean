/- Texts joined: WrL. -/
import Derived.Test.YtolchbjcdlncgaaGreatMgDgJ
import Derived.Test.YtolchbjcdlncgaaGreatMgWrC
/- wire's reference: words and counts written; Frame. -/
namespace Go.Proofs.YtolchbjcdlncgaaGreat.Dg
open Go.RowKit
variable {w w' : World} {base B : Nat} {v : Value} {l : List UInt8}
set_option maxRecDepth 100000 in
set_option maxHeartbeats 1000000 in
theorem rword_w (n : Nat) (hn : n < 4294967296) (w : World) (v : Value) (l : List UInt8) (base : Nat) (h : Ob w base v l) (hb : base ≤ w.heap.size) (hl : l.length ≤ 150000000000000) :
    Calls Tryz.prog 78 #[v, .int .u32 (n : Int)] w fun e w' => ∃ v', e = .returned v' ∧ Ob w' base v' (l ++ lowL n 4) ∧ Fr base w w' := by
  have HN := Lib.hid hn
  clear hn
  go_enter Tryz.func78, Tryz.ntmps78
  go_wp2
  go_loopw [0, 6] (fun b i wr => ∃ j : Nat, j ≤ 4 ∧ i = .int .i64 (j : Int) ∧ Ob wr base b (l ++ lowL n j) ∧ Fr base w wr) (fun _ i _ => 4 - (intOf i).toNat)
  case atStart => exact ⟨0, Nat.zero_le _, rfl, by simpa [lowL] using h, Fr.refl _ _⟩
  case round =>
    obtain ⟨j, hj, rfl, ho, hf⟩ := hrel
    by_cases hlt : j < 4
    · have HO := Lib.hid ho
      have HF := Lib.hid hf
      have hbs := hf.size
      clear ho hf h
      have hx : ((n : Int) / 2 ^ (8 * j) % 256) = n8 (UInt8.ofNat (n / 2 ^ (8 * j))) := by
        rw [← byte_of]; norm_cast
      have HX := Lib.hid hx
      clear hx
      have hj8 : (lowL n j).length = j := lowL_length n j
      go_wp2_with (at_builtin; refine wpList_bytes rfl _ _ _ rfl _ _ rfl rfl base (l ++ lowL n j) [UInt8.ofNat (n / 2 ^ (8 * j))] ?ap1 ?ap2 ?ap3 ?ap4 ?_)
      case ap1 => exact HO.out.alloc _
      case ap2 => exact src_one Tryz.underlying27 (by rw [← HX.out]; simp [go_sem]) 1
      case ap3 => rw [List.length_append, hj8]; simp; omega
      case ap4 => simp; omega
      intro v2 w2 ho2 hg2 hbl2
      have hf2 := (HF.out.alloc (.cells #[.int .u8 ((n : Int) / 2 ^ (8 * j) % 256)] 5)).trans ((HO.out.alloc _).grown hg2)
      have HH := Lib.hid (And.intro ho2 hf2)
      clear ho2 hg2 hbl2 hf2
      go_wp2_with fail
      go_roundw
      case rel => exact ⟨j + 1, by omega, by go_num, by rw [lowL_succ]; exact HH.out.1, HH.out.2⟩
      case measure => simp [intOf]; omega
    · go_wp2
      go_ret
      have : j = 4 := by omega
      subst this
      exact ⟨_, rfl, ho, hf⟩
set_option maxRecDepth 100000 in
set_option maxHeartbeats 1000000 in
theorem rcount_w (n : Nat) (hn : n < 4294967296) (w : World) (v : Value) (l : List UInt8) (base : Nat) (h : Ob w base v l) (hb : base ≤ w.heap.size) (hl : l.length ≤ 150000000000000) :
    Calls Tryz.prog 79 #[v, .int .i64 (n : Int)] w fun e w' => ∃ v', e = .returned v' ∧ Ob w' base v' (l ++ lowL n 4) ∧ Fr base w w' := by
  have hwr : (n : Int) % 4294967296 = (n : Int) := by omega
  have HN := Lib.hid hn
  obtain ⟨A, k, c, rfl⟩ := h.shape
  have HH := Lib.hid h
  clear hn h
  go_enter Tryz.func79, Tryz.ntmps79
  go_wp2_with fail
  refine (rword_w n HN.out w _ l base HH.out hb hl).mono ?_
  rintro e w2 ⟨v2, rfl, ho2, hf2⟩
  have H2 := Lib.hid (And.intro ho2 hf2)
  clear ho2 hf2
  go_wp2_with fail
  go_ret
  exact ⟨v2, rfl, H2.out.1, H2.out.2⟩
set_option maxRecDepth 100000 in
set_option maxHeartbeats 1000000 in
theorem rframe_any (w : World) (h : Bs w w.heap.size v l) (hl : l.length ≤ 524288) :
    Calls Tryz.prog 65 #[v] w fun e w' => ∃ v', e = .returned v' ∧ Ob w' w.heap.size v' (frameL l) ∧ Ab w w' := by
  have HB := Lib.hid h
  obtain ⟨A, c, rfl, h1, h2, -⟩ := id h
  have hnl : ¬ 524288 < l.length := by omega
  clear h
  go_enter Tryz.func65, Tryz.ntmps65
  go_wp2_with fail
  refine (rcount_w l.length (by omega) w _ [] w.heap.size (Ob.nil _ _) (Nat.le_refl _) (by simp)).mono ?_
  rintro e w2 ⟨v2, rfl, ho2, hf2⟩
  have ha2 := hf2.ab (Ab.refl w) (Nat.le_refl _)
  obtain ⟨A2, n2, c2, rfl⟩ := ho2.shape
  have H2 := Lib.hid (And.intro ho2 ha2)
  clear ho2 hf2 ha2
  go_wp2_with fail
  refine (rcrc_any w.heap.size _ l w2 (HB.out.ab H2.out.2 (Nat.le_refl _))).mono ?_
  rintro e w3 ⟨rfl, rfl⟩
  have hcr : n32 (crcL l) = ((crcL l).toNat : Int) := rfl
  rw [hcr]
  go_wp2_with fail
  refine (rword_w (crcL l).toNat (by have := (crcL l).toNat_lt; omega) w2 _ _ w.heap.size H2.out.1 H2.out.2.size (by simp [lowL_length])).mono ?_
  rintro e w4 ⟨v4, rfl, ho4, hf4⟩
  have ho4 : Ob w4 w.heap.size v4 (lowL l.length 4 ++ lowL (crcL l).toNat 4) := by simpa using ho4
  have ha4 := hf4.ab H2.out.2 (Nat.le_refl _)
  obtain ⟨A4, n4, c4, rfl⟩ := ho4.shape
  have H4 := Lib.hid (And.intro ho4 ha4)
  clear ho4 hf4 ha4
  go_wp2_with (at_builtin; refine wpList_bytes3 rfl _ _ _ rfl _ _ rfl rfl w.heap.size _ l H4.out.1 (src_bs Tryz.underlying27 (HB.out.ab H4.out.2 (Nat.le_refl _))) (by simp [lowL_length]; omega) H4.out.2.size ?_)
  intro A5 n5 c5 w5 ho5 hf5
  have ha5 := hf5.ab H4.out.2 (Nat.le_refl _)
  have H5 := Lib.hid (And.intro ho5 ha5)
  clear ho5 hf5 ha5
  go_wp2_with fail
  go_ret
  exact ⟨_, rfl, H5.out.1, H5.out.2⟩
theorem rframe_big (w : World) (h : Bs w w.heap.size v l) (hl : 524288 < l.length) :
    Calls Tryz.prog 65 #[v] w fun e w' => e = .returned (.slice none 0 0) ∧ w = w' := by
  obtain ⟨A, c, rfl, h1, h2, h3⟩ := h
  clear h3
  go_enter Tryz.func65, Tryz.ntmps65
  go_wp2
  go_ret
  exact ⟨rfl, rfl⟩
end Go.Proofs.YtolchbjcdlncgaaGreat.Dg

/- wire: the reference's Word and Count, writing. -/
import Derived.Test.YtphbaaaklgiloaaGreatWrB
import Derived.OwnWalk
namespace Go.Proofs.YtphbaaaklgiloaaGreat.Dg
open Go.RowKit
variable {w w' : World} {base B : Nat} {v : Value} {l : List UInt8}
set_option maxRecDepth 100000 in
set_option maxHeartbeats 1000000 in
theorem rword_w (n : Nat) (hn : n < 4294967296) (w : World) (v : Value) (l : List UInt8) (base : Nat) (h : Ob w base v l) (hb : base ≤ w.heap.size) (hl : l.length ≤ 150000000000000) :
    Calls Tryz.prog 146 #[v, .int .u32 (n : Int)] w fun e w' => ∃ v', e = .returned v' ∧ Ob w' base v' (l ++ lowL n 4) ∧ Fr base w w' := by
  have HN := Lib.hid hn
  clear hn
  go_enter Tryz.func146, Tryz.ntmps146
  go_wp2
  go_loopw [0, 6] (fun b i wr => ∃ j : Nat, j ≤ 4 ∧ i = .int .i64 (j : Int) ∧ Ob wr base b (l ++ lowL n j) ∧ Fr base w wr) (fun _ i _ => 4 - (intOf i).toNat)
  case atStart => exact ⟨0, Nat.zero_le _, rfl, by simpa [lowL] using h, Fr.refl _ _⟩
  case round =>
    obtain ⟨j, hj, rfl, ho, hf⟩ := hrel
    by_cases hlt : j < 4
    · have HO := Lib.hid ho
      have HF := Lib.hid hf
      have hbs := hf.size
      clear ho hf h
      have hx : ((n : Int) / 2 ^ (8 * j) % 256) = n8 (UInt8.ofNat (n / 2 ^ (8 * j))) := by
        rw [← byte_of]; norm_cast
      have HX := Lib.hid hx
      clear hx
      have hj8 : (lowL n j).length = j := lowL_length n j
      go_wp2_with (at_builtin; refine wpList_bytes rfl _ _ _ rfl _ _ rfl rfl base (l ++ lowL n j) [UInt8.ofNat (n / 2 ^ (8 * j))] ?ap1 ?ap2 ?ap3 ?ap4 ?_)
      case ap1 => exact HO.out.alloc _
      case ap2 => exact src_one Tryz.underlying41 (by rw [← HX.out]; simp [go_sem]) 1
      case ap3 => rw [List.length_append, hj8]; simp; omega
      case ap4 => simp; omega
      intro v2 w2 ho2 hg2 hbl2
      have hf2 := (HF.out.alloc (.cells #[.int .u8 ((n : Int) / 2 ^ (8 * j) % 256)] 5)).trans ((HO.out.alloc _).grown hg2)
      have HH := Lib.hid (And.intro ho2 hf2)
      clear ho2 hg2 hbl2 hf2
      go_wp2_with fail
      go_roundw
      case rel => exact ⟨j + 1, by omega, by go_num, by rw [lowL_succ]; exact HH.out.1, HH.out.2⟩
      case measure => simp [intOf]; omega
    · go_wp2
      go_ret
      have : j = 4 := by omega
      subst this
      exact ⟨_, rfl, ho, hf⟩
set_option maxRecDepth 100000 in
set_option maxHeartbeats 1000000 in
theorem rcount_w (n : Nat) (hn : n < 4294967296) (w : World) (v : Value) (l : List UInt8) (base : Nat) (h : Ob w base v l) (hb : base ≤ w.heap.size) (hl : l.length ≤ 150000000000000) :
    Calls Tryz.prog 82 #[v, .int .i64 (n : Int)] w fun e w' => ∃ v', e = .returned v' ∧ Ob w' base v' (l ++ lowL n 4) ∧ Fr base w w' := by
  have hwr : (n : Int) % 4294967296 = (n : Int) := by omega
  have HN := Lib.hid hn
  obtain ⟨A, k, c, rfl⟩ := h.shape
  have HH := Lib.hid h
  clear hn h
  go_enter Tryz.func82, Tryz.ntmps82
  go_wp2_with fail
  refine (rword_w n HN.out w _ l base HH.out hb hl).mono ?_
  rintro e w2 ⟨v2, rfl, ho2, hf2⟩
  have H2 := Lib.hid (And.intro ho2 hf2)
  clear ho2 hf2
  go_wp2_with fail
  go_ret
  exact ⟨v2, rfl, H2.out.1, H2.out.2⟩
end Go.Proofs.YtphbaaaklgiloaaGreat.Dg

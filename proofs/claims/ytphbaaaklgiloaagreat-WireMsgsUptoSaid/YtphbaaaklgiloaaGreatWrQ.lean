/- wire's reference: numbers, truths and bytes written. -/
import Derived.Test.YtphbaaaklgiloaaGreatWrLw
import Derived.Test.YtphbaaaklgiloaaGreatWrO
namespace Go.Proofs.YtphbaaaklgiloaaGreat.Dg
open Go.RowKit
variable {w w' : World} {base : Nat} {v : Value} {l : List UInt8}
/-- What the reference's functions that write do. -/
def PtPost (w : World) (base : Nat) (l m : List UInt8) (e : Ending) (w' : World) : Prop := ∃ v', e = .returned v' ∧ Ob w' base v' (l ++ m) ∧ Fr base w w'
theorem int_byte (n : Int) (j : Nat) (hj : j < 8) : (n / 2 ^ (8 * j)) % 256 = n8 (UInt8.ofNat ((n % 18446744073709551616).toNat / 2 ^ (8 * j))) := by
  rw [← byte_of]
  have h : j = 0 ∨ j = 1 ∨ j = 2 ∨ j = 3 ∨ j = 4 ∨ j = 5 ∨ j = 6 ∨ j = 7 := by omega
  rcases h with rfl | rfl | rfl | rfl | rfl | rfl | rfl | rfl <;> simp only [Nat.reduceMul, Int.reducePow, Nat.reducePow] <;> omega
set_option maxRecDepth 100000 in
set_option maxHeartbeats 1000000 in
theorem rint_w (n : Int) (w : World) (h : Ob w base v l) (hb : base ≤ w.heap.size) (hl : l.length ≤ 150000000000000) :
    Calls Tryz.prog 79 #[v, .int .i64 n] w (PtPost w base l (numL n)) := by
  go_enter Tryz.func79, Tryz.ntmps79
  go_wp2
  go_loopw [0, 6] (fun b i wr => ∃ j : Nat, j ≤ 8 ∧ i = .int .i64 (j : Int) ∧ Ob wr base b (l ++ lowL (n % 18446744073709551616).toNat j) ∧ Fr base w wr) (fun _ i _ => 8 - (intOf i).toNat)
  case atStart => exact ⟨0, Nat.zero_le _, rfl, by simpa [lowL] using h, Fr.refl _ _⟩
  case round =>
    obtain ⟨j, hj, rfl, ho, hf⟩ := hrel
    by_cases hlt : j < 8
    · have HO := Lib.hid ho
      have HF := Lib.hid hf
      have hbs := hf.size
      clear ho hf h
      have HX := Lib.hid (int_byte n j hlt)
      have hj8 : (lowL (n % 18446744073709551616).toNat j).length = j := lowL_length _ j
      have HJ := Lib.hid hj8
      clear hj8
      go_wp2_with (at_builtin; refine wpList_bytes rfl _ _ _ rfl _ _ rfl rfl base (l ++ lowL (n % 18446744073709551616).toNat j) [UInt8.ofNat ((n % 18446744073709551616).toNat / 2 ^ (8 * j))] ?ap1 ?ap2 ?ap3 ?ap4 ?_)
      case ap1 => exact HO.out.alloc _
      case ap2 => exact src_one Tryz.underlying41 (by rw [← HX.out]; simp [go_sem]) 1
      case ap3 => rw [List.length_append, HJ.out]; simp; omega
      case ap4 => simp; omega
      intro v2 w2 ho2 hg2 hbl2
      have hf2 := (HF.out.alloc (.cells #[.int .u8 (n / 2 ^ (8 * j) % 256)] 5)).trans ((HO.out.alloc _).grown hg2)
      have HH := Lib.hid (And.intro ho2 hf2)
      clear ho2 hg2 hbl2 hf2
      go_wp2_with fail
      go_roundw
      case rel => exact ⟨j + 1, by omega, by go_num, by rw [lowL_succ]; first | exact HH.out.1 | (rw [← List.append_assoc]; exact HH.out.1), HH.out.2⟩
      case measure => simp [intOf]; omega
    · go_wp2
      go_ret
      have : j = 8 := by omega
      subst this
      exact ⟨_, rfl, ho, hf⟩
theorem lowL_mod4 (n : Nat) : lowL (n % 4294967296) 4 = lowL n 4 := by
  unfold lowL
  apply List.map_congr_left
  intro i hi
  have hi4 := List.mem_range.1 hi
  have h : i = 0 ∨ i = 1 ∨ i = 2 ∨ i = 3 := by omega
  apply UInt8.toNat_inj.1
  rw [UInt8.toNat_ofNat', UInt8.toNat_ofNat']
  rcases h with rfl | rfl | rfl | rfl <;> simp only [Nat.reduceMul, Nat.reducePow] <;> omega
set_option maxRecDepth 100000 in
set_option maxHeartbeats 1000000 in
theorem rcount_any (n : Nat) (w : World) (h : Ob w base v l) (hb : base ≤ w.heap.size) (hl : l.length ≤ 150000000000000) :
    Calls Tryz.prog 82 #[v, .int .i64 (n : Int)] w (PtPost w base l (lowL n 4)) := by
  have hwr : (n : Int) % 4294967296 = ((n % 4294967296 : Nat) : Int) := by omega
  obtain ⟨k, hk⟩ : ∃ k, n % 4294967296 = k := ⟨_, rfl⟩
  rw [hk] at hwr
  have HM := Lib.hid (show lowL k 4 = lowL n 4 by rw [← hk]; exact lowL_mod4 n)
  have HK := Lib.hid (show k < 4294967296 by omega)
  obtain ⟨A, q, c, rfl⟩ := h.shape
  have HH := Lib.hid h
  clear h hk
  go_enter Tryz.func82, Tryz.ntmps82
  go_wp2_with fail
  refine (rword_w k HK.out w _ l base HH.out hb hl).mono ?_
  rintro e w2 ⟨v2, rfl, ho2, hf2⟩
  rw [HM.out] at ho2
  have H2 := Lib.hid (And.intro ho2 hf2)
  clear ho2 hf2
  go_wp2_with fail
  go_ret
  exact ⟨v2, rfl, H2.out.1, H2.out.2⟩
set_option maxRecDepth 100000 in
set_option maxHeartbeats 1000000 in
theorem rbool_w (t : Bool) (w : World) (h : Ob w base v l) (hb : base ≤ w.heap.size) (hl : l.length ≤ 150000000000000) :
    Calls Tryz.prog 147 #[v, .bool t] w (PtPost w base l [if t then 1 else 0]) := by
  obtain ⟨A, q, c, rfl⟩ := h.shape
  have HH := Lib.hid h
  clear h
  have HL := Lib.hid (show ∀ x : UInt8, l.length + [x].length ≤ 200000000000000 from fun x => by simp; omega)
  cases t
  · go_enter Tryz.func147, Tryz.ntmps147
    go_wp2_with (at_builtin; refine wpList_bytes3 rfl _ _ _ rfl _ _ rfl rfl base l [0] ?c0 ?c1 (HL.out _) ?c2 ?_)
    case c0 => exact HH.out.alloc _
    case c1 => exact src_one Tryz.underlying41 (by rw [show n8 (0 : UInt8) = 0 from rfl]; simp [go_sem]) 1
    case c2 => simp; omega
    intro A3 n3 c3 w3 ho3 hf3
    have H3 := Lib.hid (And.intro ho3 (((Fr.refl base w).alloc _).trans hf3))
    clear ho3 hf3
    go_wp2_with fail
    go_ret
    exact ⟨_, rfl, H3.out.1, H3.out.2⟩
  · go_enter Tryz.func147, Tryz.ntmps147
    go_wp2_with (at_builtin; refine wpList_bytes3 rfl _ _ _ rfl _ _ rfl rfl base l [1] ?c0 ?c1 (HL.out _) ?c2 ?_)
    case c0 => exact HH.out.alloc _
    case c1 => exact src_one Tryz.underlying41 (by rw [show n8 (1 : UInt8) = 1 from rfl]; simp [go_sem]) 1
    case c2 => simp; omega
    intro A3 n3 c3 w3 ho3 hf3
    have H3 := Lib.hid (And.intro ho3 (((Fr.refl base w).alloc _).trans hf3))
    clear ho3 hf3
    go_wp2_with fail
    go_ret
    exact ⟨_, rfl, H3.out.1, H3.out.2⟩
set_option maxRecDepth 100000 in
set_option maxHeartbeats 1000000 in
theorem rbytes_w (u : Value) (m : List UInt8) (B : Nat) (w : World) (hu : ∀ w' : World, Fr base w w' → Bs w' B u m) (h : Ob w base v l) (hb : base ≤ w.heap.size) (hl : l.length + m.length ≤ 140000000000000) :
    Calls Tryz.prog 90 #[v, u] w (PtPost w base l (dataL m)) := by
  obtain ⟨A, q, c, rfl⟩ := h.shape
  have hu0 := hu w (Fr.refl _ _)
  obtain ⟨A', c', rfl, -, hm9, -⟩ := id hu0
  have hmm : m.length ≤ 9223372036854775807 := by omega
  have HH := Lib.hid h
  have HU := Lib.hid hu
  have HL := Lib.hid (show (l ++ lowL m.length 4).length + m.length ≤ 200000000000000 by rw [List.length_append, lowL_length]; omega)
  clear h hu hu0
  go_enter Tryz.func90, Tryz.ntmps90
  go_wp2_with fail
  refine (rcount_any m.length w HH.out hb (by omega)).mono ?_
  rintro e w2 ⟨v2, rfl, ho2, hf2⟩
  obtain ⟨A2, q2, c2, rfl⟩ := ho2.shape
  have hb2 : base ≤ w2.heap.size := Nat.le_trans hb hf2.size
  have H2 := Lib.hid (And.intro ho2 (And.intro hf2 (HU.out w2 hf2)))
  clear ho2 hf2
  go_wp2_with (at_builtin; refine wpList_bytes3 rfl _ _ _ rfl _ _ rfl rfl base _ m H2.out.1 (src_bs Tryz.underlying41 H2.out.2.2) HL.out hb2 ?_)
  intro A3 n3 c3 w3 ho3 hf3
  have H3 := Lib.hid (And.intro ho3 (H2.out.2.1.trans hf3))
  clear ho3 hf3
  go_wp2_with fail
  go_ret
  exact ⟨_, rfl, by rw [dataL]; exact H3.out.1, H3.out.2⟩
end Go.Proofs.YtphbaaaklgiloaaGreat.Dg

/- The walk through DiskNone. -/
import Derived.Test.YtlenbcehahhmcaaDkN
import Derived.Test.YtlenbcehahhmcaaDkJ
namespace Go.Proofs.Ytlenbcehahhmcaa.diskNone
open Go.RowKit Dg
variable {k a b : Int}
attribute [local go_sem ↓] Go.wp_at_zero Go.wp_at_succ
def Post (W : World) (e : Ending) (w' : World) : Prop := e = .returned (.bool true) ∧ Ab W w'
/-- The act in its box, and a disk of noughts. -/
def Wk (W w : World) (a b : Int) (x : Value) : Prop := Ab W w ∧ w.cell? ⟨W.heap.size, 1, none⟩ = some (.int .i64 a) ∧ w.cell? ⟨W.heap.size, 2, none⟩ = some (.int .i64 b) ∧ w.cell? ⟨W.heap.size, 3, none⟩ = some x ∧ w.cell? ⟨W.heap.size + 1, 0, none⟩ = some (.bool false)
set_option maxRecDepth 100000 in
set_option maxHeartbeats 1000000 in
theorem walk (W : World) (A : Option Addr) (n c : Nat) : Calls Try.prog 9 #[.agg #[.int .i64 k, .int .i64 a, .int .i64 b, .slice A n c]] W (Post W) := by
  go_enter Try.func9, Try.ntmps9
  go_wp2_with fail
  go_loopw [13] (fun i wr => ∃ j : Nat, j ≤ 2 ∧ i = .int .i64 (j : Int) ∧ Wk W wr a b (.slice A n c)) (fun i _ => 2 - (intOf i).toNat)
  case atStart =>
    refine ⟨0, Nat.zero_le _, rfl, ((Ab.refl W).alloc _).alloc _, ?_, ?_, ?_, ?_⟩
    · exact ((Bk.made W _ _).alloc _).cell rfl
    · exact ((Bk.made W _ _).alloc _).cell rfl
    · exact ((Bk.made W _ _).alloc _).cell rfl
    · exact (Bk.new (by simp)).cell rfl
  case round =>
    obtain ⟨j, hj, rfl, hw⟩ := hrel
    have HW := Lib.hid hw
    obtain ⟨-, c1, c2, c3, c4⟩ := hw
    have : j = 0 ∨ j = 1 ∨ j = 2 := by omega
    rcases this with rfl | rfl | rfl
    · have HN := Lib.hid (show Nr wr (.pointer none) from .inl rfl)
      clear c4
      have hi0 : ∀ wx, (Instr.index 95 (.agg #[.pointer none, .pointer (some ⟨W.heap.size + 1, 0, none⟩)]) (.int .i64 0)).run Try.prog wx = .ok (.pointer none) wx := fun wx => rfl
      have hi1 : ∀ wx, (Instr.index 95 (.agg #[.pointer none, .pointer (some ⟨W.heap.size + 1, 0, none⟩)]) (.int .i64 1)).run Try.prog wx = .ok (.pointer (some ⟨W.heap.size + 1, 0, none⟩)) wx := fun wx => rfl
      go_wp2_with (first
    | (go_at_call 34; (with_reducible refine (HN.out.append_).mono ?_); rintro e wz ⟨rfl, rfl⟩)
    | (go_at_call 39; (with_reducible refine (HN.out.read_).mono ?_); rintro e wz ⟨rfl, rfl⟩)
    | (go_at_call 35; (with_reducible refine (HN.out.sync_).mono ?_); rintro e wz ⟨rfl, rfl⟩)
    | (go_at_call 36; (with_reducible refine (HN.out.arm_).mono ?_); rintro e wz ⟨rfl, rfl⟩)
    | (go_at_call 38; (with_reducible refine (HN.out.crash_).mono ?_); rintro e wz ⟨rfl, rfl⟩)
    | (go_at_call 47; (with_reducible refine (HN.out.wipe_).mono ?_); rintro e wz ⟨rfl, rfl⟩)
    | (go_at_call 43; (with_reducible refine (HN.out.trim_).mono ?_); rintro e wz ⟨rfl, rfl⟩)
    | (go_at_call 45; (with_reducible refine (HN.out.cut_).mono ?_); rintro e wz ⟨rfl, rfl⟩)
    | (go_at_call 46; (with_reducible refine (HN.out.flip_).mono ?_); rintro e wz ⟨rfl, rfl⟩)
    | (go_at_call 44; (with_reducible refine (HN.out.base_).mono ?_); rintro e wz ⟨rfl, rfl⟩)
    | (go_at_call 40; (with_reducible refine (HN.out.end_).mono ?_); rintro e wz ⟨rfl, rfl⟩)
    | (go_at_call 41; (with_reducible refine (HN.out.synced_).mono ?_); rintro e wz ⟨rfl, rfl⟩)
    | (go_at_call 37; (with_reducible refine (HN.out.frozen_).mono ?_); rintro e wz ⟨rfl, rfl⟩))
      go_roundw
      case rel => exact ⟨1, by omega, by go_num, HW.out⟩
      case measure => simp [intOf]
    · have HN := Lib.hid (show Nr wr (.pointer (some ⟨W.heap.size + 1, 0, none⟩)) from .inr ⟨_, rfl, c4⟩)
      clear c4
      have hi0 : ∀ wx, (Instr.index 95 (.agg #[.pointer none, .pointer (some ⟨W.heap.size + 1, 0, none⟩)]) (.int .i64 0)).run Try.prog wx = .ok (.pointer none) wx := fun wx => rfl
      have hi1 : ∀ wx, (Instr.index 95 (.agg #[.pointer none, .pointer (some ⟨W.heap.size + 1, 0, none⟩)]) (.int .i64 1)).run Try.prog wx = .ok (.pointer (some ⟨W.heap.size + 1, 0, none⟩)) wx := fun wx => rfl
      go_wp2_with (first
    | (go_at_call 34; (with_reducible refine (HN.out.append_).mono ?_); rintro e wz ⟨rfl, rfl⟩)
    | (go_at_call 39; (with_reducible refine (HN.out.read_).mono ?_); rintro e wz ⟨rfl, rfl⟩)
    | (go_at_call 35; (with_reducible refine (HN.out.sync_).mono ?_); rintro e wz ⟨rfl, rfl⟩)
    | (go_at_call 36; (with_reducible refine (HN.out.arm_).mono ?_); rintro e wz ⟨rfl, rfl⟩)
    | (go_at_call 38; (with_reducible refine (HN.out.crash_).mono ?_); rintro e wz ⟨rfl, rfl⟩)
    | (go_at_call 47; (with_reducible refine (HN.out.wipe_).mono ?_); rintro e wz ⟨rfl, rfl⟩)
    | (go_at_call 43; (with_reducible refine (HN.out.trim_).mono ?_); rintro e wz ⟨rfl, rfl⟩)
    | (go_at_call 45; (with_reducible refine (HN.out.cut_).mono ?_); rintro e wz ⟨rfl, rfl⟩)
    | (go_at_call 46; (with_reducible refine (HN.out.flip_).mono ?_); rintro e wz ⟨rfl, rfl⟩)
    | (go_at_call 44; (with_reducible refine (HN.out.base_).mono ?_); rintro e wz ⟨rfl, rfl⟩)
    | (go_at_call 40; (with_reducible refine (HN.out.end_).mono ?_); rintro e wz ⟨rfl, rfl⟩)
    | (go_at_call 41; (with_reducible refine (HN.out.synced_).mono ?_); rintro e wz ⟨rfl, rfl⟩)
    | (go_at_call 37; (with_reducible refine (HN.out.frozen_).mono ?_); rintro e wz ⟨rfl, rfl⟩))
      go_roundw
      case rel => exact ⟨2, by omega, by go_num, HW.out⟩
      case measure => simp [intOf]
    · go_wp2_with (go_at_call 31; (with_reducible refine (lives_any _).mono ?_); rintro e w1 ⟨rfl, h1⟩; (have H1 := Lib.hid h1); clear h1)
      go_ret
      exact ⟨rfl, HW.out.1.trans H1.out⟩
end Go.Proofs.Ytlenbcehahhmcaa.diskNone

/- The document's examples of layer 7. -/
import Derived.Test.YtmnfmgdllfhmaaaStG
namespace Go.Proofs.Ytmnfmgdllfhmaaa.Dg
open Go.RowKit
variable {w w' : World} {B : Nat} {vi vw : Value} {ids ws : List Int}
theorem Ns.one (w : World) (g : Nat) (n : Int) (h : Bk w g 3 #[.int .i64 n]) (hn : -9223372036854775808 ≤ n ∧ n ≤ 9223372036854775807) : Ns w w.heap.size (.slice (some ⟨g, 0, none⟩) 1 1) [n] := by
  refine ⟨_, 1, rfl, Nat.le_refl _, by omega, by simpa using hn, fun _ => ⟨g, 0, rfl, h.lt, fun k hk => ?_⟩⟩
  have : k = 0 := by simpa using hk
  subst this
  exact h.cell rfl
theorem ex_ln (w : World) : Calls Try.prog 9 #[.int .i64 3] w fun e w' => e = .returned (.int .i64 35184372088832) ∧ w = w' := by
  have h := ln_any 3 w
  rw [show lnI 3 = 35184372088832 by decide +kernel] at h
  exact h
theorem ex_draw0 (w : World) : Calls Try.prog 12 #[.int .u32 0, .int .i64 65536] w fun e w' => e = .returned (.int .i64 (-4294967296)) ∧ w = w' := by
  have h := draw_any 0 65536 w
  rw [show drawI 0 65536 = -4294967296 by decide +kernel] at h
  exact h
theorem ex_draw1 (w : World) : Calls Try.prog 12 #[.int .u32 65535, .int .i64 1] w fun e w' => e = .returned (.int .i64 0) ∧ w = w' := by
  have h := draw_any 65535 1 w
  rw [show drawI 65535 1 = 0 by decide +kernel] at h
  exact h
theorem ex_one (w : World) (hi : Ns w B vi [5]) (hw : Ns w B vw [1]) (hB : B ≤ w.heap.size) :
    Calls Try.prog 14 #[vi, vw, .int .u32 7, .int .i64 0] w fun e w' => e = .returned (.tuple #[.int .i64 0, .bool true]) ∧ Ab w w' := choose_any w 7 0 hi hw rfl hB
theorem ex_none (w : World) : Calls Try.prog 14 #[.slice none 0 0, .slice none 0 0, .int .u32 7, .int .i64 0] w fun e w' => e = .returned (.tuple #[.int .i64 0, .bool false]) ∧ Ab w w' :=
  choose_any w 7 0 (Ns.nil w 0) (Ns.nil w 0) rfl (Nat.zero_le _)
set_option maxRecDepth 100000 in
set_option maxHeartbeats 1000000 in
theorem lives7 (w : World) : Calls Try.prog 11 #[] w fun e w' => e = .returned (.bool true) ∧ Ab w w' := by
  go_enter Try.func11, Try.ntmps11
  go_wp2_with fail
  refine (ex_one _ (Ns.one _ w.heap.size 5 ((Bk.made w 3 _).alloc _) (by omega)) (Ns.one _ (w.heap.size + 1) 1 (Bk.new (by simp)) (by omega)) (Nat.le_refl _)).mono ?_
  rintro e w1 ⟨rfl, h1⟩
  have H1 := Lib.hid ((((Ab.refl w).alloc (.cells #[.int .i64 5] 3)).alloc (.cells #[.int .i64 1] 3)).trans h1)
  clear h1
  go_wp2_with fail
  refine (ex_none _).mono ?_
  rintro e w2 ⟨rfl, h2⟩
  have H2 := Lib.hid h2
  clear h2
  go_wp2_with (first
    | (go_at_call 9; (with_reducible refine (ex_ln _).mono ?_); rintro e w3 ⟨rfl, rfl⟩)
    | (go_at_call 12; (with_reducible refine (ex_draw0 _).mono ?_); rintro e w3 ⟨rfl, rfl⟩)
    | (go_at_call 12; (with_reducible refine (ex_draw1 _).mono ?_); rintro e w3 ⟨rfl, rfl⟩))
  go_ret
  exact ⟨rfl, H1.out.trans H2.out⟩
end Go.Proofs.Ytmnfmgdllfhmaaa.Dg

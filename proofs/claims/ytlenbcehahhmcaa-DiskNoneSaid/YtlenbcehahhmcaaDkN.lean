/- A disk that no call made. -/
import Derived.Test.YtlenbcehahhmcaaDkC
namespace Go.Proofs.Ytlenbcehahhmcaa.Dg
open Go.RowKit
variable {w : World} {p x : Value} {a b : Int}
attribute [local go_sem ↓] Go.wp_at_zero Go.wp_at_succ
/-- nil, or a disk that was not made. -/
def Nr (w : World) (p : Value) : Prop := p = .pointer none ∨ ∃ g, p = .pointer (some ⟨g, 0, none⟩) ∧ w.cell? ⟨g, 0, none⟩ = some (.bool false)
theorem Nr.ready (h : Nr w p) : Calls Try.prog 84 #[p] w fun e w' => e = .returned (.bool false) ∧ w = w' := by
  rcases h with rfl | ⟨g, rfl, h⟩
  · exact ready_nil w
  · exact ready_any w g false h
theorem Nr.append_ (h : Nr w p) : Calls Try.prog 34 #[p, x] w fun e w' => e = .returned (.tuple #[.int .i64 0, .int .i64 14]) ∧ w = w' := by
  have H := Lib.hid h.ready
  clear h
  go_enter Try.func34, Try.ntmps34
  go_wp2_with (go_at_call 84; (with_reducible refine H.out.mono ?_); rintro e w2 ⟨rfl, rfl⟩)
  refine bodyPost_ret (v := .tuple #[.int .i64 0, .int .i64 14]) ?_ rfl ⟨rfl, rfl⟩
  simp [results, Try.results34, go_sem]
theorem Nr.read_ (h : Nr w p) : Calls Try.prog 39 #[p, .int .i64 a, .int .i64 b] w fun e w' => e = .returned (.tuple #[.slice none 0 0, .int .i64 14]) ∧ w = w' := by
  have H := Lib.hid h.ready
  clear h
  go_enter Try.func39, Try.ntmps39
  go_wp2_with (go_at_call 84; (with_reducible refine H.out.mono ?_); rintro e w2 ⟨rfl, rfl⟩)
  refine bodyPost_ret (v := .tuple #[.slice none 0 0, .int .i64 14]) ?_ rfl ⟨rfl, rfl⟩
  simp [results, Try.results39, go_sem]
theorem Nr.sync_ (h : Nr w p) : Calls Try.prog 35 #[p] w fun e w' => e = .returned (.tuple #[]) ∧ w = w' := by
  have H := Lib.hid h.ready
  clear h
  go_enter Try.func35, Try.ntmps35
  go_wp2_with (go_at_call 84; (with_reducible refine H.out.mono ?_); rintro e w2 ⟨rfl, rfl⟩)
  go_end0
  exact ⟨rfl, rfl⟩
theorem Nr.arm_ (h : Nr w p) : Calls Try.prog 36 #[p, .int .i64 a] w fun e w' => e = .returned (.tuple #[]) ∧ w = w' := by
  have H := Lib.hid h.ready
  clear h
  go_enter Try.func36, Try.ntmps36
  go_wp2_with (go_at_call 84; (with_reducible refine H.out.mono ?_); rintro e w2 ⟨rfl, rfl⟩)
  go_end0
  exact ⟨rfl, rfl⟩
theorem Nr.crash_ (h : Nr w p) : Calls Try.prog 38 #[p, .int .i64 a] w fun e w' => e = .returned (.tuple #[]) ∧ w = w' := by
  have H := Lib.hid h.ready
  clear h
  go_enter Try.func38, Try.ntmps38
  go_wp2_with (go_at_call 84; (with_reducible refine H.out.mono ?_); rintro e w2 ⟨rfl, rfl⟩)
  refine bodyPost_ret (v := .tuple #[]) ?_ rfl ⟨rfl, rfl⟩
  simp [results, Try.results38, go_sem]
theorem Nr.wipe_ (h : Nr w p) : Calls Try.prog 47 #[p] w fun e w' => e = .returned (.tuple #[]) ∧ w = w' := by
  have H := Lib.hid h.ready
  clear h
  go_enter Try.func47, Try.ntmps47
  go_wp2_with (go_at_call 84; (with_reducible refine H.out.mono ?_); rintro e w2 ⟨rfl, rfl⟩)
  go_end0
  exact ⟨rfl, rfl⟩
theorem Nr.trim_ (h : Nr w p) : Calls Try.prog 43 #[p, .int .i64 a] w fun e w' => e = .returned (.int .i64 14) ∧ w = w' := by
  have H := Lib.hid h.ready
  clear h
  go_enter Try.func43, Try.ntmps43
  go_wp2_with (go_at_call 84; (with_reducible refine H.out.mono ?_); rintro e w2 ⟨rfl, rfl⟩)
  go_ret
  exact ⟨rfl, rfl⟩
theorem Nr.cut_ (h : Nr w p) : Calls Try.prog 45 #[p, .int .i64 a] w fun e w' => e = .returned (.int .i64 14) ∧ w = w' := by
  have H := Lib.hid h.ready
  clear h
  go_enter Try.func45, Try.ntmps45
  go_wp2_with (go_at_call 84; (with_reducible refine H.out.mono ?_); rintro e w2 ⟨rfl, rfl⟩)
  go_ret
  exact ⟨rfl, rfl⟩
theorem Nr.flip_ (h : Nr w p) : Calls Try.prog 46 #[p, .int .i64 a, .int .i64 b] w fun e w' => e = .returned (.int .i64 14) ∧ w = w' := by
  have H := Lib.hid h.ready
  clear h
  go_enter Try.func46, Try.ntmps46
  go_wp2_with (go_at_call 84; (with_reducible refine H.out.mono ?_); rintro e w2 ⟨rfl, rfl⟩)
  go_ret
  exact ⟨rfl, rfl⟩
theorem Nr.base_ (h : Nr w p) : Calls Try.prog 44 #[p] w fun e w' => e = .returned (.int .i64 0) ∧ w = w' := by
  have H := Lib.hid h.ready
  clear h
  go_enter Try.func44, Try.ntmps44
  go_wp2_with (go_at_call 84; (with_reducible refine H.out.mono ?_); rintro e w2 ⟨rfl, rfl⟩)
  go_ret
  exact ⟨rfl, rfl⟩
theorem Nr.end_ (h : Nr w p) : Calls Try.prog 40 #[p] w fun e w' => e = .returned (.int .i64 0) ∧ w = w' := by
  have H := Lib.hid h.ready
  clear h
  go_enter Try.func40, Try.ntmps40
  go_wp2_with (go_at_call 84; (with_reducible refine H.out.mono ?_); rintro e w2 ⟨rfl, rfl⟩)
  go_ret
  exact ⟨rfl, rfl⟩
theorem Nr.synced_ (h : Nr w p) : Calls Try.prog 41 #[p] w fun e w' => e = .returned (.int .i64 0) ∧ w = w' := by
  have H := Lib.hid h.ready
  clear h
  go_enter Try.func41, Try.ntmps41
  go_wp2_with (go_at_call 84; (with_reducible refine H.out.mono ?_); rintro e w2 ⟨rfl, rfl⟩)
  go_ret
  exact ⟨rfl, rfl⟩
theorem Nr.frozen_ (h : Nr w p) : Calls Try.prog 37 #[p] w fun e w' => e = .returned (.bool false) ∧ w = w' := by
  have H := Lib.hid h.ready
  clear h
  go_enter Try.func37, Try.ntmps37
  go_wp2_with (go_at_call 84; (with_reducible refine H.out.mono ?_); rintro e w2 ⟨rfl, rfl⟩)
  go_ret
  exact ⟨rfl, rfl⟩
end Go.Proofs.Ytlenbcehahhmcaa.Dg

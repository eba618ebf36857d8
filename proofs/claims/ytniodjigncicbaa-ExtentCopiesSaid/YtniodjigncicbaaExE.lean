/- A copy of bytes; the first and the last of the runs that a change touches. -/
import Derived.Test.YtniodjigncicbaaExD
import Derived.Test.YtniodjigncicbaaDgWi
namespace Go.Proofs.Ytniodjigncicbaa.Dg
open Go.RowKit
variable {w w' : World} {base a s : Nat} {v : Value} {ps : List Pr} {l : List UInt8}
attribute [local go_sem ↓] Go.wp_at_zero Go.wp_at_succ
set_option maxRecDepth 100000 in
set_option maxHeartbeats 1000000 in
/-- slices.Clone of bytes. -/
theorem clone_any (w : World) (h : Bs w w.heap.size v l) (hl : l.length ≤ 100000000000000) :
    Calls Try.prog 118 #[v] w fun e w' => ∃ u, e = .returned u ∧ Ob w' w.heap.size u l ∧ Ab w w' := by
  have HS := Lib.hid h
  obtain ⟨A, c, rfl, h1, h2, h3⟩ := h
  cases A with
  | none =>
    have hl0 : l = [] := by
      rcases List.eq_nil_or_concat l with h | ⟨_, _, h⟩
      · exact h
      · obtain ⟨b, off, hx, -⟩ := h3 (by rw [h]; simp)
        cases hx
    subst hl0
    have hn : ∀ wx : World, (binOp BinOp.eql 30 (.slice none 0 c) (.slice none 0 0)).run Try.prog wx = .ok (.bool true) wx := fun wx => by kernel_rfl
    clear h3
    go_enter Try.func118, Try.ntmps118
    go_wp2
    go_ret
    exact ⟨_, rfl, Ob.nil _ _, Ab.refl w⟩
  | some x =>
    obtain ⟨n, hn0⟩ : ∃ n, l.length = n := ⟨_, rfl⟩
    have hn : ∀ wx : World, (binOp BinOp.eql 30 (.slice (some x) l.length c) (.slice none 0 0)).run Try.prog wx = .ok (.bool false) wx := fun wx => by rw [hn0]; kernel_rfl
    clear h3 hn0
    go_enter Try.func118, Try.ntmps118
    go_wp2_with (at_builtin; refine wpList_bytes rfl _ _ _ rfl _ _ rfl rfl w.heap.size [] l (Ob.made w #[] w.heap.size (Nat.le_refl _) (by simp)) (src_bs Try.underlying30 (HS.out.ab ((Ab.refl w).alloc _) (Nat.le_refl _))) (by simp; omega) (by simp) ?_)
    intro v3 w3 ho3 hg3 hb3
    have H3 := Lib.hid (And.intro ho3 (grown_ab ((Ab.refl w).alloc (.cells #[] 5)) hg3 (fun k hk => by simp [Value.ownBlock] at hk; omega)))
    clear ho3 hg3 hb3
    go_wp2
    go_ret
    exact ⟨_, rfl, H3.out.1, H3.out.2⟩
end Go.Proofs.Ytniodjigncicbaa.Dg

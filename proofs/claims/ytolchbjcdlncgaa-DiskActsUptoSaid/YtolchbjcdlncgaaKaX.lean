/- act: no act at all. -/
import Derived.Test.YtolchbjcdlncgaaKaC
namespace Go.Proofs.Ytolchbjcdlncgaa.diskActs
open Go.RowKit Dg
variable {W w : World} {g g2 : Nat} {v v2 : Value} {d r : Dst} {A : Option Addr} {n c : Nat} {a b : Int}
theorem noKind (k : Int) (hk : k < 0 ∨ 8 < k) : (k == 0) = false ∧ (k == 1) = false ∧ (k == 2) = false ∧ (k == 3) = false ∧ (k == 4) = false ∧ (k == 5) = false ∧ (k == 6) = false ∧ (k == 7) = false ∧ (k == 8) = false :=
  ⟨beq_eq_false_iff_ne.2 (by omega), beq_eq_false_iff_ne.2 (by omega), beq_eq_false_iff_ne.2 (by omega), beq_eq_false_iff_ne.2 (by omega), beq_eq_false_iff_ne.2 (by omega), beq_eq_false_iff_ne.2 (by omega), beq_eq_false_iff_ne.2 (by omega), beq_eq_false_iff_ne.2 (by omega), beq_eq_false_iff_ne.2 (by omega)⟩
theorem noKind2 (k : Int) (hk : k < 0 ∨ 8 < k) : ¬ k = 0 ∧ ¬ k = 1 ∧ ¬ k = 2 ∧ ¬ k = 3 ∧ ¬ k = 4 ∧ ¬ k = 5 ∧ ¬ k = 6 ∧ ¬ k = 7 ∧ ¬ k = 8 := by omega
set_option maxRecDepth 100000 in
set_option maxHeartbeats 1000000 in
theorem actX (k : Int) (hk : k < 0 ∨ 8 < k) (h : Two W w g v d g2 v2 r) (ha : Al d r) :
    Calls Try.prog 28 #[.pointer (some ⟨g, 0, none⟩), .pointer (some ⟨g2, 0, none⟩), .agg #[.int .i64 k, .int .i64 a, .int .i64 b, .slice A n c]] w (ActPost W g g2 d.fin) := by
  have HT1 := Lib.hid (h.still ((Ab.refl w).alloc (.cells #[.int .i64 k, .int .i64 a, .int .i64 b, .slice A n c] 72)))
  have HA := Lib.hid ha
  obtain ⟨k0, k1, k2, k3, k4, k5, k6, k7, k8⟩ := noKind k hk
  obtain ⟨n0, n1, n2, n3, n4, n5, n6, n7, n8⟩ := noKind2 k hk
  clear h ha hk
  go_enter Try.func28, Try.ntmps28
  go_wp2_with fail
  go_ret
  exact ⟨rfl, _, _, _, _, HT1.out, HA.out, Nat.le_refl _⟩
end Go.Proofs.Ytolchbjcdlncgaa.diskActs

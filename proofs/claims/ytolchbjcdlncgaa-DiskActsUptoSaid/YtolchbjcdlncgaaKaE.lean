/- act: Flip. -/
import Derived.Test.YtolchbjcdlncgaaKaC
import Derived.Deep.RegionHeld3
namespace Go.Proofs.Ytolchbjcdlncgaa.diskActs
open Go.RowKit Dg
variable {W w w2 w' : World} {g g2 : Nat} {v v2 : Value} {d r : Dst} {A : Option Addr} {n c : Nat} {a b : Int}
attribute [local go_sem ↓] Go.wp_at_zero Go.wp_at_succ
set_option maxRecDepth 100000 in
set_option maxHeartbeats 1000000 in
theorem act5 (h : Two W w g v d g2 v2 r) (ha : Al d r) (hf : d.fin ≤ 1099511627776) (ha9 : a ≤ 9223372036854775807) :
    Calls Try.prog 28 #[.pointer (some ⟨g, 0, none⟩), .pointer (some ⟨g2, 0, none⟩), .agg #[.int .i64 5, .int .i64 a, .int .i64 b, .slice A n c]] w (ActPost W g g2 d.fin) := by
  have HT1 := Lib.hid (h.still ((Ab.refl w).alloc (.cells #[.int .i64 5, .int .i64 a, .int .i64 b, .slice A n c] 72)))
  have HA := Lib.hid (And.intro ha (And.intro hf (And.intro ha9 h.dk.ok)))
  have HB := Lib.hid (show (w.alloc (.cells #[.int .i64 5, .int .i64 a, .int .i64 b, .slice A n c] 72)).cell? ⟨w.heap.size, 1, none⟩ = some (.int .i64 a) ∧ (w.alloc (.cells #[.int .i64 5, .int .i64 a, .int .i64 b, .slice A n c] 72)).cell? ⟨w.heap.size, 2, none⟩ = some (.int .i64 b) from ⟨(Bk.made w _ _).cell rfl, (Bk.made w _ _).cell rfl⟩)
  have HO := Lib.hid (show ¬ Own g v w.heap.size from fun hh => Nat.lt_irrefl _ (h.dk.own_lt hh))
  have HO2 := Lib.hid (show ¬ Own g2 v2 w.heap.size from fun hh => Nat.lt_irrefl _ (h.rk.own_lt hh))
  clear h ha hf ha9
  go_enter Try.func28, Try.ntmps28
  go_wp2_with fail
  go_region_held3 (fun wx => wx.cell? ⟨w.heap.size, 1, none⟩ = some (.int .i64 a) ∧ wx.cell? ⟨w.heap.size, 2, none⟩ = some (.int .i64 b)) (first | exact ⟨HB.out.1, HB.out.2⟩ | exact ⟨q1, q2⟩ | exact ⟨q3, q4⟩) (first | (go_at_call 69; (with_reducible refine (l_flip (HT1.out.still ((Ab.refl _).drew)) a b).mono ?_); rintro e w2 ⟨rfl, h2, hk2⟩; (have q1 := box_keep hk2 (by simp) HO.out HB.out.1); (have q2 := box_keep hk2 (by simp) HO.out HB.out.2); (have H2 := Lib.hid h2); clear h2 hk2) | (go_at_call 70; (with_reducible refine (r_flip H2.out a b).mono ?_); rintro e w3 ⟨rfl, u3, h3, hk3⟩; rw [(HA.out.1.flip a b).2]; (have q3 := box_keep hk3 (World.block_lt_of_cell? w2 ⟨w.heap.size, 1, none⟩ q1) HO2.out q1); (have q4 := box_keep hk3 (World.block_lt_of_cell? w2 ⟨w.heap.size, 2, none⟩ q2) HO2.out q2); clear hk3; (have H3 := Lib.hid h3); clear h3))
  all_goals
   go_wp2
   go_ret
   exact ⟨rfl, _, _, _, _, H3.out, (HA.out.1.flip a b).1, Nat.le_of_eq (flip_fin d a b)⟩
end Go.Proofs.Ytolchbjcdlncgaa.diskActs

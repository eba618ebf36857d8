/- act: the acts that need no bytes. -/
import Derived.Test.YtolchbjcdlncgaaKaB
namespace Go.Proofs.Ytolchbjcdlncgaa.diskActs
open Go.RowKit Dg
variable {W w w' : World} {g g2 : Nat} {v v2 : Value} {d r : Dst} {A : Option Addr} {n c : Nat} {a b : Int}
attribute [local go_sem ↓] Go.wp_at_zero Go.wp_at_succ
/-- Both disks are again the same. -/
def ActPost (W : World) (g g2 : Nat) (m : Nat) (e : Ending) (w' : World) : Prop := e = .returned (.bool true) ∧ ∃ v v2 d r, Two W w' g v d g2 v2 r ∧ Al d r ∧ d.fin ≤ m
theorem sync_fin (d : Dst) : d.sync.fin = d.fin := by unfold Dst.sync; cases d.cold <;> rfl
theorem trim_fin (h : d.Ok) (x : Int) : (d.trim x).fin = d.fin := by
  unfold Dst.trim
  cases hc : (d.trims x && !d.cold) with
  | false => rfl
  | true =>
    have ht : (d.base : Int) ≤ x ∧ x ≤ (d.synced : Int) := of_decide_eq_true (Bool.and_eq_true_iff.1 hc).1
    have := h.synced
    unfold Dst.fin at this ⊢
    show x.toNat + (d.bytes.drop _).length = _
    rw [List.length_drop]
    omega
theorem cut_fin (d : Dst) (x : Int) : (d.cut x).fin ≤ d.fin := by
  unfold Dst.cut
  cases hc : (d.cuts x && !d.cold) with
  | false => exact Nat.le_refl _
  | true =>
    show d.base + (d.bytes.take _).length ≤ d.base + d.bytes.length
    rw [List.length_take]
    omega
theorem flip_fin (d : Dst) (x y : Int) : (d.flip x y).fin = d.fin := by
  unfold Dst.flip
  cases d.flips x y with
  | false => rfl
  | true =>
    show d.base + (d.bytes.set _ _).length = d.base + d.bytes.length
    rw [List.length_set]
theorem crash_fin (d : Dst) (x : Int) : (d.crash x).fin ≤ d.fin := by
  show d.base + (d.bytes.take _).length ≤ d.base + d.bytes.length
  rw [List.length_take]
  omega
theorem wipe_fin (d : Dst) : d.wipe.fin ≤ d.fin := Nat.zero_le _
set_option maxRecDepth 100000 in
set_option maxHeartbeats 1000000 in
theorem act1 (h : Two W w g v d g2 v2 r) (ha : Al d r) (hf : d.fin ≤ 1099511627776) (ha9 : a ≤ 9223372036854775807) :
    Calls Try.prog 28 #[.pointer (some ⟨g, 0, none⟩), .pointer (some ⟨g2, 0, none⟩), .agg #[.int .i64 1, .int .i64 a, .int .i64 b, .slice A n c]] w (ActPost W g g2 d.fin) := by
  have HT1 := Lib.hid (h.still ((Ab.refl w).alloc (.cells #[.int .i64 1, .int .i64 a, .int .i64 b, .slice A n c] 72)))
  have HA := Lib.hid (And.intro ha (And.intro hf (And.intro ha9 h.dk.ok)))
  have HB := Lib.hid (show (w.alloc (.cells #[.int .i64 1, .int .i64 a, .int .i64 b, .slice A n c] 72)).cell? ⟨w.heap.size, 1, none⟩ = some (.int .i64 a) ∧ (w.alloc (.cells #[.int .i64 1, .int .i64 a, .int .i64 b, .slice A n c] 72)).cell? ⟨w.heap.size, 2, none⟩ = some (.int .i64 b) from ⟨(Bk.made w _ _).cell rfl, (Bk.made w _ _).cell rfl⟩)
  have HO := Lib.hid (show ¬ Own g v w.heap.size from fun hh => Nat.lt_irrefl _ (h.dk.own_lt hh))
  clear h ha hf ha9
  go_enter Try.func28, Try.ntmps28
  go_wp2_with (first | (go_at_call 54; (with_reducible refine (l_sync HT1.out).mono ?_); rintro e w2 ⟨rfl, h2, hk2⟩; (have q1 := box_keep hk2 (by simp) HO.out HB.out.1); (have q2 := box_keep hk2 (by simp) HO.out HB.out.2); (have H2 := Lib.hid h2); clear h2 hk2) | (go_at_call 62; (with_reducible refine (r_sync H2.out).mono ?_); rintro e w3 ⟨rfl, h3, hk3⟩; clear hk3; (have H3 := Lib.hid h3); clear h3))
  go_ret
  exact ⟨rfl, _, _, _, _, H3.out, HA.out.1.sync HA.out.2.1, Nat.le_of_eq (sync_fin d)⟩
set_option maxRecDepth 100000 in
set_option maxHeartbeats 1000000 in
theorem act8 (h : Two W w g v d g2 v2 r) (ha : Al d r) (hf : d.fin ≤ 1099511627776) (ha9 : a ≤ 9223372036854775807) :
    Calls Try.prog 28 #[.pointer (some ⟨g, 0, none⟩), .pointer (some ⟨g2, 0, none⟩), .agg #[.int .i64 8, .int .i64 a, .int .i64 b, .slice A n c]] w (ActPost W g g2 d.fin) := by
  have HT1 := Lib.hid (h.still ((Ab.refl w).alloc (.cells #[.int .i64 8, .int .i64 a, .int .i64 b, .slice A n c] 72)))
  have HA := Lib.hid (And.intro ha (And.intro hf (And.intro ha9 h.dk.ok)))
  have HB := Lib.hid (show (w.alloc (.cells #[.int .i64 8, .int .i64 a, .int .i64 b, .slice A n c] 72)).cell? ⟨w.heap.size, 1, none⟩ = some (.int .i64 a) ∧ (w.alloc (.cells #[.int .i64 8, .int .i64 a, .int .i64 b, .slice A n c] 72)).cell? ⟨w.heap.size, 2, none⟩ = some (.int .i64 b) from ⟨(Bk.made w _ _).cell rfl, (Bk.made w _ _).cell rfl⟩)
  have HO := Lib.hid (show ¬ Own g v w.heap.size from fun hh => Nat.lt_irrefl _ (h.dk.own_lt hh))
  clear h ha hf ha9
  go_enter Try.func28, Try.ntmps28
  go_wp2_with (first | (go_at_call 74; (with_reducible refine (l_wipe HT1.out).mono ?_); rintro e w2 ⟨rfl, u2, h2, hk2⟩; (have q1 := box_keep hk2 (by simp) HO.out HB.out.1); (have q2 := box_keep hk2 (by simp) HO.out HB.out.2); (have H2 := Lib.hid h2); clear h2 hk2) | (go_at_call 75; (with_reducible refine (r_wipe H2.out).mono ?_); rintro e w3 ⟨rfl, u3, h3, hk3⟩; clear hk3; (have H3 := Lib.hid h3); clear h3))
  go_ret
  exact ⟨rfl, _, _, _, _, H3.out, HA.out.1.wipe, wipe_fin d⟩
set_option maxRecDepth 100000 in
set_option maxHeartbeats 1000000 in
theorem act3 (h : Two W w g v d g2 v2 r) (ha : Al d r) (hf : d.fin ≤ 1099511627776) (ha9 : a ≤ 9223372036854775807) :
    Calls Try.prog 28 #[.pointer (some ⟨g, 0, none⟩), .pointer (some ⟨g2, 0, none⟩), .agg #[.int .i64 3, .int .i64 a, .int .i64 b, .slice A n c]] w (ActPost W g g2 d.fin) := by
  have HT1 := Lib.hid (h.still ((Ab.refl w).alloc (.cells #[.int .i64 3, .int .i64 a, .int .i64 b, .slice A n c] 72)))
  have HA := Lib.hid (And.intro ha (And.intro hf (And.intro ha9 h.dk.ok)))
  have HB := Lib.hid (show (w.alloc (.cells #[.int .i64 3, .int .i64 a, .int .i64 b, .slice A n c] 72)).cell? ⟨w.heap.size, 1, none⟩ = some (.int .i64 a) ∧ (w.alloc (.cells #[.int .i64 3, .int .i64 a, .int .i64 b, .slice A n c] 72)).cell? ⟨w.heap.size, 2, none⟩ = some (.int .i64 b) from ⟨(Bk.made w _ _).cell rfl, (Bk.made w _ _).cell rfl⟩)
  have HO := Lib.hid (show ¬ Own g v w.heap.size from fun hh => Nat.lt_irrefl _ (h.dk.own_lt hh))
  clear h ha hf ha9
  go_enter Try.func28, Try.ntmps28
  go_wp2_with fail
  go_region_with (first | (go_at_call 65; (with_reducible refine (l_trim (HT1.out.still ((Ab.refl _).drew)) a).mono ?_); rintro e w2 ⟨rfl, u2, h2, hk2⟩; (have q1 := box_keep hk2 (by simp) HO.out HB.out.1); (have q2 := box_keep hk2 (by simp) HO.out HB.out.2); (have H2 := Lib.hid h2); clear h2 hk2) | (go_at_call 66; (with_reducible refine (r_trim H2.out a).mono ?_); rintro e w3 ⟨rfl, u3, h3, hk3⟩; rw [(HA.out.1.trim HA.out.2.1 a).2]; clear hk3; (have H3 := Lib.hid h3); clear h3))
  all_goals
   go_wp2
   go_ret
   exact ⟨rfl, _, _, _, _, H3.out, (HA.out.1.trim HA.out.2.1 a).1, Nat.le_of_eq (trim_fin HA.out.2.2.2 a)⟩
set_option maxRecDepth 100000 in
set_option maxHeartbeats 1000000 in
theorem act4 (h : Two W w g v d g2 v2 r) (ha : Al d r) (hf : d.fin ≤ 1099511627776) (ha9 : a ≤ 9223372036854775807) :
    Calls Try.prog 28 #[.pointer (some ⟨g, 0, none⟩), .pointer (some ⟨g2, 0, none⟩), .agg #[.int .i64 4, .int .i64 a, .int .i64 b, .slice A n c]] w (ActPost W g g2 d.fin) := by
  have HT1 := Lib.hid (h.still ((Ab.refl w).alloc (.cells #[.int .i64 4, .int .i64 a, .int .i64 b, .slice A n c] 72)))
  have HA := Lib.hid (And.intro ha (And.intro hf (And.intro ha9 h.dk.ok)))
  have HB := Lib.hid (show (w.alloc (.cells #[.int .i64 4, .int .i64 a, .int .i64 b, .slice A n c] 72)).cell? ⟨w.heap.size, 1, none⟩ = some (.int .i64 a) ∧ (w.alloc (.cells #[.int .i64 4, .int .i64 a, .int .i64 b, .slice A n c] 72)).cell? ⟨w.heap.size, 2, none⟩ = some (.int .i64 b) from ⟨(Bk.made w _ _).cell rfl, (Bk.made w _ _).cell rfl⟩)
  have HO := Lib.hid (show ¬ Own g v w.heap.size from fun hh => Nat.lt_irrefl _ (h.dk.own_lt hh))
  clear h ha hf ha9
  go_enter Try.func28, Try.ntmps28
  go_wp2_with fail
  go_region_with (first | (go_at_call 67; (with_reducible refine (l_cut (HT1.out.still ((Ab.refl _).drew)) a).mono ?_); rintro e w2 ⟨rfl, u2, h2, hk2⟩; (have q1 := box_keep hk2 (by simp) HO.out HB.out.1); (have q2 := box_keep hk2 (by simp) HO.out HB.out.2); (have H2 := Lib.hid h2); clear h2 hk2) | (go_at_call 68; (with_reducible refine (r_cut H2.out a).mono ?_); rintro e w3 ⟨rfl, u3, h3, hk3⟩; rw [(HA.out.1.cut HA.out.2.1 a).2]; clear hk3; (have H3 := Lib.hid h3); clear h3))
  all_goals
   go_wp2
   go_ret
   exact ⟨rfl, _, _, _, _, H3.out, (HA.out.1.cut HA.out.2.1 a).1, cut_fin d a⟩
set_option maxRecDepth 100000 in
set_option maxHeartbeats 1000000 in
theorem act6 (h : Two W w g v d g2 v2 r) (ha : Al d r) (hf : d.fin ≤ 1099511627776) (ha9 : a ≤ 9223372036854775807) :
    Calls Try.prog 28 #[.pointer (some ⟨g, 0, none⟩), .pointer (some ⟨g2, 0, none⟩), .agg #[.int .i64 6, .int .i64 a, .int .i64 b, .slice A n c]] w (ActPost W g g2 d.fin) := by
  have HT1 := Lib.hid (h.still ((Ab.refl w).alloc (.cells #[.int .i64 6, .int .i64 a, .int .i64 b, .slice A n c] 72)))
  have HA := Lib.hid (And.intro ha (And.intro hf (And.intro ha9 h.dk.ok)))
  have HB := Lib.hid (show (w.alloc (.cells #[.int .i64 6, .int .i64 a, .int .i64 b, .slice A n c] 72)).cell? ⟨w.heap.size, 1, none⟩ = some (.int .i64 a) ∧ (w.alloc (.cells #[.int .i64 6, .int .i64 a, .int .i64 b, .slice A n c] 72)).cell? ⟨w.heap.size, 2, none⟩ = some (.int .i64 b) from ⟨(Bk.made w _ _).cell rfl, (Bk.made w _ _).cell rfl⟩)
  have HO := Lib.hid (show ¬ Own g v w.heap.size from fun hh => Nat.lt_irrefl _ (h.dk.own_lt hh))
  clear h ha hf ha9
  go_enter Try.func28, Try.ntmps28
  go_wp2_with (first | (go_at_call 71; (with_reducible refine (l_arm HT1.out a HA.out.2.2.1).mono ?_); rintro e w2 ⟨rfl, h2, hk2⟩; (have q1 := box_keep hk2 (by simp) HO.out HB.out.1); (have q2 := box_keep hk2 (by simp) HO.out HB.out.2); (have H2 := Lib.hid h2); clear h2 hk2) | (go_at_call 72; (with_reducible refine (r_arm H2.out a).mono ?_); rintro e w3 ⟨rfl, h3, hk3⟩; clear hk3; (have H3 := Lib.hid h3); clear h3))
  go_ret
  exact ⟨rfl, _, _, _, _, H3.out, HA.out.1.arm HA.out.2.1 a, Nat.le_refl _⟩
set_option maxRecDepth 100000 in
set_option maxHeartbeats 1000000 in
theorem act7 (h : Two W w g v d g2 v2 r) (ha : Al d r) (hf : d.fin ≤ 1099511627776) (ha9 : a ≤ 9223372036854775807) :
    Calls Try.prog 28 #[.pointer (some ⟨g, 0, none⟩), .pointer (some ⟨g2, 0, none⟩), .agg #[.int .i64 7, .int .i64 a, .int .i64 b, .slice A n c]] w (ActPost W g g2 d.fin) := by
  have HT1 := Lib.hid (h.still ((Ab.refl w).alloc (.cells #[.int .i64 7, .int .i64 a, .int .i64 b, .slice A n c] 72)))
  have HA := Lib.hid (And.intro ha (And.intro hf (And.intro ha9 h.dk.ok)))
  have HB := Lib.hid (show (w.alloc (.cells #[.int .i64 7, .int .i64 a, .int .i64 b, .slice A n c] 72)).cell? ⟨w.heap.size, 1, none⟩ = some (.int .i64 a) ∧ (w.alloc (.cells #[.int .i64 7, .int .i64 a, .int .i64 b, .slice A n c] 72)).cell? ⟨w.heap.size, 2, none⟩ = some (.int .i64 b) from ⟨(Bk.made w _ _).cell rfl, (Bk.made w _ _).cell rfl⟩)
  have HO := Lib.hid (show ¬ Own g v w.heap.size from fun hh => Nat.lt_irrefl _ (h.dk.own_lt hh))
  clear h ha hf ha9
  go_enter Try.func28, Try.ntmps28
  go_wp2_with (first | (go_at_call 55; (with_reducible refine (l_crash HT1.out a HA.out.2.2.1).mono ?_); rintro e w2 ⟨rfl, u2, h2, hk2⟩; (have q1 := box_keep hk2 (by simp) HO.out HB.out.1); (have q2 := box_keep hk2 (by simp) HO.out HB.out.2); (have H2 := Lib.hid h2); clear h2 hk2) | (go_at_call 73; (with_reducible refine (r_crash H2.out a HA.out.2.2.1).mono ?_); rintro e w3 ⟨rfl, u3, h3, hk3⟩; clear hk3; (have H3 := Lib.hid h3); clear h3))
  go_ret
  exact ⟨rfl, _, _, _, _, H3.out, HA.out.1.crash HA.out.2.1 a, crash_fin d a⟩
end Go.Proofs.Ytolchbjcdlncgaa.diskActs

/- alike: the same disks. -/
import Derived.Test.YtolchbjcdlncgaaDkQ
import Derived.Deep.RegionWith
namespace Go.Proofs.Ytolchbjcdlncgaa.diskActs
open Go.RowKit Dg
variable {W w w' : World} {g g2 : Nat} {v v2 : Value} {d r : Dst}
attribute [local go_sem ↓] Go.wp_at_zero Go.wp_at_succ
theorem all_got (d : Dst) : d.got (d.base : Int) (d.bytes.length : Int) = d.bytes ∧ d.gotE (d.base : Int) (d.bytes.length : Int) = 0 := by
  have hh : d.has (d.base : Int) (d.bytes.length : Int) = true := decide_eq_true ⟨by omega, by unfold Dst.fin; omega, by omega, by unfold Dst.fin; omega⟩
  unfold Dst.got Dst.gotE
  rw [hh]
  refine ⟨?_, rfl⟩
  show (d.bytes.drop ((d.base : Int).toNat - d.base)).take (d.bytes.length : Int).toNat = d.bytes
  rw [Int.toNat_natCast, Int.toNat_natCast, Nat.sub_self, List.drop_zero, List.take_length]
theorem read_all (h : Dk w W.heap.size g v d) :
    Calls Try.prog 56 #[.pointer (some ⟨g, 0, none⟩), .int .i64 (d.base : Int), .int .i64 (d.bytes.length : Int)] w fun e w' => ∃ A n c, e = .returned (.tuple #[.slice A n c, .int .i64 0]) ∧ Ob w' w.heap.size (.slice A n c) d.bytes ∧ Ab w w' := by
  have hr := h.bound
  have := Read_any w h (d.base : Int) (d.bytes.length : Int) (by omega)
  rw [(all_got d).1, (all_got d).2] at this
  exact this.mono fun _ _ ⟨u, h1, h2, h3⟩ => by
    obtain ⟨A, c, rfl, -, -⟩ := h2.len_cap
    exact ⟨A, _, c, h1, h2, h3⟩
set_option maxRecDepth 100000 in
set_option maxHeartbeats 1000000 in
theorem alike_any (h : Two W w g v d g2 v2 r) (ha : Al d r) (hf : d.fin ≤ 1099511627776) :
    Calls Try.prog 29 #[.pointer (some ⟨g, 0, none⟩), .pointer (some ⟨g2, 0, none⟩)] w fun e w' => e = .returned (.bool true) ∧ Two W w' g v d g2 v2 r := by
  have HT := Lib.hid h
  have hfr := rfrozen_at h.rk
  rw [ha.cold hf] at hfr
  have HF := Lib.hid hfr
  obtain ⟨L, rfl, -⟩ := ha
  have HE0 : (∀ n0, Calls Try.prog 77 #[.pointer (some ⟨g2, 0, none⟩)] (w.drewN n0) fun e w' => e = .returned (.int .i64 (d.fin : Int)) ∧ ∃ m, w' = w.drewN m) := by have h5 := rend_at h.rk; exact h5
  have HE := Lib.hid HE0
  clear HE0
  obtain ⟨-, h1, h2, h3, -⟩ := h.rk.cells
  obtain ⟨A2, c2, rfl, -, -⟩ := h.rk.len_cap
  replace h1 : w.cell? ⟨g2, 1, none⟩ = some (.int .i64 (d.base : Int)) := h1
  replace h2 : w.cell? ⟨g2, 2, none⟩ = some (.int .i64 (d.synced : Int)) := h2
  replace h3 : w.cell? ⟨g2, 3, none⟩ = some (.slice A2 d.bytes.length c2) := h3
  have HC3 := Lib.hid h3
  obtain ⟨f, hf2⟩ : ∃ f, d.fin = f := ⟨_, rfl⟩
  obtain ⟨fr, hfr2⟩ : ∃ fr, d.cold = fr := ⟨_, rfl⟩
  have HE1 := Lib.hid (fun n0 => Calls.quiet_of (End_any (w.drewN n0) (h.dk.ab ((Ab.refl w).drewN n0))))
  have HF1 := Lib.hid (fun n0 => Calls.quiet_of (Frozen_any (w.drewN n0) (h.dk.ab ((Ab.refl w).drewN n0))))
  rw [hf2] at HE HE1
  rw [hfr2] at HF HF1
  clear h hfr hf2 hfr2 hf
  go_enter Try.func29, Try.ntmps29
  go_wp2_with fail
  go_quiet (first | (go_at_call 76; exact quietL (Base_any _ (HT.out.dk.ab ((Ab.refl w).drewN _)))) | (go_at_call 58; exact quietL (Synced_any _ (HT.out.dk.ab ((Ab.refl w).drewN _)))) | (go_at_call 57; exact HE1.out _) | (go_at_call 77; exact HE.out _) | (go_at_call 78; exact HF1.out _) | (go_at_call 79; exact HF.out _))
  go_wp2_with fail
  go_region_with (first | (go_at_call 56; (refine (read_all (W := W) (HT.out.dk.ab ((Ab.refl w).drewN (nq + 1)))).mono ?_); rintro e w5 ⟨A5, n5, c5, rfl, ho5, ha5⟩; (have h35 := (HT.out.rk.ab (((Ab.refl w).drewN (nq + 1)).trans ha5)).cells.2.2.2.1); (have H5 := Lib.hid (And.intro ho5 ha5)); clear ho5 ha5))
  all_goals
    go_wp2_with (go_at_call 64; (refine (Same_any w5 H5.out.1.bs (HT.out.rk.ab (((Ab.refl w).drewN (nq + 1)).trans H5.out.2)).2.1.bs).mono ?_); rintro e w6 ⟨rfl, rfl⟩)
    go_ret
    exact ⟨rfl, HT.out.still (((Ab.refl w).drewN (nq + 1)).trans H5.out.2)⟩
end Go.Proofs.Ytolchbjcdlncgaa.diskActs

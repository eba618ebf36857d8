/- The program's disk in memory: Arm, Crash. -/
import Derived.Test.YtolchbjcdlncgaaDkH
import Derived.Deep.RegionWith
namespace Go.Proofs.Ytolchbjcdlncgaa.Dg
open Go.RowKit
variable {w w' : World} {base g : Nat} {v : Value} {d : Dst}
attribute [local go_sem ↓] Go.wp_at_zero Go.wp_at_succ
theorem Dk.lim_ (h : Dk w base g v d) (x : Nat) (hok : ({ d with lim := some x } : Dst).Ok) : Dk ((w.setCell ⟨g, 5, none⟩ (.bool true)).setCell ⟨g, 6, none⟩ (.int .i64 (x : Int))) base g v { d with lim := some x } ∧ Turn g v v w ((w.setCell ⟨g, 5, none⟩ (.bool true)).setCell ⟨g, 6, none⟩ (.int .i64 (x : Int))) :=
  h.put2 (w2 := w) (d2 := { d with lim := some x }) h.2.1 ⟨rfl, rfl, rfl, Nat.le_refl _, fun _ _ _ => rfl⟩ (fun k hk => .inl hk) (setg 6 _ (setg 5 _ (Mv.refl _ _))) (fun hb => Bk.eq_ ((hb.store 5 _).store 6 _) (by simp only [List.setIfInBounds_toArray, List.set_cons_zero, List.set_cons_succ]; rfl)) hok
set_option maxRecDepth 100000 in
set_option maxHeartbeats 1000000 in
/-- Arm. -/
theorem Arm_any (w : World) (h : Dk w base g v d) (k : Int) (hk9 : k ≤ 9223372036854775807) :
    Calls Try.prog 71 #[.pointer (some ⟨g, 0, none⟩), .int .i64 k] w fun e w' => e = .returned (.tuple #[]) ∧ Dk w' base g v (d.arm k) ∧ Turn g v v w w' := by
  obtain ⟨h0, h1, h2, h3, h4, h5, h6⟩ := h.cells
  have hfz := h.free
  have hr := h.bound
  have hok := h.ok
  have HD := Lib.hid h
  obtain ⟨A, c, rfl, hc1, hc2⟩ := h.len_cap
  have H0 := Lib.hid h0
  have HE := Lib.hid (fun n0 => end_at w n0 g d.base h2 h4 (by omega))
  have HF := Lib.hid (fun n0 => frozen_at w n0 g d.lim d.base h2 h4 h5 h6 (by omega))
  obtain ⟨f, hf⟩ : ∃ f, d.base + d.bytes.length = f := ⟨_, rfl⟩
  rw [hf] at HE HF
  obtain ⟨fr, hfr⟩ : ∃ fr, Dst.coldL f d.lim = fr := ⟨_, rfl⟩
  rw [hfr] at HF
  have hcold : d.cold = fr := by rw [← hfr, ← hf]; rfl
  have hfin : d.fin = f := hf
  have hba : d.base ≤ f := by omega
  have hfr2 : f ≤ 4611686018427387904 := by omega
  obtain ⟨n, hn⟩ : ∃ n : Nat, max k 0 = (n : Int) := ⟨(max k 0).toNat, by omega⟩
  have hn2 : (max k 0).toNat = n := by omega
  have n9 : n ≤ 9223372036854775807 := by omega
  have f9 : f ≤ 9223372036854775807 := by omega
  obtain ⟨L, hL⟩ : ∃ L, d.lim = L := ⟨_, rfl⟩
  have H1 := Lib.hid (And.intro hn2 (And.intro hfin hL))
  rw [hL] at h5 h6
  clear h h0 h1 h2 h3 h4 hfin hf hr hc1 hc2 hcold hfr HF hn2 hL hok hba hfr2
  go_enter Try.func71, Try.ntmps71
  go_wp2_with (first | (go_at_call 119; (refine (ready_any _ g true H0.out).mono ?_); rintro e w2 ⟨rfl, rfl⟩))
  go_region_with (first | (go_at_call 120; (first | (refine (HE.out _).mono ?_) | (refine (HE.out 0).mono ?_)); rintro e w3 ⟨rfl, k3, rfl⟩) | (go_at_call 124; (refine (sum_any _ f n f9 n9).mono ?_); rintro e w7 ⟨rfl, rfl⟩) | (go_at_call 122; (refine (within_any _ L (min (f + n) 9223372036854775807)).mono ?_); rintro e w8 ⟨rfl, ha8⟩; (have hd8 := HD.out.ab (Ab.trans ((Ab.refl w).drewN _) ha8)); (obtain ⟨-, -, -, -, -, c5, c6⟩ := hd8.cells); (have cf := hd8.free); (have H8 := Lib.hid (And.intro hd8 (Ab.trans ((Ab.refl w).drewN _) ha8))); clear ha8 hd8))
  all_goals
    go_wp2
    go_end0
    have hx : Dst.within L (min (f + n) 9223372036854775807) = Dst.within d.lim (Dst.far d.fin k) := by unfold Dst.far; rw [H1.out.1, H1.out.2.1, H1.out.2.2]
    rw [hx]
    have hs := H8.out.1.lim_ (Dst.within d.lim (Dst.far d.fin k)) (HD.out.ok.arm k)
    exact ⟨rfl, hs.1, Turn.after H8.out.2 hs.2⟩
theorem Dk.nolim (h : Dk w base g v d) : Dk ((w.setCell ⟨g, 5, none⟩ (.bool false)).setCell ⟨g, 6, none⟩ (.int .i64 0)) base g v { d with lim := none } ∧ Turn g v v w ((w.setCell ⟨g, 5, none⟩ (.bool false)).setCell ⟨g, 6, none⟩ (.int .i64 0)) :=
  h.put2 (w2 := w) (d2 := { d with lim := none }) h.2.1 ⟨rfl, rfl, rfl, Nat.le_refl _, fun _ _ _ => rfl⟩ (fun k hk => .inl hk) (setg 6 _ (setg 5 _ (Mv.refl _ _))) (fun hb => Bk.eq_ ((hb.store 5 _).store 6 _) (by simp only [List.setIfInBounds_toArray, List.set_cons_zero, List.set_cons_succ]; rfl))
    ⟨h.ok.size1, h.ok.size2, h.ok.base, h.ok.synced, h.ok.room, h.ok.reach, fun l hl => by cases hl⟩
theorem end_Dk (h : Dk w base g v d) (n0 : Nat) :
    Calls Try.prog 120 #[.pointer (some ⟨g, 0, none⟩)] (w.drewN n0) fun e w' => e = .returned (.int .i64 (d.fin : Int)) ∧ ∃ m, w' = w.drewN m := by
  have hr := h.bound
  obtain ⟨A, c, rfl, -, -⟩ := h.len_cap
  obtain ⟨-, -, h2, -, h4, -, -⟩ := h.cells
  exact end_at w n0 g d.base h2 h4 (by omega)
set_option maxRecDepth 100000 in
set_option maxHeartbeats 1000000 in
/-- Crash. -/
theorem Crash_any (w : World) (h : Dk w base g v d) (k : Int) (hk9 : k ≤ 9223372036854775807) :
    Calls Try.prog 55 #[.pointer (some ⟨g, 0, none⟩), .int .i64 k] w fun e w' => e = .returned (.tuple #[]) ∧ ∃ v', Dk w' base g v' (d.crash k) ∧ Turn g v v' w w' := by
  obtain ⟨h0, h1, h2, h3, h4, h5, h6⟩ := h.cells
  have hfz := h.free
  have hr := h.bound
  have hok := h.ok
  have HD := Lib.hid h
  have H0 := Lib.hid h0
  have HD1 := Lib.hid h.nolim.1
  have hto := hok.crashTo k
  have hs0 := hok.synced
  have hreach := hok.reach
  obtain ⟨n, hn⟩ : ∃ n : Nat, max k 0 = (n : Int) := ⟨(max k 0).toNat, by omega⟩
  have hn2 : (max k 0).toNat = n := by omega
  obtain ⟨t, ht⟩ : ∃ t, min (d.synced + n) 9223372036854775807 = t := ⟨_, rfl⟩
  have HS := Lib.hid (fun w => sum_any w d.synced n (by omega) (by omega))
  rw [ht] at HS
  obtain ⟨f, hf⟩ : ∃ f, d.fin = f := ⟨_, rfl⟩
  obtain ⟨u, hu⟩ : ∃ u, min t f = u := ⟨_, rfl⟩
  have emin : min (t : Int) (f : Int) = (u : Int) := by omega
  have hto2 : d.crashTo k = Dst.within d.lim u := by unfold Dst.crashTo Dst.far; rw [hn2, ht, hf, hu]
  obtain ⟨to, hto3⟩ : ∃ to, Dst.within d.lim u = to := ⟨_, rfl⟩
  rw [hto2, hto3] at hto
  have HW := Lib.hid (fun w => within_any w d.lim u)
  rw [hto3] at HW
  have hbs := hok.base
  have HT := Lib.hid (show d.base ≤ to ∧ to ≤ d.fin by omega)
  have HC := Lib.hid (show d.crashTo k = to ∧ ({ d with lim := none } : Dst).Ok by rw [hto2, hto3]; exact ⟨rfl, HD1.out.ok⟩)
  have hle : (({ d with lim := none } : Dst).leave to).fin = to := by
    show d.base + (d.bytes.take (to - d.base)).length = to
    rw [List.length_take]
    have := HT.out
    unfold Dst.fin at this
    omega
  have H1 := Lib.hid (show ({ d with lim := none } : Dst).fin = f from hf)
  have HL := Lib.hid hle
  generalize d.lim.isSome = ls at *
  generalize d.lim.getD 0 = ll at *
  clear h h0 h1 h2 h4 hf hr hok hto hs0 hreach hn2 ht hu hto2 hto3 hbs hle
  go_enter Try.func55, Try.ntmps55
  go_wp2_with (first | (go_at_call 119; (refine (ready_any _ g true H0.out).mono ?_); rintro e w2 ⟨rfl, rfl⟩) | (go_at_call 120; (first | (refine (end_Dk HD1.out _).mono ?_) | (refine (end_Dk HD1.out 0).mono ?_)); rintro e w3 ⟨rfl, k3, rfl⟩; rw [H1.out]) | (go_at_call 124; (refine (HS.out _).mono ?_); rintro e w7 ⟨rfl, rfl⟩) | (go_at_call 122; (refine (HW.out _).mono ?_); rintro e w8 ⟨rfl, ha8⟩; (have H8 := Lib.hid (Ab.trans ((Ab.refl _).drewN k3) ha8)); clear ha8) | (go_at_call 123; (refine (leave_any _ (HD1.out.ab H8.out) to HT.out.1 HT.out.2).mono ?_); rintro e w9 ⟨rfl, v9, hd9, ht9⟩; (obtain ⟨-, -, -, c3, -, -, -⟩ := hd9.cells); (have cf := hd9.free); (have H9 := Lib.hid (And.intro hd9 ht9)); clear hd9 ht9) | (go_at_call 120; (refine (end_Dk H9.out.1 0).mono ?_); rintro e w10 ⟨rfl, k10, rfl⟩; rw [HL.out]))
  go_end0
  have hcr : d.crash k = { d with bytes := d.bytes.take (to - d.base), synced := to, lim := none } := by unfold Dst.crash; rw [HC.out.1]
  have hok := HD.out.ok.crash k
  rw [hcr] at hok ⊢
  have hs := (H9.out.1.ab ((Ab.refl w9).drewN k10)).put2 (w2 := w9.drewN k10) (d2 := { d with bytes := d.bytes.take (to - d.base), synced := to, lim := none }) (H9.out.1.2.1.ab ((Ab.refl w9).drewN k10)) ⟨rfl, rfl, rfl, Nat.le_refl _, fun _ _ _ => rfl⟩ (fun k hk => .inl hk) (setg 3 (.int .i64 (to : Int)) (Mv.refl _ _)) (fun hb => hb.store 3 _) hok
  exact ⟨rfl, v9, hs.1, Turn.trans (HD.out.nolim.2) (Turn.after H8.out (Turn.trans H9.out.2 (Turn.after ((Ab.refl w9).drewN k10) hs.2)))⟩
end Go.Proofs.Ytolchbjcdlncgaa.Dg

/- The reference's disk in memory: Arm, Flip. -/
import Derived.Test.YtolchbjcdlncgaaDkT
import Derived.StillTailTactics
namespace Go.Proofs.Ytolchbjcdlncgaa.Dg
open Go.RowKit
variable {w w' : World} {base g : Nat} {v : Value} {d : Dst}
attribute [local go_sem ↓] Go.wp_at_zero Go.wp_at_succ
/-- What Arm of the reference makes of the limit: no more than 2^40 behind the end. -/
def rarm (d : Dst) (n : Int) : Dst := { d with lim := some (Dst.within d.lim (d.fin + min (max n 0).toNat 1099511627776)) }
theorem rarm_ok (h : d.Ok) (n : Int) : (rarm d n).Ok := by
  have e1 := h.synced
  have e3 := h.reach
  refine ⟨h.size1, h.size2, h.base, h.synced, h.room, h.reach, fun l hl => ?_⟩
  have hl' : Dst.within d.lim (d.fin + min (max n 0).toNat 1099511627776) = l := Option.some.inj hl
  subst hl'
  show d.synced ≤ _ ∧ _
  unfold Dst.within
  cases hL : d.lim with
  | none => exact ⟨by show d.synced ≤ d.fin + min (max n 0).toNat 1099511627776; omega, by show d.fin + min (max n 0).toNat 1099511627776 ≤ _; omega⟩
  | some k =>
    have := h.lim k hL
    exact ⟨by show d.synced ≤ min (d.fin + min (max n 0).toNat 1099511627776) k; omega, by show min (d.fin + min (max n 0).toNat 1099511627776) k ≤ _; omega⟩
theorem rarm_new (h : Rk w base g v d) (x : Nat) (hok : ({ d with lim := some x } : Dst).Ok) : Rk (w.setCell ⟨g, 4, none⟩ (.int .i64 (x : Int))) base g v { d with lim := some x } ∧ Turn g v v w (w.setCell ⟨g, 4, none⟩ (.int .i64 (x : Int))) :=
  h.put (w2 := w) (d2 := { d with lim := some x }) h.2.1 (Ab.refl w) (fun _ hk => .inl hk) (setg 4 _ (Mv.refl _ _)) (fun hb => hb.store 4 _) hok
/-- The limit turns where it is none, or a higher one. -/
theorem rarm_core (w : World) (h : Rk w base g v d) (k : Int) (n : Nat) (hk : (k < 0 ∧ n = 0) ∨ (1099511627776 < k ∧ n = 1099511627776) ∨ (0 ≤ k ∧ k ≤ 1099511627776 ∧ k = (n : Int))) (hok : ({ d with lim := some (Dst.within d.lim (d.fin + n)) } : Dst).Ok) :
    Calls Try.prog 72 #[.pointer (some ⟨g, 0, none⟩), .int .i64 k] w fun e w' => e = .returned (.tuple #[]) ∧ Rk w' base g v { d with lim := some (Dst.within d.lim (d.fin + n)) } ∧ Turn g v v w w' := by
  have hfz := h.free
  have HD := Lib.hid h
  have hr := h.bound
  obtain ⟨-, -, -, -, h4⟩ := h.cells
  have HE := Lib.hid (rend_at h)
  have hf2 : d.base + d.bytes.length = d.fin := rfl
  obtain ⟨f, hf⟩ : ∃ f, d.fin = f := ⟨_, rfl⟩
  rw [hf] at HE hok ⊢
  have hfr : f ≤ 4611686018427387904 := by omega
  have hn : n ≤ 1099511627776 := by omega
  obtain ⟨s, hs⟩ : ∃ s, f + n = s := ⟨_, rfl⟩
  have e0 : (f : Int) + (n : Int) = (s : Int) := by omega
  have e1 : IntKind.i64.wrap (s : Int) = (s : Int) := IntWalk.i64_in _ (by omega)
  rw [hs] at hok ⊢
  have HN := Lib.hid hs
  have hs9 : s ≤ 9223372036854775807 := by omega
  clear h hf2 hf hr hs
  have hway : (d.lim = none) ∨ (∃ l, d.lim = some l ∧ s < l) ∨ (∃ l, d.lim = some l ∧ l ≤ s) := by
    cases hL : d.lim with
    | none => exact .inl rfl
    | some l =>
      by_cases hsl : s < l
      · exact .inr (.inl ⟨l, rfl, hsl⟩)
      · exact .inr (.inr ⟨l, rfl, by omega⟩)
  rcases hway with hL | ⟨l, hL, hsl⟩ | ⟨l, hL, hsl⟩
  · rw [hL] at h4 hok
    replace h4 : w.cell? ⟨g, 4, none⟩ = some (.int .i64 (-1)) := h4
    rw [show Dst.within d.lim s = s by rw [hL]; rfl]
    have HK := Lib.hid (show ({ d with lim := some s } : Dst).Ok from hok)
    clear hL hok
    rcases hk with ⟨hk, rfl⟩ | ⟨hk, rfl⟩ | ⟨hk, hk2, rfl⟩
    · replace e0 : (f : Int) = (s : Int) := by omega
      have e2 : (f : Int) + 0 = (s : Int) := by omega
      have z : ¬ 1099511627776 < (0 : Int) := by omega
      go_enter Try.func72, Try.ntmps72
      go_wp2_with (go_at_call 77; (refine (HE.out 0).mono ?_); rintro e w3 ⟨rfl, k3, rfl⟩)
      go_end0
      have hs := rarm_new (HD.out.ab ((Ab.refl w).drewN k3)) s HK.out
      have HS := Lib.hid (And.intro hs.1 (Turn.after ((Ab.refl w).drewN k3) hs.2))
      exact ⟨rfl, HS.out⟩
    · replace e0 : (f : Int) + 1099511627776 = (s : Int) := e0
      have z : ¬ k < 0 := by omega
      have z2 : ¬ (1099511627776 : Int) < 1099511627776 := by omega
      go_enter Try.func72, Try.ntmps72
      go_wp2_with (go_at_call 77; (refine (HE.out 0).mono ?_); rintro e w3 ⟨rfl, k3, rfl⟩)
      go_end0
      have hs := rarm_new (HD.out.ab ((Ab.refl w).drewN k3)) s HK.out
      have HS := Lib.hid (And.intro hs.1 (Turn.after ((Ab.refl w).drewN k3) hs.2))
      exact ⟨rfl, HS.out⟩
    · have z : ¬ (n : Int) < 0 := by omega
      have z2 : ¬ 1099511627776 < (n : Int) := by omega
      go_enter Try.func72, Try.ntmps72
      go_wp2_with (go_at_call 77; (refine (HE.out 0).mono ?_); rintro e w3 ⟨rfl, k3, rfl⟩)
      go_end0
      have hs := rarm_new (HD.out.ab ((Ab.refl w).drewN k3)) s HK.out
      have HS := Lib.hid (And.intro hs.1 (Turn.after ((Ab.refl w).drewN k3) hs.2))
      exact ⟨rfl, HS.out⟩
  · rw [show Dst.within d.lim s = s by rw [hL]; show min s l = s; omega] at hok ⊢
    rw [hL] at h4
    replace h4 : w.cell? ⟨g, 4, none⟩ = some (.int .i64 (l : Int)) := h4
    have HK := Lib.hid (show ({ d with lim := some s } : Dst).Ok from hok)
    have q1 : ¬ (l : Int) < 0 := by omega
    have q2 : (s : Int) < (l : Int) := by omega
    clear hL hok
    rcases hk with ⟨hk, rfl⟩ | ⟨hk, rfl⟩ | ⟨hk, hk2, rfl⟩
    · replace e0 : (f : Int) = (s : Int) := by omega
      have e2 : (f : Int) + 0 = (s : Int) := by omega
      have z : ¬ 1099511627776 < (0 : Int) := by omega
      go_enter Try.func72, Try.ntmps72
      go_wp2_with (go_at_call 77; (refine (HE.out 0).mono ?_); rintro e w3 ⟨rfl, k3, rfl⟩)
      go_end0
      have hs := rarm_new (HD.out.ab ((Ab.refl w).drewN k3)) s HK.out
      have HS := Lib.hid (And.intro hs.1 (Turn.after ((Ab.refl w).drewN k3) hs.2))
      exact ⟨rfl, HS.out⟩
    · replace e0 : (f : Int) + 1099511627776 = (s : Int) := e0
      have z : ¬ k < 0 := by omega
      have z2 : ¬ (1099511627776 : Int) < 1099511627776 := by omega
      go_enter Try.func72, Try.ntmps72
      go_wp2_with (go_at_call 77; (refine (HE.out 0).mono ?_); rintro e w3 ⟨rfl, k3, rfl⟩)
      go_end0
      have hs := rarm_new (HD.out.ab ((Ab.refl w).drewN k3)) s HK.out
      have HS := Lib.hid (And.intro hs.1 (Turn.after ((Ab.refl w).drewN k3) hs.2))
      exact ⟨rfl, HS.out⟩
    · have z : ¬ (n : Int) < 0 := by omega
      have z2 : ¬ 1099511627776 < (n : Int) := by omega
      go_enter Try.func72, Try.ntmps72
      go_wp2_with (go_at_call 77; (refine (HE.out 0).mono ?_); rintro e w3 ⟨rfl, k3, rfl⟩)
      go_end0
      have hs := rarm_new (HD.out.ab ((Ab.refl w).drewN k3)) s HK.out
      have HS := Lib.hid (And.intro hs.1 (Turn.after ((Ab.refl w).drewN k3) hs.2))
      exact ⟨rfl, HS.out⟩
  · have hsame : ({ d with lim := some (Dst.within d.lim s) } : Dst) = d := by
      have : Dst.within d.lim s = l := by rw [hL]; show min s l = l; omega
      rw [this, ← hL]
    rw [hsame]
    rw [hL] at h4
    replace h4 : w.cell? ⟨g, 4, none⟩ = some (.int .i64 (l : Int)) := h4
    have q1 : ¬ (l : Int) < 0 := by omega
    have q2 : ¬ (s : Int) < (l : Int) := by omega
    clear hsame
    clear hL hok
    rcases hk with ⟨hk, rfl⟩ | ⟨hk, rfl⟩ | ⟨hk, hk2, rfl⟩
    · replace e0 : (f : Int) = (s : Int) := by omega
      have e2 : (f : Int) + 0 = (s : Int) := by omega
      have z : ¬ 1099511627776 < (0 : Int) := by omega
      go_enter Try.func72, Try.ntmps72
      go_wp2_with (go_at_call 77; (refine (HE.out 0).mono ?_); rintro e w3 ⟨rfl, k3, rfl⟩)
      go_end0
      exact ⟨rfl, HD.out.ab ((Ab.refl w).drewN k3), Turn.of_ab ((Ab.refl w).drewN k3)⟩
    · replace e0 : (f : Int) + 1099511627776 = (s : Int) := e0
      have z : ¬ k < 0 := by omega
      have z2 : ¬ (1099511627776 : Int) < 1099511627776 := by omega
      go_enter Try.func72, Try.ntmps72
      go_wp2_with (go_at_call 77; (refine (HE.out 0).mono ?_); rintro e w3 ⟨rfl, k3, rfl⟩)
      go_end0
      exact ⟨rfl, HD.out.ab ((Ab.refl w).drewN k3), Turn.of_ab ((Ab.refl w).drewN k3)⟩
    · have z : ¬ (n : Int) < 0 := by omega
      have z2 : ¬ 1099511627776 < (n : Int) := by omega
      go_enter Try.func72, Try.ntmps72
      go_wp2_with (go_at_call 77; (refine (HE.out 0).mono ?_); rintro e w3 ⟨rfl, k3, rfl⟩)
      go_end0
      exact ⟨rfl, HD.out.ab ((Ab.refl w).drewN k3), Turn.of_ab ((Ab.refl w).drewN k3)⟩
theorem rarm_any (w : World) (h : Rk w base g v d) (k : Int) :
    Calls Try.prog 72 #[.pointer (some ⟨g, 0, none⟩), .int .i64 k] w fun e w' => e = .returned (.tuple #[]) ∧ Rk w' base g v (rarm d k) ∧ Turn g v v w w' :=
  rarm_core w h k (min (max k 0).toNat 1099511627776) (by omega) (rarm_ok h.ok k)
end Go.Proofs.Ytolchbjcdlncgaa.Dg

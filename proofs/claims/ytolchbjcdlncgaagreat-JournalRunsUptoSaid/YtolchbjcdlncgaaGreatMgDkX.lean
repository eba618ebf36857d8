/- Texts joined: DkX DkQ. -/
import Derived.StillTailTactics
import Derived.Test.YtolchbjcdlncgaaGreatMgDkS
/- The reference's disk in memory: Arm, Flip. -/
namespace Go.Proofs.YtolchbjcdlncgaaGreat.Dg
open Go.RowKit
variable {w w' : World} {base g : Nat} {v : Value} {d : Dst}
attribute [local go_sem ↓] Go.wp_at_zero Go.wp_at_succ
/-- What Arm of the reference makes of the limit: no more than 2^40 behind the end. -/
def rarm (d : Dst) (n : Int) : Dst := { d with lim := some (Dst.within d.lim (d.fin + min (max n 0).toNat 1099511627776)) }
theorem rarm_ok (h : d.Ok) (n : Int) : (rarm d n).Ok := by
  have e1 := h.synced
  have e3 := h.reach
  refine ⟨h.size1, h.size2, h.base, h.synced, h.room, h.reach, fun l hl => ?_⟩
  have hl' : Dst.within d.lim (d.fin + min (max n 0).toNat 1099511627776) = l := Option.some.inj hl
  subst hl'
  show d.synced ≤ _ ∧ _
  unfold Dst.within
  cases hL : d.lim with
  | none => exact ⟨by show d.synced ≤ d.fin + min (max n 0).toNat 1099511627776; omega, by show d.fin + min (max n 0).toNat 1099511627776 ≤ _; omega⟩
  | some k =>
    have := h.lim k hL
    exact ⟨by show d.synced ≤ min (d.fin + min (max n 0).toNat 1099511627776) k; omega, by show min (d.fin + min (max n 0).toNat 1099511627776) k ≤ _; omega⟩
theorem rarm_new (h : Rk w base g v d) (x : Nat) (hok : ({ d with lim := some x } : Dst).Ok) : Rk (w.setCell ⟨g, 4, none⟩ (.int .i64 (x : Int))) base g v { d with lim := some x } ∧ Turn g v v w (w.setCell ⟨g, 4, none⟩ (.int .i64 (x : Int))) :=
  h.put (w2 := w) (d2 := { d with lim := some x }) h.2.1 (Ab.refl w) (fun _ hk => .inl hk) (setg 4 _ (Mv.refl _ _)) (fun hb => hb.store 4 _) hok
/-- The limit turns where it is none, or a higher one. -/
theorem rarm_core (w : World) (h : Rk w base g v d) (k : Int) (n : Nat) (hk : (k < 0 ∧ n = 0) ∨ (1099511627776 < k ∧ n = 1099511627776) ∨ (0 ≤ k ∧ k ≤ 1099511627776 ∧ k = (n : Int))) (hok : ({ d with lim := some (Dst.within d.lim (d.fin + n)) } : Dst).Ok) :
    Calls Tryz.prog 39 #[.pointer (some ⟨g, 0, none⟩), .int .i64 k] w fun e w' => e = .returned (.tuple #[]) ∧ Rk w' base g v { d with lim := some (Dst.within d.lim (d.fin + n)) } ∧ Turn g v v w w' := by
  have hfz := h.free
  have HD := Lib.hid h
  have hr := h.bound
  obtain ⟨-, -, -, -, h4⟩ := h.cells
  have HE := Lib.hid (rend_at h)
  have hf2 : d.base + d.bytes.length = d.fin := rfl
  obtain ⟨f, hf⟩ : ∃ f, d.fin = f := ⟨_, rfl⟩
  rw [hf] at HE hok ⊢
  have hfr : f ≤ 4611686018427387904 := by omega
  have hn : n ≤ 1099511627776 := by omega
  obtain ⟨s, hs⟩ : ∃ s, f + n = s := ⟨_, rfl⟩
  have e0 : (f : Int) + (n : Int) = (s : Int) := by omega
  have e1 : IntKind.i64.wrap (s : Int) = (s : Int) := IntWalk.i64_in _ (by omega)
  rw [hs] at hok ⊢
  have HN := Lib.hid hs
  have hs9 : s ≤ 9223372036854775807 := by omega
  clear h hf2 hf hr hs
  have hway : (d.lim = none) ∨ (∃ l, d.lim = some l ∧ s < l) ∨ (∃ l, d.lim = some l ∧ l ≤ s) := by
    cases hL : d.lim with
    | none => exact .inl rfl
    | some l =>
      by_cases hsl : s < l
      · exact .inr (.inl ⟨l, rfl, hsl⟩)
      · exact .inr (.inr ⟨l, rfl, by omega⟩)
  rcases hway with hL | ⟨l, hL, hsl⟩ | ⟨l, hL, hsl⟩
  · rw [hL] at h4 hok
    replace h4 : w.cell? ⟨g, 4, none⟩ = some (.int .i64 (-1)) := h4
    rw [show Dst.within d.lim s = s by rw [hL]; rfl]
    have HK := Lib.hid (show ({ d with lim := some s } : Dst).Ok from hok)
    clear hL hok
    rcases hk with ⟨hk, rfl⟩ | ⟨hk, rfl⟩ | ⟨hk, hk2, rfl⟩
    · replace e0 : (f : Int) = (s : Int) := by omega
      have e2 : (f : Int) + 0 = (s : Int) := by omega
      have z : ¬ 1099511627776 < (0 : Int) := by omega
      go_enter Tryz.func39, Tryz.ntmps39
      go_wp2_with (go_at_call 42; (refine (HE.out 0).mono ?_); rintro e w3 ⟨rfl, k3, rfl⟩)
      go_end0
      have hs := rarm_new (HD.out.ab ((Ab.refl w).drewN k3)) s HK.out
      have HS := Lib.hid (And.intro hs.1 (Turn.after ((Ab.refl w).drewN k3) hs.2))
      exact ⟨rfl, HS.out⟩
    · replace e0 : (f : Int) + 1099511627776 = (s : Int) := e0
      have z : ¬ k < 0 := by omega
      have z2 : ¬ (1099511627776 : Int) < 1099511627776 := by omega
      go_enter Tryz.func39, Tryz.ntmps39
      go_wp2_with (go_at_call 42; (refine (HE.out 0).mono ?_); rintro e w3 ⟨rfl, k3, rfl⟩)
      go_end0
      have hs := rarm_new (HD.out.ab ((Ab.refl w).drewN k3)) s HK.out
      have HS := Lib.hid (And.intro hs.1 (Turn.after ((Ab.refl w).drewN k3) hs.2))
      exact ⟨rfl, HS.out⟩
    · have z : ¬ (n : Int) < 0 := by omega
      have z2 : ¬ 1099511627776 < (n : Int) := by omega
      go_enter Tryz.func39, Tryz.ntmps39
      go_wp2_with (go_at_call 42; (refine (HE.out 0).mono ?_); rintro e w3 ⟨rfl, k3, rfl⟩)
      go_end0
      have hs := rarm_new (HD.out.ab ((Ab.refl w).drewN k3)) s HK.out
      have HS := Lib.hid (And.intro hs.1 (Turn.after ((Ab.refl w).drewN k3) hs.2))
      exact ⟨rfl, HS.out⟩
  · rw [show Dst.within d.lim s = s by rw [hL]; show min s l = s; omega] at hok ⊢
    rw [hL] at h4
    replace h4 : w.cell? ⟨g, 4, none⟩ = some (.int .i64 (l : Int)) := h4
    have HK := Lib.hid (show ({ d with lim := some s } : Dst).Ok from hok)
    have q1 : ¬ (l : Int) < 0 := by omega
    have q2 : (s : Int) < (l : Int) := by omega
    clear hL hok
    rcases hk with ⟨hk, rfl⟩ | ⟨hk, rfl⟩ | ⟨hk, hk2, rfl⟩
    · replace e0 : (f : Int) = (s : Int) := by omega
      have e2 : (f : Int) + 0 = (s : Int) := by omega
      have z : ¬ 1099511627776 < (0 : Int) := by omega
      go_enter Tryz.func39, Tryz.ntmps39
      go_wp2_with (go_at_call 42; (refine (HE.out 0).mono ?_); rintro e w3 ⟨rfl, k3, rfl⟩)
      go_end0
      have hs := rarm_new (HD.out.ab ((Ab.refl w).drewN k3)) s HK.out
      have HS := Lib.hid (And.intro hs.1 (Turn.after ((Ab.refl w).drewN k3) hs.2))
      exact ⟨rfl, HS.out⟩
    · replace e0 : (f : Int) + 1099511627776 = (s : Int) := e0
      have z : ¬ k < 0 := by omega
      have z2 : ¬ (1099511627776 : Int) < 1099511627776 := by omega
      go_enter Tryz.func39, Tryz.ntmps39
      go_wp2_with (go_at_call 42; (refine (HE.out 0).mono ?_); rintro e w3 ⟨rfl, k3, rfl⟩)
      go_end0
      have hs := rarm_new (HD.out.ab ((Ab.refl w).drewN k3)) s HK.out
      have HS := Lib.hid (And.intro hs.1 (Turn.after ((Ab.refl w).drewN k3) hs.2))
      exact ⟨rfl, HS.out⟩
    · have z : ¬ (n : Int) < 0 := by omega
      have z2 : ¬ 1099511627776 < (n : Int) := by omega
      go_enter Tryz.func39, Tryz.ntmps39
      go_wp2_with (go_at_call 42; (refine (HE.out 0).mono ?_); rintro e w3 ⟨rfl, k3, rfl⟩)
      go_end0
      have hs := rarm_new (HD.out.ab ((Ab.refl w).drewN k3)) s HK.out
      have HS := Lib.hid (And.intro hs.1 (Turn.after ((Ab.refl w).drewN k3) hs.2))
      exact ⟨rfl, HS.out⟩
  · have hsame : ({ d with lim := some (Dst.within d.lim s) } : Dst) = d := by
      have : Dst.within d.lim s = l := by rw [hL]; show min s l = l; omega
      rw [this, ← hL]
    rw [hsame]
    rw [hL] at h4
    replace h4 : w.cell? ⟨g, 4, none⟩ = some (.int .i64 (l : Int)) := h4
    have q1 : ¬ (l : Int) < 0 := by omega
    have q2 : ¬ (s : Int) < (l : Int) := by omega
    clear hsame
    clear hL hok
    rcases hk with ⟨hk, rfl⟩ | ⟨hk, rfl⟩ | ⟨hk, hk2, rfl⟩
    · replace e0 : (f : Int) = (s : Int) := by omega
      have e2 : (f : Int) + 0 = (s : Int) := by omega
      have z : ¬ 1099511627776 < (0 : Int) := by omega
      go_enter Tryz.func39, Tryz.ntmps39
      go_wp2_with (go_at_call 42; (refine (HE.out 0).mono ?_); rintro e w3 ⟨rfl, k3, rfl⟩)
      go_end0
      exact ⟨rfl, HD.out.ab ((Ab.refl w).drewN k3), Turn.of_ab ((Ab.refl w).drewN k3)⟩
    · replace e0 : (f : Int) + 1099511627776 = (s : Int) := e0
      have z : ¬ k < 0 := by omega
      have z2 : ¬ (1099511627776 : Int) < 1099511627776 := by omega
      go_enter Tryz.func39, Tryz.ntmps39
      go_wp2_with (go_at_call 42; (refine (HE.out 0).mono ?_); rintro e w3 ⟨rfl, k3, rfl⟩)
      go_end0
      exact ⟨rfl, HD.out.ab ((Ab.refl w).drewN k3), Turn.of_ab ((Ab.refl w).drewN k3)⟩
    · have z : ¬ (n : Int) < 0 := by omega
      have z2 : ¬ 1099511627776 < (n : Int) := by omega
      go_enter Tryz.func39, Tryz.ntmps39
      go_wp2_with (go_at_call 42; (refine (HE.out 0).mono ?_); rintro e w3 ⟨rfl, k3, rfl⟩)
      go_end0
      exact ⟨rfl, HD.out.ab ((Ab.refl w).drewN k3), Turn.of_ab ((Ab.refl w).drewN k3)⟩
theorem rarm_any (w : World) (h : Rk w base g v d) (k : Int) :
    Calls Tryz.prog 39 #[.pointer (some ⟨g, 0, none⟩), .int .i64 k] w fun e w' => e = .returned (.tuple #[]) ∧ Rk w' base g v (rarm d k) ∧ Turn g v v w w' :=
  rarm_core w h k (min (max k 0).toNat 1099511627776) (by omega) (rarm_ok h.ok k)
end Go.Proofs.YtolchbjcdlncgaaGreat.Dg

/- The program's disk and the reference's, side by side. -/
namespace Go.Proofs.YtolchbjcdlncgaaGreat.Dg
open Go.RowKit
variable {W w w' : World} {g g2 : Nat} {v v2 u : Value} {d r : Dst}
/-- The same limit, or both so far behind that no end comes there. -/
def LimEq : Option Nat → Option Nat → Prop
  | none, none => True
  | some a, some b => a = b ∨ (1099511627776 ≤ a ∧ 1099511627776 ≤ b)
  | none, some _ => False
  | some _, none => False
/-- The same disk, but for the limit. -/
def Al (d r : Dst) : Prop := ∃ L, r = { d with lim := L } ∧ LimEq d.lim L
theorem Al.cold (h : Al d r) (hf : d.fin ≤ 1099511627776) : r.cold = d.cold := by
  obtain ⟨L, rfl, hL⟩ := h
  show Dst.coldL d.fin L = Dst.coldL d.fin d.lim
  cases hd : d.lim with
  | none => cases L with
    | none => rfl
    | some b => rw [hd] at hL; exact hL.elim
  | some a => cases L with
    | none => rw [hd] at hL; exact hL.elim
    | some b =>
      rw [hd] at hL
      rcases hL with rfl | ⟨h1, h2⟩
      · rfl
      · show decide (b < d.fin) = decide (a < d.fin)
        rw [decide_eq_false (by omega), decide_eq_false (by omega)]
theorem Al.app (h : Al d r) (xs : List UInt8) : Al (d.app xs) (r.app xs) ∧ r.appAt xs.length = d.appAt xs.length ∧ r.appE xs.length = d.appE xs.length := by
  obtain ⟨L, rfl, hL⟩ := h
  refine ⟨?_, rfl, rfl⟩
  unfold Dst.app
  cases hf : d.fits xs.length with
  | true =>
    have : Dst.fits { d with lim := L } xs.length = true := hf
    rw [this]
    exact ⟨L, rfl, hL⟩
  | false =>
    have : Dst.fits { d with lim := L } xs.length = false := hf
    rw [this]
    exact ⟨L, rfl, hL⟩
theorem Al.sync (h : Al d r) (hf : d.fin ≤ 1099511627776) : Al d.sync r.sync := by
  have hc := h.cold hf
  obtain ⟨L, rfl, hL⟩ := h
  unfold Dst.sync
  rw [hc]
  cases d.cold <;> exact ⟨L, rfl, hL⟩
theorem Al.trim (h : Al d r) (hf : d.fin ≤ 1099511627776) (at_ : Int) : Al (d.trim at_) (r.trim at_) ∧ r.trimE at_ = d.trimE at_ := by
  have hc := h.cold hf
  obtain ⟨L, rfl, hL⟩ := h
  refine ⟨?_, rfl⟩
  unfold Dst.trim
  rw [hc, show Dst.trims { d with lim := L } at_ = d.trims at_ from rfl]
  cases (d.trims at_ && !d.cold) <;> exact ⟨L, rfl, hL⟩
theorem Al.cut (h : Al d r) (hf : d.fin ≤ 1099511627776) (at_ : Int) : Al (d.cut at_) (r.cut at_) ∧ r.cutE at_ = d.cutE at_ := by
  have hc := h.cold hf
  obtain ⟨L, rfl, hL⟩ := h
  refine ⟨?_, rfl⟩
  unfold Dst.cut
  rw [hc, show Dst.cuts { d with lim := L } at_ = d.cuts at_ from rfl]
  cases (d.cuts at_ && !d.cold) <;> exact ⟨L, rfl, hL⟩
theorem Al.flip (h : Al d r) (at_ bit : Int) : Al (d.flip at_ bit) (r.flip at_ bit) ∧ r.flipE at_ bit = d.flipE at_ bit := by
  obtain ⟨L, rfl, hL⟩ := h
  refine ⟨?_, rfl⟩
  unfold Dst.flip
  rw [show Dst.flips { d with lim := L } at_ bit = d.flips at_ bit from rfl]
  cases d.flips at_ bit <;> exact ⟨L, rfl, hL⟩
theorem Al.read (h : Al d r) (at_ n : Int) : r.got at_ n = d.got at_ n ∧ r.gotE at_ n = d.gotE at_ n := by
  obtain ⟨L, rfl, hL⟩ := h
  exact ⟨rfl, rfl⟩
theorem Al.wipe (h : Al d r) : Al d.wipe r.wipe := by
  obtain ⟨L, rfl, hL⟩ := h
  exact ⟨none, rfl, trivial⟩
theorem Al.crash (h : Al d r) (hf : d.fin ≤ 1099511627776) (k : Int) : Al (d.crash k) (r.crash k) := by
  obtain ⟨L, rfl, hL⟩ := h
  have hc : Dst.crashTo { d with lim := L } k = d.crashTo k := by
    show Dst.within L (min (Dst.far d.synced k) d.fin) = Dst.within d.lim (min (Dst.far d.synced k) d.fin)
    cases hd : d.lim with
    | none => cases L with
      | none => rfl
      | some b => rw [hd] at hL; exact hL.elim
    | some a => cases L with
      | none => rw [hd] at hL; exact hL.elim
      | some b =>
        rw [hd] at hL
        rcases hL with rfl | ⟨h1, h2⟩
        · rfl
        · show min (min (Dst.far d.synced k) d.fin) b = min (min (Dst.far d.synced k) d.fin) a
          omega
  unfold Dst.crash
  rw [hc]
  exact ⟨none, rfl, trivial⟩
theorem Al.arm (h : Al d r) (hf : d.fin ≤ 1099511627776) (k : Int) : Al (d.arm k) (rarm r k) := by
  obtain ⟨L, rfl, hL⟩ := h
  refine ⟨_, rfl, ?_⟩
  show LimEq (some (Dst.within d.lim (Dst.far d.fin k))) (some (Dst.within L (d.fin + min (max k 0).toNat 1099511627776)))
  have hx : Dst.far d.fin k = d.fin + min (max k 0).toNat 1099511627776 ∨ (1099511627776 ≤ Dst.far d.fin k ∧ 1099511627776 ≤ d.fin + min (max k 0).toNat 1099511627776) := by
    unfold Dst.far; omega
  generalize Dst.far d.fin k = x at *
  generalize d.fin + min (max k 0).toNat 1099511627776 = y at *
  cases hd : d.lim with
  | none => cases L with
    | none => exact hx
    | some b => rw [hd] at hL; exact hL.elim
  | some a => cases L with
    | none => rw [hd] at hL; exact hL.elim
    | some b =>
      rw [hd] at hL
      show min x a = min y b ∨ (1099511627776 ≤ min x a ∧ 1099511627776 ≤ min y b)
      rcases hL with rfl | ⟨h1, h2⟩ <;> omega
/-- Both in memory, in blocks of their own. -/
structure Two (W w : World) (g : Nat) (v : Value) (d : Dst) (g2 : Nat) (v2 : Value) (r : Dst) : Prop where
  dk : Dk w W.heap.size g v d
  rk : Rk w W.heap.size g2 v2 r
  apart : ∀ k, Own g v k → ¬ Own g2 v2 k
  ab : Ab W w
theorem Dk.own_lt (h : Dk w W.heap.size g v d) {k : Nat} (hk : Own g v k) : k < w.heap.size := by
  rcases hk with rfl | hk
  · exact h.1.lt
  · exact (h.2.1.blk k hk).2
theorem Rk.own_lt (h : Rk w W.heap.size g v d) {k : Nat} (hk : Own g v k) : k < w.heap.size := by
  rcases hk with rfl | hk
  · exact h.1.lt
  · exact (h.2.1.blk k hk).2
theorem Two.still (h : Two W w g v d g2 v2 r) (k : Ab w w') : Two W w' g v d g2 v2 r := ⟨h.dk.ab k, h.rk.ab k, h.apart, h.ab.trans k⟩
theorem Two.left {d2 : Dst} (h : Two W w g v d g2 v2 r) (hd : Dk w' W.heap.size g u d2) (ht : Turn g v u w w') : Two W w' g u d2 g2 v2 r :=
  ⟨hd, h.rk.mv ht.1 (fun k hk e => h.apart k e hk), fun k hk e => by
    have hlt := h.rk.own_lt e
    rcases hk with hk | hk
    · exact h.apart k (.inl hk) e
    · rcases ht.2 k hk with h2 | h2
      · exact h.apart k (.inr h2) e
      · omega, ht.ab h.dk h.ab (Nat.le_refl _)⟩
theorem Two.right {r2 : Dst} (h : Two W w g v d g2 v2 r) (hr : Rk w' W.heap.size g2 u r2) (ht : Turn g2 v2 u w w') : Two W w' g v d g2 u r2 :=
  ⟨h.dk.mv ht.1 (fun k hk e => h.apart k hk e), hr, fun k hk e => by
    have hlt := h.dk.own_lt hk
    rcases e with e | e
    · exact h.apart k hk (.inl e)
    · rcases ht.2 k e with h2 | h2
      · exact h.apart k hk (.inr h2)
      · omega, ht.1.ab h.ab (fun k hk => by
    rcases hk with rfl | hk
    · exact h.rk.2.2.1
    · exact (h.rk.2.1.blk k hk).1)⟩
end Go.Proofs.YtolchbjcdlncgaaGreat.Dg

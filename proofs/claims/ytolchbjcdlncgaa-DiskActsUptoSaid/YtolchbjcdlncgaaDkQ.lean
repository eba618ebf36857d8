/- The program's disk and the reference's, side by side. -/
import Derived.Test.YtolchbjcdlncgaaDkX
namespace Go.Proofs.Ytolchbjcdlncgaa.Dg
open Go.RowKit
variable {W w w' : World} {g g2 : Nat} {v v2 u : Value} {d r : Dst}
/-- The same limit, or both so far behind that no end comes there. -/
def LimEq : Option Nat → Option Nat → Prop
  | none, none => True
  | some a, some b => a = b ∨ (1099511627776 ≤ a ∧ 1099511627776 ≤ b)
  | none, some _ => False
  | some _, none => False
/-- The same disk, but for the limit. -/
def Al (d r : Dst) : Prop := ∃ L, r = { d with lim := L } ∧ LimEq d.lim L
theorem Al.cold (h : Al d r) (hf : d.fin ≤ 1099511627776) : r.cold = d.cold := by
  obtain ⟨L, rfl, hL⟩ := h
  show Dst.coldL d.fin L = Dst.coldL d.fin d.lim
  cases hd : d.lim with
  | none => cases L with
    | none => rfl
    | some b => rw [hd] at hL; exact hL.elim
  | some a => cases L with
    | none => rw [hd] at hL; exact hL.elim
    | some b =>
      rw [hd] at hL
      rcases hL with rfl | ⟨h1, h2⟩
      · rfl
      · show decide (b < d.fin) = decide (a < d.fin)
        rw [decide_eq_false (by omega), decide_eq_false (by omega)]
theorem Al.app (h : Al d r) (xs : List UInt8) : Al (d.app xs) (r.app xs) ∧ r.appAt xs.length = d.appAt xs.length ∧ r.appE xs.length = d.appE xs.length := by
  obtain ⟨L, rfl, hL⟩ := h
  refine ⟨?_, rfl, rfl⟩
  unfold Dst.app
  cases hf : d.fits xs.length with
  | true =>
    have : Dst.fits { d with lim := L } xs.length = true := hf
    rw [this]
    exact ⟨L, rfl, hL⟩
  | false =>
    have : Dst.fits { d with lim := L } xs.length = false := hf
    rw [this]
    exact ⟨L, rfl, hL⟩
theorem Al.sync (h : Al d r) (hf : d.fin ≤ 1099511627776) : Al d.sync r.sync := by
  have hc := h.cold hf
  obtain ⟨L, rfl, hL⟩ := h
  unfold Dst.sync
  rw [hc]
  cases d.cold <;> exact ⟨L, rfl, hL⟩
theorem Al.trim (h : Al d r) (hf : d.fin ≤ 1099511627776) (at_ : Int) : Al (d.trim at_) (r.trim at_) ∧ r.trimE at_ = d.trimE at_ := by
  have hc := h.cold hf
  obtain ⟨L, rfl, hL⟩ := h
  refine ⟨?_, rfl⟩
  unfold Dst.trim
  rw [hc, show Dst.trims { d with lim := L } at_ = d.trims at_ from rfl]
  cases (d.trims at_ && !d.cold) <;> exact ⟨L, rfl, hL⟩
theorem Al.cut (h : Al d r) (hf : d.fin ≤ 1099511627776) (at_ : Int) : Al (d.cut at_) (r.cut at_) ∧ r.cutE at_ = d.cutE at_ := by
  have hc := h.cold hf
  obtain ⟨L, rfl, hL⟩ := h
  refine ⟨?_, rfl⟩
  unfold Dst.cut
  rw [hc, show Dst.cuts { d with lim := L } at_ = d.cuts at_ from rfl]
  cases (d.cuts at_ && !d.cold) <;> exact ⟨L, rfl, hL⟩
theorem Al.flip (h : Al d r) (at_ bit : Int) : Al (d.flip at_ bit) (r.flip at_ bit) ∧ r.flipE at_ bit = d.flipE at_ bit := by
  obtain ⟨L, rfl, hL⟩ := h
  refine ⟨?_, rfl⟩
  unfold Dst.flip
  rw [show Dst.flips { d with lim := L } at_ bit = d.flips at_ bit from rfl]
  cases d.flips at_ bit <;> exact ⟨L, rfl, hL⟩
theorem Al.read (h : Al d r) (at_ n : Int) : r.got at_ n = d.got at_ n ∧ r.gotE at_ n = d.gotE at_ n := by
  obtain ⟨L, rfl, hL⟩ := h
  exact ⟨rfl, rfl⟩
theorem Al.wipe (h : Al d r) : Al d.wipe r.wipe := by
  obtain ⟨L, rfl, hL⟩ := h
  exact ⟨none, rfl, trivial⟩
theorem Al.crash (h : Al d r) (hf : d.fin ≤ 1099511627776) (k : Int) : Al (d.crash k) (r.crash k) := by
  obtain ⟨L, rfl, hL⟩ := h
  have hc : Dst.crashTo { d with lim := L } k = d.crashTo k := by
    show Dst.within L (min (Dst.far d.synced k) d.fin) = Dst.within d.lim (min (Dst.far d.synced k) d.fin)
    cases hd : d.lim with
    | none => cases L with
      | none => rfl
      | some b => rw [hd] at hL; exact hL.elim
    | some a => cases L with
      | none => rw [hd] at hL; exact hL.elim
      | some b =>
        rw [hd] at hL
        rcases hL with rfl | ⟨h1, h2⟩
        · rfl
        · show min (min (Dst.far d.synced k) d.fin) b = min (min (Dst.far d.synced k) d.fin) a
          omega
  unfold Dst.crash
  rw [hc]
  exact ⟨none, rfl, trivial⟩
theorem Al.arm (h : Al d r) (hf : d.fin ≤ 1099511627776) (k : Int) : Al (d.arm k) (rarm r k) := by
  obtain ⟨L, rfl, hL⟩ := h
  refine ⟨_, rfl, ?_⟩
  show LimEq (some (Dst.within d.lim (Dst.far d.fin k))) (some (Dst.within L (d.fin + min (max k 0).toNat 1099511627776)))
  have hx : Dst.far d.fin k = d.fin + min (max k 0).toNat 1099511627776 ∨ (1099511627776 ≤ Dst.far d.fin k ∧ 1099511627776 ≤ d.fin + min (max k 0).toNat 1099511627776) := by
    unfold Dst.far; omega
  generalize Dst.far d.fin k = x at *
  generalize d.fin + min (max k 0).toNat 1099511627776 = y at *
  cases hd : d.lim with
  | none => cases L with
    | none => exact hx
    | some b => rw [hd] at hL; exact hL.elim
  | some a => cases L with
    | none => rw [hd] at hL; exact hL.elim
    | some b =>
      rw [hd] at hL
      show min x a = min y b ∨ (1099511627776 ≤ min x a ∧ 1099511627776 ≤ min y b)
      rcases hL with rfl | ⟨h1, h2⟩ <;> omega
/-- Both in memory, in blocks of their own. -/
structure Two (W w : World) (g : Nat) (v : Value) (d : Dst) (g2 : Nat) (v2 : Value) (r : Dst) : Prop where
  dk : Dk w W.heap.size g v d
  rk : Rk w W.heap.size g2 v2 r
  apart : ∀ k, Own g v k → ¬ Own g2 v2 k
  ab : Ab W w
theorem Dk.own_lt (h : Dk w W.heap.size g v d) {k : Nat} (hk : Own g v k) : k < w.heap.size := by
  rcases hk with rfl | hk
  · exact h.1.lt
  · exact (h.2.1.blk k hk).2
theorem Rk.own_lt (h : Rk w W.heap.size g v d) {k : Nat} (hk : Own g v k) : k < w.heap.size := by
  rcases hk with rfl | hk
  · exact h.1.lt
  · exact (h.2.1.blk k hk).2
theorem Two.still (h : Two W w g v d g2 v2 r) (k : Ab w w') : Two W w' g v d g2 v2 r := ⟨h.dk.ab k, h.rk.ab k, h.apart, h.ab.trans k⟩
theorem Two.left {d2 : Dst} (h : Two W w g v d g2 v2 r) (hd : Dk w' W.heap.size g u d2) (ht : Turn g v u w w') : Two W w' g u d2 g2 v2 r :=
  ⟨hd, h.rk.mv ht.1 (fun k hk e => h.apart k e hk), fun k hk e => by
    have hlt := h.rk.own_lt e
    rcases hk with hk | hk
    · exact h.apart k (.inl hk) e
    · rcases ht.2 k hk with h2 | h2
      · exact h.apart k (.inr h2) e
      · omega, ht.ab h.dk h.ab (Nat.le_refl _)⟩
theorem Two.right {r2 : Dst} (h : Two W w g v d g2 v2 r) (hr : Rk w' W.heap.size g2 u r2) (ht : Turn g2 v2 u w w') : Two W w' g v d g2 u r2 :=
  ⟨h.dk.mv ht.1 (fun k hk e => h.apart k hk e), hr, fun k hk e => by
    have hlt := h.dk.own_lt hk
    rcases e with e | e
    · exact h.apart k hk (.inl e)
    · rcases ht.2 k e with h2 | h2
      · exact h.apart k hk (.inr h2)
      · omega, ht.1.ab h.ab (fun k hk => by
    rcases hk with rfl | hk
    · exact h.rk.2.2.1
    · exact (h.rk.2.1.blk k hk).1)⟩
end Go.Proofs.Ytolchbjcdlncgaa.Dg

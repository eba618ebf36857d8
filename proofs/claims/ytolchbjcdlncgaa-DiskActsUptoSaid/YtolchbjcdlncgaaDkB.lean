/- A disk as numbers and bytes: what each call makes of it. -/
import Derived.Test.YtolchbjcdlncgaaDkA
namespace Go.Proofs.Ytolchbjcdlncgaa.Dg
open Go.RowKit

structure Dst where
  size : Nat
  base : Nat
  synced : Nat
  bytes : List UInt8
  lim : Option Nat
namespace Dst
def fin (d : Dst) : Nat := d.base + d.bytes.length
def coldL (fin : Nat) : Option Nat → Bool
  | none => false
  | some l => decide (l < fin)
def cold (d : Dst) : Bool := coldL d.fin d.lim
structure Ok (d : Dst) : Prop where
  size1 : 1 ≤ d.size
  size2 : d.size ≤ 67108864
  base : d.base ≤ d.synced
  synced : d.synced ≤ d.fin
  room : d.bytes.length ≤ d.size
  reach : d.fin ≤ 4611686018427387904
  lim : ∀ l, d.lim = some l → d.synced ≤ l ∧ l ≤ 9223372036854775807
def new (n : Nat) : Dst := ⟨n, 0, 0, [], none⟩
def fits (d : Dst) (n : Nat) : Bool := decide (n ≤ d.size - d.bytes.length)
def app (d : Dst) (xs : List UInt8) : Dst := bif d.fits xs.length then { d with bytes := d.bytes ++ xs } else d
def appAt (d : Dst) (n : Nat) : Nat := bif d.fits n then d.fin else 0
def appE (d : Dst) (n : Nat) : Nat := bif d.fits n then 0 else 28
def sync (d : Dst) : Dst := bif d.cold then d else { d with synced := d.fin }
def has (d : Dst) (at_ n : Int) : Bool := decide ((d.base : Int) ≤ at_ ∧ at_ ≤ (d.fin : Int) ∧ 0 ≤ n ∧ n ≤ (d.fin : Int) - at_)
def got (d : Dst) (at_ n : Int) : List UInt8 := bif d.has at_ n then (d.bytes.drop (at_.toNat - d.base)).take n.toNat else []
def gotE (d : Dst) (at_ n : Int) : Nat := bif d.has at_ n then 0 else 22
def trims (d : Dst) (at_ : Int) : Bool := decide ((d.base : Int) ≤ at_ ∧ at_ ≤ (d.synced : Int))
def trim (d : Dst) (at_ : Int) : Dst := bif d.trims at_ && !d.cold then { d with base := at_.toNat, bytes := d.bytes.drop (at_.toNat - d.base) } else d
def trimE (d : Dst) (at_ : Int) : Nat := bif d.trims at_ then 0 else 22
def cuts (d : Dst) (at_ : Int) : Bool := decide ((d.base : Int) ≤ at_ ∧ at_ ≤ (d.fin : Int))
def leave (d : Dst) (to : Nat) : Dst := { d with bytes := d.bytes.take (to - d.base), synced := min d.synced to }
def cut (d : Dst) (at_ : Int) : Dst := bif d.cuts at_ && !d.cold then d.leave at_.toNat else d
def cutE (d : Dst) (at_ : Int) : Nat := bif d.cuts at_ then 0 else 22
def flips (d : Dst) (at_ bit : Int) : Bool := decide ((d.base : Int) ≤ at_ ∧ at_ < (d.fin : Int) ∧ 0 ≤ bit ∧ bit < 8)
def turned (x : UInt8) (bit : Nat) : UInt8 := x ^^^ ((1 : UInt8) <<< UInt8.ofNat bit)
def flip (d : Dst) (at_ bit : Int) : Dst := bif d.flips at_ bit then { d with bytes := d.bytes.set (at_.toNat - d.base) (turned (d.bytes.getD (at_.toNat - d.base) 0) bit.toNat) } else d
def flipE (d : Dst) (at_ bit : Int) : Nat := bif d.flips at_ bit then 0 else 22
def within (lim : Option Nat) (x : Nat) : Nat :=
  match lim with
  | none => x
  | some l => min x l
/-- A place so far behind the end, or the greatest there is. -/
def far (x : Nat) (n : Int) : Nat := min (x + (max n 0).toNat) 9223372036854775807
def arm (d : Dst) (n : Int) : Dst := { d with lim := some (within d.lim (far d.fin n)) }
def crashTo (d : Dst) (keep : Int) : Nat := within d.lim (min (far d.synced keep) d.fin)
def crash (d : Dst) (keep : Int) : Dst := { d with bytes := d.bytes.take (d.crashTo keep - d.base), synced := d.crashTo keep, lim := none }
def wipe (d : Dst) : Dst := new d.size

variable {d : Dst}
theorem Ok.new {n : Nat} (h1 : 1 ≤ n) (h2 : n ≤ 67108864) : (new n).Ok := ⟨h1, h2, Nat.le_refl _, by simp [Dst.new, fin], by simp [Dst.new], by simp [Dst.new, fin], fun l h => by cases h⟩
theorem Ok.app (h : d.Ok) (xs : List UInt8) (hr : d.fin + xs.length ≤ 4611686018427387904) : (d.app xs).Ok := by
  have e1 := h.synced
  have e2 := h.room
  unfold Dst.app
  cases hf : d.fits xs.length with
  | false => exact h
  | true =>
    have hf' : xs.length ≤ d.size - d.bytes.length := of_decide_eq_true hf
    unfold fin at e1 hr
    exact ⟨h.size1, h.size2, h.base, by show d.synced ≤ d.base + (d.bytes ++ xs).length; rw [List.length_append]; omega, by show (d.bytes ++ xs).length ≤ d.size; rw [List.length_append]; omega,
      by show d.base + (d.bytes ++ xs).length ≤ _; rw [List.length_append]; omega, h.lim⟩
theorem Ok.sync (h : d.Ok) : d.sync.Ok := by
  unfold Dst.sync
  cases hc : d.cold with
  | true => exact h
  | false =>
    have := h.base
    have := h.synced
    refine ⟨h.size1, h.size2, by show d.base ≤ d.fin; omega, Nat.le_refl _, h.room, h.reach, fun l hl => ?_⟩
    have hl' : d.lim = some l := hl
    have h1 := h.lim l hl'
    unfold cold at hc
    rw [hl'] at hc
    exact ⟨Nat.le_of_not_lt (of_decide_eq_false hc), h1.2⟩
theorem Ok.trim (h : d.Ok) (at_ : Int) : (d.trim at_).Ok := by
  unfold Dst.trim
  cases hc : (d.trims at_ && !d.cold) with
  | false => exact h
  | true =>
    have ht : (d.base : Int) ≤ at_ ∧ at_ ≤ (d.synced : Int) := of_decide_eq_true (Bool.and_eq_true_iff.1 hc).1
    have e1 := h.synced
    have e2 := h.room
    have e3 := h.reach
    unfold fin at e1 e3
    refine ⟨h.size1, h.size2, by show at_.toNat ≤ d.synced; omega, ?_, ?_, ?_, h.lim⟩
    · show d.synced ≤ at_.toNat + (d.bytes.drop _).length; rw [List.length_drop]; omega
    · show (d.bytes.drop _).length ≤ d.size; rw [List.length_drop]; omega
    · show at_.toNat + (d.bytes.drop _).length ≤ _; rw [List.length_drop]; omega
theorem Ok.leave (h : d.Ok) (to : Nat) (h1 : d.base ≤ to) (h2 : to ≤ d.fin) : (d.leave to).Ok := by
  have e0 := h.base
  have e1 := h.synced
  have e2 := h.room
  have e3 := h.reach
  unfold fin at e1 e3 h2
  refine ⟨h.size1, h.size2, by show d.base ≤ min d.synced to; omega, ?_, ?_, ?_, fun l hl => ?_⟩
  · show min d.synced to ≤ d.base + (d.bytes.take _).length; rw [List.length_take]; omega
  · show (d.bytes.take _).length ≤ d.size; rw [List.length_take]; omega
  · show d.base + (d.bytes.take _).length ≤ _; rw [List.length_take]; omega
  · have := h.lim l hl
    exact ⟨by show min d.synced to ≤ l; omega, this.2⟩
theorem Ok.cut (h : d.Ok) (at_ : Int) : (d.cut at_).Ok := by
  unfold Dst.cut
  cases hc : (d.cuts at_ && !d.cold) with
  | false => exact h
  | true =>
    have ht : (d.base : Int) ≤ at_ ∧ at_ ≤ (d.fin : Int) := of_decide_eq_true (Bool.and_eq_true_iff.1 hc).1
    exact h.leave _ (by omega) (by omega)
theorem Ok.flip (h : d.Ok) (at_ bit : Int) : (d.flip at_ bit).Ok := by
  unfold Dst.flip
  cases hc : d.flips at_ bit with
  | false => exact h
  | true =>
    have e1 := h.synced
    have e2 := h.room
    have e3 := h.reach
    unfold fin at e1 e3
    refine ⟨h.size1, h.size2, h.base, ?_, ?_, ?_, h.lim⟩
    · show d.synced ≤ d.base + (d.bytes.set _ _).length; rw [List.length_set]; omega
    · show (d.bytes.set _ _).length ≤ d.size; rw [List.length_set]; omega
    · show d.base + (d.bytes.set _ _).length ≤ _; rw [List.length_set]; omega
theorem far_ge (x : Nat) (n : Int) (h : x ≤ 9223372036854775807) : x ≤ far x n ∧ far x n ≤ 9223372036854775807 := by unfold far; omega
theorem Ok.arm (h : d.Ok) (n : Int) : (d.arm n).Ok := by
  have e1 := h.synced
  have e3 := h.reach
  have hf := far_ge d.fin n (by omega)
  refine ⟨h.size1, h.size2, h.base, h.synced, h.room, h.reach, fun l hl => ?_⟩
  have hl' : within d.lim (far d.fin n) = l := Option.some.inj hl
  subst hl'
  show d.synced ≤ _ ∧ _
  unfold within
  cases hL : d.lim with
  | none => exact ⟨by show d.synced ≤ far d.fin n; omega, hf.2⟩
  | some k =>
    have := h.lim k hL
    exact ⟨by show d.synced ≤ min (far d.fin n) k; omega, by show min (far d.fin n) k ≤ _; omega⟩
theorem Ok.crashTo (h : d.Ok) (keep : Int) : d.synced ≤ d.crashTo keep ∧ d.crashTo keep ≤ d.fin := by
  have e1 := h.synced
  have e3 := h.reach
  have hf := far_ge d.synced keep (by omega)
  unfold Dst.crashTo within
  cases hL : d.lim with
  | none => exact ⟨by show d.synced ≤ min (far d.synced keep) d.fin; omega, by show min (far d.synced keep) d.fin ≤ _; omega⟩
  | some k =>
    have := h.lim k hL
    exact ⟨by show d.synced ≤ min (min (far d.synced keep) d.fin) k; omega, by show min (min (far d.synced keep) d.fin) k ≤ _; omega⟩
theorem Ok.crash (h : d.Ok) (keep : Int) : (d.crash keep).Ok := by
  have e0 := h.base
  have e1 := h.crashTo keep
  have e2 := h.room
  have e3 := h.reach
  unfold fin at e1 e3
  refine ⟨h.size1, h.size2, by show d.base ≤ d.crashTo keep; omega, ?_, ?_, ?_, fun l hl => by cases hl⟩
  · show d.crashTo keep ≤ d.base + (d.bytes.take _).length; rw [List.length_take]; omega
  · show (d.bytes.take _).length ≤ d.size; rw [List.length_take]; omega
  · show d.base + (d.bytes.take _).length ≤ _; rw [List.length_take]; omega
theorem Ok.wipe (h : d.Ok) : d.wipe.Ok := Ok.new h.size1 h.size2
end Dst
end Go.Proofs.Ytolchbjcdlncgaa.Dg

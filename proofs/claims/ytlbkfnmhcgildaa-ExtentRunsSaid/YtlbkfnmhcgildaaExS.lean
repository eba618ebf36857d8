/- A map of the call's own, somewhere; what the calls make of it. -/
import Derived.Test.YtlbkfnmhcgildaaExR
namespace Go.Proofs.Ytlbkfnmhcgildaa.Dg
open Go.RowKit Go.Shelf
variable {w w' : World} {base a s B : Nat} {v u : Value} {ps : List Pr} {l : List UInt8} {c : Cel}
/-- A map made since W, in block a. -/
def Lq (W : World) (a : Nat) (c : Cel) (s : Nat) (w : World) : Prop := ExC w W.heap.size a c s ∧ Ab W w
variable {W : World}
theorem Lq.ab (h : Lq W a c s w) (ha : Ab w w') : Lq W a c s w' := ⟨h.1.ab ha, h.2.trans ha⟩
theorem Lq.le (h : Lq W a c s w) : W.heap.size ≤ a := by
  obtain ⟨_, _, hx, -⟩ := h.1
  exact hx.le
theorem Lq.after {c2 : Cel} {s2 : Nat} {n : Int} (h : Lq W a c s w) {e : Ending} (hp : ChPost w W.heap.size a n c2 s2 e w') : e = .returned (.int .i64 n) ∧ Lq W a c2 s2 w' :=
  ⟨hp.1, hp.2.1, hp.2.2.ab h.2 (fun _ e => by rw [e]; exact h.le)⟩
theorem newq (w : World) (hW : Ab W w) : Calls Try.prog 29 #[] w fun e w' => e = .returned (.pointer (some ⟨w.heap.size, 0, none⟩)) ∧ Lq W w.heap.size (fun _ => none) 0 w' ∧ Ab w w' :=
  (exnew_any w).mono fun _ _ ⟨h1, h2⟩ => ⟨h1, by
    have h := exnew_ex w
    rw [h2]
    exact ⟨⟨_, [], h.lower hW.size, rfl⟩, hW.alloc _⟩, by rw [h2]; exact (Ab.refl w).alloc _⟩
theorem writeq (w : World) (h : Lq W a c s w) (t : Int) (hu : Bs w B u l) (hB : B ≤ w.heap.size) :
    Calls Try.prog 31 #[.pointer (some ⟨a, 0, none⟩), .int .i64 t, u] w fun e w' => e = .returned (.int .i64 (exE t l.length)) ∧ Lq W a (if exE t l.length ≠ 0 ∨ l = [] then c else wrC c t.toNat l) (if exE t l.length ≠ 0 ∨ l = [] then s else max s (t.toNat + l.length)) w' :=
  (writeC_any w h.1 t hu hB h.2.size).mono fun _ _ hp => h.after hp
theorem zeroq (w : World) (h : Lq W a c s w) (t n : Int) (hn : n ≤ 9223372036854775807) :
    Calls Try.prog 40 #[.pointer (some ⟨a, 0, none⟩), .int .i64 t, .int .i64 n] w fun e w' => e = .returned (.int .i64 (exE t n)) ∧ Lq W a (if exE t n ≠ 0 ∨ n = 0 then c else hoC c t.toNat (t + n).toNat) (if exE t n ≠ 0 ∨ n = 0 then s else max s (t + n).toNat) w' :=
  (zeroC_any w h.1 t n hn h.2.size).mono fun _ _ hp => h.after hp
theorem truncq (w : World) (h : Lq W a c s w) (n : Int) :
    Calls Try.prog 41 #[.pointer (some ⟨a, 0, none⟩), .int .i64 n] w fun e w' => e = .returned (.int .i64 (exE n 0)) ∧ Lq W a (if exE n 0 ≠ 0 then c else hoC c n.toNat s) (if exE n 0 ≠ 0 then s else n.toNat) w' :=
  (truncC_any w h.1 n h.2.size).mono fun _ _ hp => h.after hp
theorem readq (w : World) (h : Lq W a c s w) (t n : Int) (h63 : t ≤ 9223372036854775807 ∧ n ≤ 9223372036854775807) :
    Calls Try.prog 39 #[.pointer (some ⟨a, 0, none⟩), .int .i64 t, .int .i64 n] w fun e w' => ∃ A k, e = .returned (.tuple #[.slice A (gotC c s t n).length k, .int .i64 (gotE t n)]) ∧ Ob w' w.heap.size (.slice A (gotC c s t n).length k) (gotC c s t n) ∧ Lq W a c s w' ∧ Ab w w' :=
  (readX_any w h.1 t n h63 h.2.size).mono fun _ _ ⟨A, k, h1, h2, h3⟩ => ⟨A, k, h1, h2, h.ab h3, h3⟩
theorem bytesq (w : World) (h : Lq W a c s w) :
    Calls Try.prog 36 #[.pointer (some ⟨a, 0, none⟩)] w fun e w' => ∃ A k, e = .returned (.slice A s k) ∧ Ob w' w.heap.size (.slice A s k) (datR c s) ∧ Lq W a c s w' ∧ Ab w w' :=
  (bytesX_any w h.1 h.2.size).mono fun _ _ ⟨A, k, h1, h2, h3⟩ => ⟨A, k, h1, h2, h.ab h3, h3⟩
theorem sizeq (w : World) (h : Lq W a c s w) : Calls Try.prog 34 #[.pointer (some ⟨a, 0, none⟩)] w fun e w' => e = .returned (.int .i64 (s : Int)) ∧ w = w' := sizeX_any w h.1
/-- Reads of numbers that are not below nought. -/
theorem gotC_nat (c : Cel) (s t n : Nat) : gotC c s t n = readC c t (min n (s - t)) := by
  unfold gotC
  rw [if_neg (by omega), Int.toNat_natCast, show (min (n : Int) ((s : Int) - (t : Int))).toNat = min n (s - t) by omega]
theorem gotE_nat (t n : Nat) : gotE t n = 0 := by unfold gotE; rw [if_neg (by omega)]
theorem readn (w : World) (h : Lq W a c s w) (t n r : Nat) (xs : List UInt8) (hr : xs.length = r) (hx : readC c t (min n (s - t)) = xs) (h63 : t ≤ 9223372036854775807 ∧ n ≤ 9223372036854775807) :
    Calls Try.prog 39 #[.pointer (some ⟨a, 0, none⟩), .int .i64 (t : Int), .int .i64 (n : Int)] w fun e w' => ∃ A k, e = .returned (.tuple #[.slice A r k, .int .i64 0]) ∧ Ob w' w.heap.size (.slice A r k) xs ∧ Lq W a c s w' ∧ Ab w w' := by
  have h1 := readq w h t n ⟨by omega, by omega⟩
  rw [gotC_nat, gotE_nat, hx, hr] at h1
  exact h1
end Go.Proofs.Ytlbkfnmhcgildaa.Dg

/- A disk of the call's own, and bytes beside it. -/
import Derived.Test.YtolchbjcdlncgaaDkK
namespace Go.Proofs.Ytolchbjcdlncgaa.Dg
open Go.RowKit
variable {w w' W : World} {g : Nat} {v u : Value} {d : Dst} {l : List UInt8} {us : List (Value × List UInt8)}
/-- The disk, and slices of the call's own that do not lie in its blocks. -/
def Sx (W w : World) (g : Nat) (v : Value) (d : Dst) (us : List (Value × List UInt8)) : Prop :=
  St W w g v d ∧ ∀ x ∈ us, Ob w W.heap.size x.1 x.2 ∧ ∀ k, x.1.ownBlock = some k → ¬ Own g v k
theorem Sx.of (h : St W w g v d) : Sx W w g v d [] := ⟨h, fun _ hx => by cases hx⟩
theorem Sx.head (h : Sx W w g v d ((u, l) :: us)) : Ob w W.heap.size u l := (h.2 (u, l) (List.mem_cons_self ..)).1
theorem Sx.tail {x : Value × List UInt8} (h : Sx W w g v d (x :: us)) : Sx W w g v d us := ⟨h.1, fun y hy => h.2 y (List.mem_cons_of_mem _ hy)⟩
theorem own_lt0 (hs : St W w g v d) {k : Nat} (hk : w.heap.size ≤ k) : ¬ Own g v k := by
  intro h
  rcases h with rfl | h
  · have := hs.1.1.lt; omega
  · have := (hs.1.2.1.blk k h).2; omega
theorem Sx.turn {v2 : Value} {d2 : Dst} (h : Sx W w g v d us) (hd : Dk w' W.heap.size g v2 d2) (ht : Turn g v v2 w w') : Sx W w' g v2 d2 us :=
  ⟨h.1.turn hd ht, fun x hx => by
    obtain ⟨h1, h2⟩ := h.2 x hx
    refine ⟨ht.1.ob h1 h2, fun k hk ho => ?_⟩
    have hlt := (h1.blk k hk).2
    rcases ho with e | e
    · exact h2 k hk (.inl e)
    · rcases ht.2 k e with e2 | e2
      · exact h2 k hk (.inr e2)
      · omega⟩
theorem Sx.ab (h : Sx W w g v d us) (k : Ab w w') : Sx W w' g v d us := ⟨h.1.ab k, fun x hx => ⟨(h.2 x hx).1.ab k, (h.2 x hx).2⟩⟩
theorem Sx.cons (h : Sx W w g v d us) (ho : Ob w W.heap.size u l) (hn : ∀ k, u.ownBlock = some k → ¬ Own g v k) : Sx W w g v d ((u, l) :: us) :=
  ⟨h.1, fun x hx => by
    rcases List.mem_cons.1 hx with rfl | hx
    · exact ⟨ho, hn⟩
    · exact h.2 x hx⟩
theorem Sx.append {x : Value} {B : Nat} {xs : List UInt8} (h : Sx W w g v d us) (hx : Bs w B x xs) (hroom : d.fin + xs.length ≤ 4611686018427387904 ∨ d.fits xs.length = false) : Calls Try.prog 53 #[.pointer (some ⟨g, 0, none⟩), x] w fun e w' => e = .returned (.tuple #[.int .i64 (d.appAt xs.length : Int), .int .i64 (d.appE xs.length : Int)]) ∧ ∃ v', Sx W w' g v' (d.app xs) us :=
  (Append_any w h.1.1 hx hroom h.1.2.size).mono fun _ _ ⟨h1, v', h2, h3⟩ => ⟨h1, v', h.turn h2 h3⟩
theorem Sx.sync  (h : Sx W w g v d us)  : Calls Try.prog 54 #[.pointer (some ⟨g, 0, none⟩)] w fun e w' => e = .returned (.tuple #[]) ∧ Sx W w' g v (d.sync) us :=
  (Sync_any w h.1.1).mono fun _ _ ⟨h1, h2, h3⟩ => ⟨h1, h.turn h2 h3⟩
theorem Sx.trim  (h : Sx W w g v d us) (at_ : Int) : Calls Try.prog 65 #[.pointer (some ⟨g, 0, none⟩), .int .i64 at_] w fun e w' => e = .returned (.int .i64 (d.trimE at_ : Int)) ∧ ∃ v', Sx W w' g v' (d.trim at_) us :=
  (Trim_any w h.1.1 at_).mono fun _ _ ⟨h1, v', h2, h3⟩ => ⟨h1, v', h.turn h2 h3⟩
theorem Sx.cut  (h : Sx W w g v d us) (at_ : Int) : Calls Try.prog 67 #[.pointer (some ⟨g, 0, none⟩), .int .i64 at_] w fun e w' => e = .returned (.int .i64 (d.cutE at_ : Int)) ∧ ∃ v', Sx W w' g v' (d.cut at_) us :=
  (Cut_any w h.1.1 at_).mono fun _ _ ⟨h1, v', h2, h3⟩ => ⟨h1, v', h.turn h2 h3⟩
theorem Sx.crash  (h : Sx W w g v d us) (k : Int) (hk : k ≤ 9223372036854775807) : Calls Try.prog 55 #[.pointer (some ⟨g, 0, none⟩), .int .i64 k] w fun e w' => e = .returned (.tuple #[]) ∧ ∃ v', Sx W w' g v' (d.crash k) us :=
  (Crash_any w h.1.1 k hk).mono fun _ _ ⟨h1, v', h2, h3⟩ => ⟨h1, v', h.turn h2 h3⟩
theorem Sx.base (h : Sx W w g v d us) : Calls Try.prog 76 #[.pointer (some ⟨g, 0, none⟩)] w fun e w' => e = .returned (.int .i64 (d.base : Int)) ∧ Sx W w' g v d us :=
  (Base_any w h.1.1).mono fun _ _ ⟨h1, h2⟩ => ⟨h1, h2 ▸ h⟩
theorem Sx.synced (h : Sx W w g v d us) : Calls Try.prog 58 #[.pointer (some ⟨g, 0, none⟩)] w fun e w' => e = .returned (.int .i64 (d.synced : Int)) ∧ Sx W w' g v d us :=
  (Synced_any w h.1.1).mono fun _ _ ⟨h1, h2⟩ => ⟨h1, h2 ▸ h⟩
theorem Sx.end_ (h : Sx W w g v d us) : Calls Try.prog 57 #[.pointer (some ⟨g, 0, none⟩)] w fun e w' => e = .returned (.int .i64 (d.fin : Int)) ∧ Sx W w' g v d us :=
  (End_any w h.1.1).mono fun _ _ ⟨h1, h2⟩ => ⟨h1, h.ab h2.ab⟩
theorem Sx.frozen (h : Sx W w g v d us) : Calls Try.prog 78 #[.pointer (some ⟨g, 0, none⟩)] w fun e w' => e = .returned (.bool d.cold) ∧ Sx W w' g v d us :=
  (Frozen_any w h.1.1).mono fun _ _ ⟨h1, h2⟩ => ⟨h1, h.ab h2.ab⟩
theorem Sx.read (h : Sx W w g v d us) (at_ n : Int) (hn : -9223372036854775808 ≤ n ∧ n ≤ 9223372036854775807) :
    Calls Try.prog 56 #[.pointer (some ⟨g, 0, none⟩), .int .i64 at_, .int .i64 n] w fun e w' => ∃ u, e = .returned (.tuple #[u, .int .i64 (d.gotE at_ n : Int)]) ∧ Sx W w' g v d ((u, d.got at_ n) :: us) :=
  (Read_any w h.1.1 at_ n hn).mono fun _ _ ⟨u, h1, h2, h3⟩ => ⟨u, h1, (h.ab h3).cons (h2.lower h.1.2.size) (fun _ hk => own_lt0 h.1 (h2.blk _ hk).1)⟩
/-- The bytes beside grow. -/
theorem Sx.grown {u2 : Value} {l2 : List UInt8} (h : Sx W w g v d [(u, l)]) (hg : w.grownBy w' u.ownBlock) (ho : Ob w' W.heap.size u2 l2) (hb : u2.ownBlock = u.ownBlock ∨ u2.ownBlock = some w.heap.size) : Sx W w' g v d [(u2, l2)] := by
  obtain ⟨h1, h2⟩ := h.2 (u, l) (List.mem_cons_self ..)
  have hm : Mv (fun j => u.ownBlock = some j) w w' := Mv.grown (Mv.refl _ w) hg (fun k hk => .inl hk)
  have hs : St W w' g v d := ⟨h.1.1.mv hm (fun k hk e => h2 k e hk), hm.ab h.1.2 (fun k hk => (h1.blk k hk).1)⟩
  refine (Sx.of hs).cons ho (fun k hk => ?_)
  rcases hb with e | e
  · exact h2 k (e ▸ hk)
  · rw [e] at hk
    injection hk with hk
    exact own_lt0 h.1 (by omega)
end Go.Proofs.Ytolchbjcdlncgaa.Dg

/- Texts joined: DkJ DkZ DkK DkP. -/
import Derived.Lib.SmallJoins
import Derived.ProofKit
import Derived.OpenShut
import Derived.Deep.DeepHandedRow
import Derived.Lib.LaidTab
import Derived.Test.YtolchbjcdlncgaaGreatMgDkH
/- A disk of the call's own, from call to call. -/
namespace Go.Proofs.YtolchbjcdlncgaaGreat.Dg
open Go.RowKit
variable {w w' W : World} {g : Nat} {v : Value} {d : Dst}
/-- The call's own disk; nothing of what was there has turned. -/
def St (W w : World) (g : Nat) (v : Value) (d : Dst) : Prop := Dk w W.heap.size g v d ∧ Ab W w
theorem St.ab (h : St W w g v d) (k : Ab w w') : St W w' g v d := ⟨h.1.ab k, h.2.trans k⟩
theorem St.turn {v2 : Value} {d2 : Dst} (h : St W w g v d) (hd : Dk w' W.heap.size g v2 d2) (ht : Turn g v v2 w w') : St W w' g v2 d2 := ⟨hd, ht.ab h.1 h.2 (Nat.le_refl _)⟩
theorem St.new (hW : Ab W w) (n : Nat) (h1 : 1 ≤ n) (h2 : n ≤ 67108864) :
    Calls Tryz.prog 10 #[.int .i64 (n : Int)] w fun e w' => ∃ g, e = .returned (.tuple #[.pointer (some ⟨g, 0, none⟩), .int .i64 0]) ∧ St W w' g (.slice none 0 0) (Dst.new n) :=
  (New_any w (n : Int)).mono fun e w' h => by
    rcases h with ⟨h, _⟩ | ⟨_, h3, h4, h5⟩
    · omega
    · exact ⟨w.heap.size, h3, h4 _ hW.size, hW.trans h5⟩
theorem St.append {x : Value} {B : Nat} {xs : List UInt8} (h : St W w g v d) (hx : Bs w B x xs) (hroom : d.fin + xs.length ≤ 4611686018427387904 ∨ d.fits xs.length = false) :
    Calls Tryz.prog 13 #[.pointer (some ⟨g, 0, none⟩), x] w fun e w' => e = .returned (.tuple #[.int .i64 (d.appAt xs.length : Int), .int .i64 (d.appE xs.length : Int)]) ∧ ∃ v', St W w' g v' (d.app xs) :=
  (Append_any w h.1 hx hroom h.2.size).mono fun _ _ ⟨h1, v', h2, h3⟩ => ⟨h1, v', h.turn h2 h3⟩
theorem St.sync (h : St W w g v d) : Calls Tryz.prog 15 #[.pointer (some ⟨g, 0, none⟩)] w fun e w' => e = .returned (.tuple #[]) ∧ St W w' g v d.sync :=
  (Sync_any w h.1).mono fun _ _ ⟨h1, h2, h3⟩ => ⟨h1, h.turn h2 h3⟩
theorem St.base (h : St W w g v d) : Calls Tryz.prog 40 #[.pointer (some ⟨g, 0, none⟩)] w fun e w' => e = .returned (.int .i64 (d.base : Int)) ∧ St W w' g v d ∧ Ab w w' :=
  (Base_any w h.1).mono fun _ _ ⟨h1, h2⟩ => ⟨h1, h2 ▸ h, h2 ▸ Ab.refl w⟩
theorem St.synced (h : St W w g v d) : Calls Tryz.prog 43 #[.pointer (some ⟨g, 0, none⟩)] w fun e w' => e = .returned (.int .i64 (d.synced : Int)) ∧ St W w' g v d ∧ Ab w w' :=
  (Synced_any w h.1).mono fun _ _ ⟨h1, h2⟩ => ⟨h1, h2 ▸ h, h2 ▸ Ab.refl w⟩
theorem St.end_ (h : St W w g v d) : Calls Tryz.prog 41 #[.pointer (some ⟨g, 0, none⟩)] w fun e w' => e = .returned (.int .i64 (d.fin : Int)) ∧ St W w' g v d ∧ Ab w w' :=
  (End_any w h.1).mono fun _ _ ⟨h1, h2⟩ => ⟨h1, h.ab h2.ab, h2.ab⟩
theorem St.read (h : St W w g v d) (at_ n : Int) (hn : -9223372036854775808 ≤ n ∧ n ≤ 9223372036854775807) :
    Calls Tryz.prog 51 #[.pointer (some ⟨g, 0, none⟩), .int .i64 at_, .int .i64 n] w fun e w' => ∃ u, e = .returned (.tuple #[u, .int .i64 (d.gotE at_ n : Int)]) ∧ Ob w' W.heap.size u (d.got at_ n) ∧ St W w' g v d ∧ Ab w w' ∧ ∀ k, u.ownBlock = some k → w.heap.size ≤ k :=
  (Read_any w h.1 at_ n hn).mono fun _ _ ⟨u, h1, h2, h3⟩ => ⟨u, h1, h2.lower h.2.size, h.ab h3, h3, fun k hk => (h2.blk k hk).1⟩
theorem St.trim (h : St W w g v d) (at_ : Int) : Calls Tryz.prog 58 #[.pointer (some ⟨g, 0, none⟩), .int .i64 at_] w fun e w' => e = .returned (.int .i64 (d.trimE at_ : Int)) ∧ ∃ v', St W w' g v' (d.trim at_) :=
  (Trim_any w h.1 at_).mono fun _ _ ⟨h1, v', h2, h3⟩ => ⟨h1, v', h.turn h2 h3⟩
theorem St.cut (h : St W w g v d) (at_ : Int) : Calls Tryz.prog 72 #[.pointer (some ⟨g, 0, none⟩), .int .i64 at_] w fun e w' => e = .returned (.int .i64 (d.cutE at_ : Int)) ∧ ∃ v', St W w' g v' (d.cut at_) :=
  (Cut_any w h.1 at_).mono fun _ _ ⟨h1, v', h2, h3⟩ => ⟨h1, v', h.turn h2 h3⟩
theorem St.arm (h : St W w g v d) (k : Int) (hk : k ≤ 9223372036854775807) : Calls Tryz.prog 38 #[.pointer (some ⟨g, 0, none⟩), .int .i64 k] w fun e w' => e = .returned (.tuple #[]) ∧ St W w' g v (d.arm k) :=
  (Arm_any w h.1 k hk).mono fun _ _ ⟨h1, h2, h3⟩ => ⟨h1, h.turn h2 h3⟩
theorem St.crash (h : St W w g v d) (k : Int) (hk : k ≤ 9223372036854775807) : Calls Tryz.prog 29 #[.pointer (some ⟨g, 0, none⟩), .int .i64 k] w fun e w' => e = .returned (.tuple #[]) ∧ ∃ v', St W w' g v' (d.crash k) :=
  (Crash_any w h.1 k hk).mono fun _ _ ⟨h1, v', h2, h3⟩ => ⟨h1, v', h.turn h2 h3⟩
/-- Bytes in a block that was made for them. -/
theorem bs_row {g : Nat} {l : List UInt8} {fr : Nat × Nat} (h : w.heap[g]? = some (.cells (l.map u8v).toArray 5 fr)) (hl : l.length ≤ 9223372036854775807) : Bs w (g + 1) (.slice (some ⟨g, 0, none⟩) l.length l.length) l :=
  ⟨some ⟨g, 0, none⟩, l.length, rfl, Nat.le_refl _, hl, fun _ => ⟨g, 0, rfl, Nat.lt_succ_self g, fun k hk => by
    rw [Nat.zero_add, cell_of_row w g _ _ _ _ h, List.getElem?_toArray, List.getElem?_map, List.getElem?_eq_getElem hk, List.getD_eq_getElem?_getD, List.getElem?_eq_getElem hk]
    rfl⟩⟩
theorem lives1 : (Dst.new 8).app [97, 98, 99] = ⟨8, 0, 0, [97, 98, 99], none⟩ := rfl
theorem lives2 : (Dst.sync ⟨8, 0, 0, [97, 98, 99], none⟩) = ⟨8, 0, 3, [97, 98, 99], none⟩ := rfl
theorem lives3 : (Dst.app ⟨8, 0, 3, [97, 98, 99], none⟩ [100, 101, 102]) = ⟨8, 0, 3, [97, 98, 99, 100, 101, 102], none⟩ := rfl
theorem lives4 : (Dst.crash ⟨8, 0, 3, [97, 98, 99, 100, 101, 102], none⟩ 1) = ⟨8, 0, 4, [97, 98, 99, 100], none⟩ := by
  have h : Dst.crashTo ⟨8, 0, 3, [97, 98, 99, 100, 101, 102], none⟩ 1 = 4 := by simp [Dst.crashTo, Dst.within, Dst.far, Dst.fin]; decide
  unfold Dst.crash
  rw [h]
  rfl
theorem lives5 : Dst.got ⟨8, 0, 4, [97, 98, 99, 100], none⟩ 0 4 = [97, 98, 99, 100] := rfl
theorem lives6 : Dst.gotE ⟨8, 0, 4, [97, 98, 99, 100], none⟩ 0 4 = 0 := rfl
attribute [local go_sem ↓] Go.wp_at_zero Go.wp_at_succ
end Go.Proofs.YtolchbjcdlncgaaGreat.Dg

/- What all laws of disk share. -/
namespace Go.Proofs.YtolchbjcdlncgaaGreat.Dg
open Go.RowKit
theorem own : ownKnob Tryz.prog.godebug = none := by kernel_rfl
noncomputable def laidWorld (os : Os) : World := World.holding Tryz.prog os ⟨#[], #[], []⟩
def LawPost (w : World) (e : Ending) (w' : World) : Prop := e = .returned (.bool true) ∧ Ab w w'
end Go.Proofs.YtolchbjcdlncgaaGreat.Dg

/- Calls on a disk from place 0 on, their answers reckoned out. -/
namespace Go.Proofs.YtolchbjcdlncgaaGreat.Dg
open Go.RowKit
variable {w w' W : World} {g : Nat} {v : Value} {s y : Nat} {m : List UInt8} {L : Option Nat}
theorem St.append0 {x : Value} {B : Nat} {xs : List UInt8} (h : St W w g v ⟨s, 0, y, m, L⟩) (hx : Bs w B x xs) (hs : s ≤ 67108864) (hr : m.length + xs.length ≤ s) :
    Calls Tryz.prog 13 #[.pointer (some ⟨g, 0, none⟩), x] w fun e w' => e = .returned (.tuple #[.int .i64 (m.length : Int), .int .i64 0]) ∧ ∃ v', St W w' g v' ⟨s, 0, y, m ++ xs, L⟩ := by
  have hf : Dst.fits ⟨s, 0, y, m, L⟩ xs.length = true := decide_eq_true (by show xs.length ≤ s - m.length; omega)
  have := h.append hx (.inl (by show 0 + m.length + xs.length ≤ _; omega))
  rw [show Dst.appAt ⟨s, 0, y, m, L⟩ xs.length = m.length by unfold Dst.appAt; rw [hf]; exact Nat.zero_add _, show Dst.appE ⟨s, 0, y, m, L⟩ xs.length = 0 by unfold Dst.appE; rw [hf]; rfl, show Dst.app ⟨s, 0, y, m, L⟩ xs = ⟨s, 0, y, m ++ xs, L⟩ by unfold Dst.app; rw [hf]; rfl] at this
  exact this
/-- All is read. -/
theorem St.read0 (h : St W w g v ⟨s, 0, y, m, L⟩) (N : Nat) (hN : m.length = N) (hm : N ≤ 67108864) :
    Calls Tryz.prog 51 #[.pointer (some ⟨g, 0, none⟩), .int .i64 0, .int .i64 (N : Int)] w fun e w' => ∃ u, e = .returned (.tuple #[u, .int .i64 0]) ∧ Ob w' W.heap.size u m ∧ St W w' g v ⟨s, 0, y, m, L⟩ ∧ Ab w w' ∧ ∀ k, u.ownBlock = some k → w.heap.size ≤ k := by
  subst hN
  have hf : Dst.has ⟨s, 0, y, m, L⟩ 0 (m.length : Int) = true := decide_eq_true ⟨by show ((0 : Nat) : Int) ≤ 0; omega, by show (0 : Int) ≤ ((0 + m.length : Nat) : Int); omega, by omega, by show (m.length : Int) ≤ ((0 + m.length : Nat) : Int) - 0; omega⟩
  have := h.read 0 (m.length : Int) (by omega)
  rw [show Dst.gotE ⟨s, 0, y, m, L⟩ 0 (m.length : Int) = 0 by unfold Dst.gotE; rw [hf]; rfl, show Dst.got ⟨s, 0, y, m, L⟩ 0 (m.length : Int) = m by unfold Dst.got; rw [hf]; show (m.drop (0 - 0)).take (m.length : Int).toNat = m; rw [Int.toNat_natCast]; simp] at this
  exact this
theorem turned_twice (x : UInt8) (n : Nat) : Dst.turned (Dst.turned x n) n = x := by
  unfold Dst.turned
  rw [UInt8.xor_assoc, UInt8.xor_self, UInt8.xor_zero]
theorem set_back (l : List UInt8) (k : Nat) (hk : k < l.length) (z : UInt8) : (l.set k z).set k (l.getD k 0) = l := by
  rw [List.set_set]
  apply List.ext_getElem
  · simp
  · intro i h1 h2
    rw [List.getElem_set]
    split
    · rename_i e
      subst e
      exact (by rw [List.getD_eq_getElem?_getD, List.getElem?_eq_getElem hk]; rfl)
    · rfl
theorem getD_set (l : List UInt8) (k : Nat) (hk : k < l.length) (z : UInt8) : (l.set k z).getD k 0 = z := by
  rw [List.getD_eq_getElem?_getD, List.getElem?_set_self hk]; rfl
end Go.Proofs.YtolchbjcdlncgaaGreat.Dg

/- A disk of the call's own, and bytes beside it. -/
namespace Go.Proofs.YtolchbjcdlncgaaGreat.Dg
open Go.RowKit
variable {w w' W : World} {g : Nat} {v u : Value} {d : Dst} {l : List UInt8} {us : List (Value × List UInt8)}
/-- The disk, and slices of the call's own that do not lie in its blocks. -/
def Sx (W w : World) (g : Nat) (v : Value) (d : Dst) (us : List (Value × List UInt8)) : Prop :=
  St W w g v d ∧ ∀ x ∈ us, Ob w W.heap.size x.1 x.2 ∧ ∀ k, x.1.ownBlock = some k → ¬ Own g v k
theorem Sx.of (h : St W w g v d) : Sx W w g v d [] := ⟨h, fun _ hx => by cases hx⟩
theorem Sx.head (h : Sx W w g v d ((u, l) :: us)) : Ob w W.heap.size u l := (h.2 (u, l) (List.mem_cons_self ..)).1
theorem Sx.tail {x : Value × List UInt8} (h : Sx W w g v d (x :: us)) : Sx W w g v d us := ⟨h.1, fun y hy => h.2 y (List.mem_cons_of_mem _ hy)⟩
theorem own_lt0 (hs : St W w g v d) {k : Nat} (hk : w.heap.size ≤ k) : ¬ Own g v k := by
  intro h
  rcases h with rfl | h
  · have := hs.1.1.lt; omega
  · have := (hs.1.2.1.blk k h).2; omega
theorem Sx.turn {v2 : Value} {d2 : Dst} (h : Sx W w g v d us) (hd : Dk w' W.heap.size g v2 d2) (ht : Turn g v v2 w w') : Sx W w' g v2 d2 us :=
  ⟨h.1.turn hd ht, fun x hx => by
    obtain ⟨h1, h2⟩ := h.2 x hx
    refine ⟨ht.1.ob h1 h2, fun k hk ho => ?_⟩
    have hlt := (h1.blk k hk).2
    rcases ho with e | e
    · exact h2 k hk (.inl e)
    · rcases ht.2 k e with e2 | e2
      · exact h2 k hk (.inr e2)
      · omega⟩
theorem Sx.ab (h : Sx W w g v d us) (k : Ab w w') : Sx W w' g v d us := ⟨h.1.ab k, fun x hx => ⟨(h.2 x hx).1.ab k, (h.2 x hx).2⟩⟩
theorem Sx.cons (h : Sx W w g v d us) (ho : Ob w W.heap.size u l) (hn : ∀ k, u.ownBlock = some k → ¬ Own g v k) : Sx W w g v d ((u, l) :: us) :=
  ⟨h.1, fun x hx => by
    rcases List.mem_cons.1 hx with rfl | hx
    · exact ⟨ho, hn⟩
    · exact h.2 x hx⟩
theorem Sx.append {x : Value} {B : Nat} {xs : List UInt8} (h : Sx W w g v d us) (hx : Bs w B x xs) (hroom : d.fin + xs.length ≤ 4611686018427387904 ∨ d.fits xs.length = false) : Calls Tryz.prog 13 #[.pointer (some ⟨g, 0, none⟩), x] w fun e w' => e = .returned (.tuple #[.int .i64 (d.appAt xs.length : Int), .int .i64 (d.appE xs.length : Int)]) ∧ ∃ v', Sx W w' g v' (d.app xs) us :=
  (Append_any w h.1.1 hx hroom h.1.2.size).mono fun _ _ ⟨h1, v', h2, h3⟩ => ⟨h1, v', h.turn h2 h3⟩
theorem Sx.sync  (h : Sx W w g v d us)  : Calls Tryz.prog 15 #[.pointer (some ⟨g, 0, none⟩)] w fun e w' => e = .returned (.tuple #[]) ∧ Sx W w' g v (d.sync) us :=
  (Sync_any w h.1.1).mono fun _ _ ⟨h1, h2, h3⟩ => ⟨h1, h.turn h2 h3⟩
theorem Sx.trim  (h : Sx W w g v d us) (at_ : Int) : Calls Tryz.prog 58 #[.pointer (some ⟨g, 0, none⟩), .int .i64 at_] w fun e w' => e = .returned (.int .i64 (d.trimE at_ : Int)) ∧ ∃ v', Sx W w' g v' (d.trim at_) us :=
  (Trim_any w h.1.1 at_).mono fun _ _ ⟨h1, v', h2, h3⟩ => ⟨h1, v', h.turn h2 h3⟩
theorem Sx.cut  (h : Sx W w g v d us) (at_ : Int) : Calls Tryz.prog 72 #[.pointer (some ⟨g, 0, none⟩), .int .i64 at_] w fun e w' => e = .returned (.int .i64 (d.cutE at_ : Int)) ∧ ∃ v', Sx W w' g v' (d.cut at_) us :=
  (Cut_any w h.1.1 at_).mono fun _ _ ⟨h1, v', h2, h3⟩ => ⟨h1, v', h.turn h2 h3⟩
theorem Sx.crash  (h : Sx W w g v d us) (k : Int) (hk : k ≤ 9223372036854775807) : Calls Tryz.prog 29 #[.pointer (some ⟨g, 0, none⟩), .int .i64 k] w fun e w' => e = .returned (.tuple #[]) ∧ ∃ v', Sx W w' g v' (d.crash k) us :=
  (Crash_any w h.1.1 k hk).mono fun _ _ ⟨h1, v', h2, h3⟩ => ⟨h1, v', h.turn h2 h3⟩
theorem Sx.base (h : Sx W w g v d us) : Calls Tryz.prog 40 #[.pointer (some ⟨g, 0, none⟩)] w fun e w' => e = .returned (.int .i64 (d.base : Int)) ∧ Sx W w' g v d us :=
  (Base_any w h.1.1).mono fun _ _ ⟨h1, h2⟩ => ⟨h1, h2 ▸ h⟩
theorem Sx.synced (h : Sx W w g v d us) : Calls Tryz.prog 43 #[.pointer (some ⟨g, 0, none⟩)] w fun e w' => e = .returned (.int .i64 (d.synced : Int)) ∧ Sx W w' g v d us :=
  (Synced_any w h.1.1).mono fun _ _ ⟨h1, h2⟩ => ⟨h1, h2 ▸ h⟩
theorem Sx.end_ (h : Sx W w g v d us) : Calls Tryz.prog 41 #[.pointer (some ⟨g, 0, none⟩)] w fun e w' => e = .returned (.int .i64 (d.fin : Int)) ∧ Sx W w' g v d us :=
  (End_any w h.1.1).mono fun _ _ ⟨h1, h2⟩ => ⟨h1, h.ab h2.ab⟩
theorem Sx.read (h : Sx W w g v d us) (at_ n : Int) (hn : -9223372036854775808 ≤ n ∧ n ≤ 9223372036854775807) :
    Calls Tryz.prog 51 #[.pointer (some ⟨g, 0, none⟩), .int .i64 at_, .int .i64 n] w fun e w' => ∃ u, e = .returned (.tuple #[u, .int .i64 (d.gotE at_ n : Int)]) ∧ Sx W w' g v d ((u, d.got at_ n) :: us) :=
  (Read_any w h.1.1 at_ n hn).mono fun _ _ ⟨u, h1, h2, h3⟩ => ⟨u, h1, (h.ab h3).cons (h2.lower h.1.2.size) (fun _ hk => own_lt0 h.1 (h2.blk _ hk).1)⟩
/-- The bytes beside grow. -/
theorem Sx.grown {u2 : Value} {l2 : List UInt8} (h : Sx W w g v d [(u, l)]) (hg : w.grownBy w' u.ownBlock) (ho : Ob w' W.heap.size u2 l2) (hb : u2.ownBlock = u.ownBlock ∨ u2.ownBlock = some w.heap.size) : Sx W w' g v d [(u2, l2)] := by
  obtain ⟨h1, h2⟩ := h.2 (u, l) (List.mem_cons_self ..)
  have hm : Mv (fun j => u.ownBlock = some j) w w' := Mv.grown (Mv.refl _ w) hg (fun k hk => .inl hk)
  have hs : St W w' g v d := ⟨h.1.1.mv hm (fun k hk e => h2 k e hk), hm.ab h.1.2 (fun k hk => (h1.blk k hk).1)⟩
  refine (Sx.of hs).cons ho (fun k hk => ?_)
  rcases hb with e | e
  · exact h2 k (e ▸ hk)
  · rw [e] at hk
    injection hk with hk
    exact own_lt0 h.1 (by omega)
end Go.Proofs.YtolchbjcdlncgaaGreat.Dg

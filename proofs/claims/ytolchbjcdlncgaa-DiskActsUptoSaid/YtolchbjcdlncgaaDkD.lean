/- The program's disk in memory: what it tells, Sync, Append. -/
import Derived.Test.YtolchbjcdlncgaaDkC
namespace Go.Proofs.Ytolchbjcdlncgaa.Dg
open Go.RowKit
variable {w w' : World} {base g : Nat} {v : Value} {d : Dst}
/-- The disk in block g, its bytes in the slice v. -/
def Dk (w : World) (base g : Nat) (v : Value) (d : Dst) : Prop :=
  Bk w g 209 #[.bool true, .int .i64 (d.size : Int), .int .i64 (d.base : Int), .int .i64 (d.synced : Int), v, .bool d.lim.isSome, .int .i64 ((d.lim.getD 0 : Nat) : Int)] ∧ Ow w base v d.bytes ∧ base ≤ g ∧ d.Ok
theorem Dk.cells (h : Dk w base g v d) : w.cell? ⟨g, 0, none⟩ = some (.bool true) ∧ w.cell? ⟨g, 1, none⟩ = some (.int .i64 (d.size : Int)) ∧ w.cell? ⟨g, 2, none⟩ = some (.int .i64 (d.base : Int)) ∧
    w.cell? ⟨g, 3, none⟩ = some (.int .i64 (d.synced : Int)) ∧ w.cell? ⟨g, 4, none⟩ = some v ∧ w.cell? ⟨g, 5, none⟩ = some (.bool d.lim.isSome) ∧ w.cell? ⟨g, 6, none⟩ = some (.int .i64 ((d.lim.getD 0 : Nat) : Int)) :=
  ⟨h.1.cell rfl, h.1.cell rfl, h.1.cell rfl, h.1.cell rfl, h.1.cell rfl, h.1.cell rfl, h.1.cell rfl⟩
theorem Dk.free (h : Dk w base g v d) (i : Nat) : w.frozen? ⟨g, i, none⟩ = false := h.1.free i
theorem Dk.ok (h : Dk w base g v d) : d.Ok := h.2.2.2
theorem Dk.len_cap (h : Dk w base g v d) : ∃ A c, v = .slice A d.bytes.length c ∧ d.bytes.length ≤ c ∧ c ≤ 9223372036854775807 := by
  obtain ⟨A, c, h1, h2, h3⟩ := h.2.1.len_cap
  exact ⟨A, c, h1, h2, by unfold maxLen at h3; exact h3⟩
/-- The struct's block is not the bytes'. -/
theorem Dk.apart (h : Dk w base g v d) : v.ownBlock ≠ some g := by
  intro e
  rcases h.2.1 with ⟨rfl, _⟩ | ⟨g', cap, pre, post, rfl, _, hg, _⟩
  · simp [Value.ownBlock] at e
  · have : g' = g := by simpa [Value.ownBlock] using e
    subst this
    have h1 := h.1
    unfold Bk at h1
    rw [hg] at h1
    injection h1 with h1
    injection h1 with _ h1
    exact absurd h1 (by decide)
/-- The disk's blocks. -/
def Own (g : Nat) (v : Value) (k : Nat) : Prop := k = g ∨ v.ownBlock = some k
/-- Only the disk's blocks turn; its new blocks are new. -/
def Turn (g : Nat) (v v' : Value) (w w' : World) : Prop := Mv (Own g v) w w' ∧ ∀ k, v'.ownBlock = some k → v.ownBlock = some k ∨ w.heap.size ≤ k
theorem Turn.refl (g : Nat) (v : Value) (w : World) : Turn g v v w w := ⟨Mv.refl _ _, fun _ h => .inl h⟩
theorem Turn.trans {v2 v3 : Value} {w2 w3 : World} (h : Turn g v v2 w w2) (k : Turn g v2 v3 w2 w3) : Turn g v v3 w w3 :=
  ⟨⟨k.1.os.trans h.1.os, k.1.tape.trans h.1.tape, k.1.output.trans h.1.output, Nat.le_trans h.1.size k.1.size, fun i hi hs => (k.1.block i (Nat.lt_of_lt_of_le hi h.1.size) (fun e => by
    rcases e with e | e
    · exact hs (.inl e)
    · rcases h.2 i e with e2 | e2
      · exact hs (.inr e2)
      · omega)).trans (h.1.block i hi hs)⟩, fun i hi => by
    rcases k.2 i hi with e | e
    · exact h.2 i e
    · exact .inr (Nat.le_trans h.1.size e)⟩
theorem Turn.still {v2 : Value} {w2 : World} (h : Turn g v v2 w w2) (k : Ab w2 w') : Turn g v v2 w w' := h.trans ⟨Mv.of_ab k, fun _ h => .inl h⟩
theorem Turn.after {v2 : Value} {w2 : World} (k : Ab w w2) (h : Turn g v v2 w2 w') : Turn g v v2 w w' := ⟨(Mv.of_ab k).trans h.1, fun i hi => by
    rcases h.2 i hi with e | e
    · exact .inl e
    · exact .inr (Nat.le_trans k.size e)⟩
theorem Turn.of_ab (h : Ab w w') : Turn g v v w w' := ⟨Mv.of_ab h, fun _ h => .inl h⟩
theorem Turn.ab {v2 : Value} {W : World} (h : Turn g v v2 w w') (hd : Dk w base g v d) (hW : Ab W w) (hb : W.heap.size ≤ base) : Ab W w' :=
  h.1.ab hW fun k hk => by
    rcases hk with rfl | hk
    · exact Nat.le_trans hb hd.2.2.1
    · exact Nat.le_trans hb (hd.2.1.blk k hk).1
theorem Dk.ab (h : Dk w base g v d) (hb : Ab w w') : Dk w' base g v d := ⟨hb.bk h.1, h.2.1.ab hb, h.2.2⟩
theorem Dk.mv {S : Nat → Prop} (h : Dk w base g v d) (hm : Mv S w w') (hn : ∀ k, Own g v k → ¬ S k) : Dk w' base g v d :=
  ⟨hm.bk h.1 (hn g (.inl rfl)), h.2.1.mv hm (fun k hk => hn k (.inr hk)), h.2.2⟩
theorem Dk.bound (h : Dk w base g v d) : d.base + d.bytes.length ≤ 4611686018427387904 := h.ok.reach
attribute [local go_sem ↓] Go.wp_at_zero Go.wp_at_succ
theorem end_at (w : World) (n0 g : Nat) (b : Nat) {A : Option Addr} {n c : Nat} (h2 : w.cell? ⟨g, 2, none⟩ = some (.int .i64 (b : Int))) (h4 : w.cell? ⟨g, 4, none⟩ = some (.slice A n c)) (hr : b + n ≤ 9223372036854775807) :
    Calls Try.prog 120 #[.pointer (some ⟨g, 0, none⟩)] (w.drewN n0) fun e w' => e = .returned (.int .i64 ((b + n : Nat) : Int)) ∧ ∃ m, w' = w.drewN m :=
  Calls.quiet_of (end_any (w.drewN n0) g b h2 h4 hr)
/-- What it tells. -/
theorem Base_any (w : World) (h : Dk w base g v d) :
    Calls Try.prog 76 #[.pointer (some ⟨g, 0, none⟩)] w fun e w' => e = .returned (.int .i64 (d.base : Int)) ∧ w = w' := by
  obtain ⟨h0, h1, h2, h3, h4, h5, h6⟩ := h.cells
  have H0 := Lib.hid h0
  clear h h0
  go_enter Try.func76, Try.ntmps76
  go_wp2_with (go_at_call 119; (refine (ready_any _ g true H0.out).mono ?_); rintro e w2 ⟨rfl, rfl⟩)
  go_ret
  exact ⟨rfl, rfl⟩
theorem Synced_any (w : World) (h : Dk w base g v d) :
    Calls Try.prog 58 #[.pointer (some ⟨g, 0, none⟩)] w fun e w' => e = .returned (.int .i64 (d.synced : Int)) ∧ w = w' := by
  obtain ⟨h0, h1, h2, h3, h4, h5, h6⟩ := h.cells
  have H0 := Lib.hid h0
  clear h h0
  go_enter Try.func58, Try.ntmps58
  go_wp2_with (go_at_call 119; (refine (ready_any _ g true H0.out).mono ?_); rintro e w2 ⟨rfl, rfl⟩)
  go_ret
  exact ⟨rfl, rfl⟩
theorem End_any (w : World) (h : Dk w base g v d) :
    Calls Try.prog 57 #[.pointer (some ⟨g, 0, none⟩)] w fun e w' => e = .returned (.int .i64 (d.fin : Int)) ∧ Stl w w' := by
  obtain ⟨h0, h1, h2, h3, h4, h5, h6⟩ := h.cells
  have hr := h.bound
  obtain ⟨A, c, rfl, -, -⟩ := h.len_cap
  have H0 := Lib.hid h0
  have H2 := Lib.hid h2
  have H4 := Lib.hid h4
  clear h h0 h2 h4
  go_enter Try.func57, Try.ntmps57
  go_wp2_with (first | (go_at_call 119; (refine (ready_any _ g true H0.out).mono ?_); rintro e w2 ⟨rfl, rfl⟩) | (go_at_call 120; (refine (end_any w g d.base H2.out H4.out (by omega)).mono ?_); rintro e w3 ⟨rfl, k3, rfl⟩))
  go_ret
  exact ⟨rfl, _, rfl⟩
theorem Frozen_any (w : World) (h : Dk w base g v d) :
    Calls Try.prog 78 #[.pointer (some ⟨g, 0, none⟩)] w fun e w' => e = .returned (.bool d.cold) ∧ Stl w w' := by
  obtain ⟨h0, h1, h2, h3, h4, h5, h6⟩ := h.cells
  have hr := h.bound
  obtain ⟨A, c, rfl, -, -⟩ := h.len_cap
  have H0 := Lib.hid h0
  have HF := Lib.hid (frozen_any w g d.lim d.base h2 h4 h5 h6 (by omega))
  clear h h0 h2 h4 h5 h6
  go_enter Try.func78, Try.ntmps78
  go_wp2_with (first | (go_at_call 119; (refine (ready_any _ g true H0.out).mono ?_); rintro e w2 ⟨rfl, rfl⟩) | (go_at_call 121; (refine HF.out.mono ?_); rintro e w3 ⟨rfl, k3, rfl⟩))
  go_ret
  exact ⟨rfl, _, rfl⟩
/-- Its places turn. -/
theorem Dk.synced_ (h : Dk w base g v d) (x : Nat) (hx : (d.base : Nat) ≤ x ∧ x ≤ d.fin ∧ ∀ l, d.lim = some l → x ≤ l) :
    Dk (w.setCell ⟨g, 3, none⟩ (.int .i64 (x : Int))) base g v { d with synced := x } ∧ Turn g v v w (w.setCell ⟨g, 3, none⟩ (.int .i64 (x : Int))) :=
  have hm : Mv (· = g) w (w.setCell ⟨g, 3, none⟩ (.int .i64 (x : Int))) := Mv.set (S := (· = g)) (p := ⟨g, 3, none⟩) (Mv.refl _ w) rfl _
  ⟨⟨h.1.store 3 _, h.2.1.mv hm (fun _ hk e => h.apart (e ▸ hk)), h.2.2.1, ⟨h.ok.size1, h.ok.size2, hx.1, hx.2.1, h.ok.room, h.ok.reach, fun l hl => ⟨hx.2.2 l hl, (h.ok.lim l hl).2⟩⟩⟩,
    hm.mono fun _ _ e => .inl e, fun _ h => .inl h⟩
end Go.Proofs.Ytolchbjcdlncgaa.Dg

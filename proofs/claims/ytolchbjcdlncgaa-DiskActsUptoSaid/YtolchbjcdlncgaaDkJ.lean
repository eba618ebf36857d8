/- A disk of the call's own, from call to call. -/
import Derived.Test.YtolchbjcdlncgaaDkI
import Derived.Lib.SmallJoins
namespace Go.Proofs.Ytolchbjcdlncgaa.Dg
open Go.RowKit
variable {w w' W : World} {g : Nat} {v : Value} {d : Dst}
/-- The call's own disk; nothing of what was there has turned. -/
def St (W w : World) (g : Nat) (v : Value) (d : Dst) : Prop := Dk w W.heap.size g v d ∧ Ab W w
theorem St.ab (h : St W w g v d) (k : Ab w w') : St W w' g v d := ⟨h.1.ab k, h.2.trans k⟩
theorem St.turn {v2 : Value} {d2 : Dst} (h : St W w g v d) (hd : Dk w' W.heap.size g v2 d2) (ht : Turn g v v2 w w') : St W w' g v2 d2 := ⟨hd, ht.ab h.1 h.2 (Nat.le_refl _)⟩
theorem St.new (hW : Ab W w) (n : Nat) (h1 : 1 ≤ n) (h2 : n ≤ 67108864) :
    Calls Try.prog 25 #[.int .i64 (n : Int)] w fun e w' => ∃ g, e = .returned (.tuple #[.pointer (some ⟨g, 0, none⟩), .int .i64 0]) ∧ St W w' g (.slice none 0 0) (Dst.new n) :=
  (New_any w (n : Int)).mono fun e w' h => by
    rcases h with ⟨h, _⟩ | ⟨_, h3, h4, h5⟩
    · omega
    · exact ⟨w.heap.size, h3, h4 _ hW.size, hW.trans h5⟩
theorem St.append {x : Value} {B : Nat} {xs : List UInt8} (h : St W w g v d) (hx : Bs w B x xs) (hroom : d.fin + xs.length ≤ 4611686018427387904 ∨ d.fits xs.length = false) :
    Calls Try.prog 53 #[.pointer (some ⟨g, 0, none⟩), x] w fun e w' => e = .returned (.tuple #[.int .i64 (d.appAt xs.length : Int), .int .i64 (d.appE xs.length : Int)]) ∧ ∃ v', St W w' g v' (d.app xs) :=
  (Append_any w h.1 hx hroom h.2.size).mono fun _ _ ⟨h1, v', h2, h3⟩ => ⟨h1, v', h.turn h2 h3⟩
theorem St.sync (h : St W w g v d) : Calls Try.prog 54 #[.pointer (some ⟨g, 0, none⟩)] w fun e w' => e = .returned (.tuple #[]) ∧ St W w' g v d.sync :=
  (Sync_any w h.1).mono fun _ _ ⟨h1, h2, h3⟩ => ⟨h1, h.turn h2 h3⟩
theorem St.base (h : St W w g v d) : Calls Try.prog 76 #[.pointer (some ⟨g, 0, none⟩)] w fun e w' => e = .returned (.int .i64 (d.base : Int)) ∧ St W w' g v d ∧ Ab w w' :=
  (Base_any w h.1).mono fun _ _ ⟨h1, h2⟩ => ⟨h1, h2 ▸ h, h2 ▸ Ab.refl w⟩
theorem St.synced (h : St W w g v d) : Calls Try.prog 58 #[.pointer (some ⟨g, 0, none⟩)] w fun e w' => e = .returned (.int .i64 (d.synced : Int)) ∧ St W w' g v d ∧ Ab w w' :=
  (Synced_any w h.1).mono fun _ _ ⟨h1, h2⟩ => ⟨h1, h2 ▸ h, h2 ▸ Ab.refl w⟩
theorem St.end_ (h : St W w g v d) : Calls Try.prog 57 #[.pointer (some ⟨g, 0, none⟩)] w fun e w' => e = .returned (.int .i64 (d.fin : Int)) ∧ St W w' g v d ∧ Ab w w' :=
  (End_any w h.1).mono fun _ _ ⟨h1, h2⟩ => ⟨h1, h.ab h2.ab, h2.ab⟩
theorem St.frozen (h : St W w g v d) : Calls Try.prog 78 #[.pointer (some ⟨g, 0, none⟩)] w fun e w' => e = .returned (.bool d.cold) ∧ St W w' g v d ∧ Ab w w' :=
  (Frozen_any w h.1).mono fun _ _ ⟨h1, h2⟩ => ⟨h1, h.ab h2.ab, h2.ab⟩
theorem St.read (h : St W w g v d) (at_ n : Int) (hn : -9223372036854775808 ≤ n ∧ n ≤ 9223372036854775807) :
    Calls Try.prog 56 #[.pointer (some ⟨g, 0, none⟩), .int .i64 at_, .int .i64 n] w fun e w' => ∃ u, e = .returned (.tuple #[u, .int .i64 (d.gotE at_ n : Int)]) ∧ Ob w' W.heap.size u (d.got at_ n) ∧ St W w' g v d ∧ Ab w w' ∧ ∀ k, u.ownBlock = some k → w.heap.size ≤ k :=
  (Read_any w h.1 at_ n hn).mono fun _ _ ⟨u, h1, h2, h3⟩ => ⟨u, h1, h2.lower h.2.size, h.ab h3, h3, fun k hk => (h2.blk k hk).1⟩
theorem St.trim (h : St W w g v d) (at_ : Int) : Calls Try.prog 65 #[.pointer (some ⟨g, 0, none⟩), .int .i64 at_] w fun e w' => e = .returned (.int .i64 (d.trimE at_ : Int)) ∧ ∃ v', St W w' g v' (d.trim at_) :=
  (Trim_any w h.1 at_).mono fun _ _ ⟨h1, v', h2, h3⟩ => ⟨h1, v', h.turn h2 h3⟩
theorem St.cut (h : St W w g v d) (at_ : Int) : Calls Try.prog 67 #[.pointer (some ⟨g, 0, none⟩), .int .i64 at_] w fun e w' => e = .returned (.int .i64 (d.cutE at_ : Int)) ∧ ∃ v', St W w' g v' (d.cut at_) :=
  (Cut_any w h.1 at_).mono fun _ _ ⟨h1, v', h2, h3⟩ => ⟨h1, v', h.turn h2 h3⟩
theorem St.flip (h : St W w g v d) (at_ bit : Int) : Calls Try.prog 69 #[.pointer (some ⟨g, 0, none⟩), .int .i64 at_, .int .i64 bit] w fun e w' => e = .returned (.int .i64 (d.flipE at_ bit : Int)) ∧ St W w' g v (d.flip at_ bit) ∧ Mv (Own g v) w w' :=
  (Flip_any w h.1 at_ bit).mono fun _ _ ⟨h1, h2, h3⟩ => ⟨h1, h.turn h2 h3, h3.1⟩
theorem St.arm (h : St W w g v d) (k : Int) (hk : k ≤ 9223372036854775807) : Calls Try.prog 71 #[.pointer (some ⟨g, 0, none⟩), .int .i64 k] w fun e w' => e = .returned (.tuple #[]) ∧ St W w' g v (d.arm k) :=
  (Arm_any w h.1 k hk).mono fun _ _ ⟨h1, h2, h3⟩ => ⟨h1, h.turn h2 h3⟩
theorem St.crash (h : St W w g v d) (k : Int) (hk : k ≤ 9223372036854775807) : Calls Try.prog 55 #[.pointer (some ⟨g, 0, none⟩), .int .i64 k] w fun e w' => e = .returned (.tuple #[]) ∧ ∃ v', St W w' g v' (d.crash k) :=
  (Crash_any w h.1 k hk).mono fun _ _ ⟨h1, v', h2, h3⟩ => ⟨h1, v', h.turn h2 h3⟩
/-- Bytes in a block that was made for them. -/
theorem bs_row {g : Nat} {l : List UInt8} {fr : Nat × Nat} (h : w.heap[g]? = some (.cells (l.map u8v).toArray 5 fr)) (hl : l.length ≤ 9223372036854775807) : Bs w (g + 1) (.slice (some ⟨g, 0, none⟩) l.length l.length) l :=
  ⟨some ⟨g, 0, none⟩, l.length, rfl, Nat.le_refl _, hl, fun _ => ⟨g, 0, rfl, Nat.lt_succ_self g, fun k hk => by
    rw [Nat.zero_add, cell_of_row w g _ _ _ _ h, List.getElem?_toArray, List.getElem?_map, List.getElem?_eq_getElem hk, List.getD_eq_getElem?_getD, List.getElem?_eq_getElem hk]
    rfl⟩⟩
/-- tholeref01.Same. -/
theorem Same_any {B C : Nat} {u : Value} {l m : List UInt8} (w : World) (h : Bs w B v l) (k : Bs w C u m) :
    Calls Try.prog 64 #[v, u] w fun e w' => e = .returned (.bool (l == m)) ∧ w = w' := by
  have hc1 := conv_bs h
  have hc2 := conv_bs k
  obtain ⟨A, c, rfl, h1, h2, h3⟩ := h
  obtain ⟨A', c', rfl, k1, k2, k3⟩ := k
  clear h3 k3
  go_enter Try.func64, Try.ntmps64
  go_wp2
  go_ret
  exact ⟨rfl, rfl⟩
theorem lives1 : (Dst.new 8).app [97, 98, 99] = ⟨8, 0, 0, [97, 98, 99], none⟩ := rfl
theorem lives2 : (Dst.sync ⟨8, 0, 0, [97, 98, 99], none⟩) = ⟨8, 0, 3, [97, 98, 99], none⟩ := rfl
theorem lives3 : (Dst.app ⟨8, 0, 3, [97, 98, 99], none⟩ [100, 101, 102]) = ⟨8, 0, 3, [97, 98, 99, 100, 101, 102], none⟩ := rfl
theorem lives4 : (Dst.crash ⟨8, 0, 3, [97, 98, 99, 100, 101, 102], none⟩ 1) = ⟨8, 0, 4, [97, 98, 99, 100], none⟩ := by
  have h : Dst.crashTo ⟨8, 0, 3, [97, 98, 99, 100, 101, 102], none⟩ 1 = 4 := by simp [Dst.crashTo, Dst.within, Dst.far, Dst.fin]; decide
  unfold Dst.crash
  rw [h]
  rfl
theorem lives5 : Dst.got ⟨8, 0, 4, [97, 98, 99, 100], none⟩ 0 4 = [97, 98, 99, 100] := rfl
theorem lives6 : Dst.gotE ⟨8, 0, 4, [97, 98, 99, 100], none⟩ 0 4 = 0 := rfl
theorem live0 (w : World) :
    Calls Try.prog 25 #[.int .i64 8] w fun e w' => ∃ g, e = .returned (.tuple #[.pointer (some ⟨g, 0, none⟩), .int .i64 0]) ∧ St w w' g (.slice none 0 0) (Dst.new 8) := St.new (Ab.refl w) 8 (by omega) (by omega)
theorem live1 {x : Value} {B : Nat} (h : St W w g v (Dst.new 8)) (hx : Bs w B x [97, 98, 99]) :
    Calls Try.prog 53 #[.pointer (some ⟨g, 0, none⟩), x] w fun e w' => e = .returned (.tuple #[.int .i64 0, .int .i64 0]) ∧ ∃ v', St W w' g v' ⟨8, 0, 0, [97, 98, 99], none⟩ := by
  have := h.append hx (.inl (by simp [Dst.fin, Dst.new]))
  rw [show (Dst.new 8).appAt ([97, 98, 99] : List UInt8).length = 0 from rfl, show (Dst.new 8).appE ([97, 98, 99] : List UInt8).length = 0 from rfl, lives1] at this
  exact this
theorem live2 (h : St W w g v ⟨8, 0, 0, [97, 98, 99], none⟩) :
    Calls Try.prog 54 #[.pointer (some ⟨g, 0, none⟩)] w fun e w' => e = .returned (.tuple #[]) ∧ St W w' g v ⟨8, 0, 3, [97, 98, 99], none⟩ := by
  have := h.sync
  rw [lives2] at this
  exact this
theorem live3 {x : Value} {B : Nat} (h : St W w g v ⟨8, 0, 3, [97, 98, 99], none⟩) (hx : Bs w B x [100, 101, 102]) :
    Calls Try.prog 53 #[.pointer (some ⟨g, 0, none⟩), x] w fun e w' => e = .returned (.tuple #[.int .i64 3, .int .i64 0]) ∧ ∃ v', St W w' g v' ⟨8, 0, 3, [97, 98, 99, 100, 101, 102], none⟩ := by
  have := h.append hx (.inl (by simp [Dst.fin]))
  rw [show Dst.appAt ⟨8, 0, 3, [97, 98, 99], none⟩ ([100, 101, 102] : List UInt8).length = 3 from rfl, show Dst.appE ⟨8, 0, 3, [97, 98, 99], none⟩ ([100, 101, 102] : List UInt8).length = 0 from rfl, lives3] at this
  exact this
theorem live4 (h : St W w g v ⟨8, 0, 3, [97, 98, 99, 100, 101, 102], none⟩) :
    Calls Try.prog 55 #[.pointer (some ⟨g, 0, none⟩), .int .i64 1] w fun e w' => e = .returned (.tuple #[]) ∧ ∃ v', St W w' g v' ⟨8, 0, 4, [97, 98, 99, 100], none⟩ := by
  have := h.crash 1 (by omega)
  rw [lives4] at this
  exact this
theorem live5 (h : St W w g v ⟨8, 0, 4, [97, 98, 99, 100], none⟩) :
    Calls Try.prog 56 #[.pointer (some ⟨g, 0, none⟩), .int .i64 0, .int .i64 4] w fun e w' => ∃ u, e = .returned (.tuple #[u, .int .i64 0]) ∧ Ob w' W.heap.size u [97, 98, 99, 100] ∧ St W w' g v ⟨8, 0, 4, [97, 98, 99, 100], none⟩ := by
  have := h.read 0 4 (by omega)
  rw [lives5, lives6] at this
  exact this.mono fun _ _ ⟨u, h1, h2, h3, _⟩ => ⟨u, h1, h2, h3⟩
theorem live6 (h : St W w g v ⟨8, 0, 4, [97, 98, 99, 100], none⟩) :
    Calls Try.prog 57 #[.pointer (some ⟨g, 0, none⟩)] w fun e w' => e = .returned (.int .i64 4) ∧ St W w' g v ⟨8, 0, 4, [97, 98, 99, 100], none⟩ ∧ Ab w w' := by
  have := h.end_
  rw [show Dst.fin ⟨8, 0, 4, [97, 98, 99, 100], none⟩ = 4 from rfl] at this
  exact this
theorem live7 (h : St W w g v ⟨8, 0, 4, [97, 98, 99, 100], none⟩) :
    Calls Try.prog 58 #[.pointer (some ⟨g, 0, none⟩)] w fun e w' => e = .returned (.int .i64 4) ∧ St W w' g v ⟨8, 0, 4, [97, 98, 99, 100], none⟩ ∧ Ab w w' := h.synced
theorem conv4 {u : Value} {B : Nat} (h : Ob w B u [97, 98, 99, 100]) : (convert 30 9 u).run Try.prog w = .ok (.string ⟨#[97, 98, 99, 100]⟩) w := conv_bs h.bs
attribute [local go_sem ↓] Go.wp_at_zero Go.wp_at_succ
set_option maxRecDepth 100000 in
set_option maxHeartbeats 300000 in
/-- The document's examples. -/
theorem lives_any (w : World) : Calls Try.prog 27 #[] w fun e w' => e = .returned (.bool true) ∧ Ab w w' := by
  have hb1 : ∀ wx : World, Bs (wx.alloc (.cells #[.int .u8 97, .int .u8 98, .int .u8 99] 5 (3, 4))) (wx.heap.size + 1) (.slice (some ⟨wx.heap.size, 0, none⟩) 3 3) [97, 98, 99] := fun wx => bs_row (l := [97, 98, 99]) (heap_alloc_new wx _) (by simp)
  have hb2 : ∀ wx : World, Bs (wx.alloc (.cells #[.int .u8 100, .int .u8 101, .int .u8 102] 5 (3, 4))) (wx.heap.size + 1) (.slice (some ⟨wx.heap.size, 0, none⟩) 3 3) [100, 101, 102] := fun wx => bs_row (l := [100, 101, 102]) (heap_alloc_new wx _) (by simp)
  have HB := Lib.hid (And.intro hb1 hb2)
  clear hb1 hb2
  go_enter Try.func27, Try.ntmps27
  go_wp2_with (first
    | (go_at_call 25; (with_reducible refine (live0 w).mono ?_); rintro e w1 ⟨g, rfl, h1⟩; (have H1 := Lib.hid h1); clear h1; (have hcv := Go.Joins.run_convert_bytes_const_at (P := Try.prog) w1 30 5 #[.int .u8 97, .int .u8 98, .int .u8 99] 3 3 w1.heap.size rfl Try.underlying30 Try.underlying5))
    | (go_at_call 53; (with_reducible refine (live1 (H1.out.ab ((Ab.refl w1).alloc _)) (HB.out.1 w1)).mono ?_); rintro e w2 ⟨rfl, v2, h2⟩; (have H2 := Lib.hid h2); clear h2)
    | (go_at_call 54; (with_reducible refine (live2 H2.out).mono ?_); rintro e w3 ⟨rfl, h3⟩; (have H3 := Lib.hid h3); clear h3; (have hcw := Go.Joins.run_convert_bytes_const_at (P := Try.prog) w3 30 5 #[.int .u8 100, .int .u8 101, .int .u8 102] 3 3 w3.heap.size rfl Try.underlying30 Try.underlying5))
    | (go_at_call 53; (with_reducible refine (live3 (H3.out.ab ((Ab.refl w3).alloc _)) (HB.out.2 w3)).mono ?_); rintro e w4 ⟨rfl, v4, h4⟩; (have H4 := Lib.hid h4); clear h4)
    | (go_at_call 55; (with_reducible refine (live4 H4.out).mono ?_); rintro e w5 ⟨rfl, v5, h5⟩; (have H5 := Lib.hid h5); clear h5)
    | (go_at_call 56; (with_reducible refine (live5 H5.out).mono ?_); rintro e w6 ⟨u, rfl, ho6, h6⟩; (have H6 := Lib.hid h6); (have O6 := Lib.hid ho6); (obtain ⟨Au, cu, rfl, -, -⟩ := ho6.len_cap); clear h6 ho6)
    | (go_at_call 57; (with_reducible refine (live6 H6.out).mono ?_); rintro e w7 ⟨rfl, h7, ha7⟩; (have H7 := Lib.hid h7); (have hc7 : (convert 30 9 (.slice Au 4 cu)).run Try.prog w7 = .ok (.string ⟨#[97, 98, 99, 100]⟩) w7 := conv4 (O6.out.ab ha7)); clear h7 ha7)
    | (go_at_call 58; (with_reducible refine (live7 H7.out).mono ?_); rintro e w8 ⟨rfl, h8, -⟩; (have H8 := Lib.hid h8); clear h8))
  go_ret
  exact ⟨rfl, H8.out.2⟩
end Go.Proofs.Ytolchbjcdlncgaa.Dg

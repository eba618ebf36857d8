/- The program's map: Zero and Truncate; changes of a map that no call made. -/
import Derived.Test.YtniodjigncicbaaExJ
namespace Go.Proofs.Ytniodjigncicbaa.Dg
open Go.RowKit
variable {w w' : World} {base a s : Nat} {v : Value} {ps : List Pr} {l : List UInt8} {c : Cel}
attribute [local go_sem ↓] Go.wp_at_zero Go.wp_at_succ
theorem writeC_any {u : Value} {B : Nat} (w : World) (h : ExC w base a c s) (at_ : Int) (hu : Bs w B u l) (hB : B ≤ w.heap.size) (hbase : base ≤ w.heap.size) :
    Calls Try.prog 57 #[.pointer (some ⟨a, 0, none⟩), .int .i64 at_, u] w (ChPost w base a (exE at_ l.length) (if exE at_ l.length ≠ 0 ∨ l = [] then c else wrC c at_.toNat l) (if exE at_ l.length ≠ 0 ∨ l = [] then s else max s (at_.toNat + l.length))) := by
  obtain ⟨v, ps, h, rfl⟩ := h
  exact exwrite_any w h at_ hu hB hbase
set_option maxRecDepth 100000 in
set_option maxHeartbeats 1000000 in
theorem zeroN_any (w : World) (h : Ex w base a v ps s) (at_ n : Int) (hn : n ≤ 9223372036854775807) (hbase : base ≤ w.heap.size) :
    Calls Try.prog 60 #[.pointer (some ⟨a, 0, none⟩), .int .i64 at_, .int .i64 n] w (ChN w base a ps (exE at_ n) (if exE at_ n ≠ 0 ∨ n = 0 then celP ps else hoC (celP ps) at_.toNat (at_ + n).toNat) (if exE at_ n ≠ 0 ∨ n = 0 then s else max s (at_ + n).toNat)) := by
  have hm4 := h.max
  have hC := check_any w a h.cells.1 at_ n hn
  have HE := Lib.hid h
  by_cases hbad : exE at_ n ≠ 0 ∨ n = 0
  · rw [if_pos hbad, if_pos hbad]
    obtain ⟨E, hE⟩ : ∃ E, exE at_ n = E := ⟨_, rfl⟩
    rw [hE] at hC hbad ⊢
    have HC0 := Lib.hid hC
    clear hE hC h hn
    by_cases hx : E = 0
    · have hn0 : n = 0 := by rcases hbad with h | h; exact absurd hx h; exact h
      subst hx
      subst hn0
      clear hbad
      go_enter Try.func60, Try.ntmps60
      go_wp2_with (go_at_call 108; (with_reducible refine HC0.out.mono ?_); rintro e w2 ⟨rfl, rfl⟩)
      go_ret
      exact ⟨rfl, ⟨_, _, HE.out, rfl, nw_refl _ _⟩, Mv.refl _ _⟩
    · clear hbad
      go_enter Try.func60, Try.ntmps60
      go_wp2_with (go_at_call 108; (with_reducible refine HC0.out.mono ?_); rintro e w2 ⟨rfl, rfl⟩)
      go_ret
      exact ⟨rfl, ⟨_, _, HE.out, rfl, nw_refl _ _⟩, Mv.refl _ _⟩
  · rw [if_neg hbad, if_neg hbad]
    have he0 : exE at_ n = 0 := by
      rcases Int.decEq (exE at_ n) 0 with h | h
      · exact absurd (.inl h) hbad
      · exact h
    have hne : ¬ n = 0 := fun h => hbad (.inr h)
    have hrange : 0 ≤ at_ ∧ 0 ≤ n ∧ at_ + n ≤ 4096 := by
      unfold exE at he0
      split at he0
      · cases he0
      · split at he0
        · cases he0
        · omega
    obtain ⟨t, rfl⟩ : ∃ t : Nat, at_ = (t : Int) := ⟨at_.toNat, by omega⟩
    obtain ⟨e, he⟩ : ∃ e : Nat, (t : Int) + n = (e : Int) := ⟨((t : Int) + n).toNat, by omega⟩
    rw [he0] at hC ⊢
    rw [he, Int.toNat_natCast, Int.toNat_natCast]
    have e2 : IntKind.i64.wrap (e : Int) = (e : Int) := IntWalk.i64_in _ (by omega)
    have HC0 := Lib.hid hC
    have HN := Lib.hid (show t < e ∧ e ≤ 4096 by omega)
    clear hC hbad he0 hrange h
    go_enter Try.func60, Try.ntmps60
    go_wp2_with (go_at_call 108; (with_reducible refine HC0.out.mono ?_); rintro e w2 ⟨rfl, rfl⟩)
    refine (hole_any w HE.out t e HN.out.1 HN.out.2 hbase).mono ?_
    rintro en w3 ⟨rfl, hx3, hm3⟩
    obtain ⟨-, k1, kz, -, hs⟩ := hx3.exC.cells
    have hend := hx3.resize (max s e) ((HE.out.upto.mono (Nat.le_max_left s e)).ho t e) (by have := HN.out; omega)
    have hm8 : Mv (fun k => k = a) w3 (w3.setCell ⟨a, 1, none⟩ (.int .i64 ((max s e : Nat) : Int))) := Mv.set (S := fun k => k = a) (Mv.refl _ _) (p := ⟨a, 1, none⟩) rfl _
    rw [show ((max s e : Nat) : Int) = max (s : Int) (e : Int) by omega] at hend hm8
    have H3 := Lib.hid (And.intro hend (hm3.trans hm8))
    clear hx3 hm3 hend hm8
    go_wp2_with fail
    go_ret
    exact ⟨rfl, H3.out.1, H3.out.2⟩
theorem hoC_none {n : Nat} (h : s ≤ n) : hoC c n s = c := by
  funext p; simp only [hoC]; rw [if_neg (by omega)]
set_option maxRecDepth 100000 in
set_option maxHeartbeats 1000000 in
theorem truncN_any (w : World) (h : Ex w base a v ps s) (n : Int) (hbase : base ≤ w.heap.size) :
    Calls Try.prog 62 #[.pointer (some ⟨a, 0, none⟩), .int .i64 n] w (ChN w base a ps (exE n 0) (if exE n 0 ≠ 0 then celP ps else hoC (celP ps) n.toNat s) (if exE n 0 ≠ 0 then s else n.toNat)) := by
  have hC := check_any w a h.cells.1 n 0 (by omega)
  have HE := Lib.hid h
  obtain ⟨-, k1, -⟩ := h.cells
  have kz := h.blk.free 1
  have hs := h.max
  by_cases hbad : exE n 0 ≠ 0
  · rw [if_pos hbad, if_pos hbad]
    obtain ⟨E, hE⟩ : ∃ E, exE n 0 = E := ⟨_, rfl⟩
    rw [hE] at hC hbad ⊢
    have HC0 := Lib.hid hC
    clear hE hC h k1 kz
    go_enter Try.func62, Try.ntmps62
    go_wp2_with (go_at_call 108; (with_reducible refine HC0.out.mono ?_); rintro e w2 ⟨rfl, rfl⟩)
    go_ret
    exact ⟨rfl, ⟨_, _, HE.out, rfl, nw_refl _ _⟩, Mv.refl _ _⟩
  · rw [if_neg hbad, if_neg hbad]
    have he0 : exE n 0 = 0 := by
      rcases Int.decEq (exE n 0) 0 with h | h
      · exact absurd h hbad
      · exact h
    have hrange : 0 ≤ n ∧ n ≤ 4096 := by
      unfold exE at he0
      split at he0
      · cases he0
      · split at he0
        · cases he0
        · omega
    obtain ⟨t, rfl⟩ : ∃ t : Nat, n = (t : Int) := ⟨n.toNat, by omega⟩
    rw [he0] at hC ⊢
    rw [Int.toNat_natCast]
    have HC0 := Lib.hid hC
    have HN := Lib.hid (show t ≤ 4096 by omega)
    clear hC hbad he0 hrange h
    by_cases hlt : t < s
    · have hlt' : (t : Int) < (s : Int) := by omega
      go_enter Try.func62, Try.ntmps62
      go_wp2_with (go_at_call 108; (with_reducible refine HC0.out.mono ?_); rintro e w2 ⟨rfl, rfl⟩)
      refine (hole_any w HE.out t s hlt hs hbase).mono ?_
      rintro en w3 ⟨rfl, hx3, hm3⟩
      obtain ⟨-, j1, jz, -, -⟩ := hx3.exC.cells
      have hend := hx3.resize t (HE.out.upto.cut t) HN.out
      have hm8 : Mv (fun k => k = a) w3 (w3.setCell ⟨a, 1, none⟩ (.int .i64 (t : Int))) := Mv.set (S := fun k => k = a) (Mv.refl _ _) (p := ⟨a, 1, none⟩) rfl _
      have H3 := Lib.hid (And.intro hend (hm3.trans hm8))
      clear hx3 hm3 hend hm8
      go_wp2_with fail
      go_ret
      exact ⟨rfl, H3.out.1, H3.out.2⟩
    · have hlt' : ¬ (t : Int) < (s : Int) := by omega
      have hend := (show ExN w base a w.heap.size ps (celP ps) s from ⟨_, _, HE.out, rfl, nw_refl _ _⟩).resize t (HE.out.upto.mono (by omega)) HN.out
      rw [← hoC_none (c := celP ps) (show s ≤ t by omega)] at hend
      have hm8 : Mv (fun k => k = a) w (w.setCell ⟨a, 1, none⟩ (.int .i64 (t : Int))) := Mv.set (S := fun k => k = a) (Mv.refl _ _) (p := ⟨a, 1, none⟩) rfl _
      have H3 := Lib.hid (And.intro hend hm8)
      clear hend hm8
      go_enter Try.func62, Try.ntmps62
      go_wp2_with (go_at_call 108; (with_reducible refine HC0.out.mono ?_); rintro e w2 ⟨rfl, rfl⟩)
      go_ret
      exact ⟨rfl, H3.out.1, H3.out.2⟩
theorem zeroC_any (w : World) (h : ExC w base a c s) (at_ n : Int) (hn : n ≤ 9223372036854775807) (hbase : base ≤ w.heap.size) :
    Calls Try.prog 60 #[.pointer (some ⟨a, 0, none⟩), .int .i64 at_, .int .i64 n] w (ChPost w base a (exE at_ n) (if exE at_ n ≠ 0 ∨ n = 0 then c else hoC c at_.toNat (at_ + n).toNat) (if exE at_ n ≠ 0 ∨ n = 0 then s else max s (at_ + n).toNat)) := by
  obtain ⟨v, ps, h, rfl⟩ := h
  exact (zeroN_any w h at_ n hn hbase).mono fun _ _ h => h.ch
theorem truncC_any (w : World) (h : ExC w base a c s) (n : Int) (hbase : base ≤ w.heap.size) :
    Calls Try.prog 62 #[.pointer (some ⟨a, 0, none⟩), .int .i64 n] w (ChPost w base a (exE n 0) (if exE n 0 ≠ 0 then c else hoC c n.toNat s) (if exE n 0 ≠ 0 then s else n.toNat)) := by
  obtain ⟨v, ps, h, rfl⟩ := h
  exact (truncN_any w h n hbase).mono fun _ _ h => h.ch
/-- A map that no call made. -/
theorem write_nil {u : Value} {B : Nat} (w : World) (x : Value) (hu : Bs w B u l) :
    Calls Try.prog 57 #[.pointer none, x, u] w fun e w' => e = .returned (.int .i64 14) ∧ w = w' := by
  obtain ⟨A, c, rfl, -, -, -⟩ := hu
  go_enter Try.func57, Try.ntmps57
  go_wp2_with (go_at_call 108; (with_reducible refine (check_nil _ _ _).mono ?_); rintro e w2 ⟨rfl, rfl⟩)
  go_ret
  exact ⟨rfl, rfl⟩
theorem zero_nil (w : World) (x : Value) (n : Int) :
    Calls Try.prog 60 #[.pointer none, x, .int .i64 n] w fun e w' => e = .returned (.int .i64 14) ∧ w = w' := by
  go_enter Try.func60, Try.ntmps60
  go_wp2_with (go_at_call 108; (with_reducible refine (check_nil _ _ _).mono ?_); rintro e w2 ⟨rfl, rfl⟩)
  go_ret
  exact ⟨rfl, rfl⟩
theorem trunc_nil (w : World) (x : Value) :
    Calls Try.prog 62 #[.pointer none, x] w fun e w' => e = .returned (.int .i64 14) ∧ w = w' := by
  go_enter Try.func62, Try.ntmps62
  go_wp2_with (go_at_call 108; (with_reducible refine (check_nil _ _ _).mono ?_); rintro e w2 ⟨rfl, rfl⟩)
  go_ret
  exact ⟨rfl, rfl⟩
end Go.Proofs.Ytniodjigncicbaa.Dg

/- The program's map of an object's bytes in memory; its small functions. -/
import Derived.Test.YtniodjigncicbaaOgB
import Derived.Test.YtniodjigncicbaaExB
import Derived.IntWalk
import Derived.Lib.Hide
import Derived.BigQuiet
import Derived.OwnWalk
import Derived.Deep.QuietTactic
import Derived.Deep.RegionHeld3
import Derived.Deep.DrawnRows
namespace Go.Proofs.Ytniodjigncicbaa.Dg
open Go.RowKit
variable {w w' : World} {base a s : Nat} {v : Value} {ps : List Pr} {l : List UInt8}
attribute [local go_sem ↓] Go.wp_at_zero Go.wp_at_succ
theorem infoRun : (Try.prog.info? 218).map (fun i => (i.zero, i.size, i.bytes)) = some (some (.agg #[.int .i64 0, .slice none 0 0]), 2, 32) := by kernel_rfl
def rnOf (ps : List Pr) : List Rn := ps.map fun p => (p.at_, p.bytes)
/-- The map in block a, its runs in the slice v. -/
structure Ex (w : World) (base a : Nat) (v : Value) (ps : List Pr) (s : Nat) : Prop where
  blk : Bk w a 109 #[.bool true, .int .i64 (s : Int), v]
  row : Rl 218 w base v ps
  le : base ≤ a
  ris : Ris (rnOf ps)
  fin : ∀ q ∈ rnOf ps, q.1 + q.2.length ≤ s
  max : s ≤ 4096
theorem ris_len : ∀ (R : List Rn) (s : Nat), Ris R → (∀ q ∈ R, q.1 + q.2.length ≤ s) → ∀ k, (∀ q ∈ R, k ≤ q.1) → R.length + k ≤ max s k
  | [], _, _, _, _, _ => by simp; omega
  | q :: R, s, h, hs, k, hk => by
    have h1 := hs q (List.mem_cons_self ..)
    have h2 : q.2.length ≠ 0 := fun e => h.1 (List.eq_nil_of_length_eq_zero e)
    have h3 := hk q (List.mem_cons_self ..)
    have := ris_len R s h.2.2 (fun r hr => hs r (List.mem_cons_of_mem _ hr)) (k + 1) (fun r hr => by have := h.2.1 r hr; omega)
    rw [List.length_cons]
    omega
theorem Ex.len (h : Ex w base a v ps s) : ps.length ≤ 4096 := by
  have := ris_len (rnOf ps) s h.ris h.fin 0 (fun _ _ => Nat.zero_le _)
  have hm := h.max
  unfold rnOf at this
  rw [List.length_map] at this
  omega
theorem Ex.at_ (h : Ex w base a v ps s) {p : Pr} (hp : p ∈ ps) : p.at_ + p.bytes.length ≤ 4096 := by
  have := h.fin (p.at_, p.bytes) (List.mem_map.2 ⟨p, hp, rfl⟩)
  have hm := h.max
  exact Nat.le_trans this hm
theorem Ex.ab (h : Ex w base a v ps s) (hb : Ab w w') : Ex w' base a v ps s := ⟨hb.bk h.blk, h.row.ab hb, h.le, h.ris, h.fin, h.max⟩
theorem Ex.cells (h : Ex w base a v ps s) : w.cell? ⟨a, 0, none⟩ = some (.bool true) ∧ w.cell? ⟨a, 1, none⟩ = some (.int .i64 (s : Int)) ∧ w.cell? ⟨a, 2, none⟩ = some v :=
  ⟨h.blk.cell rfl, h.blk.cell rfl, h.blk.cell rfl⟩
theorem Ex.lower {b' : Nat} (h : Ex w base a v ps s) (hb : b' ≤ base) : Ex w b' a v ps s := ⟨h.blk, h.row.lower hb, Nat.le_trans hb h.le, h.ris, h.fin, h.max⟩
theorem Rl.mv {S : Nat → Prop} {T : TypeId} (h : Rl T w base v ps) (hm : Mv S w w') (h1 : ∀ k cs, Bk w k T cs → ¬ S k) (h2 : ∀ k cs, Bk w k 5 cs → ¬ S k) : Rl T w' base v ps :=
  ⟨h.row.mv hm fun k hk => by obtain ⟨cs, hb⟩ := h.row.block hk; exact h1 k cs hb,
   fun p hp => hm.ob (h.own p hp) fun k hk => by
    rcases (h.own p hp).2 with ⟨e, _⟩ | ⟨g', cap, cur, e, _, hg, _⟩
    · rw [e] at hk; cases hk
    · rw [e] at hk
      have : g' = k := by simpa [Value.ownBlock] using hk
      subst this
      exact h2 g' cur hg⟩
theorem bk_type {k : Nat} {t t' : TypeId} {cs cs' : Array Value} (h : Bk w k t cs) (h' : Bk w k t' cs') : t = t' := by
  unfold Bk at h h'
  rw [h] at h'
  injection h' with h'
  injection h' with _ h'
/-- Another block of the map's kind turns. -/
theorem Ex.mv {a2 : Nat} {cs : Array Value} (h : Ex w base a v ps s) (hb : Bk w a2 109 cs) (hm : Mv (fun k => k = a2) w w') (hn : a ≠ a2) : Ex w' base a v ps s :=
  ⟨hm.bk h.blk hn, h.row.mv hm (fun k c hk e => absurd (bk_type (e ▸ hk) hb) (by decide)) (fun k c hk e => absurd (bk_type (e ▸ hk) hb) (by decide)), h.le, h.ris, h.fin, h.max⟩
theorem exready_any (w : World) (g : Nat) (b : Bool) (h0 : w.cell? ⟨g, 0, none⟩ = some (.bool b)) :
    Calls Try.prog 66 #[.pointer (some ⟨g, 0, none⟩)] w fun e w' => e = .returned (.bool b) ∧ w = w' := by
  go_enter Try.func66, Try.ntmps66
  go_wp2
  go_ret
  exact ⟨rfl, rfl⟩
theorem exready_nil (w : World) :
    Calls Try.prog 66 #[.pointer none] w fun e w' => e = .returned (.bool false) ∧ w = w' := by
  go_enter Try.func66, Try.ntmps66
  go_wp2
  go_ret
  exact ⟨rfl, rfl⟩
/-- Whether a change may be. -/
def exE (at_ n : Int) : Int := if at_ < 0 ∨ n < 0 then 22 else if 4096 - n < at_ then 27 else 0
theorem check_nil (w : World) (x y : Value) :
    Calls Try.prog 108 #[.pointer none, x, y] w fun e w' => e = .returned (.int .i64 14) ∧ w = w' := by
  go_enter Try.func108, Try.ntmps108
  go_wp2_with (go_at_call 66; (refine (exready_nil _).mono ?_); rintro e w2 ⟨rfl, rfl⟩)
  go_ret
  exact ⟨rfl, rfl⟩
theorem check_any (w : World) (g : Nat) (h0 : w.cell? ⟨g, 0, none⟩ = some (.bool true)) (at_ n : Int) (hn : n ≤ 9223372036854775807) :
    Calls Try.prog 108 #[.pointer (some ⟨g, 0, none⟩), .int .i64 at_, .int .i64 n] w fun e w' => e = .returned (.int .i64 (exE at_ n)) ∧ w = w' := by
  have H0 := Lib.hid h0
  clear h0
  by_cases h1 : at_ < 0
  · have e : exE at_ n = 22 := by unfold exE; rw [if_pos (.inl h1)]
    rw [e]
    go_enter Try.func108, Try.ntmps108
    go_wp2_with (go_at_call 66; (refine (exready_any _ _ _ H0.out).mono ?_); rintro e w2 ⟨rfl, rfl⟩)
    go_ret
    exact ⟨rfl, rfl⟩
  by_cases h2 : n < 0
  · have e : exE at_ n = 22 := by unfold exE; rw [if_pos (.inr h2)]
    rw [e]
    go_enter Try.func108, Try.ntmps108
    go_wp2_with (go_at_call 66; (refine (exready_any _ _ _ H0.out).mono ?_); rintro e w2 ⟨rfl, rfl⟩)
    go_ret
    exact ⟨rfl, rfl⟩
  have hw : IntKind.i64.wrap (4096 - n) = 4096 - n := IntWalk.i64_in _ (by omega)
  by_cases h3 : 4096 - n < at_
  · have e : exE at_ n = 27 := by unfold exE; rw [if_neg (by omega), if_pos h3]
    rw [e]
    go_enter Try.func108, Try.ntmps108
    go_wp2_with (go_at_call 66; (refine (exready_any _ _ _ H0.out).mono ?_); rintro e w2 ⟨rfl, rfl⟩)
    go_ret
    exact ⟨rfl, rfl⟩
  have e : exE at_ n = 0 := by unfold exE; rw [if_neg (by omega), if_neg h3]
  rw [e]
  go_enter Try.func108, Try.ntmps108
  go_wp2_with (go_at_call 66; (refine (exready_any _ _ _ H0.out).mono ?_); rintro e w2 ⟨rfl, rfl⟩)
  go_ret
  exact ⟨rfl, rfl⟩
/-- A run's end. -/
theorem rend_any (w : World) (p : Nat) (A : Option Addr) (n c q : Nat) (hq : p + n = q) (hp : q ≤ 9223372036854775807) :
    Calls Try.prog 137 #[.agg #[.int .i64 (p : Int), .slice A n c]] w fun e w' => e = .returned (.int .i64 (q : Int)) ∧ Ab w w' := by
  have e : (q : Int) = (p : Int) + (n : Int) := by omega
  rw [e]
  clear e
  go_enter Try.func137, Try.ntmps137
  go_wp2
  go_ret
  exact ⟨rfl, (Ab.refl w).alloc _⟩
/-- New. -/
theorem exnew_any (w : World) :
    Calls Try.prog 25 #[] w fun e w' => e = .returned (.pointer (some ⟨w.heap.size, 0, none⟩)) ∧ w' = w.alloc (.cells #[.bool true, .int .i64 0, .slice none 0 0] 109) := by
  go_enter Try.func25, Try.ntmps25
  go_wp2
  go_ret
  exact ⟨rfl, rfl⟩
theorem exnew_ex (w : World) : Ex (w.alloc (.cells #[.bool true, .int .i64 0, .slice none 0 0] 109)) w.heap.size w.heap.size (.slice none 0 0) [] 0 :=
  ⟨Bk.made w _ _, Rl.nil _ _ _, Nat.le_refl _, trivial, fun _ h => (by cases h), by omega⟩
/-- Size. -/
theorem exsize_any (w : World) (h : Ex w base a v ps s) :
    Calls Try.prog 30 #[.pointer (some ⟨a, 0, none⟩)] w fun e w' => e = .returned (.int .i64 (s : Int)) ∧ w = w' := by
  obtain ⟨h0, h1, h2⟩ := h.cells
  have H0 := Lib.hid h0
  clear h h0
  go_enter Try.func30, Try.ntmps30
  go_wp2_with (go_at_call 66; (refine (exready_any _ _ _ H0.out).mono ?_); rintro e w2 ⟨rfl, rfl⟩)
  go_ret
  exact ⟨rfl, rfl⟩
theorem exsize_nil (w : World) :
    Calls Try.prog 30 #[.pointer none] w fun e w' => e = .returned (.int .i64 0) ∧ w = w' := by
  go_enter Try.func30, Try.ntmps30
  go_wp2_with (go_at_call 66; (refine (exready_nil _).mono ?_); rintro e w2 ⟨rfl, rfl⟩)
  go_ret
  exact ⟨rfl, rfl⟩
/-- Copy. -/
theorem excopy_any (w : World) (h : Ex w base a v ps s) (hb : base ≤ w.heap.size) :
    Calls Try.prog 28 #[.pointer (some ⟨a, 0, none⟩)] w fun e w' => e = .returned (.pointer (some ⟨w.heap.size, 0, none⟩)) ∧ Ex w' base w.heap.size v ps s ∧ Ab w w' := by
  obtain ⟨h0, h1, h2⟩ := h.cells
  have H0 := Lib.hid h0
  have HE := Lib.hid h
  obtain ⟨A, c, rfl, -, -⟩ := h.row.row.len_cap
  clear h
  go_enter Try.func28, Try.ntmps28
  go_wp2_with (go_at_call 66; (refine (exready_any _ _ _ H0.out).mono ?_); rintro e w2 ⟨rfl, rfl⟩)
  go_ret
  exact ⟨rfl, ⟨Bk.made w _ _, HE.out.row.ab ((Ab.refl w).alloc _), hb, HE.out.ris, HE.out.fin, HE.out.max⟩, (Ab.refl w).alloc _⟩
theorem excopy_nil (w : World) :
    Calls Try.prog 28 #[.pointer none] w fun e w' => e = .returned (.pointer none) ∧ w = w' := by
  go_enter Try.func28, Try.ntmps28
  go_wp2_with (go_at_call 66; (refine (exready_nil _).mono ?_); rintro e w2 ⟨rfl, rfl⟩)
  go_ret
  exact ⟨rfl, rfl⟩
end Go.Proofs.Ytniodjigncicbaa.Dg

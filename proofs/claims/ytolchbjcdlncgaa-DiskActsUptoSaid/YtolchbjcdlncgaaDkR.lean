/- The reference's disk in memory: its small functions, Sync, Wipe, New. -/
import Derived.Test.YtolchbjcdlncgaaDkP
namespace Go.Proofs.Ytolchbjcdlncgaa.Dg
open Go.RowKit
variable {w w' : World} {base g : Nat} {v : Value} {d : Dst}
/-- The limit as the reference writes it. -/
def limI : Option Nat → Int
  | none => -1
  | some l => (l : Int)
/-- The reference's disk in block g, its bytes in a row of their own. -/
def Rk (w : World) (base g : Nat) (v : Value) (d : Dst) : Prop :=
  Bk w g 106 #[.int .i64 (d.size : Int), .int .i64 (d.base : Int), .int .i64 (d.synced : Int), v, .int .i64 (limI d.lim)] ∧ Ob w base v d.bytes ∧ base ≤ g ∧ d.Ok
theorem Rk.cells (h : Rk w base g v d) : w.cell? ⟨g, 0, none⟩ = some (.int .i64 (d.size : Int)) ∧ w.cell? ⟨g, 1, none⟩ = some (.int .i64 (d.base : Int)) ∧
    w.cell? ⟨g, 2, none⟩ = some (.int .i64 (d.synced : Int)) ∧ w.cell? ⟨g, 3, none⟩ = some v ∧ w.cell? ⟨g, 4, none⟩ = some (.int .i64 (limI d.lim)) :=
  ⟨h.1.cell rfl, h.1.cell rfl, h.1.cell rfl, h.1.cell rfl, h.1.cell rfl⟩
theorem Rk.free (h : Rk w base g v d) (i : Nat) : w.frozen? ⟨g, i, none⟩ = false := h.1.free i
theorem Rk.ok (h : Rk w base g v d) : d.Ok := h.2.2.2
theorem Rk.bound (h : Rk w base g v d) : d.base + d.bytes.length ≤ 4611686018427387904 := h.ok.reach
theorem Rk.len_cap (h : Rk w base g v d) : ∃ A c, v = .slice A d.bytes.length c ∧ d.bytes.length ≤ c ∧ c ≤ 9223372036854775807 := by
  obtain ⟨A, c, h1, h2, h3⟩ := h.2.1.len_cap
  exact ⟨A, c, h1, h2, by unfold maxLen at h3; exact h3⟩
theorem Rk.apart (h : Rk w base g v d) : v.ownBlock ≠ some g := by
  intro e
  rcases h.2.1.2 with ⟨rfl, _⟩ | ⟨g', cap, cur, rfl, _, hg, _⟩
  · simp [Value.ownBlock] at e
  · have : g' = g := by simpa [Value.ownBlock] using e
    subst this
    have h1 := h.1
    unfold Bk at h1
    rw [hg] at h1
    injection h1 with h1
    injection h1 with _ h1
    exact absurd h1 (by decide)
theorem Rk.ab (h : Rk w base g v d) (hb : Ab w w') : Rk w' base g v d := ⟨hb.bk h.1, h.2.1.ab hb, h.2.2⟩
theorem Rk.mv {S : Nat → Prop} (h : Rk w base g v d) (hm : Mv S w w') (hn : ∀ k, Own g v k → ¬ S k) : Rk w' base g v d :=
  ⟨hm.bk h.1 (hn g (.inl rfl)), hm.ob h.2.1 (fun k hk => hn k (.inr hk)), h.2.2⟩
/-- Other bytes and places, in one go. -/
theorem Rk.put {v2 : Value} {w2 w3 : World} {d2 : Dst} (h : Rk w base g v d) (ho : Ob w2 base v2 d2.bytes) (hg : Ab w w2) (hb : ∀ k, v2.ownBlock = some k → v.ownBlock = some k ∨ w.heap.size ≤ k) (hm : Mv (· = g) w2 w3)
    (hbk : Bk w2 g 106 #[.int .i64 (d.size : Int), .int .i64 (d.base : Int), .int .i64 (d.synced : Int), v, .int .i64 (limI d.lim)] →
      Bk w3 g 106 #[.int .i64 (d2.size : Int), .int .i64 (d2.base : Int), .int .i64 (d2.synced : Int), v2, .int .i64 (limI d2.lim)]) (hk : d2.Ok) :
    Rk w3 base g v2 d2 ∧ Turn g v v2 w w3 := by
  have hne : ∀ k, v2.ownBlock = some k → ¬ k = g := fun k e hkg => by
    rcases hb k e with e2 | e2
    · exact h.apart (hkg ▸ e2)
    · have := h.1.lt
      omega
  exact ⟨⟨hbk (hg.bk h.1), hm.ob ho hne, h.2.2.1, hk⟩, ⟨(Mv.of_ab hg).trans (hm.mono fun _ _ e => .inl e), hb⟩⟩
attribute [local go_sem ↓] Go.wp_at_zero Go.wp_at_succ
theorem rend_any (w : World) (g : Nat) (b : Nat) {A : Option Addr} {n c : Nat} (h2 : w.cell? ⟨g, 1, none⟩ = some (.int .i64 (b : Int))) (h4 : w.cell? ⟨g, 3, none⟩ = some (.slice A n c)) (hr : b + n ≤ 9223372036854775807) :
    Calls Try.prog 77 #[.pointer (some ⟨g, 0, none⟩)] w fun e w' => e = .returned (.int .i64 ((b + n : Nat) : Int)) ∧ Stl w w' := by
  have e : IntKind.i64.wrap ((b : Int) + (n : Int)) = ((b + n : Nat) : Int) := by rw [IntWalk.i64_in _ (by omega)]; omega
  go_enter Try.func77, Try.ntmps77
  go_wp2_with fail
  go_quiet (fail)
  go_wp2
  go_ret
  exact ⟨rfl, _, rfl⟩
theorem rend_at (h : Rk w base g v d) (n0 : Nat) :
    Calls Try.prog 77 #[.pointer (some ⟨g, 0, none⟩)] (w.drewN n0) fun e w' => e = .returned (.int .i64 (d.fin : Int)) ∧ ∃ m, w' = w.drewN m := by
  have hr := h.bound
  obtain ⟨A, c, rfl, -, -⟩ := h.len_cap
  obtain ⟨-, h1, -, h3, -⟩ := h.cells
  exact Calls.quiet_of (rend_any (w.drewN n0) g d.base h1 h3 (by omega))
theorem rfrozen_any (w : World) (h : Rk w base g v d) :
    Calls Try.prog 79 #[.pointer (some ⟨g, 0, none⟩)] w fun e w' => e = .returned (.bool d.cold) ∧ Stl w w' := by
  obtain ⟨-, h1, -, h3, h4⟩ := h.cells
  have HE := Lib.hid (rend_at h)
  obtain ⟨f, hf⟩ : ∃ f, d.fin = f := ⟨_, rfl⟩
  rw [hf] at HE
  unfold Dst.cold
  rw [hf]
  clear h
  cases hL : d.lim with
  | none =>
    rw [hL] at h4
    replace h4 : w.cell? ⟨g, 4, none⟩ = some (.int .i64 (-1)) := h4
    clear hL hf
    go_enter Try.func79, Try.ntmps79
    go_wp2_with fail
    go_quiet (fail)
    go_wp2
    go_ret
    exact ⟨rfl, _, rfl⟩
  | some l =>
    rw [hL] at h4
    replace h4 : w.cell? ⟨g, 4, none⟩ = some (.int .i64 (l : Int)) := h4
    have hl0 : (0 : Int) ≤ (l : Int) := by omega
    clear hL hf
    go_enter Try.func79, Try.ntmps79
    go_wp2_with fail
    go_quiet ((go_at_call 77; exact HE.out _))
    go_wp2
    go_ret
    exact ⟨rfl, _, rfl⟩
theorem rfrozen_at (h : Rk w base g v d) (n0 : Nat) :
    Calls Try.prog 79 #[.pointer (some ⟨g, 0, none⟩)] (w.drewN n0) fun e w' => e = .returned (.bool d.cold) ∧ ∃ m, w' = w.drewN m :=
  Calls.quiet_of (rfrozen_any (w.drewN n0) (h.ab ((Ab.refl w).drewN n0)))
theorem rsync_any (w : World) (h : Rk w base g v d) :
    Calls Try.prog 62 #[.pointer (some ⟨g, 0, none⟩)] w fun e w' => e = .returned (.tuple #[]) ∧ Rk w' base g v d.sync ∧ Turn g v v w w' := by
  have HD := Lib.hid h
  have hfz := h.free
  obtain ⟨-, -, h2, -, -⟩ := h.cells
  have HK := Lib.hid h.ok.sync
  obtain ⟨fr, hfr⟩ : ∃ fr, d.cold = fr := ⟨_, rfl⟩
  have HF := Lib.hid (rfrozen_at h 0)
  rw [hfr] at HF
  have HC := Lib.hid hfr
  clear h hfr
  cases fr with
  | true =>
    go_enter Try.func62, Try.ntmps62
    go_wp2_with (go_at_call 79; (refine HF.out.mono ?_); rintro e w3 ⟨rfl, k3, rfl⟩)
    go_end0
    have e : d.sync = d := by unfold Dst.sync; rw [HC.out]; rfl
    rw [e]
    exact ⟨rfl, HD.out.ab ((Ab.refl w).drewN _), Turn.of_ab ((Ab.refl w).drewN _)⟩
  | false =>
    go_enter Try.func62, Try.ntmps62
    go_wp2_with (first | (go_at_call 79; (refine HF.out.mono ?_); rintro e w3 ⟨rfl, k3, rfl⟩) | (go_at_call 77; (refine (rend_at HD.out _).mono ?_); rintro e w4 ⟨rfl, k4, rfl⟩))
    go_end0
    have e : d.sync = { d with synced := d.fin } := by unfold Dst.sync; rw [HC.out]; rfl
    have hk := HK.out
    rw [e] at hk ⊢
    have hs := (HD.out.ab ((Ab.refl w).drewN k4)).put (w2 := w.drewN k4) (d2 := { d with synced := d.fin }) (HD.out.2.1.ab ((Ab.refl w).drewN k4)) (Ab.refl _) (fun k hk => .inl hk) (setg 2 (.int .i64 (d.fin : Int)) (Mv.refl _ _)) (fun hb => hb.store 2 _) hk
    exact ⟨rfl, hs.1, Turn.after ((Ab.refl w).drewN _) hs.2⟩
/-- New. -/
def RNewPost (w : World) (n : Int) (e : Ending) (w' : World) : Prop :=
  ((n < 1 ∨ 67108864 < n) ∧ e = .returned (.tuple #[.pointer none, .int .i64 22]) ∧ w = w') ∨
  ((1 ≤ n ∧ n ≤ 67108864) ∧ e = .returned (.tuple #[.pointer (some ⟨w.heap.size, 0, none⟩), .int .i64 0]) ∧ (∀ base, base ≤ w.heap.size → Rk w' base w.heap.size (.slice none 0 0) (Dst.new n.toNat)) ∧ Ab w w')
theorem rnew_any (w : World) (n : Int) : Calls Try.prog 26 #[.int .i64 n] w (RNewPost w n) := by
  by_cases b1 : n < 1
  · go_enter Try.func26, Try.ntmps26
    go_wp2_with fail
    refine bodyPost_ret (v := .tuple #[.pointer none, .int .i64 22]) ?_ rfl (.inl ⟨.inl b1, rfl, rfl⟩)
    simp [results, Try.results26, go_sem]
  by_cases b2 : 67108864 < n
  · go_enter Try.func26, Try.ntmps26
    go_wp2_with fail
    refine bodyPost_ret (v := .tuple #[.pointer none, .int .i64 22]) ?_ rfl (.inl ⟨.inr b2, rfl, rfl⟩)
    simp [results, Try.results26, go_sem]
  obtain ⟨k, rfl⟩ : ∃ k : Nat, n = (k : Int) := ⟨n.toNat, by omega⟩
  have b3 : 1 ≤ k ∧ k ≤ 67108864 := by omega
  have c1 : ¬ (k : Int) < 1 := b1
  have c2 : ¬ 67108864 < (k : Int) := b2
  have B3 := Lib.hid b3
  clear b3 b1 b2
  go_enter Try.func26, Try.ntmps26
  go_wp2_with fail
  refine bodyPost_ret (v := .tuple #[.pointer (some ⟨w.heap.size, 0, none⟩), .int .i64 0]) ?_ rfl (.inr ⟨by have := B3.out; omega, rfl, fun base hb => ⟨Bk.made w _ _, Ob.nil _ _, hb, Dst.Ok.new B3.out.1 B3.out.2⟩, (Ab.refl w).alloc _⟩)
  simp [results, Try.results26, go_sem]
/-- Wipe. -/
theorem rwipe_row (n b s m : Int) (v : Value) : ((((#[Value.int .i64 n, .int .i64 b, .int .i64 s, v, .int .i64 m].setIfInBounds 1 (.int .i64 0)).setIfInBounds 2 (.int .i64 0)).setIfInBounds 3 (.slice none 0 0)).setIfInBounds 4 (.int .i64 (-1))) =
    #[.int .i64 n, .int .i64 0, .int .i64 0, .slice none 0 0, .int .i64 (-1)] := by
  simp only [List.setIfInBounds_toArray, List.set_cons_zero, List.set_cons_succ]
theorem rwipe_any (w : World) (h : Rk w base g v d) :
    Calls Try.prog 75 #[.pointer (some ⟨g, 0, none⟩)] w fun e w' => e = .returned (.tuple #[]) ∧ ∃ v', Rk w' base g v' d.wipe ∧ Turn g v v' w w' := by
  have HD := Lib.hid h
  have hfz := h.free
  obtain ⟨h0, h1, h2, h3, h4⟩ := h.cells
  obtain ⟨A, c, rfl, -, -⟩ := h.len_cap
  have hs := h.put (w2 := w) (d2 := d.wipe) (Ob.nil w base) (Ab.refl w) (fun k hk => by cases hk) (setg 4 (.int .i64 (-1)) (setg 3 (.slice none 0 0) (setg 2 (.int .i64 0) (setg 1 (.int .i64 0) (Mv.refl _ _)))))
    (fun hb => Bk.eq_ ((((hb.store 1 _).store 2 _).store 3 _).store 4 _) (rwipe_row _ _ _ _ _)) h.ok.wipe
  have HS := Lib.hid hs
  clear h hs
  go_enter Try.func75, Try.ntmps75
  go_wp2_with fail
  go_end0
  exact ⟨rfl, _, HS.out⟩
end Go.Proofs.Ytolchbjcdlncgaa.Dg

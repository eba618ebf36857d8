/- Texts joined: JnE. -/
import Derived.Test.YtolchbjcdlncgaaGreatMgDkX
import Derived.Test.YtolchbjcdlncgaaGreatMgJnC
/- The journal in memory: ready, standing. -/
namespace Go.Proofs.YtolchbjcdlncgaaGreat.Dg
open Go.RowKit
variable {w w' : World} {base a g gj torn : Nat} {v row : Value} {rs : List (List UInt8)} {d : Dst}
attribute [local go_sem ↓] Go.wp_at_zero Go.wp_at_succ
theorem jready_any (w : World) (gj g : Nat) (h0 : w.cell? ⟨gj, 0, none⟩ = some (.pointer (some ⟨g, 0, none⟩))) :
    Calls Tryz.prog 50 #[.pointer (some ⟨gj, 0, none⟩)] w fun e w' => e = .returned (.bool true) ∧ w = w' := by
  go_enter Tryz.func50, Tryz.ntmps50
  go_wp2
  go_ret
  exact ⟨rfl, rfl⟩
theorem jready_none (w : World) (gj : Nat) (h0 : w.cell? ⟨gj, 0, none⟩ = some (.pointer none)) :
    Calls Tryz.prog 50 #[.pointer (some ⟨gj, 0, none⟩)] w fun e w' => e = .returned (.bool false) ∧ w = w' := by
  go_enter Tryz.func50, Tryz.ntmps50
  go_wp2
  go_ret
  exact ⟨rfl, rfl⟩
theorem jready_nil (w : World) :
    Calls Tryz.prog 50 #[.pointer none] w fun e w' => e = .returned (.bool false) ∧ w = w' := by
  go_enter Tryz.func50, Tryz.ntmps50
  go_wp2
  go_ret
  exact ⟨rfl, rfl⟩
theorem run_slice_span (A : Option Addr) (n c k : Nat) (hk : k ≤ n) (w : World) :
    (Instr.slice 57 (.slice A n c) (some (.int .i64 (k : Int))) none none).run Tryz.prog w = .ok (.slice (winS 3 A c k) (n - k) (c - k)) w := by
  have h1 : (0 : Int) ≤ (k : Int) := by omega
  have hs : ∀ w : World, (sizeOf 94).run Tryz.prog w = .ok 3 w := fun w => by kernel_rfl
  simp [Instr.slice, Instr.sliceBounds, Instr.sliceBound, asIntOf, run_underlying Tryz.underlying57, h1, Sem.run_bind, hs, winS]
  omega
/-- The journal in block gj, its row from place a on. -/
structure Jb (w : World) (base gj g : Nat) (row : Value) (torn a : Nat) (rs : List (List UInt8)) : Prop where
  blk : Bk w gj 59 #[.pointer (some ⟨g, 0, none⟩), row, .int .i64 (torn : Int)]
  row : Rw w base row a rs
  le : base ≤ gj
theorem Jb.ab (h : Jb w base gj g row torn a rs) (hb : Ab w w') : Jb w' base gj g row torn a rs := ⟨hb.bk h.blk, h.row.ab hb, h.le⟩
/-- The blocks of journal and row. -/
def JOwn (gj : Nat) (row : Value) (k : Nat) : Prop := k = gj ∨ row.ownBlock = some k
theorem Jb.mv {S : Nat → Prop} (h : Jb w base gj g row torn a rs) (hm : Mv S w w') (hn : ∀ k, JOwn gj row k → ¬ S k) : Jb w' base gj g row torn a rs :=
  ⟨hm.bk h.blk (hn gj (.inl rfl)), h.row.mv hm (fun k hk => hn k (.inr hk)), h.le⟩
theorem Jb.own_lt (h : Jb w base gj g row torn a rs) {k : Nat} (hk : JOwn gj row k) : base ≤ k ∧ k < w.heap.size := by
  rcases hk with rfl | hk
  · exact ⟨h.le, h.blk.lt⟩
  · exact h.row.blk k hk
theorem Bk.inj {t t' : TypeId} {cs cs' : Array Value} (h : Bk w g t cs) (h' : Bk w g t' cs') : t = t' := by
  unfold Bk at h h'
  rw [h] at h'
  injection h' with h'
  injection h' with _ h'
/-- Journal and disk lie apart. -/
theorem Jb.apart (h : Jb w base gj g row torn a rs) (hd : Dk w base g v d) (k : Nat) (hk : JOwn gj row k) : ¬ Own g v k := by
  intro ho
  have hv : ∀ {t : TypeId} {cs : Array Value}, v.ownBlock = some k → Bk w k t cs → t = 5 := by
    intro t cs hk2 hb
    rcases hd.2.1 with ⟨rfl, _⟩ | ⟨g', cap, pre, post, rfl, _, hg, _⟩
    · simp [Value.ownBlock] at hk2
    · have : g' = k := by simpa [Value.ownBlock] using hk2
      subst this
      exact Bk.inj hb hg
  rcases hk with rfl | hk
  · rcases ho with rfl | ho
    · exact absurd (Bk.inj h.blk hd.1) (by decide)
    · exact absurd (hv ho h.blk) (by decide)
  · rcases ho with rfl | ho
    · exact absurd (h.row.type hk hd.1) (by decide)
    · rcases hd.2.1 with ⟨rfl, _⟩ | ⟨g', cap, pre, post, rfl, _, hg, _⟩
      · simp [Value.ownBlock] at ho
      · have : g' = k := by simpa [Value.ownBlock] using ho
        subst this
        exact absurd (h.row.type hk hg) (by decide)
theorem Rw.cut' {A : Option Addr} {n c N : Nat} (h : Rw w base (.slice A n c) a rs) (k : Nat) (hk : k ≤ rs.length) (hN : rs.length = N) : Rw w base (.slice (winS 3 A c k) (N - k) (c - k)) (plc a rs k) (rs.drop k) := by
  obtain ⟨A', c', hv, -, -⟩ := h.len_cap
  injection hv with ha hn hc
  have := h.cut k hk
  rw [hn, hN] at this
  exact this
theorem look_base {k i : Nat} (hk : k ≤ rs.length) (hi : i ≤ rs.length) (h1 : ∀ t, t < i → ((plc a rs t : Nat) : Int) < ((plc a rs k : Nat) : Int)) (h2 : ∀ t, i ≤ t → t < rs.length → ((plc a rs k : Nat) : Int) ≤ ((plc a rs t : Nat) : Int)) : i = k := by
  rcases Nat.lt_trichotomy i k with h | h | h
  · have e1 := h2 i (Nat.le_refl _) (by omega)
    have e2 := plc_lt a rs h hk
    omega
  · exact h
  · have e1 := h1 k h
    omega
theorem winS_own (s : Nat) (A : Option Addr) (c k n m : Nat) (j : Nat) (h : (Value.slice (winS s A c k) n m).ownBlock = some j) : ∀ n' m', (Value.slice A n' m').ownBlock = some j := by
  intro n' m'
  unfold winS at h
  cases A with
  | none => split at h <;> simp [Value.ownBlock] at h
  | some x =>
    split at h
    · simpa [Value.ownBlock] using h
    · simp only [Value.ownBlock, Option.map_some, Addr.add] at h ⊢
      split at h <;> exact h
set_option maxRecDepth 100000 in
set_option maxHeartbeats 1000000 in
/-- The records that stand: from the disk's Base on. -/
theorem standing_any (w : World) (hd : Dk w base g v d) (hj : Jb w base gj g row torn a rs) (k : Nat) (hk : k ≤ rs.length) (hb : d.base = plc a rs k) (hlen : rs.length ≤ 4611686018427387904) :
    Calls Tryz.prog 59 #[.pointer (some ⟨gj, 0, none⟩)] w fun e w' => ∃ A n c, n = rs.length - k ∧ e = .returned (.slice A n c) ∧ Rw w' base (.slice A n c) d.base (rs.drop k) ∧ (∀ j, (Value.slice A n c).ownBlock = some j → row.ownBlock = some j) ∧ Ab w w' := by
  have HD := Lib.hid hd
  have HJ := Lib.hid hj
  have hgl := hj.blk.lt
  obtain ⟨A, c, rfl, hc1, hc2⟩ := hj.row.len_cap
  have c0 : w.cell? ⟨gj, 0, none⟩ = some (.pointer (some ⟨g, 0, none⟩)) := hj.blk.cell rfl
  have c1 : w.cell? ⟨gj, 1, none⟩ = some (.slice A rs.length c) := hj.blk.cell rfl
  have HC := Lib.hid hc2
  obtain ⟨N, hN⟩ : ∃ N, rs.length = N := ⟨_, rfl⟩
  have HN := Lib.hid hN
  rw [hN] at c1 hk hc1 hlen
  have hsr := hj.row.sr
  rw [hN] at hsr
  have HS := Lib.hid hsr
  have HB := Lib.hid hb
  rw [hN]
  clear hd hj hc2 hN hsr hb
  go_enter Tryz.func59, Tryz.ntmps59
  go_wp2_with fail
  go_region_held3 (fun wx => wx.cell? ⟨gj, 0, none⟩ = some (.pointer (some ⟨g, 0, none⟩)) ∧ wx.cell? ⟨gj, 1, none⟩ = some (.slice A N c)) (first | exact ⟨c0, c1⟩ | exact ⟨q0, q1⟩) (first | (go_at_call 40; (with_reducible refine (Base_any _ (HD.out.ab ((Ab.refl w).drew))).mono ?_); rintro e w3 ⟨rfl, rfl⟩) | (go_at_call 76; (with_reducible refine (look_any _ (HS.out.ab (Ab.refl w).drew (Nat.le_refl _)) (show w.heap.size ≤ w.drew.heap.size from Nat.le_refl _) (by rw [HN.out]; exact hlen) _).mono ?_); rintro e w4 ⟨i, hi, hlo, hhi, rfl, ha4⟩; (have q0 := (ha4.cells gj 0 hgl).trans c0); (have q1 := (ha4.cells gj 1 hgl).trans c1); (have H4 := Lib.hid (And.intro ha4 (And.intro hi (And.intro hlo hhi)))); clear ha4 hi hlo hhi))
  obtain rfl : i = k := look_base (by rw [HN.out]; exact hk) H4.out.2.1 (by rw [← HB.out]; exact H4.out.2.2.1) (by rw [← HB.out]; exact H4.out.2.2.2)
  have hsl := fun wx => run_slice_span A N c i hk wx
  have ha : Ab w w4 := (Ab.refl w).drew.trans H4.out.1
  have hrw : Rw w4 base (.slice (winS 3 A c i) (N - i) (c - i)) d.base (rs.drop i) := by rw [HB.out]; exact Rw.cut' (w := w4) (Og.ab HJ.out.row ha) i (by rw [HN.out]; exact hk) HN.out
  have HR := Lib.hid (And.intro hrw (And.intro (winS_own 3 A c i (N - i) (c - i)) ha))
  generalize winS 3 A c i = A3 at *
  clear hrw ha c0 c1
  go_wp2_with fail
  go_ret
  exact ⟨A3, N - i, c - i, rfl, rfl, HR.out.1, fun j hj => HR.out.2.1 j hj _ _, HR.out.2.2⟩
end Go.Proofs.YtolchbjcdlncgaaGreat.Dg

/- Texts joined: JnG. -/
import Derived.Test.YtolchbjcdlncgaaGreatMgJnF
/- The journal: what it tells; Sync. -/
namespace Go.Proofs.YtolchbjcdlncgaaGreat.Dg
open Go.RowKit
variable {w w' : World} {base a g gj torn : Nat} {v row : Value} {rs : List (List UInt8)} {d : Dst}
attribute [local go_sem ↓] Go.wp_at_zero Go.wp_at_succ
set_option maxRecDepth 100000 in
set_option maxHeartbeats 1000000 in
theorem Count_any (w : World) (h : Jt w base gj g row torn v d rs) :
    Calls Tryz.prog 27 #[.pointer (some ⟨gj, 0, none⟩)] w fun e w' => e = .returned (.int .i64 (rs.length : Int)) ∧ Ab w w' := by
  have HT := Lib.hid h
  have c0 := h.ptr
  clear h
  go_enter Tryz.func27, Tryz.ntmps27
  go_wp2_with (first | (go_at_call 50; (with_reducible refine (jready_any _ gj g c0).mono ?_); rintro e w2 ⟨rfl, rfl⟩) | (go_at_call 59; (with_reducible refine (HT.out.standing).mono ?_); rintro e w3 ⟨A, c, rfl, -, -, ha3⟩; (have H3 := Lib.hid ha3); clear ha3))
  go_ret
  exact ⟨rfl, H3.out⟩
set_option maxRecDepth 100000 in
set_option maxHeartbeats 1000000 in
theorem JEnd_any (w : World) (h : Jt w base gj g row torn v d rs) :
    Calls Tryz.prog 25 #[.pointer (some ⟨gj, 0, none⟩)] w fun e w' => e = .returned (.int .i64 (d.fin : Int)) ∧ Ab w w' := by
  have HT := Lib.hid h
  have c0 := h.ptr
  clear h
  go_enter Tryz.func25, Tryz.ntmps25
  go_wp2_with (first | (go_at_call 50; (with_reducible refine (jready_any _ gj g c0).mono ?_); rintro e w2 ⟨rfl, rfl⟩) | (go_at_call 41; (with_reducible refine (End_any _ HT.out.dk).mono ?_); rintro e w3 ⟨rfl, ha3⟩; (have H3 := Lib.hid ha3); clear ha3))
  go_ret
  exact ⟨rfl, H3.out.ab⟩
set_option maxRecDepth 100000 in
set_option maxHeartbeats 1000000 in
theorem JSynced_any (w : World) (h : Jt w base gj g row torn v d rs) :
    Calls Tryz.prog 26 #[.pointer (some ⟨gj, 0, none⟩)] w fun e w' => e = .returned (.int .i64 (d.synced : Int)) ∧ w = w' := by
  have HT := Lib.hid h
  have c0 := h.ptr
  clear h
  go_enter Tryz.func26, Tryz.ntmps26
  go_wp2_with (first | (go_at_call 50; (with_reducible refine (jready_any _ gj g c0).mono ?_); rintro e w2 ⟨rfl, rfl⟩) | (go_at_call 43; (with_reducible refine (Synced_any _ HT.out.dk).mono ?_); rintro e w3 ⟨rfl, rfl⟩))
  go_ret
  exact ⟨rfl, rfl⟩
set_option maxRecDepth 100000 in
set_option maxHeartbeats 1000000 in
theorem Torn_any (w : World) (h : Jb w base gj g row torn a rs) :
    Calls Tryz.prog 18 #[.pointer (some ⟨gj, 0, none⟩)] w fun e w' => e = .returned (.int .i64 (torn : Int)) ∧ w = w' := by
  have c0 : w.cell? ⟨gj, 0, none⟩ = some (.pointer (some ⟨g, 0, none⟩)) := h.blk.cell rfl
  have c2 : w.cell? ⟨gj, 2, none⟩ = some (.int .i64 (torn : Int)) := h.blk.cell rfl
  clear h
  go_enter Tryz.func18, Tryz.ntmps18
  go_wp2_with (go_at_call 50; (with_reducible refine (jready_any _ gj g c0).mono ?_); rintro e w2 ⟨rfl, rfl⟩)
  go_ret
  exact ⟨rfl, rfl⟩
/-- Where the first one begins, or will. -/
def firstP (d : Dst) (rs : List (List UInt8)) : Nat := if rs.length = 0 then d.fin else d.base
theorem Jt.firstP (h : Jt w base gj g row torn v d rs) : firstP d rs = d.base := by
  unfold Dg.firstP
  split
  · rename_i h0
    have : rs = [] := List.eq_nil_of_length_eq_zero h0
    rw [h.fin, this]
    rfl
  · rfl
set_option maxRecDepth 100000 in
set_option maxHeartbeats 1000000 in
theorem First_any (w : World) (h : Jt w base gj g row torn v d rs) :
    Calls Tryz.prog 24 #[.pointer (some ⟨gj, 0, none⟩)] w fun e w' => e = .returned (.int .i64 (d.base : Int)) ∧ Ab w w' := by
  have HT := Lib.hid h
  have c0 := h.ptr
  have HF := Lib.hid h.firstP
  have hgl := h.jb.blk.lt
  clear h
  go_enter Tryz.func24, Tryz.ntmps24
  go_wp2_with (first | (go_at_call 50; (with_reducible refine (jready_any _ gj g c0).mono ?_); rintro e w2 ⟨rfl, rfl⟩))
  refine (HT.out.standing).mono ?_
  rintro e w3 ⟨A, c, rfl, hr3, -, ha3⟩
  have hsr := hr3.sr
  have q0 := (ha3.cells gj 0 hgl).trans c0
  have H3 := Lib.hid ha3
  clear ha3 hr3 c0
  obtain ⟨N, hN⟩ : ∃ N, rs.length = N := ⟨_, rfl⟩
  rw [hN]
  by_cases h0 : 0 < N
  · have hne : rs ≠ [] := by intro e; rw [e] at hN; simp at hN; omega
    obtain ⟨A', c', hv', hcc, -, h3⟩ := hsr
    injection hv' with hva _ hvc
    subst hva; subst hvc
    obtain ⟨b, off, rfl, hb, hc⟩ := h3 hne
    obtain ⟨e0, -, -⟩ := hc 0 (by omega)
    rw [plc_zero, Nat.zero_mul, Nat.add_zero] at e0
    clear h3 hc hb hcc
    go_wp2_with fail
    go_ret
    exact ⟨rfl, H3.out⟩
  · have HE := Lib.hid (End_any w3 (HT.out.ab H3.out).dk)
    have hN0 : N = 0 := by omega
    have HF2 := Lib.hid (show d.fin = d.base by have := HF.out; unfold firstP at this; rw [hN, if_pos hN0] at this; exact this)
    clear hsr
    go_wp2_with (go_at_call 41; (with_reducible refine HE.out.mono ?_); rintro e w4 ⟨rfl, ha4⟩; rw [HF2.out]; (have H4 := Lib.hid ha4); clear ha4)
    go_ret
    exact ⟨rfl, H3.out.trans H4.out.ab⟩
/-- All blocks of disk and journal. -/
def JAll (gj g : Nat) (row v : Value) (k : Nat) : Prop := Own g v k ∨ JOwn gj row k
/-- Only these turn; new ones are new. -/
def JTurn (gj g : Nat) (row v row' v' : Value) (w w' : World) : Prop := Mv (JAll gj g row v) w w' ∧ ∀ k, JAll gj g row' v' k → JAll gj g row v k ∨ w.heap.size ≤ k
theorem JTurn.trans {row2 v2 row3 v3 : Value} {w2 w3 : World} (h : JTurn gj g row v row2 v2 w w2) (k : JTurn gj g row2 v2 row3 v3 w2 w3) : JTurn gj g row v row3 v3 w w3 :=
  ⟨⟨k.1.os.trans h.1.os, k.1.tape.trans h.1.tape, k.1.output.trans h.1.output, Nat.le_trans h.1.size k.1.size, fun i hi hs => (k.1.block i (Nat.lt_of_lt_of_le hi h.1.size) (fun e => by
    rcases h.2 i e with e2 | e2
    · exact hs e2
    · omega)).trans (h.1.block i hi hs)⟩, fun i hi => by
    rcases k.2 i hi with e | e
    · exact h.2 i e
    · exact .inr (Nat.le_trans h.1.size e)⟩
theorem JTurn.of_ab (h : Ab w w') : JTurn gj g row v row v w w' := ⟨Mv.of_ab h, fun _ h => .inl h⟩
theorem JTurn.disk {v2 : Value} (h : Turn g v v2 w w') : JTurn gj g row v row v2 w w' := ⟨h.1.mono fun _ _ e => .inl e, fun k hk => by
  rcases hk with (hk | hk) | hk
  · exact .inl (.inl (.inl hk))
  · rcases h.2 k hk with e | e
    · exact .inl (.inl (.inr e))
    · exact .inr e
  · exact .inl (.inr hk)⟩
theorem Jt.all_ge (h : Jt w base gj g row torn v d rs) {k : Nat} (hk : JAll gj g row v k) : base ≤ k ∧ k < w.heap.size := by
  rcases hk with (rfl | hk) | hk
  · exact ⟨h.dk.2.2.1, h.dk.1.lt⟩
  · exact h.dk.2.1.blk k hk
  · exact h.jb.own_lt hk
theorem JTurn.ab {W : World} {row2 v2 : Value} (ht : JTurn gj g row v row2 v2 w w') (h : Jt w base gj g row torn v d rs) (hW : Ab W w) (hb : W.heap.size ≤ base) : Ab W w' :=
  ht.1.ab hW fun _ hk => Nat.le_trans hb (h.all_ge hk).1
/-- The disk turns, its places and bytes stay. -/
theorem Jt.disk {v2 : Value} {d2 : Dst} (h : Jt w base gj g row torn v d rs) (hd : Dk w' base g v2 d2) (ht : Turn g v v2 w w') (hb : d2.base = d.base) (hby : d2.bytes = d.bytes) : Jt w' base gj g row torn v2 d2 rs :=
  ⟨hd, by rw [hb]; exact h.jb.mv ht.1 (fun k hk => h.jb.apart h.dk k hk), by rw [hby]; exact h.bytes, h.small⟩
set_option maxRecDepth 100000 in
set_option maxHeartbeats 1000000 in
theorem JSync_any (w : World) (h : Jt w base gj g row torn v d rs) :
    Calls Tryz.prog 22 #[.pointer (some ⟨gj, 0, none⟩)] w fun e w' => e = .returned (.int .i64 0) ∧ Jt w' base gj g row torn v d.sync rs ∧ JTurn gj g row v row v w w' := by
  have HT := Lib.hid h
  have c0 := h.ptr
  clear h
  go_enter Tryz.func22, Tryz.ntmps22
  go_wp2_with (first | (go_at_call 50; (with_reducible refine (jready_any _ gj g c0).mono ?_); rintro e w2 ⟨rfl, rfl⟩) | (go_at_call 15; (with_reducible refine (Sync_any _ HT.out.dk).mono ?_); rintro e w3 ⟨rfl, hd3, ht3⟩; (have H3 := Lib.hid (And.intro hd3 ht3)); clear hd3 ht3))
  go_ret
  exact ⟨rfl, HT.out.disk H3.out.1 H3.out.2 (by unfold Dst.sync; cases d.cold <;> rfl) (by unfold Dst.sync; cases d.cold <;> rfl), JTurn.disk H3.out.2⟩
end Go.Proofs.YtolchbjcdlncgaaGreat.Dg

/- Texts joined: DgLk JrA JrB JrC JrD JrE. -/
import Derived.OwnWalk
import Derived.Lib.Hide
import Derived.IntWalk
import Derived.BigQuiet
import Derived.Deep.QuietTactic
import Derived.Test.YtolchbjcdlncgaaGreatMgJpF
import Derived.Test.YtolchbjcdlncgaaGreatMgDkJ
import Derived.Test.YtolchbjcdlncgaaGreatMgDkX
/- Memory that is lent, and whether it was kept. -/
namespace Go.Proofs.YtolchbjcdlncgaaGreat.Dg
open Go.RowKit
variable {w w' : World} {base B : Nat} {v : Value} {l : List UInt8}
/-- What Lend lends lies between two marks. -/
def lentL (l : List UInt8) : List UInt8 := 165 :: (l ++ [90])
theorem lentL_length (l : List UInt8) : (lentL l).length = l.length + 2 := by simp [lentL]
def lendL (l : List UInt8) (j : Nat) : List UInt8 := 165 :: (l.take j ++ List.replicate (l.length - j) 0 ++ [90])
theorem lendL_length (l : List UInt8) (j : Nat) (hj : j ≤ l.length) : (lendL l j).length = l.length + 2 := by
  simp [lendL]; omega
theorem lendL_step (l : List UInt8) (j : Nat) (hj : j < l.length) : (lendL l j).set (j + 1) (l.getD j 0) = lendL l (j + 1) := by
  unfold lendL
  rw [List.set_cons_succ, List.append_assoc, List.set_append_right _ _ (by rw [List.length_take]; omega), List.length_take, show j - min j l.length = 0 by omega,
    show l.length - j = (l.length - (j + 1)) + 1 by omega, List.replicate_succ, List.cons_append, List.set_cons_zero, take_next l j hj]
  simp
theorem lendL_zero (l : List UInt8) : ((List.replicate (l.length + 2) (0 : UInt8)).set 0 165).set (l.length + 1) 90 = lendL l 0 := by
  unfold lendL
  rw [show l.length + 2 = (l.length + 1) + 1 by omega, List.replicate_succ, List.set_cons_zero, List.set_cons_succ, List.replicate_succ', List.set_append_right _ _ (by simp)]
  simp
theorem lendL_end (l : List UInt8) : lendL l l.length = lentL l := by simp [lendL, lentL]
theorem lent_mid (l : List UInt8) : ((lentL l).drop 1).take l.length = l := by
  simp [lentL]
set_option maxRecDepth 100000 in
set_option maxHeartbeats 2000000 in
theorem lend_any (w : World) (h : Bs w w.heap.size v l) (hl : l.length ≤ 200000000000000) :
    Calls Tryz.prog 30 #[v] w fun e w' => ∃ g, e = .returned (.tuple #[.slice (some ⟨g, 0, none⟩) (l.length + 2) (l.length + 2), .slice (some ⟨g, 1, none⟩) l.length (l.length + 1)]) ∧
      Ob w' w.heap.size (.slice (some ⟨g, 0, none⟩) (l.length + 2) (l.length + 2)) (lentL l) ∧ Ab w w' := by
  have HB := Lib.hid h
  obtain ⟨A, c, rfl, h1, h2, -⟩ := id h
  clear h
  obtain ⟨i0, hi, hz0, hz1, hz2⟩ := info_parts info8
  have HI := Lib.hid (And.intro hi (And.intro hz0 (And.intro hz1 hz2)))
  clear hi hz0 hz1 hz2
  go_enter Tryz.func30, Tryz.ntmps30
  go_wp2_with (refine wpList_make_full w rfl _ _ 27 rfl w.heap.size 5 i0 (.int .u8 0) 1 Tryz.underlying27 HI.out.1 HI.out.2.1 HI.out.2.2.1 .i64 .i64 ((l.length : Int) + 2) ((l.length : Int) + 2) (l.length + 2) rfl rfl (by go_num) (by go_num) (by rw [HI.out.2.2.2]; omega) (by unfold maxLen; omega) (Nat.le_refl _) ?_)
  intro w1 ho1 hg1
  have ho1 : Ob w1 w.heap.size (.slice (some ⟨w.heap.size, 0, none⟩) (l.length + 2) (l.length + 2)) (List.replicate (l.length + 2) 0) := by
    unfold Ob
    rw [List.length_replicate, List.map_replicate]
    have e : (madeCells #[Value.int IntKind.u8 0] (l.length + 2)).toList = List.replicate (l.length + 2) (u8v 0) := by
      unfold madeCells
      apply List.ext_getElem
      · simp
      · intro i h1 h2
        simp [u8v, n8, Nat.mod_one]
    rw [← e]
    exact ho1
  have ha1 : Ab w w1 := grown_ab (Ab.refl w) hg1 (fun k hk => by cases hk)
  have hrl : (List.replicate (l.length + 2) (0 : UInt8)).length = l.length + 2 := List.length_replicate
  obtain ⟨g, cap, hv, -, hglt, -, -, hfr, hcl⟩ := ho1.form (by simp)
  injection hv with hga hgb hgc
  injection hga with hga
  injection hga with hga
  subst hga
  clear hgb hgc
  have hc0 := hcl 0 (by rw [hrl]; omega)
  have hcE := hcl (l.length + 1) (by rw [hrl]; omega)
  have hz : ∀ k, (List.replicate (l.length + 2) (0 : UInt8)).getD k 0 = 0 := by
    intro k
    rw [List.getD_eq_getElem?_getD, List.getElem?_replicate]
    split <;> rfl
  rw [hz] at hc0 hcE
  replace hc0 : w1.cell? ⟨w.heap.size, 0, none⟩ = some (.int .u8 0) := hc0
  replace hcE : w1.cell? ⟨w.heap.size, l.length + 1, none⟩ = some (.int .u8 0) := hcE
  have hf0 := hfr 0
  have hfE := hfr (l.length + 1)
  have ho2 := (ho1.set 0 165).set (l.length + 1) 90
  rw [lendL_zero] at ho2
  have ha2 : Ab w ((w1.setCell ⟨w.heap.size, 0, none⟩ (.int .u8 (n8 165))).setCell ⟨w.heap.size, l.length + 1, none⟩ (.int .u8 (n8 90))) := (ha1.set (by simp) _).set (by simp) _
  have hcE2 : (w1.setCell ⟨w.heap.size, 0, none⟩ (.int .u8 165)).cell? ⟨w.heap.size, l.length + 1, none⟩ = some (.int .u8 0) := by
    rw [← hcE]
    exact World.cell?_setCell_other w1 _ _ _ (by simp)
  have H2 := Lib.hid (And.intro ho2 ha2)
  have hi0 : (0 : Int) ≤ (l.length : Int) + 1 := by omega
  have hi1 : (l.length : Int) + 1 < (l.length : Int) + 2 := by omega
  clear ho1 ha1 hg1 hcl hfr hz hrl ho2 ha2 hglt hcE
  have hsm := fun wx => run_slice_mid (some ⟨w.heap.size, 0, none⟩) (l.length + 2) (l.length + 2) 1 (l.length + 1) (by omega) (by omega) wx
  have hwa : winA (some (⟨w.heap.size, 0, none⟩ : Addr)) (l.length + 2) 1 = some ⟨w.heap.size, 1, none⟩ := by
    unfold winA; rw [if_neg (by omega), Option.map_some, Addr.add_lit]
  rw [hwa, show l.length + 1 - 1 = l.length by omega, show l.length + 2 - 1 = l.length + 1 by omega] at hsm
  have hsm' : ∀ wx : World, (Instr.slice 27 (.slice (some ⟨w.heap.size, 0, none⟩) (l.length + 2) (l.length + 2)) (some (.int .i64 1)) (some (.int .i64 ((l.length : Int) + 1))) none).run Tryz.prog wx = .ok (.slice (some ⟨w.heap.size, 1, none⟩) l.length (l.length + 1)) wx := hsm
  have HSM := Lib.hid hsm'
  clear hsm hwa hsm'
  go_wp2_with fail
  go_loopw [20] (fun i wr => ∃ j : Nat, j ≤ l.length ∧ i = .int .i64 (j : Int) ∧ Ob wr w.heap.size (.slice (some ⟨w.heap.size, 0, none⟩) (l.length + 2) (l.length + 2)) (lendL l j) ∧ Ab w wr) (fun i _ => l.length - (intOf i).toNat)
  case atStart => exact ⟨0, Nat.zero_le _, rfl, H2.out.1, H2.out.2⟩
  case round =>
    obtain ⟨j, hj, rfl, ho, ha⟩ := hrel
    by_cases hlt : j < l.length
    · have hne : l ≠ [] := by intro e; subst e; simp at hlt
      obtain ⟨A', c', hv', -, -, h3⟩ := HB.out.ab ha (Nat.le_refl _)
      injection hv' with hva hvb hvc
      subst hva
      clear hvb hvc
      obtain ⟨b, off, rfl, hbl, hcs⟩ := h3 hne
      have hcell := hcs j hlt
      obtain ⟨g', cap', hv2, -, -, -, -, hfr2, hcl2⟩ := ho.form (by simp [lendL])
      injection hv2 with hga hgb hgc
      injection hga with hga
      injection hga with hga
      subst hga
      clear hgb hgc
      have hck := hcl2 (j + 1) (by rw [lendL_length l j hj]; omega)
      have hfk := hfr2 (j + 1)
      generalize n8 ((lendL l j).getD (j + 1) 0) = old at hck
      have hset := ho.set (j + 1) (l.getD j 0)
      rw [lendL_step l j hlt] at hset
      have hset2 : Ab w (wr.setCell ⟨w.heap.size, j + 1, none⟩ (.int .u8 (n8 (l.getD j 0)))) := ha.set (by simp) _
      have HS := Lib.hid (And.intro hset (And.intro hset2 (getElem_D l j hlt)))
      have hj0 : (0 : Int) ≤ (j : Int) := by omega
      have hj1 : (j : Int) < (l.length : Int) := by omega
      have hj2 : (0 : Int) ≤ (j : Int) + 1 := by omega
      have hj3 : (j : Int) + 1 < (l.length : Int) + 2 := by omega
      clear ho ha h3 hcs hfr2 hcl2 hset hset2 hc0 hcE2 hf0 hfE
      go_wp2_with fail
      go_roundw
      case rel => exact ⟨j + 1, by omega, by go_num, by rw [HS.out.2.2]; exact HS.out.1, by rw [HS.out.2.2]; exact HS.out.2.1⟩
      case measure => simp [intOf]; omega
    · have hjl : j = l.length := by omega
      subst hjl
      have HS := Lib.hid (And.intro ho ha)
      have hsm := HSM.out
      clear ho ha hc0 hcE2 hf0 hfE
      go_wp2_with fail
      go_quiet (fail)
      go_wp2
      go_ret2
      exact ⟨w.heap.size, rfl, by rw [← lendL_end]; exact HS.out.1, HS.out.2.drewN _⟩
set_option maxRecDepth 100000 in
set_option maxHeartbeats 2000000 in
theorem kept_any (w : World) (g : Nat) (hw : Ob w base (.slice (some ⟨g, 0, none⟩) (l.length + 2) (l.length + 2)) (lentL l)) (h : Bs w B v l) (hl : l.length ≤ 200000000000000) :
    Calls Tryz.prog 32 #[.slice (some ⟨g, 0, none⟩) (l.length + 2) (l.length + 2), v] w fun e w' => e = .returned (.bool true) ∧ Ab w w' := by
  obtain ⟨g', cap', hv2, -, -, -, -, -, hcl⟩ := hw.form (by simp [lentL])
  injection hv2 with hga hgb hgc
  injection hga with hga
  injection hga with hga
  subst hga
  clear hgb hgc
  have hc0 := hcl 0 (by rw [lentL_length]; omega)
  have hcE := hcl (l.length + 1) (by rw [lentL_length]; omega)
  have e0 : (lentL l).getD 0 0 = 165 := rfl
  have eE : (lentL l).getD (l.length + 1) 0 = 90 := by
    unfold lentL
    rw [List.getD_cons_succ, List.getD_eq_getElem?_getD, List.getElem?_append_right (Nat.le_refl _)]
    simp
  rw [e0] at hc0
  rw [eE] at hcE
  replace hc0 : w.cell? ⟨g, 0, none⟩ = some (.int .u8 165) := hc0
  replace hcE : w.cell? ⟨g, l.length + 1, none⟩ = some (.int .u8 90) := hcE
  have hsm := fun wx => run_slice_mid (some ⟨g, 0, none⟩) (l.length + 2) (l.length + 2) 1 (l.length + 1) (by omega) (by omega) wx
  have hwa : winA (some (⟨g, 0, none⟩ : Addr)) (l.length + 2) 1 = some ⟨g, 1, none⟩ := by
    unfold winA; rw [if_neg (by omega), Option.map_some, Addr.add_lit]
  have hmid := midB (l := lentL l) (A := some ⟨g, 0, none⟩) (c := l.length + 2) (by rw [lentL_length]; exact hw.bs) 1 (l.length + 1) (by omega) (by rw [lentL_length]; omega)
  rw [hwa, show l.length + 1 - 1 = l.length by omega, show l.length + 2 - 1 = l.length + 1 by omega] at hsm hmid
  rw [lent_mid] at hmid
  have hsm' : ∀ wx : World, (Instr.slice 27 (.slice (some ⟨g, 0, none⟩) (l.length + 2) (l.length + 2)) (some (.int .i64 1)) (some (.int .i64 ((l.length : Int) + 1))) none).run Tryz.prog wx = .ok (.slice (some ⟨g, 1, none⟩) l.length (l.length + 1)) wx := hsm
  have hk1 := fun n => conv_bs (w := w.drewN n) (show Bs (w.drewN n) _ _ l from hmid)
  have hk2 := fun n => conv_bs (w := w.drewN n) (show Bs (w.drewN n) _ _ l from h)
  obtain ⟨A, c, rfl, -, -, -⟩ := id h
  have hi1 : (0 : Int) ≤ (l.length : Int) + 1 := by omega
  have hi2 : (l.length : Int) + 1 < (l.length : Int) + 2 := by omega
  have hq1 : ((l.length : Int) + 2 == (l.length : Int) + 2) = true := by simp
  clear hw h hcl hsm hwa hmid e0 eE
  go_enter Tryz.func32, Tryz.ntmps32
  go_wp2_with fail
  go_quiet (fail)
  go_wp2
  go_ret
  exact ⟨rfl, (Ab.refl w).drewN _⟩
theorem lent_bs {g : Nat} (hw : Ob w base (.slice (some ⟨g, 0, none⟩) (l.length + 2) (l.length + 2)) (lentL l)) : Bs w w.heap.size (.slice (some ⟨g, 1, none⟩) l.length (l.length + 1)) l := by
  have hwa : winA (some (⟨g, 0, none⟩ : Addr)) (l.length + 2) 1 = some ⟨g, 1, none⟩ := by
    unfold winA; rw [if_neg (by omega), Option.map_some, Addr.add_lit]
  have hmid := midB (l := lentL l) (A := some ⟨g, 0, none⟩) (c := l.length + 2) (by rw [lentL_length]; exact hw.bs) 1 (l.length + 1) (by omega) (by rw [lentL_length]; omega)
  rw [hwa, show l.length + 1 - 1 = l.length by omega, show l.length + 2 - 1 = l.length + 1 by omega, lent_mid] at hmid
  exact hmid
end Go.Proofs.YtolchbjcdlncgaaGreat.Dg

/- The pair: one side turns; do. -/
namespace Go.Proofs.YtolchbjcdlncgaaGreat.Dg
open Go.RowKit
variable {W w w' : World} {gp g gj gk g2 torn torn' B C base : Nat} {v v' v2 row row' u y pj pk : Value} {rs rs' : List (List UInt8)} {d r d' r' : Dst} {l m : List UInt8}
attribute [local go_sem ↓] Go.wp_at_zero Go.wp_at_succ
/-- The pair, its sides apart. -/
structure Pv (W w : World) (gp g gj gk g2 : Nat) (row v v2 : Value) (d r : Dst) (torn torn' : Nat) (rs rs' : List (List UInt8)) : Prop where
  jt : Jt w W.heap.size gj g row torn v d rs
  rt : Rt w W.heap.size gk g2 v2 r torn' rs'
  apart : ∀ k, JAll gj g row v k → ¬ RAll gk g2 v2 k
  blk : Bk w gp 47 #[.pointer (some ⟨g, 0, none⟩), .pointer (some ⟨gj, 0, none⟩), .pointer (some ⟨g2, 0, none⟩), .pointer (some ⟨gk, 0, none⟩)]
  le : W.heap.size ≤ gp
  ab : Ab W w
theorem Pw.pv (h : Pw W w gp g gj gk g2 row v v2 d r torn torn' rs) : Pv W w gp g gj gk g2 row v v2 d r torn torn' rs rs := ⟨h.jt, h.rt, h.apart, h.blk, h.le, h.ab⟩
theorem Pv.pw (h : Pv W w gp g gj gk g2 row v v2 d r torn torn' rs rs) (al : Al d r) : Pw W w gp g gj gk g2 row v v2 d r torn torn' rs := ⟨h.jt, h.rt, al, h.apart, h.blk, h.le, h.ab⟩
theorem Pv.still (h : Pv W w gp g gj gk g2 row v v2 d r torn torn' rs rs') (k : Ab w w') : Pv W w' gp g gj gk g2 row v v2 d r torn torn' rs rs' :=
  ⟨h.jt.ab k, h.rt.ab k, h.apart, k.bk h.blk, h.le, h.ab.trans k⟩
theorem RAll.lt (h : Rt w B gk g2 v2 r torn rs) {k : Nat} (hk : RAll gk g2 v2 k) : k < w.heap.size := by
  rcases hk with hk | rfl
  · exact Own.lt_rk h.rj.rk hk
  · exact h.rj.blk.lt
theorem Pv.turn {t3 : Nat} {rs3 : List (List UInt8)} (h : Pv W w gp g gj gk g2 row v v2 d r torn torn' rs rs') (hj : Jt w' W.heap.size gj g row' t3 v' d' rs3) (ht : JTurn gj g row v row' v' w w') :
    Pv W w' gp g gj gk g2 row' v' v2 d' r t3 torn' rs3 rs' :=
  ⟨hj, h.rt.mv ht.1 (fun k hk e => h.apart k e hk), fun k hk e => by
    rcases ht.2 k hk with h2 | h2
    · exact h.apart k h2 e
    · have := RAll.lt h.rt e; omega, ht.1.bk h.blk (jall_pair h.jt h.blk), h.le, ht.ab h.jt h.ab (Nat.le_refl _)⟩
theorem Pv.turn2 {t3 : Nat} {rs3 : List (List UInt8)} (h : Pv W w gp g gj gk g2 row v v2 d r torn torn' rs rs') (hr : Rt w' W.heap.size gk g2 v' r' t3 rs3) (ht : Turn g2 v2 v' w w') :
    Pv W w' gp g gj gk g2 row v v' d r' torn t3 rs rs3 :=
  ⟨h.jt.mv ht.1 (fun k hk e => h.apart k hk (.inl e)), hr, fun k hk e => by
    rcases e with (e | e) | e
    · exact h.apart k hk (.inl (.inl e))
    · rcases ht.2 k e with h2 | h2
      · exact h.apart k hk (.inl (.inr h2))
      · have := (h.jt.all_ge hk).2; omega
    · exact h.apart k hk (.inr e), ht.1.bk h.blk (fun e => rall_pair h.rt h.blk (.inl e)), h.le, ht.1.ab h.ab (fun k hk => by
    rcases hk with rfl | hk
    · exact h.rt.rj.rk.2.2.1
    · exact (h.rt.rj.rk.2.1.blk k hk).1)⟩
/-- The document's disk turns, its places and bytes stay. -/
theorem Rt.disk {v3 : Value} {r3 : Dst} (h : Rt w base gk g2 v2 r torn rs) (hd : Rk w' base g2 v3 r3) (ht : Turn g2 v2 v3 w w') (hne : ¬ Own g2 v2 gk) (hby : r3.bytes = r.bytes) : Rt w' base gk g2 v3 r3 torn rs :=
  ⟨⟨hd, ht.1.bk h.rj.blk hne, h.rj.le⟩, by rw [hby]; exact h.bytes, h.small⟩
theorem Rt.gk_apart (h : Rt w base gk g2 v2 r torn rs) : ¬ Own g2 v2 gk := fun e => by
  rcases e with e | e
  · exact absurd (Bk.inj h.rj.blk (e ▸ h.rj.rk.1)) (by decide)
  · exact absurd (h.rj.rk.2.1.type e h.rj.blk) (by decide)
/-- What do does. -/
def DoPost (W : World) (gp g g2 : Nat) (d : Dst) (n : Nat) (e : Ending) (w' : World) : Prop :=
  e = .returned (.bool true) ∧ ∃ gj gk row v v2 d' r' t t' rs, Pw W w' gp g gj gk g2 row v v2 d' r' t t' rs ∧ d'.fin ≤ d.fin + 8 + n
/-- The operation in its box, and the pair. -/
structure Bx (W w : World) (b : Nat) (a c z : Value) (gp g gj gk g2 : Nat) (row v v2 : Value) (d r : Dst) (torn torn' : Nat) (rs rs' : List (List UInt8)) : Prop where
  pv : Pv W w gp g gj gk g2 row v v2 d r torn torn' rs rs'
  bk : Bk w b 29 #[a, c, z]
  le : W.heap.size ≤ b
  lt : ∀ k, JAll gj g row v k → k ≠ b
  lt2 : ∀ k, RAll gk g2 v2 k → k ≠ b
theorem Bx.made {a c z : Value} (h : Pw W w gp g gj gk g2 row v v2 d r torn torn' rs) : Bx W (w.alloc (.cells #[a, c, z] 29)) w.heap.size a c z gp g gj gk g2 row v v2 d r torn torn' rs rs :=
  ⟨(h.still ((Ab.refl w).alloc _)).pv, Bk.made w _ _, h.ab.size, fun k hk e => by have := (h.jt.all_ge hk).2; omega, fun k hk e => by have := RAll.lt h.rt hk; omega⟩
section
variable {b : Nat} {a c z : Value}
theorem Bx.still (h : Bx W w b a c z gp g gj gk g2 row v v2 d r torn torn' rs rs') (k : Ab w w') : Bx W w' b a c z gp g gj gk g2 row v v2 d r torn torn' rs rs' :=
  ⟨h.pv.still k, k.bk h.bk, h.le, h.lt, h.lt2⟩
theorem Bx.turn {t3 : Nat} {rs3 : List (List UInt8)} (h : Bx W w b a c z gp g gj gk g2 row v v2 d r torn torn' rs rs') (hj : Jt w' W.heap.size gj g row' t3 v' d' rs3) (ht : JTurn gj g row v row' v' w w') :
    Bx W w' b a c z gp g gj gk g2 row' v' v2 d' r t3 torn' rs3 rs' :=
  ⟨h.pv.turn hj ht, ht.1.bk h.bk (fun e => h.lt _ e rfl), h.le, fun k hk e => by
    rcases ht.2 k hk with h2 | h2
    · exact h.lt k h2 e
    · have := h.bk.lt; omega, h.lt2⟩
theorem Bx.turn2 {t3 : Nat} {rs3 : List (List UInt8)} (h : Bx W w b a c z gp g gj gk g2 row v v2 d r torn torn' rs rs') (hr : Rt w' W.heap.size gk g2 v' r' t3 rs3) (ht : Turn g2 v2 v' w w') :
    Bx W w' b a c z gp g gj gk g2 row v v' d r' torn t3 rs rs3 :=
  ⟨h.pv.turn2 hr ht, ht.1.bk h.bk (fun e => h.lt2 _ (.inl e) rfl), h.le, h.lt, fun k hk e => by
    rcases hk with (hk | hk) | hk
    · exact h.lt2 k (.inl (.inl hk)) e
    · rcases ht.2 k hk with h2 | h2
      · exact h.lt2 k (.inl (.inr h2)) e
      · have := h.bk.lt; omega
    · exact h.lt2 k (.inr hk) e⟩
/-- What is read of the pair and the box. -/
def BxC (b : Nat) (a c z : Value) (gp g gj gk g2 : Nat) (w : World) : Prop :=
  w.cell? ⟨gp, 0, none⟩ = some (.pointer (some ⟨g, 0, none⟩)) ∧ w.cell? ⟨gp, 1, none⟩ = some (.pointer (some ⟨gj, 0, none⟩)) ∧ w.cell? ⟨gp, 2, none⟩ = some (.pointer (some ⟨g2, 0, none⟩)) ∧ w.cell? ⟨gp, 3, none⟩ = some (.pointer (some ⟨gk, 0, none⟩)) ∧
  w.cell? ⟨gk, 0, none⟩ = some (.pointer (some ⟨g2, 0, none⟩)) ∧ w.cell? ⟨b, 0, none⟩ = some a ∧ w.cell? ⟨b, 1, none⟩ = some c ∧ w.cell? ⟨b, 2, none⟩ = some z
theorem Bx.cells (h : Bx W w b a c z gp g gj gk g2 row v v2 d r torn torn' rs rs') : BxC b a c z gp g gj gk g2 w :=
  ⟨h.pv.blk.cell rfl, h.pv.blk.cell rfl, h.pv.blk.cell rfl, h.pv.blk.cell rfl, h.pv.rt.rj.ptr, h.bk.cell rfl, h.bk.cell rfl, h.bk.cell rfl⟩
end
set_option maxRecDepth 100000 in
set_option maxHeartbeats 1000000 in
theorem do_arm {k n : Int} {z : Value} (h : Pw W w gp g gj gk g2 row v v2 d r torn torn' rs) (hk : k.tmod 8 = 7) (hn : n ≤ 9223372036854775807) (hf : d.fin ≤ 1099511627776) (N : Nat) :
    Calls Tryz.prog 8 #[.pointer (some ⟨gp, 0, none⟩), .agg #[.int .u8 k, .int .i64 n, z]] w (DoPost W gp g g2 d N) := by
  have h1 : Bx W _ _ _ _ _ _ _ _ _ _ _ _ _ _ _ _ _ _ _ := Bx.made (a := .int .u8 k) (c := .int .i64 n) (z := z) h
  obtain ⟨s0, s1, s2, s3, s4, b0, b1, b2⟩ := h1.cells
  have HP := Lib.hid h1
  have HA := Lib.hid h.al
  clear h h1
  go_enter Tryz.func8, Tryz.ntmps8
  go_wp2_with fail
  generalize w.alloc (.cells #[.int .u8 k, .int .i64 n, z] 29) = w1 at *
  go_region_held3 (fun wx => wx.cell? ⟨gp, 0, none⟩ = some (.pointer (some ⟨g, 0, none⟩)) ∧ wx.cell? ⟨w.heap.size, 1, none⟩ = some (.int .i64 n)) (first | exact ⟨s0, b1⟩ | exact ⟨t0, e1⟩) (first | (go_at_call 38; (with_reducible refine (Arm_any _ (HP.out.still (Ab.refl w1).drew).pv.jt.dk n hn).mono ?_); rintro e w2 ⟨rfl, hd2, ht2⟩; (have h2 := (HP.out.still (Ab.refl w1).drew).turn ((HP.out.still (Ab.refl w1).drew).pv.jt.disk hd2 ht2 rfl rfl) (JTurn.disk ht2)); (obtain ⟨t0, t1, t2, t3, t4, e0, e1, e2⟩ := h2.cells); (have H2 := Lib.hid h2); clear h2 hd2 ht2))
  clear s0 s1 s2 s3 s4 b0 b1 b2
  go_wp2_with fail
  go_region_held3 (fun wx => wx.cell? ⟨gp, 2, none⟩ = some (.pointer (some ⟨g2, 0, none⟩)) ∧ wx.cell? ⟨w.heap.size, 1, none⟩ = some (.int .i64 n)) (first | exact ⟨t2, e1⟩ | exact ⟨x2, y1⟩) (first | (go_at_call 39; (with_reducible refine (rarm_any _ (H2.out.still (Ab.refl w2).drew).pv.rt.rj.rk n).mono ?_); rintro e w3 ⟨rfl, hd3, ht3⟩; (have h3 := (H2.out.still (Ab.refl w2).drew).turn2 ((H2.out.still (Ab.refl w2).drew).pv.rt.disk hd3 ht3 (H2.out.still (Ab.refl w2).drew).pv.rt.gk_apart rfl) ht3); (obtain ⟨x0, x1, x2, x3, x4, y0, y1, y2⟩ := h3.cells); (have H3 := Lib.hid (h3.pv.pw (HA.out.arm hf n))); clear h3 hd3 ht3))
  go_wp2
  go_ret
  exact ⟨rfl, _, _, _, _, _, _, _, _, _, _, H3.out, by show d.fin ≤ _; omega⟩
end Go.Proofs.YtolchbjcdlncgaaGreat.Dg

/- The pair: do: sync, crash. -/
namespace Go.Proofs.YtolchbjcdlncgaaGreat.Dg
open Go.RowKit
variable {W w w' : World} {gp g gj gk g2 torn torn' B C base b : Nat} {v v' v2 row row' u y pj pk a c z : Value} {rs rs' : List (List UInt8)} {d r d' r' : Dst} {l m : List UInt8}
attribute [local go_sem ↓] Go.wp_at_zero Go.wp_at_succ
theorem sync_keeps (d : Dst) : d.sync.base = d.base ∧ d.sync.bytes = d.bytes ∧ d.sync.fin = d.fin := by
  unfold Dst.sync; cases d.cold <;> exact ⟨rfl, rfl, rfl⟩
set_option maxRecDepth 100000 in
set_option maxHeartbeats 1000000 in
theorem do_sync {k n : Int} {z : Value} (h : Pw W w gp g gj gk g2 row v v2 d r torn torn' rs) (hk : k.tmod 8 = 3) (hf : d.fin ≤ 1099511627776) (N : Nat) :
    Calls Tryz.prog 8 #[.pointer (some ⟨gp, 0, none⟩), .agg #[.int .u8 k, .int .i64 n, z]] w (DoPost W gp g g2 d N) := by
  have h1 : Bx W _ _ _ _ _ _ _ _ _ _ _ _ _ _ _ _ _ _ _ := Bx.made (a := .int .u8 k) (c := .int .i64 n) (z := z) h
  obtain ⟨s0, s1, s2, s3, s4, b0, b1, b2⟩ := h1.cells
  have HP := Lib.hid h1
  have HA := Lib.hid h.al
  clear h h1
  go_enter Tryz.func8, Tryz.ntmps8
  go_wp2_with fail
  generalize w.alloc (.cells #[.int .u8 k, .int .i64 n, z] 29) = w1 at *
  refine (rsync_any w1 HP.out.pv.rt.rj.rk).mono ?_
  rintro e w2 ⟨rfl, hd2, ht2⟩
  have h2 := HP.out.turn2 (HP.out.pv.rt.disk hd2 ht2 HP.out.pv.rt.gk_apart (sync_keeps r).2.1) ht2
  obtain ⟨t0, t1, t2, t3, t4, e0, e1, e2⟩ := h2.cells
  have H2 := Lib.hid h2
  clear h2 hd2 ht2 s0 s1 s2 s3 s4 b0 b1 b2
  go_wp2_with fail
  refine (JSync_any w2 H2.out.pv.jt).mono ?_
  rintro e w3 ⟨rfl, hj3, ht3⟩
  have H3 := Lib.hid ((H2.out.turn hj3 ht3).pv.pw (HA.out.sync hf))
  clear hj3 ht3
  go_wp2_with (go_at_call 12; (with_reducible refine (jnum_any 0 w3).mono ?_); rintro e wz ⟨rfl, rfl⟩)
  go_ret
  exact ⟨rfl, _, _, _, _, _, _, _, _, _, _, H3.out, by rw [(sync_keeps d).2.2]; omega⟩
/-- The operation in its box, and the pair's disks. -/
structure Bp (W w : World) (b : Nat) (a c z : Value) (gp g g2 : Nat) (v v2 : Value) (d r : Dst) (pj pk : Value) : Prop where
  dk : Dk w W.heap.size g v d
  rk : Rk w W.heap.size g2 v2 r
  apart : ∀ k, Own g v k → ¬ Own g2 v2 k
  blk : Bk w gp 47 #[.pointer (some ⟨g, 0, none⟩), pj, .pointer (some ⟨g2, 0, none⟩), pk]
  le : W.heap.size ≤ gp
  ab : Ab W w
  bk : Bk w b 29 #[a, c, z]
  lt : ∀ k, Own g v k → k ≠ b
  lt2 : ∀ k, Own g2 v2 k → k ≠ b
theorem Bx.bp (h : Bx W w b a c z gp g gj gk g2 row v v2 d r torn torn' rs rs') : Bp W w b a c z gp g g2 v v2 d r (.pointer (some ⟨gj, 0, none⟩)) (.pointer (some ⟨gk, 0, none⟩)) :=
  ⟨h.pv.jt.dk, h.pv.rt.rj.rk, fun k hk e => h.pv.apart k (.inl hk) (.inl e), h.pv.blk, h.pv.le, h.pv.ab, h.bk, fun k hk => h.lt k (.inl hk), fun k hk => h.lt2 k (.inl hk)⟩
theorem own_pair (hd : Dk w B g v d) (hb : Bk w gp 47 #[u, pj, y, pk]) : ¬ Own g v gp := fun e => by
  rcases e with e | e
  · exact absurd (Bk.inj hb (e ▸ hd.1)) (by decide)
  · rcases hd.2.1 with ⟨rfl, _⟩ | ⟨g', cap, pre, post, rfl, _, hg, _⟩
    · simp [Value.ownBlock] at e
    · have : g' = gp := by simpa [Value.ownBlock] using e
      subst this
      exact absurd (Bk.inj hb hg) (by decide)
theorem own_pair2 (hd : Rk w B g v d) (hb : Bk w gp 47 #[u, pj, y, pk]) : ¬ Own g v gp := fun e => by
  rcases e with e | e
  · exact absurd (Bk.inj hb (e ▸ hd.1)) (by decide)
  · exact absurd (hd.2.1.type e hb) (by decide)
theorem Bp.turn (h : Bp W w b a c z gp g g2 v v2 d r pj pk) (hd : Dk w' W.heap.size g v' d') (ht : Turn g v v' w w') : Bp W w' b a c z gp g g2 v' v2 d' r pj pk :=
  ⟨hd, h.rk.mv ht.1 (fun k hk e => h.apart k e hk), fun k hk e => by
    rcases hk with hk | hk
    · exact h.apart k (.inl hk) e
    · rcases ht.2 k hk with h2 | h2
      · exact h.apart k (.inr h2) e
      · have := Own.lt_rk h.rk e; omega, ht.1.bk h.blk (own_pair h.dk h.blk), h.le, ht.ab h.dk h.ab (Nat.le_refl _), ht.1.bk h.bk (fun e => h.lt _ e rfl), fun k hk e => by
    rcases hk with hk | hk
    · exact h.lt k (.inl hk) e
    · rcases ht.2 k hk with h2 | h2
      · exact h.lt k (.inr h2) e
      · have := h.bk.lt; omega, h.lt2⟩
theorem Bp.turn2 (h : Bp W w b a c z gp g g2 v v2 d r pj pk) (hd : Rk w' W.heap.size g2 v' r') (ht : Turn g2 v2 v' w w') : Bp W w' b a c z gp g g2 v v' d r' pj pk :=
  ⟨h.dk.mv ht.1 (fun k hk e => h.apart k hk e), hd, fun k hk e => by
    rcases e with e | e
    · exact h.apart k hk (.inl e)
    · rcases ht.2 k e with h2 | h2
      · exact h.apart k hk (.inr h2)
      · have := Own.lt_dk h.dk hk; omega, ht.1.bk h.blk (own_pair2 h.rk h.blk), h.le, ht.1.ab h.ab (fun k hk => by
    rcases hk with rfl | hk
    · exact h.rk.2.2.1
    · exact (h.rk.2.1.blk k hk).1), ht.1.bk h.bk (fun e => h.lt2 _ e rfl), h.lt, fun k hk e => by
    rcases hk with hk | hk
    · exact h.lt2 k (.inl hk) e
    · rcases ht.2 k hk with h2 | h2
      · exact h.lt2 k (.inr h2) e
      · have := h.bk.lt; omega⟩
theorem Bp.still (h : Bp W w b a c z gp g g2 v v2 d r pj pk) (k : Ab w w') : Bp W w' b a c z gp g g2 v v2 d r pj pk :=
  ⟨h.dk.ab k, h.rk.ab k, h.apart, k.bk h.blk, h.le, h.ab.trans k, k.bk h.bk, h.lt, h.lt2⟩
theorem Bp.pd (h : Bp W w b a c z gp g g2 v v2 d r pj pk) (al : Al d r) : Pd W w gp g g2 v v2 d r pj pk := ⟨h.dk, h.rk, al, h.apart, h.blk, h.le, h.ab⟩
theorem Bp.cells (h : Bp W w b a c z gp g g2 v v2 d r pj pk) : w.cell? ⟨gp, 0, none⟩ = some (.pointer (some ⟨g, 0, none⟩)) ∧ w.cell? ⟨gp, 2, none⟩ = some (.pointer (some ⟨g2, 0, none⟩)) ∧ w.cell? ⟨b, 1, none⟩ = some c :=
  ⟨h.blk.cell rfl, h.blk.cell rfl, h.bk.cell rfl⟩
theorem crash_fin (d : Dst) (n : Int) : (opened (d.crash n)).fin ≤ d.fin := by
  show d.base + ((d.bytes.take _).take _).length ≤ d.base + d.bytes.length
  rw [List.length_take, List.length_take]
  omega
set_option maxRecDepth 100000 in
set_option maxHeartbeats 1000000 in
theorem do_crash {k n : Int} {z : Value} (h : Pw W w gp g gj gk g2 row v v2 d r torn torn' rs) (hk : k.tmod 8 = 6) (hn : n ≤ 9223372036854775807) (hf : d.fin ≤ 1099511627776) (N : Nat) :
    Calls Tryz.prog 8 #[.pointer (some ⟨gp, 0, none⟩), .agg #[.int .u8 k, .int .i64 n, z]] w (DoPost W gp g g2 d N) := by
  have h1 : Bx W _ _ _ _ _ _ _ _ _ _ _ _ _ _ _ _ _ _ _ := Bx.made (a := .int .u8 k) (c := .int .i64 n) (z := z) h
  have h3 := h1.bp
  obtain ⟨s0, s2, b1⟩ := h3.cells
  have b0 := h1.bk.cell (i := 0) rfl
  have HP := Lib.hid h3
  have HA := Lib.hid h.al
  clear h h1 h3
  go_enter Tryz.func8, Tryz.ntmps8
  go_wp2_with fail
  generalize w.alloc (.cells #[.int .u8 k, .int .i64 n, z] 29) = w1 at *
  go_region_held3 (fun wx => wx.cell? ⟨gp, 0, none⟩ = some (.pointer (some ⟨g, 0, none⟩)) ∧ wx.cell? ⟨w.heap.size, 1, none⟩ = some (.int .i64 n)) (first | exact ⟨s0, b1⟩ | exact ⟨t0, e1⟩) (first | (go_at_call 29; (with_reducible refine (Crash_any _ (HP.out.still (Ab.refl w1).drew).dk n hn).mono ?_); rintro e w2 ⟨rfl, v2', hd2, ht2⟩; (have h2 := (HP.out.still (Ab.refl w1).drew).turn hd2 ht2); (obtain ⟨t0, t2, e1⟩ := h2.cells); (have H2 := Lib.hid h2); clear h2 hd2 ht2))
  clear s0 s2 b0 b1
  go_wp2_with fail
  go_region_held3 (fun wx => wx.cell? ⟨gp, 2, none⟩ = some (.pointer (some ⟨g2, 0, none⟩)) ∧ wx.cell? ⟨w.heap.size, 1, none⟩ = some (.int .i64 n)) (first | exact ⟨t2, e1⟩ | exact ⟨x2, y1⟩) (first | (go_at_call 37; (with_reducible refine (rcrash_any _ (H2.out.still (Ab.refl w2).drew).rk n hn (H2.out.still (Ab.refl w2).drew).ab.size).mono ?_); rintro e w3 ⟨rfl, v3', hd3, ht3⟩; (have h3 := (H2.out.still (Ab.refl w2).drew).turn2 hd3 ht3); (obtain ⟨x0, x2, y1⟩ := h3.cells); (have H3 := Lib.hid (h3.pd (HA.out.crash hf n))); clear h3 hd3 ht3))
  go_wp2_with fail
  refine (open_any H3.out rfl rfl).mono ?_
  rintro e w4 ⟨rfl, gj', gk', row', v4, v5, h4⟩
  have H4 := Lib.hid h4
  clear h4
  go_wp2_with fail
  go_ret
  exact ⟨rfl, _, _, _, _, _, _, _, _, _, _, H4.out, by have := crash_fin d n; omega⟩
end Go.Proofs.YtolchbjcdlncgaaGreat.Dg

/- The pair: do: read. -/
namespace Go.Proofs.YtolchbjcdlncgaaGreat.Dg
open Go.RowKit
variable {W w w' : World} {gp g gj gk g2 torn torn' B C base b : Nat} {v v' v2 row row' u y pj pk a c z : Value} {rs rs' : List (List UInt8)} {d r d' r' : Dst} {l m : List UInt8}
attribute [local go_sem ↓] Go.wp_at_zero Go.wp_at_succ
/-- What Read answers. -/
def RdOk (w : World) (B a : Nat) (rs : List (List UInt8)) (y : Int) (A : Option Addr) (n c : Nat) (E : Int) : Prop :=
  (∃ k, k < rs.length ∧ y = ((plc a rs k : Nat) : Int) ∧ E = 0 ∧ Ob w B (.slice A n c) (rs.getD k [])) ∨ ((∀ k, k < rs.length → ((plc a rs k : Nat) : Int) ≠ y) ∧ E = 2 ∧ A = none ∧ n = 0 ∧ c = 0)
theorem JReadPost.one {a : Nat} {y : Int} {e : Ending} (h : JReadPost w a rs y e w') : Ab w w' ∧ ∃ A n c E, e = .returned (.tuple #[.slice A n c, .int .i64 E]) ∧ RdOk w' w.heap.size a rs y A n c E := by
  obtain ⟨ha, ⟨k, hk, hy, A, n, c, -, he, ho⟩ | ⟨hn, he⟩⟩ := h
  · exact ⟨ha, A, n, c, 0, he, .inl ⟨k, hk, hy, rfl, ho⟩⟩
  · exact ⟨ha, none, 0, 0, 2, he, .inr ⟨hn, rfl, rfl, rfl, rfl⟩⟩
theorem RdOk.ab {a : Nat} {y : Int} {A : Option Addr} {n c : Nat} {E : Int} (h : RdOk w B a rs y A n c E) (k : Ab w w') : RdOk w' B a rs y A n c E := by
  rcases h with ⟨i, hi, hy, he, ho⟩ | h
  · exact .inl ⟨i, hi, hy, he, ho.ab k⟩
  · exact .inr h
theorem RdOk.both {a : Nat} {y : Int} {A A' : Option Addr} {n c n' c' : Nat} {E E' : Int} (h : RdOk w B a rs y A n c E) (k : RdOk w C a rs y A' n' c' E') :
    E = E' ∧ ∃ l, Bs w w.heap.size (.slice A n c) l ∧ Bs w w.heap.size (.slice A' n' c') l := by
  have hnil : Bs w w.heap.size (.slice none 0 0) [] := ⟨none, 0, rfl, by simp, by omega, fun h => absurd rfl h⟩
  rcases h with ⟨i, hi, hy, rfl, ho⟩ | ⟨hn, rfl, rfl, rfl, rfl⟩
  · rcases k with ⟨i', hi', hy', rfl, ho'⟩ | ⟨hn, -⟩
    · have : i' = i := plc_inj a rs (Nat.le_of_lt hi') (Nat.le_of_lt hi) (by omega)
      subst this
      exact ⟨rfl, _, ho.bs, ho'.bs⟩
    · exact absurd hy.symm (hn i hi)
  · rcases k with ⟨i', hi', hy', rfl, ho'⟩ | ⟨-, rfl, rfl, rfl, rfl⟩
    · exact absurd hy'.symm (hn i' hi')
    · exact ⟨rfl, [], hnil, hnil⟩
set_option maxRecDepth 100000 in
set_option maxHeartbeats 1000000 in
theorem do_read {k n : Int} {z : Value} (h : Pw W w gp g gj gk g2 row v v2 d r torn torn' rs) (hk : k.tmod 8 = 4) (N : Nat) :
    Calls Tryz.prog 8 #[.pointer (some ⟨gp, 0, none⟩), .agg #[.int .u8 k, .int .i64 n, z]] w (DoPost W gp g g2 d N) := by
  have h1 : Bx W _ _ _ _ _ _ _ _ _ _ _ _ _ _ _ _ _ _ _ := Bx.made (a := .int .u8 k) (c := .int .i64 n) (z := z) h
  obtain ⟨s0, s1, s2, s3, s4, b0, b1, b2⟩ := h1.cells
  have HP := Lib.hid h1
  have HA := Lib.hid h.al
  clear h h1
  go_enter Tryz.func8, Tryz.ntmps8
  go_wp2_with fail
  generalize w.alloc (.cells #[.int .u8 k, .int .i64 n, z] 29) = w1 at *
  go_region_held3 (fun wx => wx.cell? ⟨gp, 1, none⟩ = some (.pointer (some ⟨gj, 0, none⟩)) ∧ wx.cell? ⟨w.heap.size, 1, none⟩ = some (.int .i64 n)) (first | exact ⟨s1, b1⟩ | exact ⟨t1, e1⟩) (first | (go_at_call 21; (with_reducible refine (JRead_any _ (HP.out.still (Ab.refl w1).drew).pv.jt n).mono ?_); rintro e w2 hp2; (obtain ⟨ha2, A2, n2, c2, E2, rfl, ho2⟩ := hp2.one); (have h2 := (HP.out.still (Ab.refl w1).drew).still ha2); (obtain ⟨t0, t1, t2, t3, t4, e0, e1, e2⟩ := h2.cells); (have H2 := Lib.hid (And.intro h2 ho2)); clear h2 ha2 ho2 hp2))
  clear s0 s1 s2 s3 s4 b0 b1 b2
  go_wp2_with fail
  go_region_held3 (fun wx => wx.cell? ⟨gp, 3, none⟩ = some (.pointer (some ⟨gk, 0, none⟩)) ∧ wx.cell? ⟨w.heap.size, 1, none⟩ = some (.int .i64 n)) (first | exact ⟨t3, e1⟩ | exact ⟨x3, y1⟩) (first | (go_at_call 33; (with_reducible refine (RRead_any _ (H2.out.1.still (Ab.refl w2).drew).pv.rt n).mono ?_); rintro e w3 hp3; (obtain ⟨ha3, A3, n3, c3, E3, rfl, ho3⟩ := hp3.one); (have h3 := (H2.out.1.still (Ab.refl w2).drew).still ha3); (have ho23 := (H2.out.2.ab (Ab.refl w2).drew).ab ha3); (obtain ⟨x0, x1, x2, x3, x4, y0, y1, y2⟩ := h3.cells); (have H3 := Lib.hid (And.intro h3 (And.intro ho23 ho3))); clear h3 ha3 ho3 hp3 ho23))
  have hob := H3.out.2.2
  rw [HA.out.same.1] at hob
  obtain ⟨rfl, lx, hx1, hx2⟩ := H3.out.2.1.both hob
  have HX := Lib.hid (And.intro hx1 hx2)
  clear hob hx1 hx2
  go_wp2_with (first | (go_at_call 34; (with_reducible refine (jsame_any w3 HX.out.1 HX.out.2).mono ?_); rintro e wz ⟨rfl, rfl⟩; rw [beq_self_eq_true]) | (go_at_call 12; (with_reducible refine (jnum_any E2 w3).mono ?_); rintro e wz ⟨rfl, rfl⟩))
  go_ret
  exact ⟨rfl, _, _, _, _, _, _, _, _, _, _, H3.out.1.pv.pw HA.out, by omega⟩
end Go.Proofs.YtolchbjcdlncgaaGreat.Dg

/- The pair: do: append. -/
namespace Go.Proofs.YtolchbjcdlncgaaGreat.Dg
open Go.RowKit
variable {W w w' : World} {gp g gj gk g2 torn torn' B C base b : Nat} {v v' v2 row row' u y pj pk a c z : Value} {rs rs' : List (List UInt8)} {d r d' r' : Dst} {l m : List UInt8}
attribute [local go_sem ↓] Go.wp_at_zero Go.wp_at_succ
theorem Al.appJ (h : Al d r) (l : List UInt8) : Dg.appJ r l = Dg.appJ d l ∧ appJE r l = appJE d l ∧ r.fin = d.fin ∧ Al (bif Dg.appJ d l then { d with bytes := d.bytes ++ frameL l } else d) (bif Dg.appJ d l then { r with bytes := r.bytes ++ frameL l } else r) := by
  obtain ⟨L, rfl, hL⟩ := h
  refine ⟨rfl, rfl, rfl, ?_⟩
  cases Dg.appJ d l
  · exact ⟨L, rfl, hL⟩
  · exact ⟨L, rfl, hL⟩
theorem Rt.of (h : Rj w base gk g2 v2 r torn) (hb : r.bytes = d.bytes) (hj : Jt w' C gj g row torn' v d rs) : Rt w base gk g2 v2 r torn rs := ⟨h, hb.trans hj.bytes, hj.small⟩
theorem app_fin (d : Dst) (l : List UInt8) : (bif Dg.appJ d l then { d with bytes := d.bytes ++ frameL l } else d : Dst).fin ≤ d.fin + 8 + l.length := by
  cases Dg.appJ d l
  · show d.fin ≤ _; omega
  · show d.base + (d.bytes ++ frameL l).length ≤ d.base + d.bytes.length + 8 + l.length
    rw [List.length_append, frameL_length]; omega
theorem row_kept {S : Nat → Prop} (hm : Mv S w w') (ho : Ob w base v l) (hs : ∀ k, S k → k < base) : Ob w' base v l :=
  hm.ob ho fun k hk e => by
    have h1 := (ho.blk k hk).1
    have h2 := hs k e
    omega
set_option maxRecDepth 100000 in
set_option maxHeartbeats 2000000 in
theorem do_append {k n : Int} {z : Value} (h : Pw W w gp g gj gk g2 row v v2 d r torn torn' rs) (hk : k.tmod 8 = 0 ∨ k.tmod 8 = 1 ∨ k.tmod 8 = 2) (hz : Bs W W.heap.size z l) (hl : l.length ≤ 100000000000000) (hf : d.fin ≤ 1099511627776) :
    Calls Tryz.prog 8 #[.pointer (some ⟨gp, 0, none⟩), .agg #[.int .u8 k, .int .i64 n, z]] w (DoPost W gp g g2 d l.length) := by
  have h1 : Bx W _ _ _ _ _ _ _ _ _ _ _ _ _ _ _ _ _ _ _ := Bx.made (a := .int .u8 k) (c := .int .i64 n) (z := z) h
  obtain ⟨s0, s1, s2, s3, s4, b0, b1, b2⟩ := h1.cells
  have HP := Lib.hid h1
  have HA := Lib.hid h.al
  have HZ := Lib.hid hz
  clear h h1 hz
  have HL := Lib.hid (And.intro hl hf)
  clear hl hf
  go_enter Tryz.func8, Tryz.ntmps8
  rcases hk with hk | hk | hk
  all_goals go_wp2_with fail
  all_goals generalize w.alloc (.cells #[.int .u8 k, .int .i64 n, z] 29) = w1 at *
  all_goals refine (lend_any w1 (HZ.out.ab HP.out.pv.ab (Nat.le_refl _) |>.more HP.out.pv.ab.size) (by have := HL.out.1; omega)).mono ?_
  all_goals rintro e w2 ⟨g5, rfl, ho2, ha2⟩
  all_goals have h2 := HP.out.still ha2
  all_goals obtain ⟨t0, t1, t2, t3, t4, e0, e1, e2⟩ := h2.cells
  all_goals have H2 := Lib.hid (And.intro h2 ho2)
  all_goals clear h2 ho2 ha2 s0 s1 s2 s3 s4 b0 b1 b2
  all_goals go_wp2_with fail
  all_goals refine (JAppend_any w2 H2.out.1.pv.jt (lent_bs H2.out.2) (Nat.le_refl _) H2.out.1.pv.ab.size (.inl (by have := HL.out; omega))).mono ?_
  all_goals rintro e w3 ⟨q, hq, rfl, row3, v3, d3, rs3, hj3, ht3, hd3, hr3⟩
  all_goals have h3 := H2.out.1.turn hj3 ht3
  all_goals have hob3 := row_kept ht3.1 H2.out.2 (fun k e => (HP.out.pv.jt.all_ge e).2)
  all_goals obtain ⟨x0, x1, x2, x3, x4, y0, y1, y2⟩ := h3.cells
  all_goals have H3 := Lib.hid (And.intro h3 (And.intro hob3 (And.intro hd3 (And.intro hr3 hq))))
  all_goals clear h3 hob3 hj3 ht3 hd3 hr3 hq t0 t1 t2 t3 t4 e0 e1 e2
  all_goals go_wp2_with fail
  all_goals go_region_held3 (fun wx => wx.cell? ⟨gp, 3, none⟩ = some (.pointer (some ⟨gk, 0, none⟩)) ∧ wx.cell? ⟨w.heap.size, 2, none⟩ = some z) (first | exact ⟨x3, y2⟩ | exact ⟨m3, n2⟩) (first | (go_at_call 31; (with_reducible refine (RAppend_any _ (H3.out.1.still (Ab.refl w3).drew).pv.rt.rj ((HZ.out.ab (H3.out.1.still (Ab.refl w3).drew).pv.ab (Nat.le_refl _)).more (H3.out.1.still (Ab.refl w3).drew).pv.ab.size) (H3.out.1.still (Ab.refl w3).drew).pv.ab.size (.inl (by have := HL.out; rw [(HA.out.appJ l).2.2.1]; omega))).mono ?_); rintro e w4 ⟨q', hq', rfl, v4, r4, hr4, ht4, hd4⟩; rw [(HA.out.appJ l).2.1]; (have hqq : q' = q := by rw [hq', (HA.out.appJ l).1, (HA.out.appJ l).2.2.1]; exact H3.out.2.2.2.2.symm); subst hqq; (have ha4 : Al d3 r4 := by rw [H3.out.2.2.1, hd4, (HA.out.appJ l).1]; exact (HA.out.appJ l).2.2.2); (have h4 := (H3.out.1.still (Ab.refl w3).drew).turn2 (Rt.of hr4 ha4.same.2.2.1 (H3.out.1.still (Ab.refl w3).drew).pv.jt) ht4); (have hob4 := row_kept ht4.1 (H3.out.2.1.ab (Ab.refl w3).drew) (fun k e => RAll.lt HP.out.pv.rt (.inl e))); (obtain ⟨m0, m1, m2, m3, m4, n0, n1, n2⟩ := h4.cells); (have H4 := Lib.hid (And.intro h4 (And.intro hob4 ha4))); clear h4 hob4 ha4 hr4 ht4 hd4 hq'))
  all_goals clear x0 x1 x2 x3 x4 y0 y1 y2
  all_goals go_wp2_with (first | (go_at_call 12; (with_reducible refine (jnum_any _ w4).mono ?_); rintro e wz ⟨rfl, rfl⟩) | (go_at_call 32; (with_reducible refine (kept_any w4 g5 H4.out.2.1 (HZ.out.ab H4.out.1.pv.ab (Nat.le_refl _)) (by have := HL.out.1; omega)).mono ?_); rintro e w5 ⟨rfl, ha5⟩; (have H5 := Lib.hid (H4.out.1.still ha5)); clear ha5))
  all_goals go_ret
  all_goals exact ⟨rfl, _, _, _, _, _, _, _, _, _, _, H5.out.pv.pw H4.out.2.2, by rw [H3.out.2.2.1]; exact app_fin d l⟩
end Go.Proofs.YtolchbjcdlncgaaGreat.Dg

/- The pair: do: trim. -/
namespace Go.Proofs.YtolchbjcdlncgaaGreat.Dg
open Go.RowKit
variable {W w w' : World} {gp g gj gk g2 torn torn' B C base b : Nat} {v v' v2 row row' u y pj pk a c z : Value} {rs rs' rs1 rs2 : List (List UInt8)} {d r d' r' d1 r1 : Dst} {l m : List UInt8} {at_ E E' : Int}
attribute [local go_sem ↓] Go.wp_at_zero Go.wp_at_succ
/-- What Trim makes of disk and records. -/
def TrimTo (d : Dst) (rs : List (List UInt8)) (at_ : Int) (d1 : Dst) (rs1 : List (List UInt8)) (E : Int) : Prop :=
  (∃ k, k ≤ rs.length ∧ at_ = ((plc d.base rs k : Nat) : Int) ∧ E = (d.sync.trimE at_ : Int) ∧ d1 = d.sync.trim at_ ∧ rs1 = trimRs d.sync rs at_ k) ∨ ((∀ k, k ≤ rs.length → ((plc d.base rs k : Nat) : Int) ≠ at_) ∧ E = 2 ∧ d1 = d ∧ rs1 = rs)
theorem TrimPost.one {e : Ending} (h : TrimPost w base gj g row torn v d rs at_ e w') (hj : Jt w base gj g row torn v d rs) :
    ∃ E d1 rs1 row' v', e = .returned (.int .i64 E) ∧ TrimTo d rs at_ d1 rs1 E ∧ Jt w' base gj g row' torn v' d1 rs1 ∧ JTurn gj g row v row' v' w w' := by
  rcases h with ⟨k, hk, hy, he, row', v', hj', ht⟩ | ⟨hn, he, ha⟩
  · exact ⟨_, _, _, row', v', he, .inl ⟨k, hk, hy, rfl, rfl, rfl⟩, hj', ht⟩
  · exact ⟨2, d, rs, row, v, he, .inr ⟨hn, rfl, rfl, rfl⟩, hj.ab ha, JTurn.of_ab ha⟩
theorem RTrimPost.one {e : Ending} (h : RTrimPost w base gk g2 v2 r torn rs at_ e w') (hj : Rt w base gk g2 v2 r torn rs) :
    ∃ E r1 rs1 v', e = .returned (.int .i64 E) ∧ TrimTo r rs at_ r1 rs1 E ∧ Rt w' base gk g2 v' r1 torn rs1 ∧ Turn g2 v2 v' w w' := by
  rcases h with ⟨k, hk, hy, he, v', hj', ht⟩ | ⟨hn, he, ha⟩
  · exact ⟨_, _, _, v', he, .inl ⟨k, hk, hy, rfl, rfl, rfl⟩, hj', ht⟩
  · exact ⟨2, r, rs, v2, he, .inr ⟨hn, rfl, rfl, rfl⟩, hj.ab ha, ⟨Mv.of_ab ha, fun k hk => .inl hk⟩⟩
theorem trim_fin (d : Dst) (hok : d.Ok) (y : Int) : (d.sync.trim y).fin ≤ d.fin := by
  have h1 := hok.sync.synced
  have h2 := (sync_keeps d).2.2
  rw [← h2]
  unfold Dst.trim
  cases ht : d.sync.trims y with
  | false => exact Nat.le_refl _
  | true =>
    cases d.sync.cold with
    | true => exact Nat.le_refl _
    | false =>
      have h3 : (d.sync.base : Int) ≤ y ∧ y ≤ (d.sync.synced : Int) := of_decide_eq_true ht
      show y.toNat + (d.sync.bytes.drop (y.toNat - d.sync.base)).length ≤ d.sync.fin
      rw [List.length_drop]
      unfold Dst.fin at h1 ⊢
      omega
theorem idx_of (n : Int) (M : Nat) (h0 : 0 < M) (hM : M ≤ 8388608) : ∃ i : Nat, i < M ∧ RowKit.wrap64 ((IntKind.u64.wrap n).tmod (IntKind.u64.wrap (M : Int))) = (i : Int) ∧ ¬ IntKind.u64.wrap (M : Int) = 0 := by
  have h1 : IntKind.u64.wrap (M : Int) = (M : Int) := IntWalk.u64_in _ (by omega)
  have h2 : 0 ≤ IntKind.u64.wrap n := by rw [IntKind.wrap_u64]; omega
  have h3 : (IntKind.u64.wrap n).tmod (M : Int) = IntKind.u64.wrap n % (M : Int) := Int.tmod_eq_emod_of_nonneg h2
  have h4 := Int.emod_nonneg (IntKind.u64.wrap n) (show (M : Int) ≠ 0 by omega)
  have h5 := Int.emod_lt_of_pos (IntKind.u64.wrap n) (show (0 : Int) < (M : Int) by omega)
  refine ⟨(IntKind.u64.wrap n % (M : Int)).toNat, by omega, ?_, by rw [h1]; omega⟩
  rw [h1, h3]
  unfold RowKit.wrap64
  omega
theorem TrimTo.both (h : TrimTo d rs at_ d1 rs1 E) (k : TrimTo r rs at_ r1 rs2 E') (al : Al d r) (hf : d.fin ≤ 1099511627776) (hok : d.Ok) :
    E' = E ∧ rs2 = rs1 ∧ Al d1 r1 ∧ d1.fin ≤ d.fin := by
  have hb := al.same.1
  have al2 := al.sync hf
  have hf2 : d.sync.fin ≤ 1099511627776 := by rw [(sync_keeps d).2.2]; exact hf
  have al3 := al2.trim hf2 at_
  rcases h with ⟨i, hi, hy, rfl, rfl, rfl⟩ | ⟨hn, rfl, rfl, rfl⟩
  · rcases k with ⟨i', hi', hy', rfl, rfl, rfl⟩ | ⟨hn, -⟩
    · rw [hb] at hy'
      have : i' = i := plc_inj d.base rs hi' hi (by omega)
      subst this
      refine ⟨by rw [al3.2], ?_, al3.1, ?_⟩
      · have hc := al2.cold hf2
        have ht : r.sync.trims at_ = d.sync.trims at_ := by
          obtain ⟨L, hL, -⟩ := al2
          rw [hL]; rfl
        unfold trimRs
        rw [hc, ht]
      · exact trim_fin d hok at_
    · exact absurd hy.symm (by rw [← hb]; exact hn i hi)
  · rcases k with ⟨i', hi', hy', rfl, rfl, rfl⟩ | ⟨-, rfl, rfl, rfl⟩
    · rw [hb] at hy'
      exact absurd hy'.symm (hn i' hi')
    · exact ⟨rfl, rfl, al, Nat.le_refl _⟩
set_option maxRecDepth 100000 in
set_option maxHeartbeats 2000000 in
theorem do_trim {k n : Int} {z : Value} (h : Pw W w gp g gj gk g2 row v v2 d r torn torn' rs) (hk : k.tmod 8 = 5) (hf : d.fin ≤ 1099511627776) (N : Nat) :
    Calls Tryz.prog 8 #[.pointer (some ⟨gp, 0, none⟩), .agg #[.int .u8 k, .int .i64 n, z]] w (DoPost W gp g g2 d N) := by
  have h1 : Bx W _ _ _ _ _ _ _ _ _ _ _ _ _ _ _ _ _ _ _ := Bx.made (a := .int .u8 k) (c := .int .i64 n) (z := z) h
  obtain ⟨s0, s1, s2, s3, s4, b0, b1, b2⟩ := h1.cells
  have HP := Lib.hid h1
  have HA := Lib.hid h.al
  have HF := Lib.hid hf
  have HO := Lib.hid h.jt.dk.ok
  clear h h1 hf
  go_enter Tryz.func8, Tryz.ntmps8
  go_wp2_with fail
  generalize w.alloc (.cells #[.int .u8 k, .int .i64 n, z] 29) = w1 at *
  refine HP.out.pv.rt.records.mono ?_
  rintro e w2 ⟨A2, c2, rfl, ht2, ha2⟩
  have h2 := HP.out.still ha2
  obtain ⟨t0, t1, t2, t3, t4, e0, e1, e2⟩ := h2.cells
  obtain ⟨ps, hr, hl, htold⟩ := ht2
  obtain ⟨M, hM⟩ : ∃ M, rs.length = M := ⟨_, rfl⟩
  rw [hM] at hr hl ⊢
  have H2 := Lib.hid (And.intro h2 (And.intro hr (And.intro hl htold)))
  have HM := Lib.hid hM
  obtain ⟨f, hfin⟩ : ∃ f, r.fin = f := ⟨_, rfl⟩
  rw [hfin]
  clear hfin hM h2 ha2 hr hl htold s0 s1 s2 s3 s4 b0 b1 b2
  by_cases hM0 : 0 < M
  · have hM8 : M ≤ 8388608 := by have := H2.out.1.pv.rt.len; rw [HM.out] at this; omega
    obtain ⟨i, hi, hix, hiz⟩ := idx_of n M hM0 hM8
    have hil : i < ps.length := by rw [H2.out.2.2.1]; exact hi
    obtain ⟨gb, off, cap, hv, -, hgl, -, -, -, hcl⟩ := H2.out.2.1.row.form (by omega)
    injection hv with hva hvn hvc
    subst hva; subst hvc
    clear hvn
    have k1 := hcl _ _ (prV_get ps i hil).1
    obtain ⟨q, hq⟩ : ∃ q, ps[i].at_ = q := ⟨_, rfl⟩
    rw [hq] at k1
    have hi0 : (0 : Int) ≤ (i : Int) := by omega
    have hi1 : (i : Int) < (M : Int) := by omega
    clear hgl hcl hq hM8
    go_wp2_with fail
    clear k1 hi0 hi1 hix hiz
    go_region_held3 (fun wx => wx.cell? ⟨gp, 1, none⟩ = some (.pointer (some ⟨gj, 0, none⟩)) ∧ wx.cell? ⟨gp, 3, none⟩ = some (.pointer (some ⟨gk, 0, none⟩)) ∧ wx.cell? ⟨w.heap.size, 1, none⟩ = some (.int .i64 n)) (first | exact ⟨t1, t3, e1⟩ | exact ⟨p1, p3, r1⟩ | exact ⟨x1, x3, y1⟩ | exact ⟨m1, m3, n1⟩ | exact ⟨o1, o3, u1⟩) (first
    | (go_at_call 23; (with_reducible refine (JTrim_any w2.drew (H2.out.1.still (Ab.refl w2).drew).pv.jt _).mono ?_); rintro e w3 hp; (obtain ⟨E3, d3, rs3, row3, v3, rfl, hto3, hj3, ht3⟩ := hp.one (H2.out.1.still (Ab.refl w2).drew).pv.jt); (have h3 := (H2.out.1.still (Ab.refl w2).drew).turn hj3 ht3); (obtain ⟨p0, p1, p2, p3, p4, r0, r1, r2⟩ := h3.cells); (have H3 := Lib.hid (And.intro h3 hto3)); clear h3 hto3 hj3 ht3 hp)
    | (go_at_call 36; (with_reducible refine (RTrim_any w3 H3.out.1.pv.rt _ H3.out.1.pv.ab.size).mono ?_); rintro e w4 hp; (obtain ⟨E4, r4, rs4, v4, rfl, hto4, hr4, ht4⟩ := hp.one H3.out.1.pv.rt); (obtain ⟨hE, hrs, hal, hfn⟩ := H3.out.2.both hto4 HA.out HF.out HO.out); subst hE; subst hrs; (have h4 := H3.out.1.turn2 hr4 ht4); (obtain ⟨x0, x1, x2, x3, x4, y0, y1, y2⟩ := h4.cells); (have H4 := Lib.hid (And.intro h4 (And.intro hal (And.intro hfn h4.pv.jt.dk.ok)))); clear h4 hto4 hr4 ht4 hp hal hfn)
    | (go_at_call 23; (with_reducible refine (JTrim_any w4 H4.out.1.pv.jt _).mono ?_); rintro e w5 hp; (obtain ⟨E5, d5, rs5, row5, v5, rfl, hto5, hj5, ht5⟩ := hp.one H4.out.1.pv.jt); (have h5 := H4.out.1.turn hj5 ht5); (obtain ⟨m0, m1, m2, m3, m4, n0, n1, n2⟩ := h5.cells); (have H5 := Lib.hid (And.intro h5 hto5)); clear h5 hto5 hj5 ht5 hp)
    | (go_at_call 36; (with_reducible refine (RTrim_any w5 H5.out.1.pv.rt _ H5.out.1.pv.ab.size).mono ?_); rintro e w6 hp; (obtain ⟨E6, r6, rs6, v6, rfl, hto6, hr6, ht6⟩ := hp.one H5.out.1.pv.rt); (obtain ⟨hE, hrs, hal, hfn⟩ := H5.out.2.both hto6 H4.out.2.1 (Nat.le_trans H4.out.2.2.1 HF.out) H4.out.2.2.2); subst hE; subst hrs; (have h6 := H5.out.1.turn2 hr6 ht6); (obtain ⟨o0, o1, o2, o3, o4, u0, u1, u2⟩ := h6.cells); (have H6 := Lib.hid (And.intro h6 (And.intro hal (Nat.le_trans hfn H4.out.2.2.1)))); clear h6 hto6 hr6 ht6 hp hal hfn)
    | (go_at_call 12; (with_reducible refine (jnum_any _ w3).mono ?_); rintro e wz ⟨rfl, rfl⟩)
    | (go_at_call 12; (with_reducible refine (jnum_any _ w5).mono ?_); rintro e wz ⟨rfl, rfl⟩))
    go_wp2
    go_ret
    exact ⟨rfl, _, _, _, _, _, _, _, _, _, _, H6.out.1.pv.pw H6.out.2.1, by have := H6.out.2.2; omega⟩
  · go_wp2_with fail
    go_region_held3 (fun wx => wx.cell? ⟨gp, 1, none⟩ = some (.pointer (some ⟨gj, 0, none⟩)) ∧ wx.cell? ⟨gp, 3, none⟩ = some (.pointer (some ⟨gk, 0, none⟩)) ∧ wx.cell? ⟨w.heap.size, 1, none⟩ = some (.int .i64 n)) (first | exact ⟨t1, t3, e1⟩ | exact ⟨p1, p3, r1⟩ | exact ⟨x1, x3, y1⟩ | exact ⟨m1, m3, n1⟩ | exact ⟨o1, o3, u1⟩) (first
    | (go_at_call 23; (with_reducible refine (JTrim_any w2.drew (H2.out.1.still (Ab.refl w2).drew).pv.jt _).mono ?_); rintro e w3 hp; (obtain ⟨E3, d3, rs3, row3, v3, rfl, hto3, hj3, ht3⟩ := hp.one (H2.out.1.still (Ab.refl w2).drew).pv.jt); (have h3 := (H2.out.1.still (Ab.refl w2).drew).turn hj3 ht3); (obtain ⟨p0, p1, p2, p3, p4, r0, r1, r2⟩ := h3.cells); (have H3 := Lib.hid (And.intro h3 hto3)); clear h3 hto3 hj3 ht3 hp)
    | (go_at_call 36; (with_reducible refine (RTrim_any w3 H3.out.1.pv.rt _ H3.out.1.pv.ab.size).mono ?_); rintro e w4 hp; (obtain ⟨E4, r4, rs4, v4, rfl, hto4, hr4, ht4⟩ := hp.one H3.out.1.pv.rt); (obtain ⟨hE, hrs, hal, hfn⟩ := H3.out.2.both hto4 HA.out HF.out HO.out); subst hE; subst hrs; (have h4 := H3.out.1.turn2 hr4 ht4); (obtain ⟨x0, x1, x2, x3, x4, y0, y1, y2⟩ := h4.cells); (have H4 := Lib.hid (And.intro h4 (And.intro hal (And.intro hfn h4.pv.jt.dk.ok)))); clear h4 hto4 hr4 ht4 hp hal hfn)
    | (go_at_call 23; (with_reducible refine (JTrim_any w4 H4.out.1.pv.jt _).mono ?_); rintro e w5 hp; (obtain ⟨E5, d5, rs5, row5, v5, rfl, hto5, hj5, ht5⟩ := hp.one H4.out.1.pv.jt); (have h5 := H4.out.1.turn hj5 ht5); (obtain ⟨m0, m1, m2, m3, m4, n0, n1, n2⟩ := h5.cells); (have H5 := Lib.hid (And.intro h5 hto5)); clear h5 hto5 hj5 ht5 hp)
    | (go_at_call 36; (with_reducible refine (RTrim_any w5 H5.out.1.pv.rt _ H5.out.1.pv.ab.size).mono ?_); rintro e w6 hp; (obtain ⟨E6, r6, rs6, v6, rfl, hto6, hr6, ht6⟩ := hp.one H5.out.1.pv.rt); (obtain ⟨hE, hrs, hal, hfn⟩ := H5.out.2.both hto6 H4.out.2.1 (Nat.le_trans H4.out.2.2.1 HF.out) H4.out.2.2.2); subst hE; subst hrs; (have h6 := H5.out.1.turn2 hr6 ht6); (obtain ⟨o0, o1, o2, o3, o4, u0, u1, u2⟩ := h6.cells); (have H6 := Lib.hid (And.intro h6 (And.intro hal (Nat.le_trans hfn H4.out.2.2.1)))); clear h6 hto6 hr6 ht6 hp hal hfn)
    | (go_at_call 12; (with_reducible refine (jnum_any _ w3).mono ?_); rintro e wz ⟨rfl, rfl⟩)
    | (go_at_call 12; (with_reducible refine (jnum_any _ w5).mono ?_); rintro e wz ⟨rfl, rfl⟩))
    go_wp2
    go_ret
    exact ⟨rfl, _, _, _, _, _, _, _, _, _, _, H6.out.1.pv.pw H6.out.2.1, by have := H6.out.2.2; omega⟩
end Go.Proofs.YtolchbjcdlncgaaGreat.Dg

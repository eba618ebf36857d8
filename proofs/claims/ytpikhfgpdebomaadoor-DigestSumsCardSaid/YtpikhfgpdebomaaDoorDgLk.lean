/- Memory that is lent, and whether it was kept. -/
import Derived.Test.YtpikhfgpdebomaaDoorDgWi
import Derived.OwnWalk
import Derived.Lib.Hide
import Derived.IntWalk
import Derived.BigQuiet
import Derived.Deep.QuietTactic
namespace Go.Proofs.YtpikhfgpdebomaaDoor.Dg
open Go.RowKit
variable {w w' : World} {base B : Nat} {v : Value} {l : List UInt8}
/-- What Lend lends lies between two marks. -/
def lentL (l : List UInt8) : List UInt8 := 165 :: (l ++ [90])
theorem lentL_length (l : List UInt8) : (lentL l).length = l.length + 2 := by simp [lentL]
def lendL (l : List UInt8) (j : Nat) : List UInt8 := 165 :: (l.take j ++ List.replicate (l.length - j) 0 ++ [90])
theorem lendL_length (l : List UInt8) (j : Nat) (hj : j ≤ l.length) : (lendL l j).length = l.length + 2 := by
  simp [lendL]; omega
theorem lendL_step (l : List UInt8) (j : Nat) (hj : j < l.length) : (lendL l j).set (j + 1) (l.getD j 0) = lendL l (j + 1) := by
  unfold lendL
  rw [List.set_cons_succ, List.append_assoc, List.set_append_right _ _ (by rw [List.length_take]; omega), List.length_take, show j - min j l.length = 0 by omega,
    show l.length - j = (l.length - (j + 1)) + 1 by omega, List.replicate_succ, List.cons_append, List.set_cons_zero, take_next l j hj]
  simp
theorem lendL_zero (l : List UInt8) : ((List.replicate (l.length + 2) (0 : UInt8)).set 0 165).set (l.length + 1) 90 = lendL l 0 := by
  unfold lendL
  rw [show l.length + 2 = (l.length + 1) + 1 by omega, List.replicate_succ, List.set_cons_zero, List.set_cons_succ, List.replicate_succ', List.set_append_right _ _ (by simp)]
  simp
theorem lendL_end (l : List UInt8) : lendL l l.length = lentL l := by simp [lendL, lentL]
theorem lent_mid (l : List UInt8) : ((lentL l).drop 1).take l.length = l := by
  simp [lentL]
set_option maxRecDepth 100000 in
set_option maxHeartbeats 2000000 in
theorem lend_any (w : World) (h : Bs w w.heap.size v l) (hl : l.length ≤ 200000000000000) :
    Calls Tryd.prog 6 #[v] w fun e w' => ∃ g, e = .returned (.tuple #[.slice (some ⟨g, 0, none⟩) (l.length + 2) (l.length + 2), .slice (some ⟨g, 1, none⟩) l.length (l.length + 1)]) ∧
      Ob w' w.heap.size (.slice (some ⟨g, 0, none⟩) (l.length + 2) (l.length + 2)) (lentL l) ∧ Ab w w' := by
  have HB := Lib.hid h
  obtain ⟨A, c, rfl, h1, h2, -⟩ := id h
  clear h
  obtain ⟨i0, hi, hz0, hz1, hz2⟩ := info_parts info8
  have HI := Lib.hid (And.intro hi (And.intro hz0 (And.intro hz1 hz2)))
  clear hi hz0 hz1 hz2
  go_enter Tryd.func6, Tryd.ntmps6
  go_wp2_with (refine wpList_make_full w rfl _ _ 22 rfl w.heap.size 5 i0 (.int .u8 0) 1 Tryd.underlying22 HI.out.1 HI.out.2.1 HI.out.2.2.1 .i64 .i64 ((l.length : Int) + 2) ((l.length : Int) + 2) (l.length + 2) rfl rfl (by go_num) (by go_num) (by rw [HI.out.2.2.2]; omega) (by unfold maxLen; omega) (Nat.le_refl _) ?_)
  intro w1 ho1 hg1
  have ho1 : Ob w1 w.heap.size (.slice (some ⟨w.heap.size, 0, none⟩) (l.length + 2) (l.length + 2)) (List.replicate (l.length + 2) 0) := by
    unfold Ob
    rw [List.length_replicate, List.map_replicate]
    have e : (madeCells #[Value.int IntKind.u8 0] (l.length + 2)).toList = List.replicate (l.length + 2) (u8v 0) := by
      unfold madeCells
      apply List.ext_getElem
      · simp
      · intro i h1 h2
        simp [u8v, n8, Nat.mod_one]
    rw [← e]
    exact ho1
  have ha1 : Ab w w1 := grown_ab (Ab.refl w) hg1 (fun k hk => by cases hk)
  have hrl : (List.replicate (l.length + 2) (0 : UInt8)).length = l.length + 2 := List.length_replicate
  obtain ⟨g, cap, hv, -, hglt, -, -, hfr, hcl⟩ := ho1.form (by simp)
  injection hv with hga hgb hgc
  injection hga with hga
  injection hga with hga
  subst hga
  clear hgb hgc
  have hc0 := hcl 0 (by rw [hrl]; omega)
  have hcE := hcl (l.length + 1) (by rw [hrl]; omega)
  have hz : ∀ k, (List.replicate (l.length + 2) (0 : UInt8)).getD k 0 = 0 := by
    intro k
    rw [List.getD_eq_getElem?_getD, List.getElem?_replicate]
    split <;> rfl
  rw [hz] at hc0 hcE
  replace hc0 : w1.cell? ⟨w.heap.size, 0, none⟩ = some (.int .u8 0) := hc0
  replace hcE : w1.cell? ⟨w.heap.size, l.length + 1, none⟩ = some (.int .u8 0) := hcE
  have hf0 := hfr 0
  have hfE := hfr (l.length + 1)
  have ho2 := (ho1.set 0 165).set (l.length + 1) 90
  rw [lendL_zero] at ho2
  have ha2 : Ab w ((w1.setCell ⟨w.heap.size, 0, none⟩ (.int .u8 (n8 165))).setCell ⟨w.heap.size, l.length + 1, none⟩ (.int .u8 (n8 90))) := (ha1.set (by simp) _).set (by simp) _
  have hcE2 : (w1.setCell ⟨w.heap.size, 0, none⟩ (.int .u8 165)).cell? ⟨w.heap.size, l.length + 1, none⟩ = some (.int .u8 0) := by
    rw [← hcE]
    exact World.cell?_setCell_other w1 _ _ _ (by simp)
  have H2 := Lib.hid (And.intro ho2 ha2)
  have hi0 : (0 : Int) ≤ (l.length : Int) + 1 := by omega
  have hi1 : (l.length : Int) + 1 < (l.length : Int) + 2 := by omega
  clear ho1 ha1 hg1 hcl hfr hz hrl ho2 ha2 hglt hcE
  have hsm := fun wx => run_slice_mid (some ⟨w.heap.size, 0, none⟩) (l.length + 2) (l.length + 2) 1 (l.length + 1) (by omega) (by omega) wx
  have hwa : winA (some (⟨w.heap.size, 0, none⟩ : Addr)) (l.length + 2) 1 = some ⟨w.heap.size, 1, none⟩ := by
    unfold winA; rw [if_neg (by omega), Option.map_some, Addr.add_lit]
  rw [hwa, show l.length + 1 - 1 = l.length by omega, show l.length + 2 - 1 = l.length + 1 by omega] at hsm
  have hsm' : ∀ wx : World, (Instr.slice 22 (.slice (some ⟨w.heap.size, 0, none⟩) (l.length + 2) (l.length + 2)) (some (.int .i64 1)) (some (.int .i64 ((l.length : Int) + 1))) none).run Tryd.prog wx = .ok (.slice (some ⟨w.heap.size, 1, none⟩) l.length (l.length + 1)) wx := hsm
  have HSM := Lib.hid hsm'
  clear hsm hwa hsm'
  go_wp2_with fail
  go_loopw [20] (fun i wr => ∃ j : Nat, j ≤ l.length ∧ i = .int .i64 (j : Int) ∧ Ob wr w.heap.size (.slice (some ⟨w.heap.size, 0, none⟩) (l.length + 2) (l.length + 2)) (lendL l j) ∧ Ab w wr) (fun i _ => l.length - (intOf i).toNat)
  case atStart => exact ⟨0, Nat.zero_le _, rfl, H2.out.1, H2.out.2⟩
  case round =>
    obtain ⟨j, hj, rfl, ho, ha⟩ := hrel
    by_cases hlt : j < l.length
    · have hne : l ≠ [] := by intro e; subst e; simp at hlt
      obtain ⟨A', c', hv', -, -, h3⟩ := HB.out.ab ha (Nat.le_refl _)
      injection hv' with hva hvb hvc
      subst hva
      clear hvb hvc
      obtain ⟨b, off, rfl, hbl, hcs⟩ := h3 hne
      have hcell := hcs j hlt
      obtain ⟨g', cap', hv2, -, -, -, -, hfr2, hcl2⟩ := ho.form (by simp [lendL])
      injection hv2 with hga hgb hgc
      injection hga with hga
      injection hga with hga
      subst hga
      clear hgb hgc
      have hck := hcl2 (j + 1) (by rw [lendL_length l j hj]; omega)
      have hfk := hfr2 (j + 1)
      generalize n8 ((lendL l j).getD (j + 1) 0) = old at hck
      have hset := ho.set (j + 1) (l.getD j 0)
      rw [lendL_step l j hlt] at hset
      have hset2 : Ab w (wr.setCell ⟨w.heap.size, j + 1, none⟩ (.int .u8 (n8 (l.getD j 0)))) := ha.set (by simp) _
      have HS := Lib.hid (And.intro hset (And.intro hset2 (getElem_D l j hlt)))
      have hj0 : (0 : Int) ≤ (j : Int) := by omega
      have hj1 : (j : Int) < (l.length : Int) := by omega
      have hj2 : (0 : Int) ≤ (j : Int) + 1 := by omega
      have hj3 : (j : Int) + 1 < (l.length : Int) + 2 := by omega
      clear ho ha h3 hcs hfr2 hcl2 hset hset2 hc0 hcE2 hf0 hfE
      go_wp2_with fail
      go_roundw
      case rel => exact ⟨j + 1, by omega, by go_num, by rw [HS.out.2.2]; exact HS.out.1, by rw [HS.out.2.2]; exact HS.out.2.1⟩
      case measure => simp [intOf]; omega
    · have hjl : j = l.length := by omega
      subst hjl
      have HS := Lib.hid (And.intro ho ha)
      have hsm := HSM.out
      clear ho ha hc0 hcE2 hf0 hfE
      go_wp2_with fail
      go_quiet (fail)
      go_wp2
      go_ret2
      exact ⟨w.heap.size, rfl, by rw [← lendL_end]; exact HS.out.1, HS.out.2.drewN _⟩
set_option maxRecDepth 100000 in
set_option maxHeartbeats 2000000 in
theorem kept_any (w : World) (g : Nat) (hw : Ob w base (.slice (some ⟨g, 0, none⟩) (l.length + 2) (l.length + 2)) (lentL l)) (h : Bs w B v l) (hl : l.length ≤ 200000000000000) :
    Calls Tryd.prog 12 #[.slice (some ⟨g, 0, none⟩) (l.length + 2) (l.length + 2), v] w fun e w' => e = .returned (.bool true) ∧ Ab w w' := by
  obtain ⟨g', cap', hv2, -, -, -, -, -, hcl⟩ := hw.form (by simp [lentL])
  injection hv2 with hga hgb hgc
  injection hga with hga
  injection hga with hga
  subst hga
  clear hgb hgc
  have hc0 := hcl 0 (by rw [lentL_length]; omega)
  have hcE := hcl (l.length + 1) (by rw [lentL_length]; omega)
  have e0 : (lentL l).getD 0 0 = 165 := rfl
  have eE : (lentL l).getD (l.length + 1) 0 = 90 := by
    unfold lentL
    rw [List.getD_cons_succ, List.getD_eq_getElem?_getD, List.getElem?_append_right (Nat.le_refl _)]
    simp
  rw [e0] at hc0
  rw [eE] at hcE
  replace hc0 : w.cell? ⟨g, 0, none⟩ = some (.int .u8 165) := hc0
  replace hcE : w.cell? ⟨g, l.length + 1, none⟩ = some (.int .u8 90) := hcE
  have hsm := fun wx => run_slice_mid (some ⟨g, 0, none⟩) (l.length + 2) (l.length + 2) 1 (l.length + 1) (by omega) (by omega) wx
  have hwa : winA (some (⟨g, 0, none⟩ : Addr)) (l.length + 2) 1 = some ⟨g, 1, none⟩ := by
    unfold winA; rw [if_neg (by omega), Option.map_some, Addr.add_lit]
  have hmid := midB (l := lentL l) (A := some ⟨g, 0, none⟩) (c := l.length + 2) (by rw [lentL_length]; exact hw.bs) 1 (l.length + 1) (by omega) (by rw [lentL_length]; omega)
  rw [hwa, show l.length + 1 - 1 = l.length by omega, show l.length + 2 - 1 = l.length + 1 by omega] at hsm hmid
  rw [lent_mid] at hmid
  have hsm' : ∀ wx : World, (Instr.slice 22 (.slice (some ⟨g, 0, none⟩) (l.length + 2) (l.length + 2)) (some (.int .i64 1)) (some (.int .i64 ((l.length : Int) + 1))) none).run Tryd.prog wx = .ok (.slice (some ⟨g, 1, none⟩) l.length (l.length + 1)) wx := hsm
  have hk1 := fun n => conv_bs (w := w.drewN n) (show Bs (w.drewN n) _ _ l from hmid)
  have hk2 := fun n => conv_bs (w := w.drewN n) (show Bs (w.drewN n) _ _ l from h)
  obtain ⟨A, c, rfl, -, -, -⟩ := id h
  have hi1 : (0 : Int) ≤ (l.length : Int) + 1 := by omega
  have hi2 : (l.length : Int) + 1 < (l.length : Int) + 2 := by omega
  have hq1 : ((l.length : Int) + 2 == (l.length : Int) + 2) = true := by simp
  clear hw h hcl hsm hwa hmid e0 eE
  go_enter Tryd.func12, Tryd.ntmps12
  go_wp2_with fail
  go_quiet (fail)
  go_wp2
  go_ret
  exact ⟨rfl, (Ab.refl w).drewN _⟩
theorem lent_bs {g : Nat} (hw : Ob w base (.slice (some ⟨g, 0, none⟩) (l.length + 2) (l.length + 2)) (lentL l)) : Bs w w.heap.size (.slice (some ⟨g, 1, none⟩) l.length (l.length + 1)) l := by
  have hwa : winA (some (⟨g, 0, none⟩ : Addr)) (l.length + 2) 1 = some ⟨g, 1, none⟩ := by
    unfold winA; rw [if_neg (by omega), Option.map_some, Addr.add_lit]
  have hmid := midB (l := lentL l) (A := some ⟨g, 0, none⟩) (c := l.length + 2) (by rw [lentL_length]; exact hw.bs) 1 (l.length + 1) (by omega) (by rw [lentL_length]; omega)
  rw [hwa, show l.length + 1 - 1 = l.length by omega, show l.length + 2 - 1 = l.length + 1 by omega, lent_mid] at hmid
  exact hmid
end Go.Proofs.YtpikhfgpdebomaaDoor.Dg

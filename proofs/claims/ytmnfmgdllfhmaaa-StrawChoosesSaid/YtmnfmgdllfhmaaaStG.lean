/- contest, Choose. -/
import Derived.Test.YtmnfmgdllfhmaaaStF
namespace Go.Proofs.Ytmnfmgdllfhmaaa.Dg
open Go.RowKit
variable {w w' : World} {B : Nat} {vi vw : Value} {ids ws : List Int}
def closV (bi bw be : Nat) : Value := .func (.func 24) #[] #[.pointer (some ⟨bi, 0, none⟩), .pointer (some ⟨bw, 0, none⟩), .pointer (some ⟨be, 0, none⟩)]
def ConPost (w : World) (B : Nat) (vi vw : Value) (ids ws : List Int) (e : Ending) (w' : World) : Prop :=
  ∃ bi bw be g, e = .returned (closV bi bw be) ∧ Cont w' B bi bw be g vi vw ids ws ∧ Ab w w'
set_option maxRecDepth 100000 in
set_option maxHeartbeats 1000000 in
theorem contest_any (w : World) (hi : Ns w B vi ids) (hw : Ns w B vw ws) (hl : ws.length = ids.length) (hB : B ≤ w.heap.size) :
    Calls Try.prog 21 #[vi, vw] w (ConPost w B vi vw ids ws) := by
  obtain ⟨Ai, ci, rfl, -⟩ := hi.form
  obtain ⟨Aw, cw, rfl, -⟩ := hw.form
  have HI := Lib.hid (And.intro hi (And.intro hw hl))
  clear hi hw hl
  go_enter Try.func21, Try.ntmps21
  go_wp2_with fail
  refine (new_any _).mono ?_
  rintro e w1 ⟨rfl, he, ha⟩
  have HE := Lib.hid (And.intro he ha)
  clear he ha
  go_wp2_with fail
  go_ret
  obtain ⟨he, ha⟩ := HE.out
  obtain ⟨hi, hw, hl⟩ := HI.out
  have hab := (((Ab.refl w).alloc (.cells #[.slice Ai ids.length ci] 28)).alloc (.cells #[.slice Aw ws.length cw] 28)).trans ha
  have hab2 := hab.alloc (.cells #[.pointer (some ⟨w.heap.size + 1 + 1, 0, none⟩)] 48)
  refine ⟨w.heap.size, w.heap.size + 1, w1.heap.size, w.heap.size + 1 + 1, rfl, ⟨?_, ?_, Bk.made _ _ _, ?_, hi.ab hab2 hB, hw.ab hab2 hB, hl, Nat.le_trans hB hab2.size⟩, hab2⟩
  · exact (ha.bk ((Bk.made w 28 _).alloc _)).alloc _
  · exact (ha.bk (Bk.new (by simp))).alloc _
  · rw [show w.heap.size + 1 + 1 = ((w.alloc (.cells #[.slice Ai ids.length ci] 28)).alloc (.cells #[.slice Aw ws.length cw] 28)).heap.size by simp]
    exact he.alloc _
def ChPost7 (w : World) (r : Option Nat) (e : Ending) (w' : World) : Prop := e = .returned (.tuple #[.int .i64 ((r.getD 0 : Nat) : Int), .bool r.isSome]) ∧ Ab w w'
set_option maxRecDepth 100000 in
set_option maxHeartbeats 1000000 in
theorem choose_any (w : World) (x : UInt32) (r : Int) (hi : Ns w B vi ids) (hw : Ns w B vw ws) (hl : ws.length = ids.length) (hB : B ≤ w.heap.size) :
    Calls Try.prog 14 #[vi, vw, .int .u32 (n32 x), .int .i64 r] w (ChPost7 w (chooseL ids ws x r)) := by
  have HC := Lib.hid (contest_any w hi hw hl hB)
  obtain ⟨Ai, ci, rfl, -⟩ := hi.form
  obtain ⟨Aw, cw, rfl, -⟩ := hw.form
  rw [hl] at HC ⊢
  have hb := hi.len
  clear hi hw hl
  go_enter Try.func14, Try.ntmps14
  go_wp2_with fail
  refine HC.out.mono ?_
  rintro e w1 ⟨bi, bw, be, g, rfl, hc, ha⟩
  have HW := Lib.hid (wins_any x r bi bw be g hc)
  have HA := Lib.hid ha
  clear hc ha HC
  unfold closV
  go_wp2_with fail
  refine HW.out.mono ?_
  rintro e w2 ⟨rfl, hb2⟩
  have HB := Lib.hid hb2
  clear hb2
  generalize chooseL ids ws x r = R at *
  obtain ⟨P, hP⟩ : ∃ P : Int, ((R.getD 0 : Nat) : Int) = P := ⟨_, rfl⟩
  obtain ⟨F, hF⟩ : ∃ F : Bool, R.isSome = F := ⟨_, rfl⟩
  rw [hP, hF]
  have HP := Lib.hid (And.intro hP hF)
  clear hP hF
  go_wp2_with fail
  go_ret2
  exact ⟨by rw [HP.out.1, HP.out.2]; rfl, HA.out.trans HB.out⟩
theorem choose_off (w : World) (x : UInt32) (r : Int) (hi : Ns w B vi ids) (hw : Ns w B vw ws) (hl : ws.length ≠ ids.length) :
    Calls Try.prog 14 #[vi, vw, .int .u32 (n32 x), .int .i64 r] w (ChPost7 w none) := by
  obtain ⟨Ai, ci, rfl, -⟩ := hi.form
  obtain ⟨Aw, cw, rfl, -⟩ := hw.form
  have hb := hi.len
  have hb2 := hw.len
  have hne : ((ws.length : Int) == (ids.length : Int)) = false := by simpa using (show (ws.length : Int) ≠ (ids.length : Int) by omega)
  have hne2 : ((ws.length : Int) != (ids.length : Int)) = true := by simpa using (show (ws.length : Int) ≠ (ids.length : Int) by omega)
  clear hi hw hl
  go_enter Try.func14, Try.ntmps14
  go_wp2_with fail
  go_ret2
  exact ⟨rfl, Ab.refl w⟩
end Go.Proofs.Ytmnfmgdllfhmaaa.Dg

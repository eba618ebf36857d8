/-
  ExtentWrites: of bytes written at the beginning of an object, others at any place, and a hole there: what is written is read, all ahead of it is as it was, the hole is noughts; and the document's examples hold; the arguments read as before.
  No condition.
-/
import Derived.Test.YtlbkfnmhcgildaaExZ
import Derived.Test.YtlbkfnmhcgildaaExOb
import Derived.Test.YtlbkfnmhcgildaaExT
namespace Go.Proofs.Ytlbkfnmhcgildaa.extentWrites
open Go.RowKit Go.ChangeShapes Go.WideShapes Go.ChangeAt Dg

set_option maxRecDepth 100000 in
theorem contract (H : Type) (enc : TypeId × Value → H) (W : World) (base : Nat) (args : Array Value) (ds gs : List (DataW H)) (before : List MemPlace)
    (hval : ∀ (j : Nat) t v, Try.f6.params[j]? = some t → args[j]? = some v → Value.okWide Try.prog W .any base t v)
    (hW : DataW.Whole enc Try.prog Try.f6.params.toList Rows.extentWritesSpec.vars false W args.toList ds gs before) :
    Calls Try.prog 6 args W fun e W' => ∃ v, e = .returned v ∧ Rows.extentWritesSpec.post enc Try.prog Try.f6 false true false false W args v W' := by
  have hW' := hW
  obtain ⟨pp, qq, hA0, hV, rfl, hfz, hnd⟩ := hW
  have hA : DataW.TrodAll enc Try.prog W 0 (fun _ => true) true Try.f6.params.toList args.toList ds pp := hA0
  rw [Try.params6] at hA hval
  obtain ⟨v0, vs0, d0, ds0, p0, q0, hargs, rfl, rfl, h0, r0⟩ := trodAll_cons hA
  obtain ⟨v1, vs1, d1, ds1, p1, q1, rfl, rfl, rfl, h1, r1⟩ := trodAll_cons r0
  obtain ⟨v2, vs2, d2, ds2, p2, q2, rfl, rfl, rfl, h2, r2⟩ := trodAll_cons r1
  obtain ⟨rfl, rfl, rfl⟩ := trodAll_nil r2
  obtain rfl : args = #[v0, v1, v2] := by cases args; simp_all
  obtain ⟨rfl, rfl⟩ := trodVars_none hV
  clear hA0
  simp only [List.append_nil] at hW'
  have lt0 := fun x (hx : x ∈ p0) => hW'.lt x (List.mem_append_left _ hx)
  have lt1 := fun x (hx : x ∈ p1) => hW'.lt x (List.mem_append_right _ (List.mem_append_left _ hx))
  have lt2 := fun x (hx : x ∈ p2) => hW'.lt x (List.mem_append_right _ (List.mem_append_right _ hx))
  obtain ⟨lb, hb0⟩ := open_bs (hval 0 30 v0 rfl rfl) h0 lt0
  obtain ⟨l, hb1⟩ := open_bs (hval 1 30 v1 rfl rfl) h1 lt1
  obtain ⟨cs, rfl⟩ := xokWide_array2 Try.underlying81 (hval 2 81 v2 rfl rfl)
  obtain ⟨fuel, hf⟩ := id h2
  obtain ⟨p, q, hcs, wa, wb⟩ := xopen_two_u hf
  obtain rfl : cs = #[.int .u64 p, .int .u64 q] := Array.ext' hcs
  have ba := bounds_u64 wa
  have bb := bounds_u64 wb
  refine (writes_walk W v0 v1 lb l p q hb0 hb1 (by omega) (by omega)).mono fun e W' ⟨he, hg⟩ => ?_
  subst he
  have h0' := Below.trod (by kernel_rfl) (by kernel_rfl) (of_decide_eq_true (by kernel_rfl)) h0 hg lt0
  have h1' := Below.trod (by kernel_rfl) (by kernel_rfl) (of_decide_eq_true (by kernel_rfl)) h1 hg lt1
  have h2' := Below.trod (by kernel_rfl) (by kernel_rfl) (of_decide_eq_true (by kernel_rfl)) h2 hg lt2
  refine ⟨_, rfl, _, _, _, [], p0 ++ (p1 ++ (p2 ++ [])), [], hW', ?_, ?_, rfl, Below.frame hg _, fun h => by cases h⟩
  · exact trodAll_cons_mk (shut_bool Try.underlying4 _) trodAll_mk0
  · exact trodAll_cons_mk h0' (trodAll_cons_mk h1' (trodAll_cons_mk h2' trodAll_mk0))

theorem laid_met (os : Os) : laidMet Try.prog Rows.extentWritesRow.laid ((xlaidWorld os).forCall (fun _ _ => 0) ⟨#[], #[.slice none 0 0, .slice none 0 0, .agg #[.int .u64 0, .int .u64 0]], []⟩).memory :=
  laidMet_of_run' 8 (by kernel_rfl) (by kernel_rfl)
theorem reads (os : Os) {H : Type} (enc : TypeId × Value → H) : ∃ places, DataW.whole enc Try.prog ((xlaidWorld os).forCall (fun _ _ => 0) ⟨#[], #[.slice none 0 0, .slice none 0 0, .agg #[.int .u64 0, .int .u64 0]], []⟩).memory Try.f6.params.toList Rows.extentWritesSpec.vars false #[Value.slice none 0 0, Value.slice none 0 0, Value.agg #[.int .u64 0, .int .u64 0]].toList 8 = some ([.nil, .nil, .agg [.lit (.int .u64 0), .lit (.int .u64 0)]], [], places) :=
  ⟨[], by kernel_rfl⟩

set_option maxRecDepth 100000 in
theorem lifted (os : Os) (started : os.Started) (H : Type) (enc : TypeId × Value → H) (F : Stop.Interp) :
    ReturnsInHanded {} Try.checked os 6 .any ((OpenSpec.ofChange Rows.extentWritesSpec).preRow enc Try.prog Try.f6 Rows.extentWritesRow.domain false Rows.extentWritesRow.laid) (((OpenSpec.ofChange Rows.extentWritesSpec).at F).post enc Try.prog Try.f6 false true false false) := by
  obtain ⟨places, hx⟩ := reads os enc
  refine returnsInHanded_of_row (C := Try.checked) (s := OpenSpec.ofChange Rows.extentWritesSpec) xown started (by kernel_rfl) Try.func6
    (witness_row_at (enc := enc) (C := Try.checked) false (xlaidWorld os) #[.slice none 0 0, .slice none 0 0, .agg #[.int .u64 0, .int .u64 0]] rfl (by kernel_rfl) (by kernel_rfl) (by kernel_rfl)
      (OpenSpec.preRow_of_cond 8 hx (by kernel_rfl) (fun k hk => by cases hk) (by kernel_rfl) (laid_met os))) ?_
  intro W base args ds gs before hval hW _ _ _ _ _ _
  exact contract H enc W base args ds gs before hval hW

set_option maxRecDepth 100000 in
theorem said : Rows.ExtentWritesSaid :=
  OpenClaim.holds_of_cond 6 Try.f6 rfl rfl rfl rfl rfl rfl rfl ⟨rfl, rfl, rfl, rfl, rfl⟩ rfl rfl rfl rfl rfl (by kernel_rfl) Try.func6 (by kernel_rfl)
    (of_decide_eq_true (by kernel_rfl)) (by unfold Func.isWrapper; first | (rw [if_pos (by decide +kernel)]; kernel_rfl) | (rw [if_neg (by decide +kernel)]; exact ⟨rfl, rfl⟩))
    (fun os started H enc _ F => by rw [OpenClaim.pre_eq_preRow]; exact lifted os started H enc F)

end Go.Proofs.Ytlbkfnmhcgildaa.extentWrites

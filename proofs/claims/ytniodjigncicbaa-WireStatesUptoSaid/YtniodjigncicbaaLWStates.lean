/-
  WireStates, where what it reads is of bulk at most 1048576: of any state, transaction and list of texts, each is written as the document says, and read again it is written the same, the texts are the same; and the document's examples hold; the arguments read as before.
  The bound is used for one thing: that no list and no text has 2^32 items or bytes, where a count does not tell it.
-/
import Derived.Test.YtniodjigncicbaaWrZ
import Derived.Test.YtniodjigncicbaaWrLs
import Derived.Test.YtniodjigncicbaaWrOf
namespace Go.Proofs.Ytniodjigncicbaa.wireStates
open Go.RowKit Go.ChangeShapes Go.WideShapes Go.ChangeAt Dg

set_option maxRecDepth 100000 in
theorem contract (H : Type) (enc : TypeId × Value → H) (W : World) (base : Nat) (args : Array Value) (ds gs : List (DataW H)) (before : List MemPlace)
    (hval : ∀ (j : Nat) t v, Try.f4.params[j]? = some t → args[j]? = some v → Value.okWide Try.prog W .any base t v)
    (hW : DataW.Whole enc Try.prog Try.f4.params.toList Rows.wireStatesSpec.vars false W args.toList ds gs before) (hk : Rows.uptoSmall H (ds ++ gs) = true) :
    Calls Try.prog 4 args W fun e W' => ∃ v, e = .returned v ∧ Rows.wireStatesSpec.post enc Try.prog Try.f4 false true false false W args v W' := by
  have hW' := hW
  obtain ⟨p, q, hA0, hV, rfl, hfz, hnd⟩ := hW
  have hA : DataW.TrodAll enc Try.prog W 0 (fun _ => true) true Try.f4.params.toList args.toList ds p := hA0
  rw [Try.params4] at hA hval
  obtain ⟨v0, vs0, d0, ds0, p0, q0, hargs, rfl, rfl, h0, r0⟩ := trodAll_cons hA
  obtain ⟨v1, vs1, d1, ds1, p1, q1, rfl, rfl, rfl, h1, r1⟩ := trodAll_cons r0
  obtain ⟨v2, vs2, d2, ds2, p2, q2, rfl, rfl, rfl, h2, r2⟩ := trodAll_cons r1
  obtain ⟨rfl, rfl, rfl⟩ := trodAll_nil r2
  obtain rfl : args = #[v0, v1, v2] := by cases args; simp_all
  obtain ⟨rfl, rfl⟩ := trodVars_none hV
  clear hA0
  simp only [List.append_nil] at hW' hk
  have lt0 := fun x (hx : x ∈ p0) => hW'.lt x (List.mem_append_left _ hx)
  have lt1 := fun x (hx : x ∈ p1) => hW'.lt x (List.mem_append_right _ (List.mem_append_left _ hx))
  have lt2 := fun x (hx : x ∈ p2) => hW'.lt x (List.mem_append_right _ (List.mem_append_right _ hx))
  have hb : Rows.uptoBulkAll [d0, d1, d2] ≤ 1048576 := of_decide_eq_true hk
  simp only [Rows.uptoBulkAll] at hb
  obtain ⟨cs0, rfl, -⟩ := okWide_struct Try.underlying48 (hval 0 48 v0 rfl rfl)
  obtain ⟨fuel0, hf0⟩ := id h0
  obtain ⟨b0, em0, lm0, km0⟩ := op_state hf0 lt0
  replace km0 : b0.length ≤ 8 * Rows.uptoBulk d0 := km0
  obtain ⟨x0_0, x0_1, x0_2, A0_3, q0_3, c0_3, A0_4, q0_4, c0_4, A0_5, q0_5, c0_5, rfl, en0⟩ := leavesF_State (by simpa [Value.cells, Sch.sz] using lm0) (EncF.congr (fun _ _ _ => rfl) _ _ _ _ (fun k _ => by simp [Value.cells]) em0)
  obtain ⟨cs1, rfl, -⟩ := okWide_struct Try.underlying51 (hval 1 51 v1 rfl rfl)
  obtain ⟨fuel1, hf1⟩ := id h1
  obtain ⟨b1, em1, lm1, km1⟩ := op_tx hf1 lt1
  replace km1 : b1.length ≤ 8 * Rows.uptoBulk d1 := km1
  obtain ⟨A1_0, q1_0, c1_0, rfl, en1⟩ := leavesF_Tx (by simpa [Value.cells, Sch.sz] using lm1) (EncF.congr (fun _ _ _ => rfl) _ _ _ _ (fun k _ => by simp [Value.cells]) em1)
  obtain ⟨a2, len2, cap2, rfl⟩ := okWide_slice Try.underlying52 (hval 2 52 v2 rfl rfl)
  obtain ⟨fuel2, hf2⟩ := id h2
  obtain ⟨b2, em2, lm2, km2⟩ := op_lstring hf2 lt2
  replace km2 : b2.length ≤ 8 * Rows.uptoBulk d2 := km2
  obtain ⟨u2, ss, hu2, hts, rfl⟩ := enc_ts em2
  obtain rfl : Value.slice a2 len2 cap2 = u2 := by simpa [Value.cells] using hu2
  refine (states_walk W x0_0 x0_1 x0_2 A0_3 q0_3 c0_3 A0_4 q0_4 c0_4 A0_5 q0_5 c0_5 A1_0 q1_0 c1_0 _ ss b0 b1 en0 en1 hts (by omega) (by omega) (by omega)).mono fun e W' ⟨he, hg⟩ => ?_
  subst he
  have h0' := Below.trod (by kernel_rfl) (by kernel_rfl) (of_decide_eq_true (by kernel_rfl)) h0 hg lt0
  have h1' := Below.trod (by kernel_rfl) (by kernel_rfl) (of_decide_eq_true (by kernel_rfl)) h1 hg lt1
  have h2' := Below.trod (by kernel_rfl) (by kernel_rfl) (of_decide_eq_true (by kernel_rfl)) h2 hg lt2
  refine ⟨_, rfl, _, _, _, [], p0 ++ (p1 ++ (p2 ++ ([]))), [], hW', ?_, ?_, rfl, Below.frame hg _, fun h => by cases h⟩
  · exact trodAll_cons_mk (shut_bool Try.underlying4 _) trodAll_mk0
  · exact trodAll_cons_mk h0' (trodAll_cons_mk h1' (trodAll_cons_mk h2' trodAll_mk0))

theorem laid_met (os : Os) : laidMet Try.prog Rows.wireStatesUptoRow.laid ((laidWorld os).forCall (fun _ _ => 0) ⟨#[], #[.agg #[.int .i64 0, .int .i64 0, .int .i64 0, .slice none 0 0, .slice none 0 0, .slice none 0 0], .agg #[.slice none 0 0], .slice none 0 0], []⟩).memory :=
  laidMet_of_run' 8 (by kernel_rfl) (by kernel_rfl)
theorem reads (os : Os) {H : Type} (enc : TypeId × Value → H) : ∃ places, DataW.whole enc Try.prog ((laidWorld os).forCall (fun _ _ => 0) ⟨#[], #[.agg #[.int .i64 0, .int .i64 0, .int .i64 0, .slice none 0 0, .slice none 0 0, .slice none 0 0], .agg #[.slice none 0 0], .slice none 0 0], []⟩).memory Try.f4.params.toList Rows.wireStatesSpec.vars false #[Value.agg #[.int .i64 0, .int .i64 0, .int .i64 0, .slice none 0 0, .slice none 0 0, .slice none 0 0], Value.agg #[.slice none 0 0], Value.slice none 0 0].toList 8 = some ([.agg [.lit (.int .i64 0), .agg [.lit (.int .i64 0), .lit (.int .i64 0)], .nil, .nil, .nil], .agg [.nil], .nil], [], places) :=
  ⟨[], by kernel_rfl⟩

set_option maxRecDepth 100000 in
theorem lifted (os : Os) (started : os.Started) (H : Type) (enc : TypeId × Value → H) (F : Stop.Interp) :
    ReturnsInHanded {} Try.checked os 4 .any ((Rows.OpenSpec.upto Rows.wireStatesSpec).preRow enc Try.prog Try.f4 Rows.wireStatesUptoRow.domain false Rows.wireStatesUptoRow.laid) (((Rows.OpenSpec.upto Rows.wireStatesSpec).at F).post enc Try.prog Try.f4 false true false false) := by
  obtain ⟨places, hx⟩ := reads os enc
  refine returnsInHanded_of_row (C := Try.checked) (s := Rows.OpenSpec.upto Rows.wireStatesSpec) own started (by kernel_rfl) Try.func4
    (witness_row_at (enc := enc) (C := Try.checked) false (laidWorld os) #[.agg #[.int .i64 0, .int .i64 0, .int .i64 0, .slice none 0 0, .slice none 0 0, .slice none 0 0], .agg #[.slice none 0 0], .slice none 0 0] rfl (by kernel_rfl) (by kernel_rfl) (by kernel_rfl)
      (OpenSpec.preRow_of_cond 8 hx (by kernel_rfl) (fun k hk => by cases hk; kernel_rfl) (by kernel_rfl) (laid_met os))) ?_
  intro W base args ds gs before hval hW hc1 hc2 _ _ _ _
  exact contract H enc W base args ds gs before hval hW (by first | exact hc1 _ rfl | exact hc2 _ rfl)

set_option maxRecDepth 100000 in
theorem said : Rows.WireStatesUptoSaid :=
  OpenClaim.holds_of_cond 4 Try.f4 rfl rfl rfl rfl rfl rfl rfl ⟨rfl, rfl, rfl, rfl, rfl⟩ rfl rfl rfl rfl rfl (by kernel_rfl) Try.func4 (by kernel_rfl)
    (of_decide_eq_true (by kernel_rfl)) (by unfold Func.isWrapper; first | (rw [if_pos (by decide +kernel)]; kernel_rfl) | (rw [if_neg (by decide +kernel)]; exact ⟨rfl, rfl⟩))
    (fun os started H enc _ F => by rw [OpenClaim.pre_eq_preRow]; exact lifted os started H enc F)

end Go.Proofs.Ytniodjigncicbaa.wireStates

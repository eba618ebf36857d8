/-
  ExtentCopies: behind any acts on an object's bytes it is copied, and behind any acts on the copy the old one has the bytes that it had, the extents of both are the document's, however often they are told; the document's examples hold; the arguments read as before.
  No condition.
-/
import Derived.Test.YtniodjigncicbaaExZ
import Derived.Test.YtniodjigncicbaaErI
import Derived.Test.YtniodjigncicbaaExAd
namespace Go.Proofs.Ytniodjigncicbaa.extentCopies
open Go.RowKit Go.ChangeShapes Go.WideShapes Go.ChangeAt Dg

set_option maxRecDepth 100000 in
theorem contract (H : Type) (enc : TypeId × Value → H) (W : World) (base : Nat) (args : Array Value) (ds gs : List (DataW H)) (before : List MemPlace)
    (hval : ∀ (j : Nat) t v, Try.f5.params[j]? = some t → args[j]? = some v → Value.okWide Try.prog W .any base t v)
    (hW : DataW.Whole enc Try.prog Try.f5.params.toList Rows.extentCopiesSpec.vars false W args.toList ds gs before)
    (hsz0 : (DataW.weightsEach Try.prog (Try.f5.params.toList ++ (OpenSpec.ofChange Rows.extentCopiesSpec).bare.plain.varTypes Try.prog) (ds ++ gs)).all (· ≤ reachBytes) = true) :
    Calls Try.prog 5 args W fun e W' => ∃ v, e = .returned v ∧ Rows.extentCopiesSpec.post enc Try.prog Try.f5 false true false false W args v W' := by
  have hW' := hW
  obtain ⟨p, q, hA0, hV, rfl, hfz, hnd⟩ := hW
  have hA : DataW.TrodAll enc Try.prog W 0 (fun _ => true) true Try.f5.params.toList args.toList ds p := hA0
  have hsz := hsz0
  rw [Try.params5] at hA hval hsz
  obtain ⟨v0, vs0, d0, ds0, p0, q0, hargs, rfl, rfl, h0, r0⟩ := trodAll_cons hA
  obtain ⟨v1, vs1, d1, ds1, p1, q1, rfl, rfl, rfl, h1, r1⟩ := trodAll_cons r0
  obtain ⟨rfl, rfl, rfl⟩ := trodAll_nil r1
  obtain rfl : args = #[v0, v1] := by cases args; simp_all
  obtain ⟨rfl, rfl⟩ := trodVars_none hV
  clear hA0
  simp only [List.append_nil] at hW'
  have lt0 := fun x (hx : x ∈ p0) => hW'.lt x (List.mem_append_left _ hx)
  have lt1 := fun x (hx : x ∈ p1) => hW'.lt x (List.mem_append_right _ hx)
  obtain ⟨a0, len0, cp0, rfl⟩ := okWide_slice Try.underlying64 (hval 0 64 v0 rfl rfl)
  obtain ⟨a1, len1, cp1, rfl⟩ := okWide_slice Try.underlying64 (hval 1 64 v1 rfl rfl)
  obtain ⟨fuel, hf⟩ := id h0
  obtain ⟨fuel1, hf1⟩ := id h1
  obtain ⟨A, m, cap, K, M, N, Z, L, hcs, hmc, hcap, hops, hlens⟩ := open_acts5s hf lt0 (jj := 0) hsz rfl rfl
  obtain ⟨A', m', cap', K', M', N', Z', L', hcs', hmc', hcap', hops', hlens'⟩ := open_acts5s hf1 lt1 (jj := 1) hsz rfl rfl
  simp [Value.cells] at hcs hcs'
  obtain ⟨rfl, rfl, rfl⟩ := hcs
  obtain ⟨rfl, rfl, rfl⟩ := hcs'
  refine (copies_walk5 W a0 len0 cp0 K M N Z L hmc hcap (Lib.hid ⟨hops, hlens⟩) a1 len1 cp1 K' M' N' Z' L' hmc' hcap' (Lib.hid ⟨hops', hlens'⟩)).mono fun e W' ⟨he, hg⟩ => ?_
  subst he
  have h0' := Below.trod (by kernel_rfl) (by kernel_rfl) (of_decide_eq_true (by kernel_rfl)) h0 hg lt0
  have h1' := Below.trod (by kernel_rfl) (by kernel_rfl) (of_decide_eq_true (by kernel_rfl)) h1 hg lt1
  refine ⟨_, rfl, _, _, _, [], p0 ++ (p1 ++ []), [], hW', ?_, ?_, rfl, Below.frame hg _, fun h => by cases h⟩
  · exact trodAll_cons_mk (shut_bool Try.underlying4 _) trodAll_mk0
  · exact trodAll_cons_mk h0' (trodAll_cons_mk h1' trodAll_mk0)

theorem laid_met (os : Os) : laidMet Try.prog Rows.extentCopiesRow.laid ((xlaidWorld os).forCall (fun _ _ => 0) ⟨#[], #[.slice none 0 0, .slice none 0 0], []⟩).memory :=
  laidMet_of_run' 8 (by kernel_rfl) (by kernel_rfl)
theorem reads (os : Os) {H : Type} (enc : TypeId × Value → H) : ∃ places, DataW.whole enc Try.prog ((xlaidWorld os).forCall (fun _ _ => 0) ⟨#[], #[.slice none 0 0, .slice none 0 0], []⟩).memory Try.f5.params.toList Rows.extentCopiesSpec.vars false #[Value.slice none 0 0, Value.slice none 0 0].toList 8 = some ([.nil, .nil], [], places) :=
  ⟨[], by kernel_rfl⟩

set_option maxRecDepth 100000 in
theorem lifted (os : Os) (started : os.Started) (H : Type) (enc : TypeId × Value → H) (F : Stop.Interp) :
    ReturnsInHanded {} Try.checked os 5 .any ((OpenSpec.ofChange Rows.extentCopiesSpec).preRow enc Try.prog Try.f5 Rows.extentCopiesRow.domain false Rows.extentCopiesRow.laid) (((OpenSpec.ofChange Rows.extentCopiesSpec).at F).post enc Try.prog Try.f5 false true false false) := by
  obtain ⟨places, hx⟩ := reads os enc
  refine returnsInHanded_of_row (C := Try.checked) (s := OpenSpec.ofChange Rows.extentCopiesSpec) xown started (by kernel_rfl) Try.func5
    (witness_row_at (enc := enc) (C := Try.checked) false (xlaidWorld os) #[.slice none 0 0, .slice none 0 0] rfl (by kernel_rfl) (by kernel_rfl) (by kernel_rfl)
      (OpenSpec.preRow_of_cond 8 hx (by kernel_rfl) (fun k hk => by cases hk) (by kernel_rfl) (laid_met os))) ?_
  intro W base args ds gs before hval hW _ _ hsz _ _ _
  exact contract H enc W base args ds gs before hval hW hsz

set_option maxRecDepth 100000 in
theorem said : Rows.ExtentCopiesSaid :=
  OpenClaim.holds_of_cond 5 Try.f5 rfl rfl rfl rfl rfl rfl rfl ⟨rfl, rfl, rfl, rfl, rfl⟩ rfl rfl rfl rfl rfl (by kernel_rfl) Try.func5 (by kernel_rfl)
    (of_decide_eq_true (by kernel_rfl)) (by unfold Func.isWrapper; first | (rw [if_pos (by decide +kernel)]; kernel_rfl) | (rw [if_neg (by decide +kernel)]; exact ⟨rfl, rfl⟩))
    (fun os started H enc _ F => by rw [OpenClaim.pre_eq_preRow]; exact lifted os started H enc F)

end Go.Proofs.Ytniodjigncicbaa.extentCopies

/-
  StrawChooses: whose straw is the longest, of any numbers and weights, and how often each is, are what the document defines, and the document's examples hold; the arguments read as before.
  No condition.
-/
import Derived.Test.YtmnfmgdllfhmaaaStP
namespace Go.Proofs.Ytmnfmgdllfhmaaa.strawChooses
open Go.RowKit Go.ChangeShapes Go.WideShapes Go.ChangeAt Go.ChangeMaps Dg

set_option maxRecDepth 100000 in
theorem contract (H : Type) (enc : TypeId × Value → H) (W : World) (base : Nat) (args : Array Value) (ds gs : List (DataW H)) (before : List MemPlace)
    (hval : ∀ (j : Nat) t v, Try.f5.params[j]? = some t → args[j]? = some v → Value.okWide Try.prog W .any base t v)
    (hW : DataW.Whole enc Try.prog Try.f5.params.toList Rows.strawChoosesSpec.vars false W args.toList ds gs before)
    (hsz0 : (DataW.weightsEach Try.prog (Try.f5.params.toList ++ (OpenSpec.ofChange Rows.strawChoosesSpec).bare.plain.varTypes Try.prog) (ds ++ gs)).all (· ≤ reachBytes) = true) :
    Calls Try.prog 5 args W fun e W' => ∃ v, e = .returned v ∧ Rows.strawChoosesSpec.post enc Try.prog Try.f5 false true false false W args v W' := by
  have hW' := hW
  obtain ⟨p, q, hA0, hV, rfl, hfz, hnd⟩ := hW
  have hA : DataW.TrodAll enc Try.prog W 0 (fun _ => true) true Try.f5.params.toList args.toList ds p := hA0
  have hsz := hsz0
  rw [Try.params5] at hA hval hsz
  obtain ⟨v0, vs0, d0, ds0, p0, q0, hargs, rfl, rfl, h0, r0⟩ := trodAll_cons hA
  obtain ⟨v1, vs1, d1, ds1, p1, q1, rfl, rfl, rfl, h1, r1⟩ := trodAll_cons r0
  obtain ⟨v2, vs2, d2, ds2, p2, q2, rfl, rfl, rfl, h2, r2⟩ := trodAll_cons r1
  obtain ⟨rfl, rfl, rfl⟩ := trodAll_nil r2
  obtain rfl : args = #[v0, v1, v2] := by cases args; simp_all
  obtain ⟨rfl, rfl⟩ := trodVars_none hV
  clear hA0
  simp only [List.append_nil] at hW'
  obtain ⟨cs0, rfl, -⟩ := okWide_struct Try.underlying30 (hval 0 30 v0 rfl rfl)
  obtain ⟨fuel0, hf0⟩ := id h0
  obtain ⟨A0, n0, c0, B0, m0, e0, l0, k0, hcs0, hi0, hw0, x0, y0, hd0, hll0⟩ := open_straws hf0 (fun x hx => hW'.lt x (List.mem_append_left _ hx))
  obtain rfl : cs0 = #[.slice A0 n0 c0, .slice B0 m0 e0] := Array.ext' hcs0
  have h47 := straws_sized hsz (j := 0) rfl (congrArg some hd0) hll0
  obtain ⟨h, rfl, rfl, rfl, wh⟩ := open_int Try.underlying25 (hval 1 25 v1 rfl rfl) h1
  have hb := bounds_u32 wh
  obtain ⟨a, rfl⟩ : ∃ a : UInt32, n32 a = h := ⟨UInt32.ofNat h.toNat, by unfold n32; rw [UInt32.toNat_ofNat']; omega⟩
  obtain ⟨cs2, rfl⟩ := okWide_agg Try.underlying31 (hval 2 31 v2 rfl rfl)
  obtain ⟨fuel2, hf2⟩ := id h2
  obtain ⟨r, n, hcs2, -⟩ := open_a2 hf2
  obtain rfl : cs2 = #[.int .i64 r, .int .i64 n] := Array.ext' hcs2
  refine (chooses_walk W a r n hi0 hw0 h47).mono fun e W' ⟨he, hg⟩ => ?_
  subst he
  have h0' := Below.trod (by kernel_rfl) (by kernel_rfl) (of_decide_eq_true (by kernel_rfl)) h0 hg (fun x hx => hW'.lt x (by simp only [List.mem_append]; simp [hx]))
  have h2' := Below.trod (by kernel_rfl) (by kernel_rfl) (of_decide_eq_true (by kernel_rfl)) h2 hg (fun x hx => hW'.lt x (by simp only [List.mem_append]; simp [hx]))
  refine ⟨_, rfl, _, _, _, [], p0 ++ ([] ++ (p2 ++ [])), [], hW', ?_, ?_, rfl, Below.frame hg _, fun h => by cases h⟩
  · exact trodAll_cons_mk (shut_bool Try.underlying4 _) trodAll_mk0
  · exact trodAll_cons_mk h0' (trodAll_cons_mk (shut_int Try.underlying25 wh) (trodAll_cons_mk h2' trodAll_mk0))

theorem laid_met (os : Os) : laidMet Try.prog Rows.strawChoosesRow.laid ((slaidWorld os).forCall (fun _ _ => 0) ⟨#[], #[.agg #[.slice none 0 0, .slice none 0 0], .int .u32 0, .agg #[.int .i64 0, .int .i64 0]], []⟩).memory :=
  laidMet_of_run' 8 (by kernel_rfl) (by kernel_rfl)
theorem reads (os : Os) {H : Type} (enc : TypeId × Value → H) : ∃ places, DataW.whole enc Try.prog ((slaidWorld os).forCall (fun _ _ => 0) ⟨#[], #[.agg #[.slice none 0 0, .slice none 0 0], .int .u32 0, .agg #[.int .i64 0, .int .i64 0]], []⟩).memory Try.f5.params.toList Rows.strawChoosesSpec.vars false #[Value.agg #[.slice none 0 0, .slice none 0 0], Value.int .u32 0, Value.agg #[.int .i64 0, .int .i64 0]].toList 8 = some ([.agg [.nil, .nil], .lit (.int .u32 0), .agg [.lit (.int .i64 0), .lit (.int .i64 0)]], [], places) :=
  ⟨[], by kernel_rfl⟩

set_option maxRecDepth 100000 in
theorem lifted (os : Os) (started : os.Started) (H : Type) (enc : TypeId × Value → H) (F : Stop.Interp) :
    ReturnsInHanded {} Try.checked os 5 .any ((OpenSpec.ofChange Rows.strawChoosesSpec).preRow enc Try.prog Try.f5 Rows.strawChoosesRow.domain false Rows.strawChoosesRow.laid) (((OpenSpec.ofChange Rows.strawChoosesSpec).at F).post enc Try.prog Try.f5 false true false false) := by
  obtain ⟨places, hx⟩ := reads os enc
  refine returnsInHanded_of_row (C := Try.checked) (s := OpenSpec.ofChange Rows.strawChoosesSpec) sown started (by kernel_rfl) Try.func5
    (witness_row_at (enc := enc) (C := Try.checked) false (slaidWorld os) #[.agg #[.slice none 0 0, .slice none 0 0], .int .u32 0, .agg #[.int .i64 0, .int .i64 0]] rfl (by kernel_rfl) (by kernel_rfl) (by kernel_rfl)
      (OpenSpec.preRow_of_cond 8 hx (by kernel_rfl) (fun k hk => by cases hk) (by kernel_rfl) (laid_met os))) ?_
  intro W base args ds gs before hval hW _ _ hsz _ _ _
  exact contract H enc W base args ds gs before hval hW hsz

set_option maxRecDepth 100000 in
theorem said : Rows.StrawChoosesSaid :=
  OpenClaim.holds_of_cond 5 Try.f5 rfl rfl rfl rfl rfl rfl rfl ⟨rfl, rfl, rfl, rfl, rfl⟩ rfl rfl rfl rfl rfl (by kernel_rfl) Try.func5 (by kernel_rfl)
    (of_decide_eq_true (by kernel_rfl)) (by unfold Func.isWrapper; first | (rw [if_pos (by decide +kernel)]; kernel_rfl) | (rw [if_neg (by decide +kernel)]; exact ⟨rfl, rfl⟩))
    (fun os started H enc _ F => by rw [OpenClaim.pre_eq_preRow]; exact lifted os started H enc F)

end Go.Proofs.Ytmnfmgdllfhmaaa.strawChooses

/- The walk through WireUnframes. -/
import Derived.Test.YtckepkgooinohaaWrZ
import Derived.Test.YtckepkgooinohaaWrK
namespace Go.Proofs.Ytckepkgooinohaa.wireUnframes
open Go.RowKit Go.ChangeShapes Go.WideShapes Go.ChangeAt Dg
set_option maxRecDepth 100000 in
set_option maxHeartbeats 4000000 in
theorem walk (v : Value) (l : List UInt8) (w : World) (hv : Bs w w.heap.size v l) :
    Calls Try.prog 5 #[v] w (LawPost w) := by
  have HV := Lib.hid hv
  obtain ⟨A, c, rfl, -, -, -⟩ := id hv
  clear hv
  obtain ⟨en, hen⟩ : ∃ en : Int, (ufE l : Int) = en := ⟨_, rfl⟩
  obtain ⟨nn, hnn⟩ : ∃ nn : Int, (ufN l : Int) = nn := ⟨_, rfl⟩
  obtain ⟨ct, hct⟩ : ∃ ct, ufC l = ct := ⟨_, rfl⟩
  have HE := Lib.hid (And.intro hen (And.intro hnn hct))
  clear hen hnn hct
  go_enter Try.func5, Try.ntmps5
  go_wp2_with fail
  refine (unframe_any w HV.out (Nat.le_refl _)).mono ?_
  rintro e w1 ⟨u1, rfl, ho1, ha1⟩
  rw [HE.out.1, HE.out.2.1]
  rw [HE.out.2.2] at ho1
  obtain ⟨A1, n1, c1, rfl⟩ := ho1.shape
  have hb1 := (HV.out.ab ha1 (Nat.le_refl _)).more ha1.size
  have H1 := Lib.hid (And.intro ho1 (And.intro ha1 hb1))
  clear ho1 ha1 hb1
  go_wp2_with fail
  refine (runframe_any w1 H1.out.2.2).mono ?_
  rintro e w2 ⟨u2, rfl, ho2, ha2⟩
  rw [HE.out.1, HE.out.2.1]
  rw [HE.out.2.2] at ho2
  obtain ⟨A2, n2, c2, rfl⟩ := ho2.shape
  have H2 := Lib.hid (And.intro (H1.out.1.ab ha2).bs (And.intro ho2.bs (H1.out.2.1.trans ha2)))
  clear ho2 ha2
  go_wp2_with fail
  refine (same_any w2 H2.out.1 H2.out.2.1).mono ?_
  rintro e w3 ⟨rfl, rfl⟩
  have hs : (ct == ct) = true := by simp
  go_wp2_with fail
  refine (num_any _ _).mono ?_
  rintro e w3 ⟨rfl, rfl⟩
  go_wp2_with fail
  refine (awake_any _).mono ?_
  rintro e w3 ⟨rfl, ha3⟩
  go_wp2_with fail
  go_ret
  exact ⟨rfl, H2.out.2.2.trans ha3⟩
end Go.Proofs.Ytckepkgooinohaa.wireUnframes

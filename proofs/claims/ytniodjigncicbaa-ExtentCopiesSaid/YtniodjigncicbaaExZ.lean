/- What all laws of extent share. -/
import Derived.Test.YtniodjigncicbaaExOa
import Derived.ProofKit
import Derived.OpenShut
import Derived.Deep.DeepHandedRow
import Derived.Lib.LaidTab
namespace Go.Proofs.Ytniodjigncicbaa.Dg
open Go.RowKit
theorem xown : ownKnob Try.prog.godebug = none := by kernel_rfl
noncomputable def xlaidWorld (os : Os) : World := World.holding Try.prog os ⟨#[], #[], []⟩
end Go.Proofs.Ytniodjigncicbaa.Dg

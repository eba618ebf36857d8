/- The reference's CRC of any bytes; a slice of bytes that came in, opened. -/
import Derived.Test.YtpikhfgpdebomaaDoorDgI
import Derived.Test.YtpikhfgpdebomaaDoorDgJ
import Derived.Test.YtpikhfgpdebomaaDoorDgOb
import Derived.Carry
import Derived.ProofKit
import Derived.OpenShut
namespace Go.Proofs.YtpikhfgpdebomaaDoor.Dg
open Go.RowKit Go.ChangeShapes Go.WideShapes Go.ChangeAt
/-- The reference's CRC of any bytes. -/
theorem rcrc_any (B : Nat) (v : Value) (l : List UInt8) (w : World) (hv : Bs w B v l) :
    Calls Tryd.prog 8 #[v] w fun e w' => e = .returned (.int .u32 (n32 (crcL l))) ∧ w = w' := by
  rw [crcL_r]
  obtain ⟨A, c, rfl, h1, h2, h3⟩ := hv
  cases l with
  | nil => exact rcrc_nil c A w
  | cons x xs =>
    obtain ⟨b, off, rfl, hb, hc⟩ := h3 (by simp)
    exact rcrc_some b off c (x :: xs) (by omega) w hc
end Go.Proofs.YtpikhfgpdebomaaDoor.Dg

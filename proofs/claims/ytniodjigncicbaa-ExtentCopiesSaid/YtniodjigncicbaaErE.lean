/- act: any act. -/
import Derived.Test.YtniodjigncicbaaErD
namespace Go.Proofs.Ytniodjigncicbaa.Dg
open Go.RowKit
variable {w w' w1 w2 : World} {base a b s B : Nat} {v u vd vh z : Value} {c : Cel} {l : List UInt8} {ps : List Pr} {p q : Int}
theorem xact_any (k : Int) (h : Px w base a b v ps vd vh c s) (hz : Bs w B z l) (hB : B ≤ base) (hl : l.length ≤ 200000000000000) (hb : base ≤ w.heap.size) (hp : p ≤ 9223372036854775807) (hq : q ≤ 9223372036854775807) :
    Calls Try.prog 26 #[.pointer (some ⟨a, 0, none⟩), .pointer (some ⟨b, 0, none⟩), .agg #[.int .i64 k, .int .i64 p, .int .i64 q, z]] w (ActX base a b ps vd vh w) := by
  obtain ⟨A, c0, hv, -⟩ := id hz
  by_cases h0 : k = 0
  · subst h0; exact xact0 h hz hB hl hb
  subst hv
  by_cases h1 : k = 1
  · subst h1; exact xact1 h hq hb
  by_cases h2 : k = 2
  · subst h2; exact xact2 h hb
  by_cases h3 : k = 3
  · subst h3; exact xact3 h hp hq hb
  exact xactX k (by omega) h
end Go.Proofs.Ytniodjigncicbaa.Dg

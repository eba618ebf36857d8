/- The reference's disk in memory: Crash. -/
import Derived.Test.YtolchbjcdlncgaaDkCa
import Derived.Test.YtolchbjcdlncgaaDkCb
namespace Go.Proofs.Ytolchbjcdlncgaa.Dg
open Go.RowKit
variable {w w' : World} {base g : Nat} {v : Value} {d : Dst}
theorem crashTo_is (h : d.Ok) (k : Int) (n : Nat) (hn : (max k 0).toNat = n) : Dst.within d.lim (min (d.synced + n) d.fin) = d.crashTo k := by
  have := h.reach
  unfold Dst.crashTo Dst.far
  rw [hn, show min (min (d.synced + n) 9223372036854775807) d.fin = min (d.synced + n) d.fin by omega]
theorem rcrash_any (w : World) (h : Rk w base g v d) (k : Int) (hk9 : k ≤ 9223372036854775807) (hbase : base ≤ w.heap.size) :
    Calls Try.prog 73 #[.pointer (some ⟨g, 0, none⟩), .int .i64 k] w fun e w' => e = .returned (.tuple #[]) ∧ ∃ v', Rk w' base g v' (d.crash k) ∧ Turn g v v' w w' := by
  have ht := h.ok.crashTo k
  have hok := h.ok.crash k
  unfold Dst.crash at hok ⊢
  by_cases hk : k < 0
  · exact rcrash_neg w h k hk (d.crashTo k) ht.1 ht.2 (crashTo_is h.ok k 0 (by omega)) hok hbase
  · obtain ⟨n, rfl⟩ : ∃ n : Nat, k = (n : Int) := ⟨k.toNat, by omega⟩
    exact rcrash_pos w h n (by omega) (d.crashTo n) ht.1 ht.2 (crashTo_is h.ok n n (by omega)) hok hbase
end Go.Proofs.Ytolchbjcdlncgaa.Dg

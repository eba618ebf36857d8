/- Sha of a nil engine: noughts. -/
import Derived.Test.YtlbjilfkddkmeaaDoorDgX
namespace Go.Proofs.YtlbjilfkddkmeaaDoor.Dg
open Go.RowKit
def zs : Array Value := #[.int .u8 0, .int .u8 0, .int .u8 0, .int .u8 0, .int .u8 0, .int .u8 0, .int .u8 0, .int .u8 0, .int .u8 0, .int .u8 0, .int .u8 0, .int .u8 0, .int .u8 0, .int .u8 0, .int .u8 0, .int .u8 0, .int .u8 0, .int .u8 0, .int .u8 0, .int .u8 0, .int .u8 0, .int .u8 0, .int .u8 0, .int .u8 0, .int .u8 0, .int .u8 0, .int .u8 0, .int .u8 0, .int .u8 0, .int .u8 0, .int .u8 0, .int .u8 0]
theorem zs_u : U8s zs 32 (fun _ => 0) := by
  refine ⟨rfl, fun i hi => ?_⟩
  show (List.replicate 32 (Value.int .u8 0)).toArray[i]? = some (.int .u8 0)
  rw [List.getElem?_toArray, List.getElem?_replicate, if_pos hi]
set_option maxRecDepth 100000 in
set_option maxHeartbeats 1600000 in
theorem Sha_nil (v : Value) (w : World) :
    Calls Tryd.prog 15 #[.pointer none, v] w fun e w' => e = .returned (.agg zs) ∧ Ab w w' := by
  have hnot := m_not
  go_enter Tryd.func15, Tryd.ntmps15
  go_wp2_with fail
  have hz1 : ∃ zs1 : Array Value, Bk (w.alloc (.cells #[.int .u8 0, .int .u8 0, .int .u8 0, .int .u8 0, .int .u8 0, .int .u8 0, .int .u8 0, .int .u8 0, .int .u8 0, .int .u8 0, .int .u8 0, .int .u8 0, .int .u8 0, .int .u8 0, .int .u8 0, .int .u8 0, .int .u8 0, .int .u8 0, .int .u8 0, .int .u8 0, .int .u8 0, .int .u8 0, .int .u8 0, .int .u8 0, .int .u8 0, .int .u8 0, .int .u8 0, .int .u8 0, .int .u8 0, .int .u8 0, .int .u8 0, .int .u8 0] 30)) w.heap.size 30 zs1 ∧ zs1.size = 32 := ⟨_, Bk.made w _ _, rfl⟩
  have ha1 : Ab w (w.alloc (.cells #[.int .u8 0, .int .u8 0, .int .u8 0, .int .u8 0, .int .u8 0, .int .u8 0, .int .u8 0, .int .u8 0, .int .u8 0, .int .u8 0, .int .u8 0, .int .u8 0, .int .u8 0, .int .u8 0, .int .u8 0, .int .u8 0, .int .u8 0, .int .u8 0, .int .u8 0, .int .u8 0, .int .u8 0, .int .u8 0, .int .u8 0, .int .u8 0, .int .u8 0, .int .u8 0, .int .u8 0, .int .u8 0, .int .u8 0, .int .u8 0, .int .u8 0, .int .u8 0] 30)) := (Ab.refl w).alloc _
  generalize w.alloc (.cells #[.int .u8 0, .int .u8 0, .int .u8 0, .int .u8 0, .int .u8 0, .int .u8 0, .int .u8 0, .int .u8 0, .int .u8 0, .int .u8 0, .int .u8 0, .int .u8 0, .int .u8 0, .int .u8 0, .int .u8 0, .int .u8 0, .int .u8 0, .int .u8 0, .int .u8 0, .int .u8 0, .int .u8 0, .int .u8 0, .int .u8 0, .int .u8 0, .int .u8 0, .int .u8 0, .int .u8 0, .int .u8 0, .int .u8 0, .int .u8 0, .int .u8 0, .int .u8 0] 30) = w1 at *
  obtain ⟨zs1, hz1, hzz⟩ := hz1
  refine (ready_nil _).mono ?_
  rintro e w2 ⟨rfl, rfl⟩
  go_wp2_with (first | (refine wpList_store_row rfl rfl 30 _ _ rfl w.heap.size rfl zs _ rfl 30 hz1 (by rw [zs_u.1, hzz]) (by rw [zs_u.1]; kernel_rfl) zs_u.ones ?_; rintro wf rfl))
  refine bodyPost_ret (v := .agg zs) ?_ rfl ⟨rfl, ha1.row (Nat.le_refl _) zs⟩
  exact results_cell_row (P := Tryd.prog) Tryd.results15 _ _ w.heap.size 30 zs (0, 0) _ rfl (hz1.row zs) Tryd.underlying30 rfl (by rw [zs_u.1]; kernel_rfl)
theorem eql_zs (w : World) : (binOp .eql 30 (.agg zs) (.agg #[.int .u8 0, .int .u8 0, .int .u8 0, .int .u8 0, .int .u8 0, .int .u8 0, .int .u8 0, .int .u8 0, .int .u8 0, .int .u8 0, .int .u8 0, .int .u8 0, .int .u8 0, .int .u8 0, .int .u8 0, .int .u8 0, .int .u8 0, .int .u8 0, .int .u8 0, .int .u8 0, .int .u8 0, .int .u8 0, .int .u8 0, .int .u8 0, .int .u8 0, .int .u8 0, .int .u8 0, .int .u8 0, .int .u8 0, .int .u8 0, .int .u8 0, .int .u8 0])).run Tryd.prog w = .ok (.bool true) w := by kernel_rfl
end Go.Proofs.YtlbjilfkddkmeaaDoor.Dg

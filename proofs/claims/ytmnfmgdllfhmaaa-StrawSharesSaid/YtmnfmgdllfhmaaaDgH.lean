import Derived.Test.YtmnfmgdllfhmaaaDgM
namespace Go.Proofs.Ytmnfmgdllfhmaaa.Dg
open Go.RowKit
def hash1L (a : UInt32) : UInt32 :=
  let t := mixL a 231232 (1315423911 ^^^ a)
  (mixL 1232 a t.2.2).2.2
def hash2L (a b : UInt32) : UInt32 :=
  let t := mixL a b (1315423911 ^^^ a ^^^ b)
  let u := mixL 231232 t.1 t.2.2
  (mixL t.2.1 1232 u.2.2).2.2
def hash3L (a b c : UInt32) : UInt32 :=
  let t := mixL a b (1315423911 ^^^ a ^^^ b ^^^ c)
  let u := mixL c 231232 t.2.2
  let v := mixL 1232 t.1 u.2.2
  let x := mixL t.2.1 u.2.1 v.2.2
  (mixL v.1 u.1 x.2.2).2.2
theorem lit_seed (a : UInt32) : bits .xor .u32 1315423911 (n32 a) = n32 (1315423911 ^^^ a) := by
  rw [show (1315423911 : Int) = n32 1315423911 from rfl, xor32]
section
attribute [local go_sem] xor32 lit_seed
set_option maxHeartbeats 400000 in
theorem hash3_any (a b c : UInt32) (w : World) :
    Calls Try.prog 28 #[.int .u32 (n32 a), .int .u32 (n32 b), .int .u32 (n32 c)] w fun e w' => e = .returned (.int .u32 (n32 (hash3L a b c))) ∧ w = w' := by
  go_enter Try.func28, Try.ntmps28
  go_wp2_with fail
  refine (mix_any _ _ _ _).mono ?_
  rintro e w' ⟨rfl, rfl⟩
  go_wp2_with fail
  refine (mix_any _ 231232 _ _).mono ?_
  rintro e w' ⟨rfl, rfl⟩
  go_wp2_with fail
  refine (mix_any 1232 _ _ _).mono ?_
  rintro e w' ⟨rfl, rfl⟩
  go_wp2_with fail
  refine (mix_any _ _ _ _).mono ?_
  rintro e w' ⟨rfl, rfl⟩
  go_wp2_with fail
  refine (mix_any _ _ _ _).mono ?_
  rintro e w' ⟨rfl, rfl⟩
  go_wp2_with fail
  go_ret
  exact ⟨rfl, rfl⟩
end
end Go.Proofs.Ytmnfmgdllfhmaaa.Dg

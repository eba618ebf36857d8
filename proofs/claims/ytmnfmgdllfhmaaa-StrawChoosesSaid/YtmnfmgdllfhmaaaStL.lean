/- math/bits.Len64 of a number from 1 to 65536. -/
import Derived.Test.YtmnfmgdllfhmaaaStA
import Derived.Test.YtmnfmgdllfhmaaaRows
import Derived.Lib.Strings
import Derived.Lib.Slices
import Derived.Lib.Small
import Derived.Lib.Walk
import Derived.Lib.BitFns
namespace Go.Proofs.Ytmnfmgdllfhmaaa.Dg
theorem len8_lg : ∀ i : Fin 256, Lib.len8 (i.val : Int) = if i.val = 0 then (0 : Int) else (lg i.val : Int) + 1 := by decide +kernel
theorem len8_in : ∀ i : Fin 256, 0 ≤ Lib.len8 (i.val : Int) ∧ Lib.len8 (i.val : Int) ≤ 8 := by decide +kernel
theorem len8_nat (x : Int) (h : x < 256) (h0 : 1 ≤ x) : Lib.len8 x = (lg x.toNat : Int) + 1 := by
  have := len8_lg ⟨x.toNat, by omega⟩
  rw [show ((⟨x.toNat, by omega⟩ : Fin 256).val : Int) = x by show ((x.toNat : Nat) : Int) = x; omega] at this
  rw [this]
  exact if_neg (by show x.toNat ≠ 0; omega)
theorem len8_bd (x : Int) (h : x < 256) (h0 : 0 ≤ x) : 0 ≤ Lib.len8 x ∧ Lib.len8 x ≤ 8 := by
  have := len8_in ⟨x.toNat, by omega⟩
  rw [show ((⟨x.toNat, by omega⟩ : Fin 256).val : Int) = x by show ((x.toNat : Nat) : Int) = x; omega] at this
  exact this
theorem lg_div (n k : Nat) (h : 1 ≤ n / 2 ^ k) : lg n = lg (n / 2 ^ k) + k := by
  have h1 := lg_in h
  have hp : 0 < 2 ^ k := Nat.two_pow_pos k
  refine (lg_of ?_ ?_)
  · rw [Nat.pow_add]; exact (Nat.le_div_iff_mul_le hp).1 h1.1
  · rw [show lg (n / 2 ^ k) + k + 1 = (lg (n / 2 ^ k) + 1) + k by omega, Nat.pow_add]; exact (Nat.div_lt_iff_lt_mul hp).1 h1.2
theorem tab_at (y : Int) (h : y.toNat < Lib.len8tab.size) (h0 : 1 ≤ y) (h1 : y < 256) : ((Lib.len8tab[y.toNat]'h).toNat : Int) = (lg y.toNat : Int) + 1 := by
  have := len8_nat y h1 h0
  unfold Lib.len8 at this
  rw [ByteArray.getElem?_lt' _ _ h] at this
  exact this
theorem lg_bd (y : Int) (h0 : 1 ≤ y) (h1 : y < 256) : lg y.toNat ≤ 7 := by
  have a := len8_nat y h1 h0
  have b := len8_bd y h1 (by omega)
  omega
attribute [local go_sem] Lib.len8tab_size
set_option maxHeartbeats 4000000 in
set_option maxRecDepth 100000 in
theorem len64_int (x : Int) (w : World) (h0 : 1 ≤ x) (h1 : x ≤ 65536) :
    Calls Try.prog 19 #[.int .u64 x] w fun e w' => e = .returned (.int .i64 ((lg x.toNat : Int) + 1)) ∧ w = w' := by
  go_enter Try.func19, Try.ntmps19
  go_wp2
  all_goals (go_ret; refine ⟨congrArg Ending.returned (congrArg (Value.int IntKind.i64) ?_), rfl⟩)
  · have e := tab_at (x / 65536) (by rw [Lib.len8tab_size]; omega) (by omega) (by omega)
    have b := lg_bd (x / 65536) (by omega) (by omega)
    have d := lg_div x.toNat 16 (by omega)
    rw [show x.toNat / 2 ^ 16 = (x / 65536).toNat by omega] at d
    rw [e]
    unfold RowKit.wrap64
    omega
  · have e := tab_at (x / 256) (by rw [Lib.len8tab_size]; omega) (by omega) (by omega)
    have b := lg_bd (x / 256) (by omega) (by omega)
    have d := lg_div x.toNat 8 (by omega)
    rw [show x.toNat / 2 ^ 8 = (x / 256).toNat by omega] at d
    rw [e]
    unfold RowKit.wrap64
    omega
  · have e := tab_at x (by rw [Lib.len8tab_size]; omega) (by omega) (by omega)
    have b := lg_bd x (by omega) (by omega)
    rw [e]
    unfold RowKit.wrap64
    omega
theorem len64_any (x : Nat) (h1 : 1 ≤ x) (h2 : x ≤ 65536) (w : World) :
    Calls Try.prog 19 #[.int .u64 (x : Int)] w fun e w' => e = .returned (.int .i64 ((lg x : Int) + 1)) ∧ w = w' := len64_int (x : Int) w (by omega) (by omega)
end Go.Proofs.Ytmnfmgdllfhmaaa.Dg

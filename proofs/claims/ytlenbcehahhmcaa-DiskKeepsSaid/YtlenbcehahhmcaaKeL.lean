/- The walk through DiskKeeps, whole. -/
import Derived.Test.YtlenbcehahhmcaaKeC
import Derived.Test.YtlenbcehahhmcaaKeD
import Derived.Test.YtlenbcehahhmcaaKeE
import Derived.Test.YtlenbcehahhmcaaKeF
import Derived.Test.YtlenbcehahhmcaaKeG
namespace Go.Proofs.Ytlenbcehahhmcaa.diskKeeps
open Go.RowKit Dg
variable {A0 A1 : Option Addr} {c0 c1 : Nat} {ks ts : List UInt8}
theorem to_is (N K T s : Nat) (L : Option Nat) (keep : Int) (hK : ks.length = K) (hT : ts.length = T) : Dst.crashTo ⟨N, 0, s, ks ++ ts, L⟩ keep = Dst.within L (min (Dst.far s keep) (K + T)) := by
  unfold Dst.crashTo Dst.fin
  rw [k_fin hK hT]
theorem walk_all (W : World) (arm keep : Int) (K T : Nat) (h0 : Bs W W.heap.size (.slice A0 K c0) ks) (h1 : Bs W W.heap.size (.slice A1 T c1) ts) (hK : ks.length = K) (hT : ts.length = T) (hK2 : K ≤ 140737488351232) (hT2 : T ≤ 140737488351232)
    (hk9 : keep ≤ 9223372036854775807) (ha9 : arm ≤ 9223372036854775807) :
    Calls Try.prog 6 #[.slice A0 K c0, .slice A1 T c1, .agg #[.int .i64 arm, .int .i64 keep]] W (Post W) := by
  by_cases hbig : 67108864 < K + T + 1
  · exact walkBig W arm keep K T (K + T + 1) (K + T) hbig rfl rfl (by omega)
  · have hN : K + T + 1 ≤ 67108864 := by omega
    by_cases hA : arm < 0
    · refine walkA W arm keep K T (K + T + 1) (K + T) (K + T) T (K + T) none h0 h1 hK hT rfl rfl (by omega) ⟨by omega, hN, by omega, by omega, rfl, Nat.le_refl _, by omega⟩ hk9 ha9 hA rfl rfl rfl rfl ?_
      rw [to_is _ K T _ _ _ hK hT]
      show min (min (K + T + (max keep 0).toNat) 9223372036854775807) (K + T) = K + T
      omega
    · have hA' : 0 ≤ arm := by omega
      by_cases hta : (T : Int) ≤ arm
      · refine walkB W arm keep K T (K + T + 1) (K + T) (K + T) T (K + T) (some (Dst.far K arm)) h0 h1 hK hT rfl rfl (by omega) ⟨by omega, hN, by omega, by omega, rfl, Nat.le_refl _, by omega⟩ hk9 ha9 hA' hta rfl rfl rfl ?_ ?_
        · refine decide_eq_false ?_
          unfold Dst.far
          omega
        · rw [to_is _ K T _ _ _ hK hT]
          show min (min (min (K + T + (max keep 0).toNat) 9223372036854775807) (K + T)) (min (K + (max arm 0).toNat) 9223372036854775807) = K + T
          omega
      · have hta' : arm < (T : Int) := by omega
        have hc : Dst.coldL (K + T) (some (Dst.far K arm)) = true := by
          refine decide_eq_true ?_
          unfold Dst.far
          omega
        by_cases hk : keep < arm
        · by_cases hk2 : keep < 0
          · refine walkC1 W arm keep K T (K + T + 1) (K + T) K 0 (some (Dst.far K arm)) h0 h1 hK hT rfl rfl (by omega) ⟨by omega, hN, by omega, by omega, rfl, Nat.zero_le _, by omega⟩ hk9 ha9 hA' hta' hk hk2 rfl rfl hc ?_
            rw [to_is _ K T _ _ _ hK hT]
            show min (min (min (K + (max keep 0).toNat) 9223372036854775807) (K + T)) (min (K + (max arm 0).toNat) 9223372036854775807) = K + 0
            omega
          · obtain ⟨n, rfl⟩ : ∃ n : Nat, keep = (n : Int) := ⟨keep.toNat, by omega⟩
            refine walkC2 W arm n K T (K + T + 1) (K + T) (K + n) n (some (Dst.far K arm)) h0 h1 hK hT rfl rfl (by omega) ⟨by omega, hN, by omega, by omega, rfl, by omega, by omega⟩ hk9 ha9 hA' hta' hk (by omega) rfl rfl hc ?_
            rw [to_is _ K T _ _ _ hK hT]
            show min (min (min (K + (max (n : Int) 0).toNat) 9223372036854775807) (K + T)) (min (K + (max arm 0).toNat) 9223372036854775807) = K + n
            omega
        · obtain ⟨n, rfl⟩ : ∃ n : Nat, arm = (n : Int) := ⟨arm.toNat, by omega⟩
          refine walkC3 W n keep K T (K + T + 1) (K + T) (K + n) n (some (Dst.far K n)) h0 h1 hK hT rfl rfl (by omega) ⟨by omega, hN, by omega, by omega, rfl, by omega, by omega⟩ hk9 ha9 hA' hta' hk rfl rfl hc ?_
          rw [to_is _ K T _ _ _ hK hT]
          show min (min (min (K + (max keep 0).toNat) 9223372036854775807) (K + T)) (min (K + (max (n : Int) 0).toNat) 9223372036854775807) = K + n
          omega
end Go.Proofs.Ytlenbcehahhmcaa.diskKeeps

/- The walk through DigestMany. -/
import Derived.Test.YtckepkgooinohaaDoorDgB
import Derived.Deep.RegionHeld3
import Derived.Deep.DrawnRows
import Derived.Deep.DeepCutAuto
import Derived.BigRegion
import Derived.IntWalk
namespace Go.Proofs.YtckepkgooinohaaDoor.digestMany
open Go.RowKit Go.ChangeShapes Go.WideShapes Go.ChangeAt Dg

/-- The engine g has counted m calls; the law's old world w is as it was. -/
def St (w : World) (m : Int) (w' : World) : Prop := Engn w' w.heap.size m ∧ Ab w w' ∧ Tab w'
theorem St.drew {w w' : World} {m : Int} (h : St w m w') : St w m w'.drew := ⟨h.1.ab ((Ab.refl w').drew), h.2.1.drew, h.2.2.ab ((Ab.refl w').drew)⟩
theorem crc_st (w : World) (v : Value) (l : List UInt8) (wr : World) {m : Int} (h : St w m wr) (hm : 0 ≤ m ∧ m < 1000000) (hv : Bs w w.heap.size v l) (hp : 0 < w.heap.size) :
    Calls Tryd.prog 9 #[.pointer (some ⟨w.heap.size, 0, none⟩), v] wr fun e w' => e = .returned (.int .u32 (n32 (crcL l))) ∧ St w (m + 1) w' := by
  refine (Crc_eng w.heap.size w.heap.size v l wr h.1 hm (hv.ab h.2.1 (Nat.le_refl _)) (Nat.le_refl _) h.2.1.size).mono ?_
  rintro e w' ⟨rfl, h1, h2⟩
  exact ⟨rfl, h1, h2.ab h.2.1 (Nat.le_refl _), h.2.2.gw h2 (by omega)⟩
theorem rcrc_st (w : World) (v : Value) (l : List UInt8) (wr : World) {m : Int} (h : St w m wr) (hv : Bs w w.heap.size v l) :
    Calls Tryd.prog 10 #[v] wr fun e w' => e = .returned (.int .u32 (n32 (crcL l))) ∧ wr = w' :=
  rcrc_any w.heap.size v l wr (hv.ab h.2.1 (Nat.le_refl _))
theorem addr_add0 (a : Option Addr) : a.map (fun x => x.add 0) = a := by cases a <;> simp [Addr.add]
/-- The first bytes of a slice. -/
theorem run_slice_head (A : Option Addr) (n c k : Nat) (i : Int) (hi : i = (k : Int)) (hk : k ≤ c) (w : World) :
    (Instr.slice 22 (.slice A n c) none (some (.int .i64 i)) none).run Tryd.prog w = .ok (.slice A k c) w := by
  subst hi
  have h1 : (0 : Int) ≤ (k : Int) := by omega
  simp [Instr.slice, Instr.sliceBounds, Instr.sliceBound, asIntOf, run_underlying Tryd.underlying22, h1, Sem.run_bind, addr_add0]
  omega
theorem half_bs {w : World} {B : Nat} {A : Option Addr} {l : List UInt8} {c : Nat} (h : Bs w B (.slice A l.length c) l) (k : Nat) (hk : k ≤ l.length) : Bs w B (.slice A k c) (l.take k) := by
  obtain ⟨A', c', hv, h1, h2, h3⟩ := h
  cases hv
  have hl : (l.take k).length = k := by simp; omega
  refine ⟨A, c, by rw [hl], by omega, h2, fun hn => ?_⟩
  have hne : l ≠ [] := by
    intro e; subst e; simp at hn
  obtain ⟨b, off, hA, hb, hc⟩ := h3 hne
  refine ⟨b, off, hA, hb, fun i hi => ?_⟩
  rw [hc i (by omega)]
  congr 2
  rw [List.getD_eq_getElem?_getD, List.getD_eq_getElem?_getD, List.getElem?_take_of_lt (by omega)]
attribute [local go_sem ↓] Go.wp_at_zero Go.wp_at_succ
set_option maxRecDepth 100000 in
set_option maxHeartbeats 1600000 in
theorem walk (v : Value) (l : List UInt8) (n : Int) (hn : 0 ≤ n ∧ n ≤ 18446744073709551615) (w : World) (hv : Bs w w.heap.size v l) (ht : Tab w) :
    Calls Tryd.prog 5 #[v, .int .u64 n] w (LawPost w) := by
  obtain ⟨A, c, rfl, hlc, hcm, hcell⟩ := id hv
  have hlm : l.length ≤ 9223372036854775807 := by omega
  go_enter Tryd.func5, Tryd.ntmps5
  go_wp2_with fail
  refine (new_any w).mono ?_
  rintro e w1 ⟨rfl, he, ha⟩
  have hp := ht.pos
  have ht1 := ht.ab ha
  clear ht
  by_cases hlong : 2000 < l.length
  · go_wp2_with fail
    refine (lives_any _ ht1).mono ?_
    rintro e w5 ⟨rfl, hb5⟩
    go_wp2_with fail
    go_ret
    exact ⟨rfl, ha.trans hb5⟩
  · have hk50 : 0 ≤ n % 50 ∧ n % 50 < 50 := by omega
    have he0 : Engn w1 w.heap.size 0 := .inl he
    clear he
    go_wp2_with fail
    generalize n % 50 = k at *
    obtain ⟨k, rfl⟩ : ∃ m : Nat, k = (m : Int) := ⟨k.toNat, by omega⟩
    go_loopw [7] (fun i wr => ∃ j : Nat, j ≤ k ∧ i = .int .i64 (j : Int) ∧ Engn wr w.heap.size (2 * j) ∧ Ab w wr ∧ Tab wr) (fun i _ => k - (intOf i).toNat)
    case atStart => exact ⟨0, by omega, rfl, he0, ha, ht1⟩
    case round =>
      obtain ⟨j, hj, rfl, hej, haj, htj⟩ := hrel
      by_cases hlt : j < k
      · have hst : St w (2 * (j : Int)) wr := ⟨hej, haj, htj⟩
        obtain ⟨hf, hhf⟩ : ∃ hf, l.length / 2 = hf := ⟨_, rfl⟩
        have hhalf : Bs w w.heap.size (.slice A hf c) (l.take hf) := half_bs hv _ (by omega)
        have HV := Lib.hid hv
        have HH := Lib.hid hhalf
        have hb0 : (0 : Int) ≤ (hf : Int) := by omega
        have hb1 : (hf : Int) ≤ (c : Int) := by omega
        have hq1 : (l.length : Int) / 2 = (hf : Int) := by omega
        have hq2 : (l.length : Int).tdiv 2 = (hf : Int) := by rw [Int.tdiv_eq_ediv_of_nonneg (by omega)]; omega
        have hq3 : IntKind.i64.wrap (hf : Int) = (hf : Int) := IntWalk.i64_in _ (by omega)
        have hsl := fun wx => run_slice_head A l.length c hf (hf : Int) rfl (by omega) wx
        have hne : (n32 (crcL l) == n32 (crcL l)) = true := by simp
        clear hej haj htj hv hhalf hcell he0 ha ht1 hhf hlc hcm
        go_wp2_with fail
        go_region_held3 (fun _ => True) (trivial) (first | (go_at_call 9; (with_reducible refine (crc_st w _ l _ (by first | assumption | exact St.drew (by assumption)) (by omega) HV.out hp).mono ?_); clear hst; rintro e wa ⟨rfl, hst⟩) | (go_at_call 9; (with_reducible refine (crc_st w _ (l.take hf) _ (by first | assumption | exact St.drew (by assumption)) (by omega) HH.out hp).mono ?_); clear hst; rintro e wa ⟨rfl, hst⟩) | (go_at_call 10; (with_reducible refine (rcrc_st w _ l _ (by first | assumption | exact St.drew (by assumption)) HV.out).mono ?_); rintro e wb ⟨rfl, rfl⟩) | (go_at_call 10; (with_reducible refine (rcrc_st w _ (l.take hf) _ (by first | assumption | exact St.drew (by assumption)) HH.out).mono ?_); rintro e wb ⟨rfl, rfl⟩))
        go_wp2
        go_roundw
        case rel => exact ⟨j + 1, by omega, by go_num, by rw [show (2 : Int) * ((j + 1 : Nat) : Int) = 2 * (j : Int) + 1 + 1 by omega]; exact hst.1, hst.2.1, hst.2.2⟩
        case measure => simp [intOf]; omega
      · obtain rfl : j = k := by omega
        obtain ⟨d, m, tab, he8⟩ := hej.eng
        go_wp2_with fail
        refine (Calls_eng _ _ he8).mono ?_
        rintro e w8 ⟨rfl, rfl⟩
        go_wp2_with fail
        refine (lives_any _ htj).mono ?_
        rintro e w9 ⟨rfl, hb9⟩
        go_wp2_with fail
        go_ret
        exact ⟨rfl, haj.trans hb9⟩
end Go.Proofs.YtckepkgooinohaaDoor.digestMany

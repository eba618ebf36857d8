/- The document's examples hold: what each law asks besides. -/
import Derived.Test.YtpikhfgpdebomaaDoorDgX
import Derived.Lib.SmallJoins
namespace Go.Proofs.YtpikhfgpdebomaaDoor.Dg
open Go.RowKit Go.Joins
def lvl : List UInt8 := [49, 50, 51, 52, 53, 54, 55, 56, 57]
theorem crc_lvl : n32 (crcL lvl) = 3808858755 := by kernel_rfl
theorem crc_none : n32 (crcL []) = 0 := by kernel_rfl
theorem sha_none : n8 (cb (shaH []) 0) = 227 := by kernel_rfl
theorem index_sum (cs : Array Value) (v : Value) (h : cs[0]? = some v) (w : World) : (Instr.index 30 (.agg cs) (.int .i64 0)).run Tryd.prog w = .ok v w := by
  have hs : (sizeOf 5).run Tryd.prog w = .ok 1 w := by kernel_rfl
  simp [Instr.index, asIntOf, run_underlying Tryd.underlying30, part, hs, h, Sem.run_bind]
theorem nil_bs (w : World) : Bs w w.heap.size (.slice none 0 0) [] := ⟨none, 0, rfl, by simp, by omega, fun h => absurd rfl h⟩
theorem lvl_u : U8s #[.int .u8 49, .int .u8 50, .int .u8 51, .int .u8 52, .int .u8 53, .int .u8 54, .int .u8 55, .int .u8 56, .int .u8 57] 9 (fun i => lvl.getD i 0) := by
  refine ⟨rfl, fun i hi => ?_⟩
  have : i = 0 ∨ i = 1 ∨ i = 2 ∨ i = 3 ∨ i = 4 ∨ i = 5 ∨ i = 6 ∨ i = 7 ∨ i = 8 := by omega
  rcases this with rfl | rfl | rfl | rfl | rfl | rfl | rfl | rfl | rfl <;> rfl
/-- A block that holds just these cells, some of them marked perhaps. -/
def Bm (w : World) (g : Nat) (t : TypeId) (cs : Array Value) : Prop := ∃ fr, w.heap[g]? = some (.cells cs t fr)
theorem Bm.gw {w w' : World} {g b : Nat} {t : TypeId} {cs : Array Value} (h : Bm w b t cs) (hg : Gw g w w') (hne : b ≠ g) : Bm w' b t cs := by
  obtain ⟨fr, hb⟩ := h
  exact ⟨fr, (hg.5 b (Array.getElem?_eq_some_iff.1 hb).1 (by simpa using hne)).trans hb⟩
theorem bs_of_marked {w : World} {g n : Nat} {t : TypeId} {ds : Array Value} {f : Nat → UInt8} (hb : Bm w g t ds) (hu : U8s ds n f) (hn : n ≤ 9223372036854775807) : Bs w w.heap.size (.slice (some ⟨g, 0, none⟩) n n) ((List.range n).map f) := by
  obtain ⟨fr, hb⟩ := hb
  refine ⟨_, n, by rw [List.length_map, List.length_range], by rw [List.length_map, List.length_range]; omega, hn, fun _ => ⟨g, 0, rfl, (Array.getElem?_eq_some_iff.1 hb).1, fun k hk => ?_⟩⟩
  rw [List.length_map, List.length_range] at hk
  rw [Nat.zero_add, cell_of_row w g k ds t fr hb, hu.2 k hk, List.getD_eq_getElem?_getD, List.getElem?_map, List.getElem?_range hk]; rfl
theorem lvl_bs {w : World} {g : Nat} {t : TypeId} (hb : Bm w g t #[.int .u8 49, .int .u8 50, .int .u8 51, .int .u8 52, .int .u8 53, .int .u8 54, .int .u8 55, .int .u8 56, .int .u8 57]) : Bs w w.heap.size (.slice (some ⟨g, 0, none⟩) 9 9) lvl :=
  bs_of_marked hb lvl_u (by omega)
set_option maxRecDepth 100000 in
set_option maxHeartbeats 1600000 in
theorem lives_any (w : World) (ht : Tab w) : Calls Tryd.prog 5 #[] w fun e w' => e = .returned (.bool true) ∧ Ab w w' := by
  go_enter Tryd.func5, Tryd.ntmps5
  go_wp2_with fail
  refine (new_any w).mono ?_
  rintro e w1 ⟨rfl, he, ha⟩
  have hp := ht.pos
  have ht1 := ht.ab ha
  have he1 : Engn w1 w.heap.size 0 := .inl he
  clear he ht
  have hcv := run_convert_bytes_const_at (P := Tryd.prog) w1 22 5 #[.int .u8 49, .int .u8 50, .int .u8 51, .int .u8 52, .int .u8 53, .int .u8 54, .int .u8 55, .int .u8 56, .int .u8 57] 9 9 w1.heap.size rfl Tryd.underlying22 Tryd.underlying5
  go_wp2_with fail
  clear hcv
  have hne : w1.heap.size ≠ w.heap.size := by have := he1.lt; omega
  refine (Crc_at w.heap.size _ lvl _ (he1.keep (Below.heap_alloc w1 _ _ he1.lt)) (by omega) (fun w2 hg => lvl_bs (Bm.gw ⟨_, heap_alloc_new w1 _⟩ hg hne))).mono ?_
  rintro e w2 ⟨rfl, he2, hg2⟩
  have ha2 : Ab w w2 := hg2.ab (ha.alloc _) (Nat.le_refl _)
  have ht2 : Tab w2 := (ht1.ab ((Ab.refl w1).alloc _)).gw hg2 (by omega)
  clear hne he1 hg2 ha ht1
  have k1 := crc_lvl
  go_wp2_with fail
  refine (Crc_at w.heap.size _ [] _ he2 (by omega) (fun w2 _ => nil_bs w2)).mono ?_
  rintro e w3 ⟨rfl, he3, hg3⟩
  have ha3 : Ab w w3 := hg3.ab ha2 (Nat.le_refl _)
  have ht3 : Tab w3 := ht2.gw hg3 (by omega)
  clear he2 hg3 ha2 ht2 k1
  have k2 := crc_none
  go_wp2_with fail
  refine (Sha_eng w.heap.size _ [] _ he3 (by omega) (fun w2 _ => nil_bs w2) ht3 (by omega)).mono ?_
  rintro e w4 ⟨ds, rfl, hds, he4, hg4⟩
  have ha4 : Ab w w4 := hg4.ab ha3 (Nat.le_refl _)
  clear he3 hg4 ha3 ht3 k2
  have hix := index_sum ds _ (hds.2 0 (by omega))
  have k3 := sha_none
  go_wp2_with fail
  obtain ⟨d, m, tab, he5⟩ := he4.eng
  refine (Calls_eng w.heap.size _ he5).mono ?_
  rintro e w5 ⟨rfl, rfl⟩
  go_wp2_with fail
  go_ret
  exact ⟨rfl, ha4⟩
end Go.Proofs.YtpikhfgpdebomaaDoor.Dg

/- The walk through DigestKnown. -/
import Derived.Test.YtlbjilfkddkmeaaDoorDgZ
namespace Go.Proofs.YtlbjilfkddkmeaaDoor.digestKnown
open Go.RowKit Go.ChangeShapes Go.WideShapes Go.ChangeAt Go.Joins Dg

theorem abc0 : n8 (cb (shaH [97, 98, 99]) 0) = 186 := by kernel_rfl
theorem abc1 : n8 (cb (shaH [97, 98, 99]) 1) = 120 := by kernel_rfl
theorem abc31 : n8 (cb (shaH [97, 98, 99]) 31) = 173 := by kernel_rfl
theorem no0 : n8 (cb (shaH []) 0) = 227 := by kernel_rfl
theorem no1 : n8 (cb (shaH []) 1) = 176 := by kernel_rfl
theorem no31 : n8 (cb (shaH []) 31) = 85 := by kernel_rfl
theorem crc_a : n32 (crcL [97]) = 3251651376 := by kernel_rfl
theorem crc_noughts : n32 (crcL (List.replicate 32 0)) = 2324772522 := by kernel_rfl
theorem abc_u : U8s #[.int .u8 97, .int .u8 98, .int .u8 99] 3 (fun i => [(97 : UInt8), 98, 99].getD i 0) := by
  refine ⟨rfl, fun i hi => ?_⟩
  have : i = 0 ∨ i = 1 ∨ i = 2 := by omega
  rcases this with rfl | rfl | rfl <;> rfl
theorem a_u : U8s #[.int .u8 97] 1 (fun i => [(97 : UInt8)].getD i 0) := by
  refine ⟨rfl, fun i hi => ?_⟩
  obtain rfl : i = 0 := by omega
  rfl
theorem abc_bs {w : World} {g : Nat} {t : TypeId} (hb : Bm w g t #[.int .u8 97, .int .u8 98, .int .u8 99]) : Bs w w.heap.size (.slice (some ⟨g, 0, none⟩) 3 3) [97, 98, 99] :=
  bs_of_marked hb abc_u (by omega)
theorem a_bs {w : World} {g : Nat} {t : TypeId} (hb : Bm w g t #[.int .u8 97]) : Bs w w.heap.size (.slice (some ⟨g, 0, none⟩) 1 1) [97] :=
  bs_of_marked hb a_u (by omega)
theorem noughts_u : U8s #[.int .u8 0, .int .u8 0, .int .u8 0, .int .u8 0, .int .u8 0, .int .u8 0, .int .u8 0, .int .u8 0, .int .u8 0, .int .u8 0, .int .u8 0, .int .u8 0, .int .u8 0, .int .u8 0, .int .u8 0, .int .u8 0, .int .u8 0, .int .u8 0, .int .u8 0, .int .u8 0, .int .u8 0, .int .u8 0, .int .u8 0, .int .u8 0, .int .u8 0, .int .u8 0, .int .u8 0, .int .u8 0, .int .u8 0, .int .u8 0, .int .u8 0, .int .u8 0] 32 (fun _ => 0) := by
  refine ⟨rfl, fun i hi => ?_⟩
  show (List.replicate 32 (Value.int .u8 0)).toArray[i]? = some (.int .u8 0)
  rw [List.getElem?_toArray, List.getElem?_replicate, if_pos hi]
theorem noughts_bs {w : World} {g : Nat} {t : TypeId} (hb : Bm w g t #[.int .u8 0, .int .u8 0, .int .u8 0, .int .u8 0, .int .u8 0, .int .u8 0, .int .u8 0, .int .u8 0, .int .u8 0, .int .u8 0, .int .u8 0, .int .u8 0, .int .u8 0, .int .u8 0, .int .u8 0, .int .u8 0, .int .u8 0, .int .u8 0, .int .u8 0, .int .u8 0, .int .u8 0, .int .u8 0, .int .u8 0, .int .u8 0, .int .u8 0, .int .u8 0, .int .u8 0, .int .u8 0, .int .u8 0, .int .u8 0, .int .u8 0, .int .u8 0]) : Bs w w.heap.size (.slice (some ⟨g, 0, none⟩) 32 32) (List.replicate 32 0) :=
  bs_of_marked hb noughts_u (by omega)
theorem make32 (w : World) : (Instr.makeSlice 22 (.int .i64 32) (.int .i64 32)).run Tryd.prog w = .ok (.slice (some ⟨w.heap.size, 0, none⟩) 32 32) (w.alloc (.cells #[.int .u8 0, .int .u8 0, .int .u8 0, .int .u8 0, .int .u8 0, .int .u8 0, .int .u8 0, .int .u8 0, .int .u8 0, .int .u8 0, .int .u8 0, .int .u8 0, .int .u8 0, .int .u8 0, .int .u8 0, .int .u8 0, .int .u8 0, .int .u8 0, .int .u8 0, .int .u8 0, .int .u8 0, .int .u8 0, .int .u8 0, .int .u8 0, .int .u8 0, .int .u8 0, .int .u8 0, .int .u8 0, .int .u8 0, .int .u8 0, .int .u8 0, .int .u8 0] 5)) := by kernel_rfl
/-- A sum stored over a block just made. -/
theorem store_new (w : World) (ds : Array Value) (hs : ds.size = 32) (h1 : Ones ds) :
    ∃ w', (storeCells ⟨w.heap.size, 0, none⟩ ds.toList).run Tryd.prog (w.alloc (.cells #[.int .u8 0, .int .u8 0, .int .u8 0, .int .u8 0, .int .u8 0, .int .u8 0, .int .u8 0, .int .u8 0, .int .u8 0, .int .u8 0, .int .u8 0, .int .u8 0, .int .u8 0, .int .u8 0, .int .u8 0, .int .u8 0, .int .u8 0, .int .u8 0, .int .u8 0, .int .u8 0, .int .u8 0, .int .u8 0, .int .u8 0, .int .u8 0, .int .u8 0, .int .u8 0, .int .u8 0, .int .u8 0, .int .u8 0, .int .u8 0, .int .u8 0, .int .u8 0] 30)) = .ok () w' ∧ (w.alloc (.cells #[.int .u8 0, .int .u8 0, .int .u8 0, .int .u8 0, .int .u8 0, .int .u8 0, .int .u8 0, .int .u8 0, .int .u8 0, .int .u8 0, .int .u8 0, .int .u8 0, .int .u8 0, .int .u8 0, .int .u8 0, .int .u8 0, .int .u8 0, .int .u8 0, .int .u8 0, .int .u8 0, .int .u8 0, .int .u8 0, .int .u8 0, .int .u8 0, .int .u8 0, .int .u8 0, .int .u8 0, .int .u8 0, .int .u8 0, .int .u8 0, .int .u8 0, .int .u8 0] 30)).setRow w.heap.size ds = w' := by
  refine ⟨_, ?_, rfl⟩
  have hb : Bk (w.alloc (.cells #[.int .u8 0, .int .u8 0, .int .u8 0, .int .u8 0, .int .u8 0, .int .u8 0, .int .u8 0, .int .u8 0, .int .u8 0, .int .u8 0, .int .u8 0, .int .u8 0, .int .u8 0, .int .u8 0, .int .u8 0, .int .u8 0, .int .u8 0, .int .u8 0, .int .u8 0, .int .u8 0, .int .u8 0, .int .u8 0, .int .u8 0, .int .u8 0, .int .u8 0, .int .u8 0, .int .u8 0, .int .u8 0, .int .u8 0, .int .u8 0, .int .u8 0, .int .u8 0] 30)) w.heap.size 30 #[.int .u8 0, .int .u8 0, .int .u8 0, .int .u8 0, .int .u8 0, .int .u8 0, .int .u8 0, .int .u8 0, .int .u8 0, .int .u8 0, .int .u8 0, .int .u8 0, .int .u8 0, .int .u8 0, .int .u8 0, .int .u8 0, .int .u8 0, .int .u8 0, .int .u8 0, .int .u8 0, .int .u8 0, .int .u8 0, .int .u8 0, .int .u8 0, .int .u8 0, .int .u8 0, .int .u8 0, .int .u8 0, .int .u8 0, .int .u8 0, .int .u8 0, .int .u8 0] := Bk.made w _ _
  have hst := run_storeCells_at (P := Tryd.prog) w.heap.size 0 30 ds.toList 0 #[.int .u8 0, .int .u8 0, .int .u8 0, .int .u8 0, .int .u8 0, .int .u8 0, .int .u8 0, .int .u8 0, .int .u8 0, .int .u8 0, .int .u8 0, .int .u8 0, .int .u8 0, .int .u8 0, .int .u8 0, .int .u8 0, .int .u8 0, .int .u8 0, .int .u8 0, .int .u8 0, .int .u8 0, .int .u8 0, .int .u8 0, .int .u8 0, .int .u8 0, .int .u8 0, .int .u8 0, .int .u8 0, .int .u8 0, .int .u8 0, .int .u8 0, .int .u8 0] _ hb (by simp; omega) h1
  have e : ((#[.int .u8 0, .int .u8 0, .int .u8 0, .int .u8 0, .int .u8 0, .int .u8 0, .int .u8 0, .int .u8 0, .int .u8 0, .int .u8 0, .int .u8 0, .int .u8 0, .int .u8 0, .int .u8 0, .int .u8 0, .int .u8 0, .int .u8 0, .int .u8 0, .int .u8 0, .int .u8 0, .int .u8 0, .int .u8 0, .int .u8 0, .int .u8 0, .int .u8 0, .int .u8 0, .int .u8 0, .int .u8 0, .int .u8 0, .int .u8 0, .int .u8 0, .int .u8 0] : Array Value).toList.take (0 + 0) ++ ds.toList ++ (#[.int .u8 0, .int .u8 0, .int .u8 0, .int .u8 0, .int .u8 0, .int .u8 0, .int .u8 0, .int .u8 0, .int .u8 0, .int .u8 0, .int .u8 0, .int .u8 0, .int .u8 0, .int .u8 0, .int .u8 0, .int .u8 0, .int .u8 0, .int .u8 0, .int .u8 0, .int .u8 0, .int .u8 0, .int .u8 0, .int .u8 0, .int .u8 0, .int .u8 0, .int .u8 0, .int .u8 0, .int .u8 0, .int .u8 0, .int .u8 0, .int .u8 0, .int .u8 0] : Array Value).toList.drop (0 + 0 + ds.toList.length)).toArray = ds := by
    rw [List.drop_eq_nil_of_le (by simp; omega)]; simp
  rw [e] at hst
  exact hst
set_option maxRecDepth 100000 in
set_option maxHeartbeats 1600000 in
theorem walk (w : World) (ht : Tab w) :
    Calls Tryd.prog 7 #[] w (LawPost w) := by
  go_enter Tryd.func7, Tryd.ntmps7
  go_wp2_with fail
  refine (new_any w).mono ?_
  rintro e w1 ⟨rfl, he, ha⟩
  have hp := ht.pos
  have ht1 := ht.ab ha
  have he1 : Engn w1 w.heap.size 0 := .inl he
  clear ht he
  have hcv := run_convert_bytes_const_at (P := Tryd.prog) w1 22 5 #[.int .u8 97, .int .u8 98, .int .u8 99] 3 3 w1.heap.size rfl Tryd.underlying22 Tryd.underlying5
  go_wp2_with fail
  clear hcv
  have hne : w1.heap.size ≠ w.heap.size := by have := he1.lt; omega
  refine (Sha_eng w.heap.size _ [97, 98, 99] _ (he1.keep (Below.heap_alloc w1 _ _ he1.lt)) (by omega) (fun w2 hg => abc_bs (Bm.gw ⟨_, heap_alloc_new w1 _⟩ hg hne)) (ht1.ab ((Ab.refl w1).alloc _)) (by omega)).mono ?_
  rintro e w2 ⟨ds, rfl, hds, he2, hg2⟩
  have ha2 : Ab w w2 := hg2.ab (ha.alloc _) (Nat.le_refl _)
  have ht2 : Tab w2 := (ht1.ab ((Ab.refl w1).alloc _)).gw hg2 (by omega)
  clear hne he1 hg2 ha ht1
  obtain ⟨w3, hst, hw3⟩ := store_new w2 ds hds.1 hds.ones
  have hsz := hds.1
  go_wp2_with fail
  clear hst hsz
  have hgw := he2.lt
  have hs3 : Bk w3 w2.heap.size 30 ds := by rw [← hw3]; exact (Bk.made w2 _ _).row ds
  have he3 : Engn w3 w.heap.size 1 := by rw [← hw3]; exact he2.keep ((row_far ds (by omega)).trans (Below.heap_alloc w2 _ _ he2.lt))
  have ha3 : Ab w w3 := by rw [← hw3]; exact (ha2.alloc _).row ha2.size ds
  have ht3 : Tab w3 := ht2.ab (by rw [← hw3]; exact ((Ab.refl w2).alloc _).row (Nat.le_refl _) ds)
  have hlt3 : w2.heap.size < w3.heap.size := hs3.lt
  have hne3 : w2.heap.size ≠ w.heap.size := by omega
  clear hw3 he2 ha2 ht2
  refine (Sha_eng w.heap.size _ [] _ he3 (by omega) (fun w2 _ => nil_bs w2) ht3 (by omega)).mono ?_
  rintro e w4 ⟨dz, rfl, hdz, he4, hg4⟩
  have hs4 : Bk w4 w2.heap.size 30 ds := hg4.bk hs3 hne3
  have ha4 : Ab w w4 := hg4.ab ha3 (Nat.le_refl _)
  have ht4 : Tab w4 := ht3.gw hg4 (by omega)
  clear he3 hg4 hs3 ha3 ht3
  obtain ⟨w5, hst, hw5⟩ := store_new w4 dz hdz.1 hdz.ones
  have hsz := hdz.1
  have hs5 : Bk w5 w2.heap.size 30 ds := by rw [← hw5]; exact Bk.row_far (t := 30) (cs := ds) ((Below.heap_alloc w4 _ _ hs4.lt).trans hs4) (by have := hs4.lt; omega) dz
  have hz5 : Bk w5 w4.heap.size 30 dz := by rw [← hw5]; exact (Bk.made w4 _ _).row dz
  have hgw4 := he4.lt
  have he5 : Engn w5 w.heap.size 2 := by rw [← hw5]; exact he4.keep ((row_far dz (by omega)).trans (Below.heap_alloc w4 _ _ he4.lt))
  have ha5 : Ab w w5 := by rw [← hw5]; exact (ha4.alloc _).row ha4.size dz
  have ht5 : Tab w5 := ht4.ab (by rw [← hw5]; exact ((Ab.refl w4).alloc _).row (Nat.le_refl _) dz)
  have c0 : w5.cell? ⟨w2.heap.size, 0, none⟩ = some (.int .u8 186) := hs5.cell (by rw [hds.2 0 (by omega), abc0])
  have c1 : w5.cell? ⟨w2.heap.size, 1, none⟩ = some (.int .u8 120) := hs5.cell (by rw [hds.2 1 (by omega), abc1])
  have c2 : w5.cell? ⟨w2.heap.size, 31, none⟩ = some (.int .u8 173) := hs5.cell (by rw [hds.2 31 (by omega), abc31])
  have z0 : w5.cell? ⟨w4.heap.size, 0, none⟩ = some (.int .u8 227) := hz5.cell (by rw [hdz.2 0 (by omega), no0])
  have z1 : w5.cell? ⟨w4.heap.size, 1, none⟩ = some (.int .u8 176) := hz5.cell (by rw [hdz.2 1 (by omega), no1])
  have z2 : w5.cell? ⟨w4.heap.size, 31, none⟩ = some (.int .u8 85) := hz5.cell (by rw [hdz.2 31 (by omega), no31])
  clear hw5 he4 ha4 ht4 hs4 hs5 hz5 hds hdz
  have hcv := run_convert_bytes_const_at (P := Tryd.prog) w5 22 5 #[.int .u8 97] 1 1 w5.heap.size rfl Tryd.underlying22 Tryd.underlying5
  go_wp2_with fail
  clear hcv c0 c1 c2 z0 z1 z2 hst hsz
  have hne5 : w5.heap.size ≠ w.heap.size := by have := he5.lt; omega
  refine (Crc_at w.heap.size _ [97] _ (he5.keep (Below.heap_alloc w5 _ _ he5.lt)) (by omega) (fun w2 hg => a_bs (Bm.gw ⟨_, heap_alloc_new w5 _⟩ hg hne5))).mono ?_
  rintro e w6 ⟨rfl, he6, hg6⟩
  have ha6 : Ab w w6 := hg6.ab (ha5.alloc _) (Nat.le_refl _)
  have ht6 : Tab w6 := (ht5.ab ((Ab.refl w5).alloc _)).gw hg6 (by omega)
  clear he5 hg6 ha5 ht5
  have k1 := crc_a
  have hmk := make32 w6
  go_wp2_with fail
  clear k1 hmk
  have hne6 : w6.heap.size ≠ w.heap.size := by have := he6.lt; omega
  refine (Crc_at w.heap.size _ (List.replicate 32 0) _ (he6.keep (Below.heap_alloc w6 _ _ he6.lt)) (by omega) (fun w2 hg => noughts_bs (Bm.gw ⟨_, heap_alloc_new w6 _⟩ hg hne6))).mono ?_
  rintro e w7 ⟨rfl, he7, hg7⟩
  have ha7 : Ab w w7 := hg7.ab (ha6.alloc _) (Nat.le_refl _)
  have ht7 : Tab w7 := (ht6.ab ((Ab.refl w6).alloc _)).gw hg7 (by omega)
  clear he6 hg7 ha6 ht6
  have k2 := crc_noughts
  go_wp2_with fail
  clear k2
  obtain ⟨d, m, tab, he8⟩ := he7.eng
  refine (Hash1_eng 0 _ _ he8).mono ?_
  rintro e w8 ⟨rfl, rfl⟩
  go_wp2_with fail
  refine (rhash1_any 0 _).mono ?_
  rintro e w8 ⟨rfl, hb8⟩
  have ha8 : Ab w w8 := ha7.trans hb8
  have ht8 := ht7.ab hb8
  have he9 := he8.ab hb8
  clear he7 he8 ha7 ht7 hb8
  go_wp2_with fail
  refine (Name_eng _ ?_ _ _ he9).mono ?_
  · decide
  rintro e w9 ⟨rfl, hb9⟩
  have ha9 : Ab w w9 := ha8.trans hb9
  have ht9 := ht8.ab hb9
  clear he9 ha8 ht8 hb9
  rw [nameL_r]
  go_wp2_with fail
  refine (rName_any _ ?_ _).mono ?_
  · decide
  rintro e w10 ⟨rfl, hb10⟩
  have ha10 : Ab w w10 := ha9.trans hb10
  have ht10 := ht9.ab hb10
  clear ha9 ht9 hb10
  go_wp2_with fail
  refine (lives_any _ ht10).mono ?_
  rintro e w11 ⟨rfl, hb11⟩
  go_wp2_with fail
  go_ret
  exact ⟨rfl, ha10.trans hb11⟩
end Go.Proofs.YtlbjilfkddkmeaaDoor.digestKnown

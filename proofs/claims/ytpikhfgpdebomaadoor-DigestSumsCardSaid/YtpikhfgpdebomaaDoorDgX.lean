/- Engine.Sha; the document's examples. -/
import Derived.Test.YtpikhfgpdebomaaDoorDgV
import Derived.Test.YtpikhfgpdebomaaDoorDgXc
import Derived.Test.YtpikhfgpdebomaaDoorDgEc
namespace Go.Proofs.YtpikhfgpdebomaaDoor.Dg
open Go.RowKit
theorem Gw.row_new {g b : Nat} {w w' : World} (h : Gw g w w') (hb : w.heap.size ≤ b) (ds : Array Value) : Gw g w (w'.setRow b ds) :=
  ⟨h.1, h.2, h.3, by rw [row_size]; exact h.4, fun k hk hne => (Dg.row_far ds (by omega)).trans (h.5 k hk hne)⟩
set_option maxRecDepth 100000 in
set_option maxHeartbeats 1600000 in
theorem Sha_eng (g : Nat) (v : Value) (l : List UInt8) (w : World) {n : Int} (h : Engn w g n) (hn : 0 ≤ n ∧ n < 1000000) (hv : ∀ w2 : World, Gw g w w2 → Bs w2 w2.heap.size v l) (ht : Tab w) (hg : 0 ≠ g) :
    Calls Tryd.prog 9 #[.pointer (some ⟨g, 0, none⟩), v] w fun e w' => ∃ ds, e = .returned (.agg ds) ∧ U8s ds 32 (cb (shaH l)) ∧ Engn w' g (n + 1) ∧ Gw g w w' := by
  have hnot := m_not
  have HV := Lib.hid hv
  have hgl := h.lt
  clear hv
  have hw1 : ∀ o : Obj, Engn (w.alloc o) g n ∧ Gw g w (w.alloc o) := fun o => ⟨h.keep (Below.heap_alloc w o g hgl), (Gw.refl g w).alloc o⟩
  have HW1 := Lib.hid hw1
  clear hw1 h
  go_enter Tryd.func9, Tryd.ntmps9
  go_wp2_with fail
  have hz : ∀ cs : Array Value, Bk (w.alloc (.cells cs 30)) w.heap.size 30 cs := fun cs => Bk.made w _ cs
  obtain ⟨he1, hg1⟩ := HW1.out (.cells #[.int .u8 0, .int .u8 0, .int .u8 0, .int .u8 0, .int .u8 0, .int .u8 0, .int .u8 0, .int .u8 0, .int .u8 0, .int .u8 0, .int .u8 0, .int .u8 0, .int .u8 0, .int .u8 0, .int .u8 0, .int .u8 0, .int .u8 0, .int .u8 0, .int .u8 0, .int .u8 0, .int .u8 0, .int .u8 0, .int .u8 0, .int .u8 0, .int .u8 0, .int .u8 0, .int .u8 0, .int .u8 0, .int .u8 0, .int .u8 0, .int .u8 0, .int .u8 0] 30)
  have hz1 : ∃ zs : Array Value, Bk (w.alloc (.cells #[.int .u8 0, .int .u8 0, .int .u8 0, .int .u8 0, .int .u8 0, .int .u8 0, .int .u8 0, .int .u8 0, .int .u8 0, .int .u8 0, .int .u8 0, .int .u8 0, .int .u8 0, .int .u8 0, .int .u8 0, .int .u8 0, .int .u8 0, .int .u8 0, .int .u8 0, .int .u8 0, .int .u8 0, .int .u8 0, .int .u8 0, .int .u8 0, .int .u8 0, .int .u8 0, .int .u8 0, .int .u8 0, .int .u8 0, .int .u8 0, .int .u8 0, .int .u8 0] 30)) w.heap.size 30 zs ∧ zs.size = 32 := ⟨_, hz _, rfl⟩
  clear hz HW1
  generalize w.alloc (.cells #[.int .u8 0, .int .u8 0, .int .u8 0, .int .u8 0, .int .u8 0, .int .u8 0, .int .u8 0, .int .u8 0, .int .u8 0, .int .u8 0, .int .u8 0, .int .u8 0, .int .u8 0, .int .u8 0, .int .u8 0, .int .u8 0, .int .u8 0, .int .u8 0, .int .u8 0, .int .u8 0, .int .u8 0, .int .u8 0, .int .u8 0, .int .u8 0, .int .u8 0, .int .u8 0, .int .u8 0, .int .u8 0, .int .u8 0, .int .u8 0, .int .u8 0, .int .u8 0] 30) = w1 at *
  obtain ⟨zs, hz1, hzz⟩ := hz1
  obtain ⟨d, m, tab, he⟩ := he1.eng
  refine (eng_ready_any g _ he).mono ?_
  rintro e w2 ⟨rfl, rfl⟩
  go_wp2_with fail
  refine (add_eng g _ he hn).mono ?_
  rintro e w2 ⟨rfl, hw⟩
  have he2 : Engn w2 g (n + 1) := by subst hw; exact he1.tick _
  have hg2 : Gw g w w2 := by subst hw; exact hg1.set 260 _
  have hz2 : Bk w2 w.heap.size 30 zs := by subst hw; exact hz1.far (show w.heap.size ≠ g by omega) _
  clear hw he he1 hg1 hz1
  go_wp2_with fail
  refine (sha_any v l _ (HV.out _ hg2) (ht.gw hg2 hg)).mono ?_
  rintro e w3 ⟨ds, rfl, hds, hb3⟩
  have he3 := he2.ab hb3
  have hg3 := hg2.trans (Gw.of_ab hb3 g)
  have hz3 := hb3.bk hz2
  clear he2 hg2 hb3 hz2
  go_wp2_with (first | (refine wpList_store_row rfl rfl 30 _ _ rfl w.heap.size rfl ds _ rfl 30 hz3 (by rw [hds.1, hzz]) (by rw [hds.1]; kernel_rfl) hds.ones ?_; rintro wf rfl))
  refine bodyPost_ret (results_cell_row (P := Tryd.prog) Tryd.results9 _ _ w.heap.size 30 ds (0, 0) _ rfl (hz3.row ds) Tryd.underlying30 rfl (by rw [hds.1]; kernel_rfl)) rfl ⟨ds, rfl, hds, he3.keep (row_far ds (by omega)), hg3.row_new (Nat.le_refl _) ds⟩
end Go.Proofs.YtpikhfgpdebomaaDoor.Dg

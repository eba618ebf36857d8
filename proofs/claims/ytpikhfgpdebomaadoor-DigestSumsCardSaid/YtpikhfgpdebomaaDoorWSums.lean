/- The walk through DigestSums. -/
import Derived.Test.YtpikhfgpdebomaaDoorDgB
import Derived.Test.YtpikhfgpdebomaaDoorDgLk
import Derived.Test.YtpikhfgpdebomaaDoorDgBa
import Derived.Test.YtpikhfgpdebomaaDoorRsE
namespace Go.Proofs.YtpikhfgpdebomaaDoor.digestSums
open Go.RowKit Go.ChangeShapes Go.WideShapes Go.ChangeAt Dg

/-- Two arrays of the same bytes. -/
theorem eqItems_same (xs ys : Array Value) (f : Nat → UInt8) (d : Nat) (w : World) (hc : Tryd.prog.cellsOf 5 = 1) : ∀ (is : List Nat), (∀ i ∈ is, xs[i]? = some (.int .u8 (n8 (f i))) ∧ ys[i]? = some (.int .u8 (n8 (f i)))) →
    (Op.eqItems (d + 1) 5 (Tryd.prog.cellsOf 5) xs ys is).run Tryd.prog w = .ok true w
  | [], _ => by simp [Op.eqItems]
  | i :: is, h => by
    obtain ⟨hx, hy⟩ := h i (List.mem_cons_self ..)
    have ha : (isAgg 5).run Tryd.prog w = .ok false w := by kernel_rfl
    have ih := eqItems_same xs ys f d w hc is (fun j hj => h j (List.mem_cons_of_mem _ hj))
    simp only [Op.eqItems, Sem.run_bind, hc, Nat.mul_one] at ih ⊢
    simp [part, ha, hx, hy, Op.equalIn, Sem.run_bind, run_underlying Tryd.underlying5, ih]
theorem eql_sum {xs ys : Array Value} {f : Nat → UInt8} (hx : U8s xs 32 f) (hy : U8s ys 32 f) (w : World) : (binOp .eql 30 (.agg xs) (.agg ys)).run Tryd.prog w = .ok (.bool true) w := by
  obtain ⟨i, hi, -⟩ := info_parts info8
  rw [run_eql_struct]
  rw [show (10000 : Nat) = 9998 + 1 + 1 from rfl, run_equalIn_array (P := Tryd.prog) (w := w) (9998 + 1) xs ys Tryd.underlying30 hi]
  rw [eqItems_same xs ys f 9998 w (by kernel_rfl) (List.range 32) (fun i hi => ⟨hx.2 i (List.mem_range.1 hi), hy.2 i (List.mem_range.1 hi)⟩)]
  rfl
set_option maxRecDepth 100000 in
set_option maxHeartbeats 4000000 in
theorem walk (v : Value) (l : List UInt8) (w : World) (hv : Bs w w.heap.size v l) (ht : Tab w) :
    Calls Tryd.prog 3 #[v] w (LawPost w) := by
  obtain ⟨A, c, rfl, hlc, hcm, -⟩ := id hv
  have hlm : l.length ≤ 9223372036854775807 := by omega
  have HV := Lib.hid hv
  have HT := Lib.hid ht
  clear hv ht
  go_enter Tryd.func3, Tryd.ntmps3
  go_wp2_with fail
  refine (new_any w).mono ?_
  rintro e w1 ⟨rfl, he, ha⟩
  have HE := Lib.hid (And.intro he ha)
  clear he ha
  by_cases hlong : 20000 < l.length
  · go_wp2_with fail
    refine (lives_any _ (HT.out.ab HE.out.2)).mono ?_
    rintro e w5 ⟨rfl, hb5⟩
    go_wp2_with fail
    go_ret
    exact ⟨rfl, HE.out.2.trans hb5⟩
  · have hl9 : l.length ≤ 20000 := by omega
    have hd : decide (20000 < l.length) = false := by simpa using hl9
    clear hlong
    go_wp2_with fail
    refine (lend_any w1 ((HV.out.ab HE.out.2 (Nat.le_refl _)).more HE.out.2.size) (by omega)).mono ?_
    rintro e w2 ⟨g, rfl, ho, h2⟩
    have hp := HT.out.pos
    have hgb := (ho.blk g rfl)
    have hE2 : Engn w2 w.heap.size 0 := (show Engn w1 w.heap.size 0 from .inl HE.out.1).ab h2
    have hel := HE.out.1.lt
    -- what stands of the two slices where only the engine turns
    have HB : Hid (∀ wx, Gw w.heap.size w2 wx → Bs wx w.heap.size (.slice A l.length c) l ∧ Ob wx w1.heap.size (.slice (some ⟨g, 0, none⟩) (l.length + 2) (l.length + 2)) (lentL l) ∧ Ab w wx ∧ Tab wx) := Lib.hid fun wx hx => by
      have hab : Ab w w2 := HE.out.2.trans h2
      have habx : Ab w wx := hx.ab hab (Nat.le_refl _)
      exact ⟨HV.out.ab habx (Nat.le_refl _), ho.gw hx (by omega), habx, HT.out.ab habx⟩
    have H2 := Lib.hid hE2
    clear ho h2 hgb hE2 hel
    go_wp2_with fail
    refine (Crc_at w.heap.size _ l w2 H2.out (by omega) (fun w' hg => lent_bs (HB.out w' hg).2.1)).mono ?_
    rintro e w3 ⟨rfl, he3, hg3⟩
    have H3 := Lib.hid (And.intro he3 hg3)
    clear he3 hg3
    go_wp2_with fail
    refine (rcrc_any w.heap.size _ l w3 (HB.out w3 H3.out.2).1).mono ?_
    rintro e w4 ⟨rfl, rfl⟩
    go_wp2_with fail
    refine (Sha_eng w.heap.size _ l w3 H3.out.1 (by omega) (fun w' hg => lent_bs (HB.out w' (H3.out.2.trans hg)).2.1) (HB.out w3 H3.out.2).2.2.2 (by omega)).mono ?_
    rintro e w5 ⟨ds, rfl, hds, he5, hg5⟩
    have H5 := Lib.hid (And.intro he5 (H3.out.2.trans hg5))
    clear he5 hg5
    go_wp2_with fail
    refine (rsha_any _ l w5 ((HB.out w5 H5.out.2).1.more (HB.out w5 H5.out.2).2.2.1.size) hl9).mono ?_
    rintro e w6 ⟨ds2, rfl, hds2, h6⟩
    have heq := fun wx => eql_sum hds hds2 wx
    have H6 := Lib.hid (And.intro (H5.out.1.ab h6) (H5.out.2.trans (Gw.of_ab h6 _)))
    clear hds hds2 h6
    obtain ⟨d, m, tab, hE6⟩ := H6.out.1.eng
    have HE6 := Lib.hid hE6
    clear hE6
    go_wp2_with fail
    refine (Calls_eng _ _ HE6.out).mono ?_
    rintro e w7 ⟨rfl, rfl⟩
    go_wp2_with fail
    refine (kept_any w6 g (HB.out w6 H6.out.2).2.1 (HB.out w6 H6.out.2).1 (by omega)).mono ?_
    rintro e w8 ⟨rfl, h8⟩
    have H8 := Lib.hid h8
    clear h8
    go_wp2_with fail
    refine (lives_any _ ((HB.out w6 H6.out.2).2.2.2.ab H8.out)).mono ?_
    rintro e w9 ⟨rfl, h9⟩
    go_wp2_with fail
    go_ret
    exact ⟨rfl, ((HB.out w6 H6.out.2).2.2.1.trans H8.out).trans h9⟩
end Go.Proofs.YtpikhfgpdebomaaDoor.digestSums

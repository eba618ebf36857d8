/- The walk through DigestTells. -/
import Derived.Test.YtckepkgooinohaaDoorDgB
import Derived.Test.YtckepkgooinohaaDoorDgAq
import Derived.Outline
namespace Go.Proofs.YtckepkgooinohaaDoor.digestTells
open Go.RowKit Go.ChangeShapes Go.WideShapes Go.ChangeAt Dg

/-- Two arrays of the same bytes. -/
theorem eqItems_same (xs ys : Array Value) (f : Nat → UInt8) (d : Nat) (w : World) (hc : Tryd.prog.cellsOf 5 = 1) : ∀ (is : List Nat), (∀ i ∈ is, xs[i]? = some (.int .u8 (n8 (f i))) ∧ ys[i]? = some (.int .u8 (n8 (f i)))) →
    (Op.eqItems (d + 1) 5 (Tryd.prog.cellsOf 5) xs ys is).run Tryd.prog w = .ok true w
  | [], _ => by simp [Op.eqItems]
  | i :: is, h => by
    obtain ⟨hx, hy⟩ := h i (List.mem_cons_self ..)
    have ha : (isAgg 5).run Tryd.prog w = .ok false w := by kernel_rfl
    have ih := eqItems_same xs ys f d w hc is (fun j hj => h j (List.mem_cons_of_mem _ hj))
    simp only [Op.eqItems, Sem.run_bind, hc, Nat.mul_one] at ih ⊢
    simp [part, ha, hx, hy, Op.equalIn, Sem.run_bind, run_underlying Tryd.underlying5, ih]
theorem eql_sum {xs ys : Array Value} {f : Nat → UInt8} (hx : U8s xs 32 f) (hy : U8s ys 32 f) (w : World) : (binOp .eql 30 (.agg xs) (.agg ys)).run Tryd.prog w = .ok (.bool true) w := by
  obtain ⟨i, hi, -⟩ := info_parts info8
  rw [run_eql_struct]
  rw [show (10000 : Nat) = 9998 + 1 + 1 from rfl, run_equalIn_array (P := Tryd.prog) (w := w) (9998 + 1) xs ys Tryd.underlying30 hi]
  rw [eqItems_same xs ys f 9998 w (by kernel_rfl) (List.range 32) (fun i hi => ⟨hx.2 i (List.mem_range.1 hi), hy.2 i (List.mem_range.1 hi)⟩)]
  rfl
set_option maxRecDepth 100000 in
set_option maxHeartbeats 4000000 in
theorem walk (v : Value) (l : List UInt8) (n : Int) (x : UInt8) (hn : 0 ≤ n ∧ n ≤ 18446744073709551615) (w : World) (hv : Bs w w.heap.size v l) (ht : Tab w) :
    Calls Tryd.prog 4 #[v, .int .u64 n, .int .u8 (n8 x)] w (LawPost w) := by
  obtain ⟨A, c, rfl, hlc, hcm, hcell⟩ := id hv
  have hlm : l.length ≤ 9223372036854775807 := by omega
  by_cases hlong : l.length = 0 ∨ 20000 < l.length
  · have HL := Lib.hid hlong
    clear hlong
    go_enter Tryd.func4, Tryd.ntmps4
    go_wp2_with fail
    refine (new_any w).mono ?_
    rintro e w1 ⟨rfl, he, ha⟩
    have ht1 := ht.ab ha
    clear ht
    rcases HL.out with hl0 | hl0
    · go_wp2_with fail
      refine (lives_any _ ht1).mono ?_
      rintro e w5 ⟨rfl, hb5⟩
      go_wp2_with fail
      go_ret
      exact ⟨rfl, ha.trans hb5⟩
    · have h0 : ¬ l.length = 0 := by omega
      go_wp2_with fail
      refine (lives_any _ ht1).mono ?_
      rintro e w5 ⟨rfl, hb5⟩
      go_wp2_with fail
      go_ret
      exact ⟨rfl, ha.trans hb5⟩
  · have hl0 : ¬ l.length = 0 := by omega
    have hl1 : ¬ 20000 < l.length := by omega
    have hz0 : ((l.length : Int) == 0) = false := by rw [beq_eq_false_iff_ne]; omega
    clear hlong hl0
    go_enter Tryd.func4, Tryd.ntmps4
    go_wp2_with fail
    refine (new_any w).mono ?_
    rintro e w1 ⟨rfl, he, ha⟩
    have hp := ht.pos
    have ht1 := ht.ab ha
    have he0 : Engn w1 w.heap.size 0 := .inl he
    clear he
    have hs1 := Ab.size ha
    have HV := Lib.hid (hv.ab ha (Nat.le_refl _))
    go_wp2_with (at_builtin; refine wpList_bytes rfl _ _ _ rfl _ _ rfl rfl w1.heap.size [] l ?ap1 ?ap2 ?ap3 ?ap4 ?_)
    case ap1 => exact Ob.made w1 #[] _ (Nat.le_refl _) (by simp [maxLen])
    case ap2 => exact src_bs Tryd.underlying22 (HV.out.ab ((Ab.refl w1).alloc _) hs1)
    case ap3 => simp; omega
    case ap4 => simp
    intro v2 w2 ho2 hg2 hbl2
    have ho2 : Ob w2 w1.heap.size v2 l := ho2
    have hne : l ≠ [] := by
      intro e; subst e; simp at hz0
    have hlp : 0 < l.length := List.length_pos_iff.2 hne
    have hro : ∀ k, (Value.slice (some ⟨w1.heap.size, 0, none⟩) 0 0).ownBlock = some k → k = w1.heap.size := by
      intro k hk; simpa [Value.ownBlock] using hk.symm
    have hb2 : Bs w2 w.heap.size (.slice A l.length c) l := Ob.app_far (HV.out.ab ((Ab.refl w1).alloc _) hs1) hg2 (fun k hk => by rw [hro k hk]; exact hs1) (by simp; omega)
    have ha2 : Ab w w2 := grown_ab (ha.alloc _) hg2 (fun k hk => by rw [hro k hk]; exact hs1)
    have hes : w.heap.size < w1.heap.size := he0.lt
    have he2 : Engn w2 w.heap.size 0 := he0.keep ((hg2.block w.heap.size (by simp; omega) (fun e => by have := hro _ e.symm; omega)).trans (Below.heap_alloc w1 _ _ hes))
    obtain ⟨g, cap, rfl, hbg, hlt2, hlc2, hcm2, hfr2, hcl2⟩ := ho2.form hne
    have hcm3 : cap ≤ 9223372036854775807 := by unfold maxLen at hcm2; exact hcm2
    obtain ⟨A', c', hvA, hA1, hA2, hA3⟩ := id hb2
    injection hvA with hvA1 _ hvA2
    subst hvA1 hvA2
    obtain ⟨b, off, rfl, hbw, hcA⟩ := hA3 hne
    obtain ⟨k, hk⟩ : ∃ k : Nat, n % (l.length : Int) = (k : Int) := ⟨(n % (l.length : Int)).toNat, by have := Int.emod_nonneg n (show (l.length : Int) ≠ 0 by omega); omega⟩
    have hkl : k < l.length := by have := Int.emod_lt_of_pos n (show (0 : Int) < (l.length : Int) by omega); omega
    have hck := hcl2 k hkl
    have hfk := hfr2 k
    have hld : (w2.setCell ⟨g, k, none⟩ (.int .u8 (n8 x))).cell? ⟨b, off + k, none⟩ = some (.int .u8 (n8 (l.getD k 0))) := by
      rw [← hcA k hkl]
      exact World.cell?_of_block (a := ⟨b, off + k, none⟩) (Below.heap_setCell w2 ⟨g, k, none⟩ (.int .u8 (n8 x)) b (by show b ≠ g; omega))
    have hq1 : (n.tmod (l.length : Int)) = (k : Int) := by rw [Int.tmod_eq_emod_of_nonneg hn.1]; exact hk
    have hk0 : (0 : Int) ≤ (k : Int) := by omega
    have hk1 : (k : Int) < (l.length : Int) := by omega
    have hn0 := hn.1
    have hn1 := hn.2
    have ho3 := ho2.set k x
    have h23 : ∀ b, b ≠ g → (w2.setCell ⟨g, k, none⟩ (.int .u8 (n8 x))).heap[b]? = w2.heap[b]? := fun b hb => Below.heap_setCell w2 ⟨g, k, none⟩ (.int .u8 (n8 x)) b hb
    have ha3 : Ab w (w2.setCell ⟨g, k, none⟩ (.int .u8 (n8 x))) := ha2.set (by show w.heap.size ≤ g; omega) _
    have he3 : Engn (w2.setCell ⟨g, k, none⟩ (.int .u8 (n8 x))) w.heap.size 0 := he2.keep (h23 _ (by omega))
    have hb3 : Bs (w2.setCell ⟨g, k, none⟩ (.int .u8 (n8 x))) w.heap.size (.slice (some ⟨b, off, none⟩) l.length c) l := hb2.keep fun b' o hb' => World.cell?_of_block (a := ⟨b', o, none⟩) (h23 b' (by omega))
    have hcr := crcL_set l k hkl x
    have hgd' : l.getD k 0 = l[k] := by rw [List.getD_eq_getElem?_getD, List.getElem?_eq_getElem hkl]; rfl
    have HA := Lib.hid hcA
    have HC := Lib.hid hcl2
    have HF := Lib.hid hfr2
    have HRO := Lib.hid hro
    have HH := Lib.hid (And.intro ha (And.intro ht1 he0))
    have H2 := Lib.hid (And.intro hb3 (And.intro ha3 (And.intro he3 ho3)))
    have HB : ∀ w' : World, Gw w.heap.size (w2.setCell ⟨g, k, none⟩ (.int .u8 (n8 x))) w' → Bs w' w.heap.size (.slice (some ⟨b, off, none⟩) l.length c) l ∧ w.heap.size ≤ w'.heap.size := fun w' hg =>
      ⟨hb3.gw hg (by simp; omega) (Nat.le_refl _), by have := hg.size; simp at this; omega⟩
    have HC2 : ∀ w' : World, Gw w.heap.size (w2.setCell ⟨g, k, none⟩ (.int .u8 (n8 x))) w' → Bs w' w'.heap.size (.slice (some ⟨g, 0, none⟩) l.length cap) (l.set k x) := fun w' hg =>
      (ho3.kept hg (.inr (by simp [Value.ownBlock]; omega))).bs
    have HBh := Lib.hid HB
    have HCh := Lib.hid HC2
    clear HB HC2
    have HT := Lib.hid ht
    have HR := Lib.hid hcr
    clear hcA hcl2 hfr2 hcell hv hb2 ha2 he2 ho2 hg2 hA3 ha ht1 he0 hn hro hbl2 h23 hb3 ha3 he3 ho3 ht hcr
    by_cases hsame : l[k] = x
    · have hbs : (n8 l[k] == n8 x) = true := by rw [hsame]; simp
      have hbs' : (n8 (l.getD k 0) == n8 x) = true := by rw [hgd', hsame]; simp
      have hcc : (n32 (crcL l) == n32 (crcL (l.set k x))) = true := by rw [(HR.out).2 hsame]; simp
      have hsx : l.set k x = l := by subst hsame; rw [List.set_getElem_self]
      clear hsame
      go_wp2_with fail
      obtain ⟨hb3, ha3, he3, ho3⟩ := H2.out
      have hts := HT.out.ab ha3
      generalize w2.setCell ⟨g, k, none⟩ (.int .u8 (n8 x)) = w3 at *
      refine (Crc_at w.heap.size _ l w3 he3 (by omega) (fun w' hg => (HBh.out w' hg).1.more (HBh.out w' hg).2)).mono ?_
      rintro e w4 ⟨rfl, he4, hg4⟩
      have he4 : Engn w4 w.heap.size 1 := he4
      clear he3 hb3 ho3
      go_wp2_with fail
      refine (Crc_at w.heap.size _ (l.set k x) w4 he4 (by omega) (fun w' hg => HCh.out w' (hg4.trans hg))).mono ?_
      rintro e w5 ⟨rfl, he5, hg5⟩
      have he5 : Engn w5 w.heap.size 2 := he5
      have hg5 := hg4.trans hg5
      clear he4 hg4
      go_wp2_with fail
      refine (Sha_eng w.heap.size _ l w5 he5 (by omega) (fun w' hg => (HBh.out w' (hg5.trans hg)).1.more (HBh.out w' (hg5.trans hg)).2) (hts.gw hg5 (by have := HT.out.pos; omega)) (by have := HT.out.pos; omega)).mono ?_
      rintro e w6 ⟨ds, rfl, hds, he6, hg6⟩
      have he6 : Engn w6 w.heap.size 3 := he6
      have hg6 := hg5.trans hg6
      clear he5 hg5
      go_wp2_with fail
      refine (Sha_eng w.heap.size _ (l.set k x) w6 he6 (by omega) (fun w' hg => HCh.out w' (hg6.trans hg)) (hts.gw hg6 (by have := HT.out.pos; omega)) (by have := HT.out.pos; omega)).mono ?_
      rintro e w7 ⟨ds2, rfl, hds2, he7, hg7⟩
      have he7 : Engn w7 w.heap.size 4 := he7
      have hg7 := hg6.trans hg7
      clear he6 hg6
      rw [hsx] at hds2
      have heq := fun wx => eql_sum hds hds2 wx
      go_wp2_with fail
      refine (Crc_at w.heap.size _ l w7 he7 (by omega) (fun w' hg => (HBh.out w' (hg7.trans hg)).1.more (HBh.out w' (hg7.trans hg)).2)).mono ?_
      rintro e w8 ⟨rfl, he8, hg8⟩
      have he8 : Engn w8 w.heap.size 5 := he8
      have hg8 := hg7.trans hg8
      clear he7 hg7
      go_wp2_with fail
      refine (new_any w8).mono ?_
      rintro e w9 ⟨rfl, he9, ha9⟩
      have hb9 := HBh.out w9 (hg8.trans (Gw.of_ab ha9 _))
      go_wp2_with fail
      refine (Crc_at w8.heap.size _ l w9 (.inl he9) (by omega) (fun w' hg => ?_)).mono ?_
      · exact (hb9.1.gw hg hb9.2 (by have := he8.lt; omega)).more (Nat.le_trans hb9.2 hg.size)
      rintro e w10 ⟨rfl, he10, hg10⟩
      have he11 : Engn w10 w.heap.size 5 := (he8.ab ha9).keep (hg10.5 _ (he8.ab ha9).lt (by have := he8.lt; simp; omega))
      obtain ⟨d, m, tab, he12⟩ := he11.eng
      have ht10 : Tab w10 := ((hts.gw hg8 (by have := HT.out.pos; omega)).ab ha9).gw hg10 (by have := HT.out.pos; have := he8.lt; omega)
      have ha10 : Ab w w10 := hg10.ab ((hg8.ab ha3 (Nat.le_refl _)).trans ha9) (by have := he8.lt; omega)
      clear he8 hg8 he9 hb9
      go_wp2_with fail
      refine (Calls_eng _ _ he12).mono ?_
      rintro e w11 ⟨rfl, rfl⟩
      go_wp2_with fail
      refine (lives_any _ ht10).mono ?_
      rintro e w12 ⟨rfl, hb12⟩
      go_wp2_with fail
      go_ret
      exact ⟨rfl, ha10.trans hb12⟩
    · have hbs : (n8 l[k] == n8 x) = false := by rw [beq_eq_false_iff_ne]; exact fun e => hsame (n8_inj e)
      have hbs' : (n8 (l.getD k 0) == n8 x) = false := by rw [hgd']; exact hbs
      have hcc : (n32 (crcL l) == n32 (crcL (l.set k x))) = false := by rw [beq_eq_false_iff_ne]; exact fun e => hsame ((HR.out).1 (n32_inj e))
      clear hsame
      go_wp2_with fail
      obtain ⟨hb3, ha3, he3, ho3⟩ := H2.out
      have hts := HT.out.ab ha3
      generalize w2.setCell ⟨g, k, none⟩ (.int .u8 (n8 x)) = w3 at *
      refine (Crc_at w.heap.size _ l w3 he3 (by omega) (fun w' hg => (HBh.out w' hg).1.more (HBh.out w' hg).2)).mono ?_
      rintro e w4 ⟨rfl, he4, hg4⟩
      have he4 : Engn w4 w.heap.size 1 := he4
      clear he3 hb3 ho3
      go_wp2_with fail
      refine (Crc_at w.heap.size _ (l.set k x) w4 he4 (by omega) (fun w' hg => HCh.out w' (hg4.trans hg))).mono ?_
      rintro e w5 ⟨rfl, he5, hg5⟩
      have he5 : Engn w5 w.heap.size 2 := he5
      have hg5 := hg4.trans hg5
      clear he4 hg4
      go_wp2_with fail
      refine (Crc_at w.heap.size _ l w5 he5 (by omega) (fun w' hg => (HBh.out w' (hg5.trans hg)).1.more (HBh.out w' (hg5.trans hg)).2)).mono ?_
      rintro e w8 ⟨rfl, he8, hg8⟩
      have he8 : Engn w8 w.heap.size 3 := he8
      have hg8 := hg5.trans hg8
      clear he5 hg5
      go_wp2_with fail
      refine (new_any w8).mono ?_
      rintro e w9 ⟨rfl, he9, ha9⟩
      have hb9 := HBh.out w9 (hg8.trans (Gw.of_ab ha9 _))
      go_wp2_with fail
      refine (Crc_at w8.heap.size _ l w9 (.inl he9) (by omega) (fun w' hg => ?_)).mono ?_
      · exact (hb9.1.gw hg hb9.2 (by have := he8.lt; omega)).more (Nat.le_trans hb9.2 hg.size)
      rintro e w10 ⟨rfl, he10, hg10⟩
      have he11 : Engn w10 w.heap.size 3 := (he8.ab ha9).keep (hg10.5 _ (he8.ab ha9).lt (by have := he8.lt; simp; omega))
      obtain ⟨d, m, tab, he12⟩ := he11.eng
      have ht10 : Tab w10 := ((hts.gw hg8 (by have := HT.out.pos; omega)).ab ha9).gw hg10 (by have := HT.out.pos; have := he8.lt; omega)
      have ha10 : Ab w w10 := hg10.ab ((hg8.ab ha3 (Nat.le_refl _)).trans ha9) (by have := he8.lt; omega)
      clear he8 hg8 he9 hb9
      go_wp2_with fail
      refine (Calls_eng _ _ he12).mono ?_
      rintro e w11 ⟨rfl, rfl⟩
      go_wp2_with fail
      refine (lives_any _ ht10).mono ?_
      rintro e w12 ⟨rfl, hb12⟩
      go_wp2_with fail
      go_ret
      exact ⟨rfl, ha10.trans hb12⟩
end Go.Proofs.YtckepkgooinohaaDoor.digestTells

/- The walk through WireMsgs: a message's cells stay one row. -/
import Derived.Test.YtphbaaaklgiloaaGreatWrMc
import Derived.Test.YtphbaaaklgiloaaGreatWrMd
import Derived.Test.YtphbaaaklgiloaaGreatWrSp
import Derived.Test.YtphbaaaklgiloaaGreatWrH
import Derived.IntWalk
namespace Go.Proofs.YtphbaaaklgiloaaGreat.Dg
open Go.RowKit
attribute [local go_sem ↓] Go.wp_at_zero Go.wp_at_succ
theorem EncF.lift2 {W w : World} {s : Sch} {f : Nat → Option Value} {m : List UInt8} (h : EncF W W.heap.size s f m) (ha : Ab W w) : EncF w w.heap.size s f m := (h.ab ha (Nat.le_refl _)).more ha.size
theorem Bs.lift2 {W w : World} {v : Value} {m : List UInt8} (h : Bs W W.heap.size v m) (ha : Ab W w) : Bs w w.heap.size v m := (h.ab ha (Nat.le_refl _)).more ha.size
theorem same_eq2 {B C : Nat} {u v : Value} {l : List UInt8} (w : World) (h : Bs w B v l) (k : Bs w C u l) : Calls Tryz.prog 7 #[v, u] w fun e w' => e = .returned (.bool true) ∧ w = w' :=
  (same_any w h k).mono fun _ _ ⟨h1, h2⟩ => ⟨by rw [h1]; simp, h2⟩
theorem wpList_load_rowG {P : Program} {ops : Array Oper} {rest : List Oper} {o : Oper} {a : Act} {w : World} {Q : Exit → Act → World → Prop} (hgd : Region.wanted o (yielded ops a.tmps) = true) (ty : TypeId) (x : Operand) (ho : o.op = .load ty x)
    (g : Nat) (hx : a.eval x = .pointer (some ⟨g, 0, none⟩)) (t : TypeId) (cs : Array Value) (fr : Nat × Nat) (d : TypeDesc) (hg : w.heap[g]? = some (.cells cs t fr))
    (hu : P.underlying ty = some d) (hd : (match d with | .struct _ | .array _ _ => true | _ => false) = true) (hi : (P.info? ty).map (·.size) = some cs.size)
    (h : wpList P ops Q rest (a.put o.dst (.agg cs)) w) : wpList P ops Q (o :: rest) a w :=
  wpList_step fun K hK => by rw [if_pos hgd]; exact wp_load_row ty x ho g hx t cs fr d hg hu hd hi (hK _ _ h)
set_option maxRecDepth 100000 in
set_option maxHeartbeats 8000000 in
theorem msgs_walk (W : World) (cs : Array Value) (hcs : cs.size = 46) (x : UInt8) (bM : List UInt8) (hm : EncF W W.heap.size sM (fun k => cs[k]?) bM) (lm : bM.length ≤ 100000000) :
    Calls Tryz.prog 3 #[.agg cs, .int .u8 (x.toNat : Int)] W fun e w' => e = .returned (.bool true) ∧ Ab W w' := by
  have HM := Lib.hid (And.intro hm lm)
  clear hm lm
  go_enter Tryz.func3, Tryz.ntmps3
  have ha0 : Ab W (W.alloc (.cells cs 48)) := (Ab.refl W).alloc _
  have hi : (Tryz.prog.info? 48).map (·.size) = some cs.size := by rw [hcs]; exact info_M
  have H0 := Lib.hid (And.intro (Bk.made W 48 cs) (And.intro ha0 hi))
  clear ha0 hi
  obtain ⟨Z, hZs, hZ1, hZL⟩ : ∃ Z : Array Value, Z.size = 46 ∧ (∀ u ∈ Z.toList, u.oneCell' = true) ∧ Lays Z := ⟨_, (by rfl), ones_zM, lays_zM⟩
  have HZ := Lib.hid (And.intro hZs (And.intro hZ1 hZL))
  clear hZs hZ1 hZL
  have h8 : 8 ≤ bM.length := by
    obtain ⟨m1, m2, ⟨n, -, rfl⟩, -, e⟩ := HM.out.1
    rw [e, List.length_append, numL_length]; omega
  have hw : wrap64 ((bM.length : Int) - 1) = ((bM.length - 1 : Nat) : Int) := by
    have := HM.out.2
    rw [IntWalk.wrap64_in _ (by omega)]; omega
  have HW := Lib.hid (And.intro h8 hw)
  clear h8 hw
  have HP := Lib.hid (EncF.par _ _ _ HM.out.1 (by have := HM.out.2; omega))
  go_wp2_with (first
    | (refine wpList_load_row rfl 48 _ rfl W.heap.size rfl 48 cs (0, 0) _ H0.out.1 Tryz.underlying48 rfl H0.out.2.2 ?_)
    | (go_at_call 5; (refine (wire_Msg cs hcs bM _ (HM.out.1.lift2 H0.out.2.1) HM.out.2).mono ?_); rintro e w1 ⟨v1, rfl, ho1, ha1⟩; (obtain ⟨A1, c1, rfl, hle1, -⟩ := id ho1.bs); (have hsl := fun wx => run_slice_head A1 bM.length c1 (bM.length - 1) (wrap64 ((bM.length : Int) - 1)) HW.out.2 (by omega) wx); clear hle1; (have O1 := Lib.hid ho1); (have O1lo : ∀ k, (Value.slice A1 bM.length c1).ownBlock = some k → W.heap.size ≤ k := fun k e => by have := (ho1.blk k e).1; have := H0.out.2.1.size; omega); (have ab1 : Ab W w1 := H0.out.2.1.trans ha1); (have hb1 : Bk w1 W.heap.size 48 cs := ha1.bk H0.out.1); (have B1 := Lib.hid (fun wx (hx : Ab w1 wx) => ho1.bs.lift2 hx)); (have H1 := Lib.hid (And.intro ho1 hb1)); clear ho1 ha1 hb1)
    | (refine wpList_load_row rfl 48 _ rfl W.heap.size rfl 48 cs (0, 0) _ H1.out.2 Tryz.underlying48 rfl H0.out.2.2 ?_)
    | (go_at_call 6; (refine (ref_MsgA cs hcs bM w1 (HM.out.1.lift2 ab1) HM.out.2).mono ?_); rintro e w2 ⟨v2, rfl, ho2, ab12⟩; (obtain ⟨A2, c2, rfl, -⟩ := id ho2.bs); (have B2 := Lib.hid (fun wx (hx : Ab w2 wx) => ho2.bs.lift2 hx)); (have O2 := Lib.hid ho2); clear ho2)
    | (go_at_call 7; (with_reducible refine (same_eq2 w2 (B1.out w2 ab12) (B2.out w2 (Ab.refl _))).mono ?_); rintro e wz ⟨rfl, rfl⟩)
    | (go_at_call 8; (with_reducible refine (wread_Msg bM w2 (B1.out w2 ab12) HP.out HM.out.2).mono ?_); rintro e w3 ⟨cs3, hcs3, rfl, he3, ab23⟩; (have h13 := EncP.ones he3 (by rw [hcs3, sM_sz])); (have hi3 : (Tryz.prog.info? 48).map (·.size) = some cs3.size := by rw [hcs3]; exact info_M); (have H3 := Lib.hid (And.intro he3 (And.intro h13 hi3))); clear he3 h13 hi3)
    | (refine Great.wpList_runTo rfl _ rfl _ _ (HZ.out.2.2 _ _ _ rfl) ?_)
    | (refine wpList_store_rowM rfl rfl 48 _ _ rfl w3.heap.size rfl cs3 Z rfl 48 (Bk.made w3 _ _) (by rw [HZ.out.1, hcs3]) H3.out.2.2 H3.out.2.1 ?_; intro w4 hw4; (have hb4 : Bk w4 w3.heap.size 48 cs3 := by rw [← hw4]; exact Bk.rowM (Bk.made w3 _ _) cs3); (have ab34 : Ab w3 w4 := by rw [← hw4]; exact (mv_rowM cs3).ab ((Ab.refl w3).alloc _) (fun k e => by omega)); clear hw4; (have H4 := Lib.hid hb4); clear hb4)
    | (go_at_call 9; (with_reducible refine (num_any 0 _).mono ?_); rintro e wz ⟨rfl, rfl⟩)
    | (refine wpList_load_rowG (by first | rfl | simp [Region.wanted, yielded]) 48 _ rfl w3.heap.size rfl 48 cs3 (0, 0) _ H4.out Tryz.underlying48 rfl H3.out.2.2 ?_)
    | (go_at_call 6; (refine (ref_MsgA cs3 hcs3 bM w4 ((H3.out.1.encF (fun b hb => hb.2)).lift2 ab34) HM.out.2).mono ?_); rintro e w5 ⟨v5, rfl, ho5, ab45⟩; (obtain ⟨A5, c5, rfl, -⟩ := id ho5.bs); (have B5 := Lib.hid (fun wx (hx : Ab w5 wx) => ho5.bs.lift2 hx)); (have ab25 : Ab w2 w5 := ab23.trans (ab34.trans ab45)); clear ho5)
    | (go_at_call 7; (with_reducible refine (same_eq2 w5 (B5.out w5 (Ab.refl _)) (B2.out w5 ab25)).mono ?_); rintro e wz ⟨rfl, rfl⟩)
    | (refine wpList_bytes3 rfl _ _ _ rfl _ _ rfl rfl w5.heap.size [] bM (Ob.made w5 #[] w5.heap.size (Nat.le_refl _) (by simp [maxLen])) (src_bs Tryz.underlying41 (B1.out _ ((ab12.trans ab25).trans ((Ab.refl w5).alloc _)))) (by have := HM.out.2; simp only [List.length_nil]; omega) (by simp) ?_; intro A6 n6 c6 w6 ho6 hf6; (have ab56 : Ab w5 w6 := hf6.ab ((Ab.refl w5).alloc _) (Nat.le_refl _)); (have H6 := Lib.hid ho6); clear ho6 hf6)
    | (refine wpList_bytes3 rfl _ _ _ rfl _ _ rfl rfl w5.heap.size bM [x] (H6.out.alloc _) (src_one Tryz.underlying41 ((Bk.made w6 _ _).cell (i := 0) rfl) 1) (by have := HM.out.2; simp only [List.length_cons, List.length_nil]; omega) (by have := ab56.size; simp; omega) ?_; intro A7 n7 c7 w7 ho7 hf7; (have ab57 : Ab w5 w7 := hf7.ab (ab56.alloc _) (Nat.le_refl _)); (have B7 := Lib.hid (fun wx (hx : Ab w7 wx) => ho7.bs.lift2 hx)); clear ho7 hf7)
    | (go_at_call 8; (with_reducible refine (wread_long bM x w7 (B7.out w7 (Ab.refl _)) HP.out HM.out.2).mono ?_); rintro e w8 ⟨cs8, -, -, rfl, ab78⟩; (have ab18 : Ab w1 w8 := ab12.trans (ab25.trans (ab57.trans ab78))))
    | (go_at_call 8; (with_reducible refine (wread_short bM w8 (take_bs (B1.out w8 ab18) (bM.length - 1) (by omega)) HP.out HM.out.2).mono ?_); rintro e w9 ⟨cs9, hcs9, h19, rfl, ab89⟩)
    | (refine wpList_store_rowM rfl rfl 48 _ _ rfl w9.heap.size rfl cs9 Z rfl 48 (Bk.made w9 _ _) (by rw [HZ.out.1, hcs9]) (by rw [hcs9]; exact info_M) h19 ?_; intro wa hwa; (have ab9a : Ab w9 wa := by rw [← hwa]; exact (mv_rowM cs9).ab ((Ab.refl w9).alloc _) (fun k e => by omega)); clear hwa; (have ab59 : Ab w5 wa := ab57.trans (ab78.trans (ab89.trans ab9a))))
    | (go_at_call 10; (with_reducible refine (spoil_mv wa (O1.out.ab (ab12.trans (ab25.trans ab59))) (by have := HM.out.2; omega)).mono ?_); rintro e w10 ⟨rfl, hm10⟩;
        (have ab19 : Ab w1 wa := ab12.trans (ab25.trans ab59)); (have ab010 : Ab W w10 := hm10.ab (ab1.trans ab19) O1lo);
        (have o2 : Ob w10 w1.heap.size (.slice A2 bM.length c2) bM := hm10.ob (O2.out.ab (ab25.trans ab59)) (fun k e e1 => by have := (O2.out.blk k e).1; have := (O1.out.blk k e1).2; omega));
        (have bk10 : Bk w10 w3.heap.size 48 cs3 := hm10.bk ((ab45.trans ab59).bk H4.out) (fun e => by have := (O1.out.blk _ e).2; have := ab12.size; have := ab23.size; omega));
        (have en10 : EncF w10 w10.heap.size sM (fun k => cs3[k]?) bM := (EncP.congr (F' := fun k => k < w10.heap.size) (fun k hk => ⟨by have := hm10.size; have := ab34.size; have := ab45.size; have := ab59.size; omega, fun o' => (World.cell?_of_block (a := ⟨k, o', none⟩) (hm10.block k (by have := ab34.size; have := ab45.size; have := ab59.size; omega) (fun e => by have := (O1.out.blk _ e).2; have := ab12.size; omega))).trans ((ab34.trans (ab45.trans ab59)).cells k o' hk.2)⟩) _ _ _ _ (fun k _ => rfl) H3.out.1).encF (fun b hb => hb));
        (have H10 := Lib.hid (And.intro o2.bs (And.intro bk10 en10))); clear o2 bk10 en10 hm10)
    | (refine wpList_load_rowG (by first | rfl | simp [Region.wanted, yielded]) 48 _ rfl w3.heap.size rfl 48 cs3 (0, 0) _ H10.out.2.1 Tryz.underlying48 rfl H3.out.2.2 ?_)
    | (go_at_call 9; (with_reducible refine (num_any 74 _).mono ?_); rintro e wz ⟨rfl, rfl⟩)
    | (go_at_call 6; (refine (ref_MsgA cs3 hcs3 bM w10 H10.out.2.2 HM.out.2).mono ?_); rintro e w11 ⟨v11, rfl, ho11, ab11⟩; (obtain ⟨A11, c11, rfl, -⟩ := id ho11.bs); (have B11 := Lib.hid ho11.bs); clear ho11)
    | (go_at_call 7; (with_reducible refine (same_eq2 w11 B11.out (H10.out.1.lift2 ab11)).mono ?_); rintro e wz ⟨rfl, rfl⟩)
    | (go_at_call 11; (with_reducible refine (awake_any w11).mono ?_); rintro e w12 ⟨rfl, ab12'⟩))
  go_ret
  exact ⟨rfl, ab010.trans (ab11.trans ab12')⟩
end Go.Proofs.YtphbaaaklgiloaaGreat.Dg

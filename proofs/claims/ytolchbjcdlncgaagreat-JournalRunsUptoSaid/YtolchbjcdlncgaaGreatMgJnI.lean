/- Texts joined: JnI. -/
import Derived.Test.YtolchbjcdlncgaaGreatMgDkG
import Derived.Test.YtolchbjcdlncgaaGreatMgJnH
/- The journal: cut, Open. -/
namespace Go.Proofs.YtolchbjcdlncgaaGreat.Dg
open Go.RowKit
variable {w w' : World} {base a g gj torn B : Nat} {v row u : Value} {rs : List (List UInt8)} {d : Dst} {l : List UInt8}
attribute [local go_sem ↓] Go.wp_at_zero Go.wp_at_succ
theorem leave_fin (h : d.Ok) : d.leave d.fin = d := by
  have h1 := h.synced
  have e1 : d.bytes.take (d.fin - d.base) = d.bytes := List.take_of_length_le (by unfold Dst.fin; omega)
  have e2 : min d.synced d.fin = d.synced := by omega
  unfold Dst.leave
  rw [e1, e2]
theorem fin_leave (x : Nat) (h1 : d.base ≤ x) (h2 : x ≤ d.fin) : (d.leave x).fin = x := by
  unfold Dst.fin at h2
  show d.base + (d.bytes.take _).length = x
  rw [List.length_take]
  omega
theorem cut_leave (x : Nat) (h1 : d.base ≤ x) (h2 : x ≤ d.fin) (hc : d.cold = false) : d.cut (x : Int) = d.leave x ∧ d.cutE (x : Int) = 0 := by
  have hh : d.cuts (x : Int) = true := decide_eq_true ⟨by omega, by omega⟩
  unfold Dst.cut Dst.cutE
  rw [hh, hc]
  exact ⟨rfl, rfl⟩
set_option maxRecDepth 100000 in
set_option maxHeartbeats 1000000 in
theorem cut_any (w : World) (hd : Dk w base g v d) (x : Nat) (h1 : d.base ≤ x) (h2 : x ≤ d.fin) (hc : d.cold = false) :
    Calls Tryz.prog 53 #[.pointer (some ⟨g, 0, none⟩), .int .i64 (x : Int)] w fun e w' => ∃ n : Nat, n = d.fin - x ∧ e = .returned (.tuple #[.int .i64 (n : Int), .int .i64 0]) ∧ ∃ v', Dk w' base g v' (d.leave x) ∧ Turn g v v' w w' := by
  have HD := Lib.hid hd
  have hr := hd.ok.reach
  have HC := Lib.hid (cut_leave x h1 h2 hc)
  have HF := Lib.hid (fin_leave (d := d) x h1 h2)
  have HL := Lib.hid (leave_fin hd.ok)
  obtain ⟨f, hf⟩ : ∃ f, d.fin = f := ⟨_, rfl⟩
  rw [hf] at h2 hr HL
  have HFF := Lib.hid hf
  rw [hf]
  clear hd hf hc h1
  by_cases hx : x = f
  · subst hx
    go_enter Tryz.func53, Tryz.ntmps53
    go_wp2_with (go_at_call 41; (with_reducible refine (End_any _ HD.out).mono ?_); rintro e w2 ⟨rfl, ha2⟩; rw [HFF.out]; (have H2 := Lib.hid ha2); clear ha2)
    go_ret2
    exact ⟨0, by omega, rfl, v, by rw [HL.out]; exact HD.out.ab H2.out.ab, Turn.of_ab H2.out.ab⟩
  · have hne : ((x : Int) == (f : Int)) = false := by rw [beq_eq_false_iff_ne]; omega
    have hxf : ¬ (x : Int) = (f : Int) := by omega
    have e1 : IntKind.i64.wrap ((f : Int) - (x : Int)) = ((f - x : Nat) : Int) := by rw [IntWalk.i64_in _ (by omega)]; omega
    obtain ⟨n, hn⟩ : ∃ n, f - x = n := ⟨_, rfl⟩
    rw [hn] at e1
    have HN := Lib.hid hn
    clear hn
    go_enter Tryz.func53, Tryz.ntmps53
    go_wp2_with fail
    refine (End_any _ HD.out).mono ?_
    rintro e w2 ⟨rfl, ha2⟩
    rw [HFF.out]
    have hcu := Cut_any w2 (HD.out.ab ha2.ab) (x : Int)
    rw [HC.out.1, HC.out.2] at hcu
    have H2 := Lib.hid ha2
    have HCU := Lib.hid hcu
    clear ha2 hcu
    go_wp2_with fail
    refine HCU.out.mono ?_
    rintro e w3 ⟨rfl, v3, hd3, ht3⟩
    have H3 := Lib.hid (And.intro hd3 ht3)
    clear hd3 ht3
    go_wp2_with fail
    refine (End_any _ H3.out.1).mono ?_
    rintro e w4 ⟨rfl, ha4⟩
    rw [HF.out]
    have H4 := Lib.hid ha4
    clear ha4
    go_wp2_with fail
    go_ret2
    exact ⟨n, HN.out.symm, rfl, v3, H3.out.1.ab H4.out.ab, (Turn.after H2.out.ab H3.out.2).still H4.out.ab⟩
/-- What Open makes of a disk. -/
def opened (d : Dst) : Dst := d.leave (d.base + sizeL (recsOf d.bytes))
def tornD (d : Dst) : Nat := d.fin - (d.base + sizeL (recsOf d.bytes))
theorem opened_at (d : Dst) : d.base ≤ d.base + sizeL (recsOf d.bytes) ∧ d.base + sizeL (recsOf d.bytes) ≤ d.fin := by
  have := (recs_split d.bytes).2.2.2
  unfold Dst.fin
  omega
theorem opened_bytes (d : Dst) : (opened d).bytes = framesL (recsOf d.bytes) := by
  have h := (recs_split d.bytes).1
  show d.bytes.take (d.base + sizeL (recsOf d.bytes) - d.base) = _
  rw [Nat.add_sub_cancel_left]
  exact (congrArg (List.take (sizeL (recsOf d.bytes))) h).trans (List.take_left' (framesL_length _))
theorem got_all (d : Dst) : d.got (d.base : Int) (d.bytes.length : Int) = d.bytes ∧ d.gotE (d.base : Int) (d.bytes.length : Int) = 0 := by
  have hh : d.has (d.base : Int) (d.bytes.length : Int) = true := decide_eq_true ⟨by omega, by unfold Dst.fin; omega, by omega, by unfold Dst.fin; omega⟩
  unfold Dst.got Dst.gotE
  rw [hh]
  refine ⟨?_, rfl⟩
  show (d.bytes.drop ((d.base : Int).toNat - d.base)).take (d.bytes.length : Int).toNat = d.bytes
  rw [Int.toNat_natCast, Int.toNat_natCast, Nat.sub_self, List.drop_zero, List.take_length]
def OpenPost (w : World) (base g : Nat) (v : Value) (d : Dst) (e : Ending) (w' : World) : Prop :=
  ∃ gj row v', e = .returned (.tuple #[.pointer (some ⟨gj, 0, none⟩), .int .i64 0]) ∧ Jt w' base gj g row (tornD d) v' (opened d) (recsOf d.bytes) ∧ Turn g v v' w w' ∧ ∀ k, JOwn gj row k → w.heap.size ≤ k
set_option maxRecDepth 100000 in
set_option maxHeartbeats 2000000 in
theorem Open_any (w : World) (hd : Dk w base g v d) (hc : d.lim = none) (hbase : base ≤ w.heap.size) :
    Calls Tryz.prog 19 #[.pointer (some ⟨g, 0, none⟩)] w (OpenPost w base g v d) := by
  have HD := Lib.hid hd
  have hr := hd.ok.reach
  have hb := hd.bound
  have HR := Lib.hid (show d.bytes.length ≤ 67108864 by have := hd.ok.room; have := hd.ok.size2; omega)
  have HC := Lib.hid (show d.cold = false by unfold Dst.cold; rw [hc]; rfl)
  obtain ⟨f, hf⟩ : ∃ f, d.fin = f := ⟨_, rfl⟩
  obtain ⟨b, hbb⟩ : ∃ b, d.base = b := ⟨_, rfl⟩
  obtain ⟨n, hn⟩ : ∃ n, d.bytes.length = n := ⟨_, rfl⟩
  have hfb : f = b + n := by rw [← hf, ← hbb, ← hn]; rfl
  have hfr : f ≤ 4611686018427387904 := by rw [← hf]; exact hr
  have e1 : IntKind.i64.wrap ((f : Int) - (b : Int)) = (n : Int) := by rw [IntWalk.i64_in _ (by omega)]; omega
  have HH := Lib.hid (And.intro hf (And.intro hbb hn))
  have HB := Lib.hid (And.intro hbase hb)
  clear hd hr hb hc hf hbb hn hfb hfr hbase
  go_enter Tryz.func19, Tryz.ntmps19
  go_wp2_with fail
  refine (Base_any _ HD.out).mono ?_
  rintro e w2 ⟨rfl, rfl⟩
  rw [HH.out.2.1]
  go_wp2_with fail
  refine (End_any _ HD.out).mono ?_
  rintro e w3 ⟨rfl, ha3⟩
  rw [HH.out.1]
  have hrd := Read_any w3 (HD.out.ab ha3.ab) (d.base : Int) (d.bytes.length : Int) (by have := HR.out; omega)
  rw [(got_all d).1, (got_all d).2, HH.out.2.1, HH.out.2.2] at hrd
  have HRD := Lib.hid hrd
  have H3 := Lib.hid ha3.ab
  clear hrd ha3
  go_wp2_with fail
  refine HRD.out.mono ?_
  rintro e w4 ⟨u, rfl, hu4, ha4⟩
  obtain ⟨A, c, rfl, -, -⟩ := hu4.len_cap
  have hfm := frames_any (a := b) w4 hu4.bs (Nat.le_refl _) (by rw [← HH.out.2.1]; exact HB.out.2) HR.out
  obtain ⟨x, hx⟩ : ∃ x, b + sizeL (recsOf d.bytes) = x := ⟨_, rfl⟩
  rw [HH.out.2.2, hx] at hfm
  rw [HH.out.2.2]
  have HX := Lib.hid hx
  have HFM := Lib.hid hfm
  have H4 := Lib.hid (H3.out.trans ha4)
  clear hu4 ha4 hfm hx
  go_wp2_with fail
  refine HFM.out.mono ?_
  rintro e w5 ⟨u5, rfl, hr5, ha5⟩
  obtain ⟨A5, c5, rfl, -, -⟩ := hr5.len_cap
  have ha5 := H4.out.trans ha5
  have hop := opened_at d
  rw [HH.out.2.1, HX.out] at hop
  have hcu := cut_any w5 (HD.out.ab ha5) x (by rw [HH.out.2.1]; exact hop.1) hop.2 HC.out
  have HCU := Lib.hid hcu
  have H5 := Lib.hid (And.intro hr5 ha5)
  clear hr5 ha5 hop hcu
  go_wp2_with fail
  refine HCU.out.mono ?_
  rintro e w6 ⟨n6, hn6, rfl, v6, hd6, ht6⟩
  have hr6 := Og.mv H5.out.1 ht6.1 (fun k hk e => by
    have h1 := H5.out.1.blk k hk
    have h2 := H4.out.size
    rcases e with rfl | e
    · have := HD.out.1.lt; omega
    · have := (HD.out.2.1.blk k e).2; omega)
  have H6 := Lib.hid (And.intro hn6 (And.intro hd6 (And.intro ht6 hr6)))
  have hj7 := Bk.made w6 59 #[.pointer (some ⟨g, 0, none⟩), .slice A5 (recsOf d.bytes).length c5, .int .i64 (n6 : Int)]
  have ha7 := (Ab.refl w6).alloc (.cells #[.pointer (some ⟨g, 0, none⟩), .slice A5 (recsOf d.bytes).length c5, .int .i64 (n6 : Int)] 59)
  have H7 := Lib.hid (And.intro hj7 ha7)
  clear hn6 hd6 ht6 hr6 hj7 ha7
  go_wp2_with fail
  go_ret2
  have hle : base ≤ w6.heap.size := Nat.le_trans HB.out.1 (Nat.le_trans H5.out.2.size H6.out.2.2.1.1.size)
  have htn : tornD d = n6 := by rw [H6.out.1]; unfold tornD; rw [HH.out.2.1, HX.out]
  have hbo : (opened d).base = b := HH.out.2.1
  have hol : opened d = d.leave x := by unfold opened; rw [HH.out.2.1, HX.out]
  refine ⟨w6.heap.size, .slice A5 (recsOf d.bytes).length c5, v6, rfl, ⟨by rw [hol]; exact H6.out.2.1.ab H7.out.2, ⟨by rw [htn]; exact H7.out.1, by rw [hbo]; exact Og.lower (Og.ab H6.out.2.2.2 H7.out.2) (Nat.le_trans HB.out.1 H4.out.size), hle⟩, opened_bytes d, (recs_split d.bytes).2.2.1⟩, (Turn.after H5.out.2 H6.out.2.2.1).still H7.out.2, fun k hk => ?_⟩
  rcases hk with rfl | hk
  · exact Nat.le_trans H5.out.2.size H6.out.2.2.1.1.size
  · exact Nat.le_trans H4.out.size (H5.out.1.blk k hk).1
end Go.Proofs.YtolchbjcdlncgaaGreat.Dg

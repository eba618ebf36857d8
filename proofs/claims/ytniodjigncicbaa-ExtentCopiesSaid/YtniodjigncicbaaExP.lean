/- What Extents' iterator hands over: a copy of each run. -/
import Derived.Test.YtniodjigncicbaaExO
namespace Go.Proofs.Ytniodjigncicbaa.Dg
open Go.RowKit Go.Shelf
variable {w w' : World} {base a s B : Nat} {v : Value} {ps : List Pr} {l xs m : List UInt8} {c : Cel}
attribute [local go_sem ↓] Go.wp_at_zero Go.wp_at_succ
attribute [local go_sem] Oper.semAt_some
/-- What is handed over. -/
def OkE (ps : List Pr) (n₀ : Nat) (pre : List Pr) (x : Pr) (W : World) : Prop := (∃ p, ps[pre.length]? = some p ∧ x.at_ = p.at_ ∧ x.bytes = p.bytes) ∧ Ob W n₀ x.val x.bytes
def ownE (x : Pr) (k : Nat) : Prop := x.val.ownBlock = some k
/-- Within the iterator, between two rounds. -/
def ExI (ps : List Pr) (S : Nat → Prop) (w1 : World) (J : List Pr → World → Prop) (pre : List Pr) (X : World) : Prop :=
  Mv S w1 X ∧ pre = ps.take pre.length ∧ ∃ xs, rnOf xs = rnOf pre ∧ J xs X
def ExX (Jx : World → Prop) (cd : Code) (X : World) : Prop := cd = .ret ∧ Jx X
theorem ExI.own {S : Nat → Prop} {w1 : World} {J : List Pr → World → Prop} {b : Nat} (hJ : OwnFrom b J) (hb : b ≤ w1.heap.size) : OwnFrom w1.heap.size (ExI ps S w1 J) := fun _ A C row hs hg hr =>
  ⟨hs.1.grown hg (fun k e => .inr (hr k e).1), hs.2.1, by
    obtain ⟨xs, h1, h2⟩ := hs.2.2
    exact ⟨xs, h1, hJ xs A C row h2 hg (fun r e => ⟨Nat.le_trans hb (hr r e).1, (hr r e).2⟩)⟩⟩
theorem ExX.own {Jx : World → Prop} {w1 : World} {b : Nat} (hJ : OwnFrom b (fun (_ : Unit) => Jx)) (hb : b ≤ w1.heap.size) (cd : Code) : OwnFrom w1.heap.size (fun (_ : Unit) => ExX Jx cd) := fun _ A C row hs hg hr =>
  ⟨hs.1, hJ () A C row hs.2 hg (fun r e => ⟨Nat.le_trans hb (hr r e).1, (hr r e).2⟩)⟩
theorem rnOf_len {xs ys : List Pr} (h : rnOf xs = rnOf ys) : xs.length = ys.length := by
  have := congrArg List.length h
  rwa [rnOf_length, rnOf_length] at this
theorem round_depth {P : Program} {l : Nat} {f : FuncId} {tm : Array Value} {asg bd : Code} {X : World} {R : Ending → World → Prop} {i j : Nat} (h : RoundIn Fence.wide i P l f tm asg bd X R) : RoundIn Fence.wide j P l f tm asg bd X R :=
  ⟨h.1, fun c cs _ => h.2 c cs (by simp [Fence.room, Fence.wide])⟩
theorem mv_new {S : Nat → Prop} {l : Nat} {x : Pr} {X X2 X3 : World} (ha : Ab X X2) (hm : Mv (fun k => S k ∨ k = l ∨ ownE x k) X2 X3) (hx : ∀ k, ownE x k → X.heap.size ≤ k) : Mv (fun k => S k ∨ k = l) X X3 :=
  ⟨hm.os.trans ha.1, hm.tape.trans ha.2, hm.output.trans ha.3, Nat.le_trans ha.size hm.size, fun k hk hn => (hm.block k (Nat.lt_of_lt_of_le hk ha.size) (fun e => by
    rcases e with e | e | e
    · exact hn (.inl e)
    · exact hn (.inr e)
    · have := hx k e; omega)).trans (Below.block ha k hk)⟩
set_option maxRecDepth 100000 in
set_option maxHeartbeats 4000000 in
theorem ext_hands (w : World) (b B : Nat) (S : Nat → Prop) (hSw : ∀ k, S k → k < w.heap.size) (hb : Bk w b 107 #[v]) (hr : Rl 218 w B v ps) (hS2 : ∀ k, v.ownBlock = some k → ¬ S k) (hS3 : ∀ p ∈ ps, ∀ k, p.val.ownBlock = some k → ¬ S k) (hlen : ps.length ≤ 1000000000) (hby : ∀ p ∈ ps, p.bytes.length ≤ 100000) :
    HandsX Try.prog 117 #[.pointer (some ⟨b, 0, none⟩)] (fun x : Pr => #[.int .i64 (x.at_ : Int), x.val]) (OkE ps w.heap.size) (fun xs => rnOf xs = rnOf ps) S ownE w := by
  intro l J Jx W hW hl hlt hJ hJx hY h0
  have hbY := Bk.made W 222 #[.func (.yield l) #[] #[]]
  have hab1 : Ab W (W.alloc (.cells #[.func (.yield l) #[] #[]] 222)) := (Ab.refl W).alloc _
  have cb : (W.alloc (.cells #[.func (.yield l) #[] #[]] 222)).cell? ⟨b, 0, none⟩ = some v := ((hW.trans hab1).cells b 0 hb.lt).trans (hb.cell rfl)
  obtain ⟨A, cp, rfl, -, -⟩ := hr.row.len_cap
  have HL := Lib.hid (hr.ab (hW.trans hab1))
  refine (callsIn_wide (n := 2)).1 ?_
  refine callsIn_of_wp_marks Try.func117 rfl trivial ?_ rfl
  simp only [Try.ntmps117, List.size_toArray, List.length_cons, List.length_nil, Nat.reduceAdd, Nat.reduceSub, Array.replicate_succ, Array.replicate_zero, List.push_toArray, List.append_toArray, List.nil_append, List.cons_append]
  refine (wpIn_wide (n := 2)).2 ?_
  go_wp2_with (go_at_call 116; (with_reducible refine (each_any _ HL.out).mono ?_); rintro e w8 ⟨rfl, rfl⟩)
  have hb8Y : Bk ((W.alloc (.cells #[.func (.yield l) #[] #[]] 222)).alloc (.cells #[.slice A ps.length cp] 107)) W.heap.size 222 #[.func (.yield l) #[] #[]] := hbY.alloc _
  have hb8R : Bk ((W.alloc (.cells #[.func (.yield l) #[] #[]] 222)).alloc (.cells #[.slice A ps.length cp] 107)) (W.heap.size + 1) 107 #[.slice A ps.length cp] := Bk.new (by simp)
  have hab8 : Ab W ((W.alloc (.cells #[.func (.yield l) #[] #[]] 222)).alloc (.cells #[.slice A ps.length cp] 107)) := hab1.alloc _
  have hj8 := hJ.alloc (.cells #[.slice A ps.length cp] 107) (hJ.alloc (.cells #[.func (.yield l) #[] #[]] 222) h0)
  generalize (W.alloc (.cells #[.func (.yield l) #[] #[]] 222)).alloc (.cells #[.slice A ps.length cp] 107) = w8 at *
  have hrl8 := hr.ab (hW.trans hab8)
  have hSW : ∀ k, (S k ∨ k = l) → k < W.heap.size := fun k e => by
    rcases e with e | e
    · exact Nat.lt_of_lt_of_le (hSw k e) hW.size
    · omega
  have hh := each_hands w8 (W.heap.size + 1) B (fun k => S k ∨ k = l) hb8R hrl8 (fun k hk e => by
    rcases e with e | e
    · exact hS2 k hk e
    · have := (hr.row.blk k hk).2; omega) hlen
  have HJ := Lib.hid (And.intro hJ hY)
  have HX := Lib.hid (And.intro hJx hab8)
  have HR := Lib.hid (And.intro hr (And.intro hW (And.intro hS3 hby)))
  have HW := Lib.hid (And.intro hSW (And.intro hb8Y (And.intro hl hW.size)))
  have HI0 : ExI ps (fun k => S k ∨ k = l) w8 J [] w8 := ⟨Mv.refl _ _, rfl, [], rfl, hj8⟩
  clear hbY hab1 cb HL hb hr hW hS2 hS3 hby hlen h0 hJx hb8R hj8 hrl8 hY hJ hab8 hb8Y hSW
  refine range_some ?h1 ?h2 ?h3 hh ?h4 ?h5 (ExI ps (fun k => S k ∨ k = l) w8 J) (ExX Jx) ?h6 ?h7 ?h8 HI0 ?a1 ?as1 ?bo1 ?do1 ?st1
  case h1 => rfl
  case h2 => exact enters_of Try.func140 (by kernel_rfl) rfl
  case h3 => exact fun _ => rfl
  case h4 => exact fun k e => Nat.lt_of_lt_of_le (HW.out.1 k e) HX.out.2.size
  case h5 => exact fun _ _ _ _ _ h => h.elim
  case h6 => exact ExI.own HJ.out.1 HX.out.2.size
  case h7 => exact ExX.own HX.out.1 HX.out.2.size
  case h8 => exact fun _ _ _ _ _ _ _ h _ _ _ => h
  case as1 =>
    intro l x X K hK
    gi_wp2
    exact hK
  case do1 =>
    rintro D xs X hD hxs ⟨hmv, hpre, ys, hys, hj⟩ hK1
    rw [hxs] at hys
    have HO := Lib.hid (And.intro hys (HJ.out.1.putObj (.deferred none) hj (Nat.le_trans HX.out.2.size hD) hK1 rfl))
    clear hmv hpre hys hj hxs HI0 hh
    go_wp2_with fail
    refine ⟨by simp, .inl ⟨_, _, rfl, run_takeDeferred hK1, ?_⟩⟩
    refine ⟨.tuple #[], ?_, ⟨_, rfl⟩, .inl ⟨ys, HO.out.1, HO.out.2⟩⟩
    simp [results, Try.f117, go_sem]
  case st1 =>
    rintro D cd X hD ⟨rfl, hjx⟩ hK1
    have HO := Lib.hid (HX.out.1.putObj (s := ()) (.deferred none) hjx (Nat.le_trans HX.out.2.size hD) hK1 rfl)
    clear hjx HI0 hh
    gi_wp2
    refine ⟨by simp, .inl ⟨_, _, rfl, run_takeDeferred hK1, ?_⟩⟩
    refine ⟨.tuple #[], ?_, ⟨_, rfl⟩, .inr HO.out⟩
    simp [results, Try.f117, go_sem]
  case bo1 =>
    rintro l2 pre ⟨f, u, bs⟩ X hl2 ⟨hmv, hpre, xs, hxs, hj⟩ hok
    obtain ⟨hkp, hxk⟩ := List.getElem?_eq_some_iff.1 hok
    have hmem : (⟨f, u, bs⟩ : Pr) ∈ ps := hxk ▸ List.getElem_mem hkp
    have hob : Ob X B u bs := hmv.ob (((HR.out.1.own _ hmem).ab HR.out.2.1).ab HX.out.2) (fun k hk e => by
      rcases e with e | e
      · exact HR.out.2.2.1 _ hmem k hk e
      · have := ((HR.out.1.own _ hmem).blk k hk).2; have := HW.out.2.2.1; omega)
    have hbs := hob.bs
    have cY : X.cell? ⟨W.heap.size, 0, none⟩ = some (.func (.yield l) #[] #[]) := (hmv.cell HW.out.2.1.lt (fun e => by have := HW.out.1 _ e; omega) 0).trans (HW.out.2.1.cell rfl)
    obtain ⟨Au, cu, rfl, -, -, -⟩ := id hbs
    have HB := Lib.hid (And.intro (show Bs X.drew X.drew.heap.size (.slice Au bs.length cu) bs from hbs.drew) (show bs.length ≤ 100000000000000 by have := HR.out.2.2.2 _ hmem; simp only at this; omega))
    have hsz : W.heap.size < X.drew.heap.size := Nat.lt_of_lt_of_le HW.out.2.1.lt hmv.size
    have HP := Lib.hid (And.intro (show w.heap.size ≤ X.drew.heap.size from Nat.le_trans HW.out.2.2.2 (Nat.le_of_lt hsz)) (And.intro (show ps[xs.length]? = some ⟨f, .slice Au bs.length cu, bs⟩ by rw [rnOf_len hxs]; exact hok) (And.intro hsz hj)))
    have HN := Lib.hid (And.intro hmv (And.intro (show pre ++ [(⟨f, .slice Au bs.length cu, bs⟩ : Pr)] = ps.take (pre ++ [(⟨f, .slice Au bs.length cu, bs⟩ : Pr)]).length by
      rw [List.length_append, List.length_singleton, List.take_succ_eq_append_getElem hkp, hxk, ← hpre]) (show ∀ u2, rnOf (xs ++ [(⟨f, u2, bs⟩ : Pr)]) = rnOf (pre ++ [(⟨f, .slice Au bs.length cu, bs⟩ : Pr)]) from fun u2 => by rw [rnOf_append, rnOf_append, hxs]; rfl)))
    clear hmv hpre hxs hj hok hkp hxk hmem hob hbs hsz HI0 hh
    gi_wp2
    refine wpIn_region_any (by kernel_rfl) ?_
    change wpAnyIn _ _ _ _ _ _ _ _ _ (World.drew _)
    refine wpAnyIn_round rfl l2 (by kernel_rfl) _ _ _ _ ?_
    refine wpAnyIn_take (i := 1) (v := .int .i64 (f : Int)) rfl rfl (by kernel_rfl) (by kernel_rfl) (by kernel_rfl) (fun _ _ _ h => h) ⟨Or.inl ⟨by rfl, fun w => by go_simp⟩, fun _ => rfl⟩ ?_
    refine wpAnyIn_take (i := 2) (v := .slice Au bs.length cu) rfl rfl (by kernel_rfl) (by kernel_rfl) (by kernel_rfl) (fun _ _ _ h => h) ⟨Or.inl ⟨by rfl, fun w => by go_simp⟩, fun _ => rfl⟩ ?_
    refine wpAnyIn_ready (rs := [0, 3]) (by kernel_rfl) (by simp) (AllReadyIn.cons rfl (fun K hK => ?_) (AllReadyIn.cons rfl (fun K hK => ?_) AllReadyIn.nil))
    · go_simp
      refine hK _ _ ?_
      clear hK K
      refine wpAnyIn_ready (rs := [3]) (by kernel_rfl) (by simp) (AllReadyIn.cons rfl (fun K hK => ?_) AllReadyIn.nil)
      go_simp
      · refine ⟨trivial, callsIn_wide.2 ((clone_any _ HB.out.1 HB.out.2).mono ?_)⟩
        rintro e X2 ⟨u2, rfl, ho2, ha2⟩
        obtain ⟨A2, c2, rfl, -, -⟩ := ho2.len_cap
        have hj2 := HJ.out.1 xs X X2 none HP.out.2.2.2 (ab_grown ((Ab.refl X).drew.trans ha2) none) (fun _ e => by cases e)
        obtain ⟨fn, tm, asg, bd, hy, hR⟩ := HJ.out.2 xs ⟨f, .slice A2 bs.length c2, bs⟩ X2 hj2 ⟨⟨_, HP.out.2.1, rfl, rfl⟩, ho2.lower HP.out.1⟩
        try dsimp only at hy
        have cY2 := (ha2.cells W.heap.size 0 HP.out.2.2.1).trans cY
        have H2 := Lib.hid (And.intro hR (And.intro ((Ab.refl X).drew.trans ha2) (show ∀ k, ownE ⟨f, .slice A2 bs.length c2, bs⟩ k → X.heap.size ≤ k from fun k hk => (ho2.blk k hk).1)))
        clear hR ho2 ha2 hj2
        refine hK _ _ ?_
        clear hK K
        refine wpAnyIn_ready (rs := [4]) (by kernel_rfl) (by simp) (AllReadyIn.cons rfl (fun K hK => ?_) AllReadyIn.nil)
        go_simp
        refine (round_depth H2.out.1).mono ?_
        rintro e X3 ⟨hm3, ⟨rfl, hj3⟩ | ⟨rfl, hj3⟩⟩
        · refine hK _ _ ?_
          clear hK K
          have H3 := Lib.hid (And.intro (mv_new H2.out.2.1 hm3 H2.out.2.2) hj3)
          clear hm3 hj3
          refine wpAnyIn_ready (rs := [5]) (by kernel_rfl) (by simp) (AllReadyIn.cons rfl (fun K hK => ?_) AllReadyIn.nil)
          go_simp
          refine hK _ _ ?_
          clear hK K
          refine wpAnyIn_done (by kernel_rfl) ?_ _
          gi_wp2
          exact ⟨H3.out.1.mono fun _ _ e => .inl e, HN.out.1.trans H3.out.1, HN.out.2.1, _, HN.out.2.2 _, H3.out.2⟩
        · refine hK _ _ ?_
          clear hK K
          have H3 := Lib.hid (And.intro (mv_new H2.out.2.1 hm3 H2.out.2.2) hj3)
          clear hm3 hj3
          refine wpAnyIn_ready (rs := [5]) (by kernel_rfl) (by simp) (AllReadyIn.cons rfl (fun K hK => ?_) AllReadyIn.nil)
          go_simp
          refine hK _ _ ?_
          clear hK K
          refine wpAnyIn_done (by kernel_rfl) ?_ _
          gi_wp2
          exact ⟨H3.out.1.mono fun _ _ e => .inl e, rfl, H3.out.2⟩
    · go_simp
      · refine ⟨trivial, callsIn_wide.2 ((clone_any _ HB.out.1 HB.out.2).mono ?_)⟩
        rintro e X2 ⟨u2, rfl, ho2, ha2⟩
        obtain ⟨A2, c2, rfl, -, -⟩ := ho2.len_cap
        have hj2 := HJ.out.1 xs X X2 none HP.out.2.2.2 (ab_grown ((Ab.refl X).drew.trans ha2) none) (fun _ e => by cases e)
        obtain ⟨fn, tm, asg, bd, hy, hR⟩ := HJ.out.2 xs ⟨f, .slice A2 bs.length c2, bs⟩ X2 hj2 ⟨⟨_, HP.out.2.1, rfl, rfl⟩, ho2.lower HP.out.1⟩
        try dsimp only at hy
        have cY2 := (ha2.cells W.heap.size 0 HP.out.2.2.1).trans cY
        have H2 := Lib.hid (And.intro hR (And.intro ((Ab.refl X).drew.trans ha2) (show ∀ k, ownE ⟨f, .slice A2 bs.length c2, bs⟩ k → X.heap.size ≤ k from fun k hk => (ho2.blk k hk).1)))
        clear hR ho2 ha2 hj2
        refine hK _ _ ?_
        clear hK K
        refine wpAnyIn_ready (rs := [0]) (by kernel_rfl) (by simp) (AllReadyIn.cons rfl (fun K hK => ?_) AllReadyIn.nil)
        go_simp
        refine hK _ _ ?_
        clear hK K
        refine wpAnyIn_ready (rs := [4]) (by kernel_rfl) (by simp) (AllReadyIn.cons rfl (fun K hK => ?_) AllReadyIn.nil)
        go_simp
        refine (round_depth H2.out.1).mono ?_
        rintro e X3 ⟨hm3, ⟨rfl, hj3⟩ | ⟨rfl, hj3⟩⟩
        · refine hK _ _ ?_
          clear hK K
          have H3 := Lib.hid (And.intro (mv_new H2.out.2.1 hm3 H2.out.2.2) hj3)
          clear hm3 hj3
          refine wpAnyIn_ready (rs := [5]) (by kernel_rfl) (by simp) (AllReadyIn.cons rfl (fun K hK => ?_) AllReadyIn.nil)
          go_simp
          refine hK _ _ ?_
          clear hK K
          refine wpAnyIn_done (by kernel_rfl) ?_ _
          gi_wp2
          exact ⟨H3.out.1.mono fun _ _ e => .inl e, HN.out.1.trans H3.out.1, HN.out.2.1, _, HN.out.2.2 _, H3.out.2⟩
        · refine hK _ _ ?_
          clear hK K
          have H3 := Lib.hid (And.intro (mv_new H2.out.2.1 hm3 H2.out.2.2) hj3)
          clear hm3 hj3
          refine wpAnyIn_ready (rs := [5]) (by kernel_rfl) (by simp) (AllReadyIn.cons rfl (fun K hK => ?_) AllReadyIn.nil)
          go_simp
          refine hK _ _ ?_
          clear hK K
          refine wpAnyIn_done (by kernel_rfl) ?_ _
          gi_wp2
          exact ⟨H3.out.1.mono fun _ _ e => .inl e, rfl, H3.out.2⟩
end Go.Proofs.Ytniodjigncicbaa.Dg

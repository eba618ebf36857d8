/- runs: the extents are told, and broken off, and told again. -/
import Derived.Test.YtniodjigncicbaaErE
import Derived.Test.YtniodjigncicbaaExP
import Derived.Test.YtniodjigncicbaaExR
namespace Go.Proofs.Ytniodjigncicbaa.Dg
open Go.RowKit Go.Shelf
variable {w w' W : World} {base a b s B : Nat} {v u vd vh : Value} {ps : List Pr} {l : List UInt8} {c : Cel}
attribute [local go_sem ↓] Go.wp_at_zero Go.wp_at_succ
attribute [local go_sem] Oper.semAt_some
/-- What stands throughout. -/
structure Ru (W : World) (base : Nat) (v : Value) (ps : List Pr) (B e6 : Nat) (u : Value) (qs : List Pr) (X : World) : Prop where
  b4 : Bk X W.heap.size 4 #[.bool false]
  bE : Bk X (W.heap.size + 1) 107 #[v]
  b6 : Bk X e6 125 #[u]
  row : Rl 218 X base v ps
  want : Rl 128 X B u qs
  ab : Ab W X
/-- No block of it reaches n. -/
def RuLt (W : World) (v : Value) (ps : List Pr) (e6 : Nat) (u : Value) (qs : List Pr) (n : Nat) : Prop :=
  W.heap.size + 1 < n ∧ e6 < n ∧ (∀ k, v.ownBlock = some k → k < n) ∧ (∀ p ∈ ps, ∀ k, p.val.ownBlock = some k → k < n) ∧ (∀ k, u.ownBlock = some k → k < n) ∧ ∀ p ∈ qs, ∀ k, p.val.ownBlock = some k → k < n
theorem Ru.mv {X X' : World} {e6 n : Nat} {qs : List Pr} {S : Nat → Prop} (h : Ru W base v ps B e6 u qs X) (hl : RuLt W v ps e6 u qs n) (hm : Mv S X X') (hS : ∀ k, S k → n ≤ k) : Ru W base v ps B e6 u qs X' := by
  have no : ∀ k, k < n → ¬ S k := fun k hk e => by have := hS k e; omega
  exact ⟨hm.bk h.b4 (no _ (by have := hl.1; omega)), hm.bk h.bE (no _ hl.1), hm.bk h.b6 (no _ hl.2.1), ⟨h.row.row.mv hm (fun k hk => no k (hl.2.2.1 k hk)), fun p hp => hm.ob (h.row.own p hp) (fun k hk => no k (hl.2.2.2.1 p hp k hk))⟩,
    ⟨h.want.row.mv hm (fun k hk => no k (hl.2.2.2.2.1 k hk)), fun p hp => hm.ob (h.want.own p hp) (fun k hk => no k (hl.2.2.2.2.2 p hp k hk))⟩, hm.ab h.ab (fun k hk => by have := hS k hk; have := hl.1; omega)⟩
theorem Ru.lt {X : World} {e6 : Nat} {qs : List Pr} (h : Ru W base v ps B e6 u qs X) : RuLt W v ps e6 u qs X.heap.size :=
  ⟨h.bE.lt, h.b6.lt, fun k hk => (h.row.row.blk k hk).2, fun p hp k hk => ((h.row.own p hp).blk k hk).2, fun k hk => (h.want.row.blk k hk).2, fun p hp k hk => ((h.want.own p hp).blk k hk).2⟩
theorem RuLt.mono {e6 n m : Nat} {qs : List Pr} (h : RuLt W v ps e6 u qs n) (hm : n ≤ m) : RuLt W v ps e6 u qs m :=
  ⟨Nat.lt_of_lt_of_le h.1 hm, Nat.lt_of_lt_of_le h.2.1 hm, fun k hk => Nat.lt_of_lt_of_le (h.2.2.1 k hk) hm, fun p hp k hk => Nat.lt_of_lt_of_le (h.2.2.2.1 p hp k hk) hm, fun k hk => Nat.lt_of_lt_of_le (h.2.2.2.2.1 k hk) hm, fun p hp k hk => Nat.lt_of_lt_of_le (h.2.2.2.2.2 p hp k hk) hm⟩
/-- While the runs are told: how many so far. -/
def RuI (r : Nat) (R : List Rn) (X1 : World) (e8 : Nat) (pre : List Pr) (X : World) : Prop :=
  Mv (fun k => k = e8) X1 X ∧ Bk X e8 3 #[.int .i64 (pre.length : Int)] ∧ rnOf pre = R.take pre.length ∧ (r = 0 → pre = [])
def RuX (r : Nat) (X1 : World) (e8 : Nat) (cd : Code) (X : World) : Prop :=
  r = 0 ∧ cd = .exit 2 ∧ Mv (fun k => k = e8) X1 X
/-- What is spoilt is new. -/
theorem mv_skip {S : Nat → Prop} {X1 X2 X3 X4 : World} {g5 : Nat} (h : Mv S X1 X2) (h2 : Mv (· = g5) X2 X3) (hg : X1.heap.size ≤ g5) (h3 : Mv S X3 X4) : Mv S X1 X4 :=
  ⟨h3.os.trans (h2.os.trans h.os), h3.tape.trans (h2.tape.trans h.tape), h3.output.trans (h2.output.trans h.output), Nat.le_trans h.size (Nat.le_trans h2.size h3.size), fun k hk hS =>
    (h3.block k (Nat.lt_of_lt_of_le hk (Nat.le_trans h.size h2.size)) hS).trans ((h2.block k (Nat.lt_of_lt_of_le hk h.size) (fun e => by have : k = g5 := e; omega)).trans (h.block k hk hS))⟩
theorem bk_own2 {g : Nat} {t : TypeId} {cs : Array Value} {row : Option Nat} (h : Bk w g t cs) (hg : w.grownBy w' row) (hr : ∀ r, row = some r → ∃ o : Obj, w.heap[r]? = some o ∧ o.isCells = false) : Bk w' g t cs :=
  h.grown hg (fun e => by
    obtain ⟨o, ho, hc⟩ := hr g e
    unfold Bk at h
    rw [h] at ho
    cases ho
    cases hc)
theorem RuI.own {r e8 : Nat} {R : List Rn} {X1 : World} : OwnFrom X1.heap.size (RuI r R X1 e8) := fun _ _ _ _ hs hg hr =>
  ⟨hs.1.grown hg (fun k e => .inr (hr k e).1), bk_own2 hs.2.1 hg (fun r e => (hr r e).2), hs.2.2⟩
theorem RuX.own {r e8 : Nat} {X1 : World} (cd : Code) : OwnFrom X1.heap.size (fun (_ : Unit) => RuX r X1 e8 cd) := fun _ _ _ _ hs hg hr =>
  ⟨hs.1, hs.2.1, hs.2.2.grown hg (fun k e => .inr (hr k e).1)⟩
/-- A range that ends by itself or by a break: one way on. -/
theorem range_join {P : Program} {α : Type} {g : Operand} {ts : Array Tmp} {assign body : Code} {K : Exit → Act → World → Prop} {ac : Act} {w : World} {gf bl : Nat} {lb : Array Value}
    (hg : ac.eval g = .func (.func gf) #[] lb) (eg : ∀ args w, (callFunc gf args).run P w = .ok (.enter gf args) w)
    {encs : α → Array Value} (hps : ∀ x, (encs x).size = ts.size) {Ok : List α → α → World → Prop} {Sx : List α → Prop} {S : Nat → Prop} {own : α → Nat → Prop} (hseq : HandsX P gf lb encs Ok Sx S own w) (hS : ∀ k, S k → k < w.heap.size)
    (hown : ∀ pre x W k, Ok pre x W → own x k → ∃ o : Obj, W.heap[k]? = some o ∧ o.isCells = true)
    (I : List α → World → Prop) (Ix : Code → World → Prop) (hI : OwnFrom w.heap.size I) (hIx : ∀ c, OwnFrom w.heap.size (fun (_ : Unit) => Ix c)) (hx : ∀ c W, Ix c W → c = .exit bl) (hO : ∀ pre x W W' l o o', Ok pre x W → W.heap[l]? = some o → o.isCells = false → W' = W.putObj l o' → Ok pre x W') (h0 : I [] w) (a₁ : α → Act)
    (hassign : ∀ (l : Nat) (x : α) (W : World) (K : Act → World → Prop), K (a₁ x) W →
      assign.wpIn (Fence.wide.inRound l) 1 P (Exit.then K (fun _ _ _ => False)) { tmps := (ts.zip (encs x)).foldl (fun t (p, v) => t.setIfInBounds p v) ac.tmps, defers := [] } W)
    (hbody : ∀ (l : Nat) (pre : List α) (x : α) (W : World), w.heap.size ≤ l → I pre W → Ok pre x W → body.wpIn (Fence.wide.inRound l) 1 P (mayGo (fun k => S k ∨ own x k) I Ix (pre ++ [x]) W) (a₁ x) W)
    (hcont : ∀ (D : Nat) (W : World), w.heap.size ≤ D → ((∃ xs, Sx xs ∧ I xs W) ∨ Ix (.exit bl) W) → W.heap[D]? = some (.deferred (some [])) → K .normal { ac with defers := { target := .collected D, args := #[] } :: ac.defers } W) :
    (Code.rangeFunc g ts assign body).wp P (Exit.inBlock bl K) ac w := by
  refine range_some hg eg hps hseq hS hown I Ix hI hIx hO h0 a₁ hassign hbody (fun D xs W hD hs hi hk => ?_) (fun D c W hD hi hk => ?_)
  · simpa [Exit.inBlock] using hcont D W hD (.inl ⟨xs, hs, hi⟩) hk
  · obtain rfl := hx c W hi
    exact wpIn_exit (by simpa [Exit.inBlock] using hcont D W hD (.inr hi) hk)
set_option maxRecDepth 100000 in
set_option maxHeartbeats 8000000 in
theorem xruns_any (W : World) (h : Px W base a b v ps vd vh c s) :
    Calls Try.prog 32 #[.pointer (some ⟨a, 0, none⟩), .pointer (some ⟨b, 0, none⟩)] W fun e w' => e = .returned (.bool true) ∧ Ab W w' := by
  have hb1 : Bk (W.alloc (.cells #[.bool false] 4)) W.heap.size 4 #[.bool false] := Bk.made W _ _
  have hw1 : Ab W (W.alloc (.cells #[.bool false] 4)) := (Ab.refl W).alloc _
  have hs1 : (W.alloc (.cells #[.bool false] 4)).heap.size = W.heap.size + 1 := by simp
  have hx1 := h.ab hw1
  refine (callsIn_wide (n := 2)).1 ?_
  refine callsIn_of_wp_marks Try.func32 rfl trivial ?_ rfl
  simp only [Try.ntmps32, List.size_toArray, List.length_cons, List.length_nil, Nat.reduceAdd, Nat.reduceSub, Array.replicate_succ, Array.replicate_zero, List.push_toArray, List.append_toArray, List.nil_append, List.cons_append]
  refine (wpIn_wide (n := 2)).2 ?_
  have HNW := Lib.hid (extents_any _ hx1.ex)
  have HW1 := Lib.hid (And.intro hb1 (And.intro hw1 hs1))
  have HX1 := Lib.hid hx1
  have HRU := Lib.hid (fun wx (hx : Ab (W.alloc (.cells #[.bool false] 4)) wx) => rruns_any (R := rnOf ps) wx ((hx1.ab hx).rf) hx1.ex.ris hx1.cel hx1.ex.fin)
  have hfn : ∀ (n : Nat) (wx : World), (binOp .eql 123 (Value.func (.func 117) #[] #[.pointer (some ⟨n, 0, none⟩)]) .nilFunc).run Try.prog wx = .ok (.bool false) wx := fun n wx => by kernel_rfl
  clear h hx1
  go_wp2_with (first
    | (go_at_call 67; (with_reducible refine HNW.out.mono ?_); rintro e w3 ⟨rfl, hb3, ha3⟩; unfold extF; have H3 := Lib.hid (And.intro hb3 ha3); clear hb3 ha3)
    | (go_at_call 68; (with_reducible refine (HRU.out w3 H3.out.2).mono ?_); rintro e w4 ⟨v4, qs, rfl, hr4, hl4, ha4⟩; (obtain ⟨A4, c4, rfl, -, -⟩ := hl4.row.len_cap); have H4 := Lib.hid (And.intro hr4 (And.intro hl4 ha4)); clear hr4 hl4 ha4))
  have hw5 : Ru W base v ps w3.heap.size w4.heap.size (.slice A4 qs.length c4) qs ((w4.alloc (.cells #[.slice A4 qs.length c4] 125)).alloc (.cells #[.int .i64 0] 3)) := by
    have h14 : Ab (W.alloc (.cells #[.bool false] 4)) ((w4.alloc (.cells #[.slice A4 qs.length c4] 125)).alloc (.cells #[.int .i64 0] 3)) := ((H3.out.2.trans H4.out.2.2).alloc _).alloc _
    have hbE : Bk w3 (W.heap.size + 1) 107 #[v] := by have := H3.out.1; rw [HW1.out.2.2] at this; exact this
    exact ⟨h14.bk HW1.out.1, ((H4.out.2.2.alloc _).alloc _).bk hbE, (Bk.made w4 _ _).alloc _, (HX1.out.ab h14).ex.row, H4.out.2.1.ab (((Ab.refl w4).alloc _).alloc _), HW1.out.2.1.trans h14⟩
  have hb7 : Bk ((w4.alloc (.cells #[.slice A4 qs.length c4] 125)).alloc (.cells #[.int .i64 0] 3)) (w4.heap.size + 1) 3 #[.int .i64 0] := Bk.new (by simp)
  have hs5 : ((w4.alloc (.cells #[.slice A4 qs.length c4] 125)).alloc (.cells #[.int .i64 0] 3)).heap.size = w4.heap.size + 2 := by simp
  generalize (w4.alloc (.cells #[.slice A4 qs.length c4] 125)).alloc (.cells #[.int .i64 0] 3) = w5 at *
  have c7 : w5.cell? ⟨w4.heap.size + 1, 0, none⟩ = some (.int .i64 0) := hb7.cell rfl
  have H5 := Lib.hid (And.intro hw5 (And.intro hb7 (show w4.heap.size + 1 < w5.heap.size by omega)))
  have HW9 := Lib.hid (show W.heap.size ≤ w5.heap.size from hw5.ab.size)
  clear hw5 hb7 hs5 hfn hb1 hw1 hs1 HNW HRU
  refine wp_loop_rounds 3 ?_
  rw [rounds_succ]
  go_wp2_with fail
  have hb8 : Bk (w5.alloc (.cells #[.int .i64 0] 3)) w5.heap.size 3 #[.int .i64 0] := Bk.made w5 _ _
  have hr6 := H5.out.1.mv H5.out.1.lt (S := fun _ => False) (Mv.of_ab ((Ab.refl w5).alloc (.cells #[.int .i64 0] 3))) (fun _ e => e.elim)
  have hb7 := hb8
  have hb7 := H5.out.2.1.alloc (.cells #[.int .i64 0] 3)
  have hs6 : (w5.alloc (.cells #[.int .i64 0] 3)).heap.size = w5.heap.size + 1 := by simp
  have hlt6 := H5.out.1.lt
  generalize w5.alloc (.cells #[.int .i64 0] 3) = w6 at *
  have hh := ext_hands w6 (W.heap.size + 1) base (fun k => k = w5.heap.size) (fun k e => by omega) hr6.bE hr6.row (fun k hk e => by have := hlt6.2.2.1 k hk; omega) (fun p hp k hk e => by have := hlt6.2.2.2.1 p hp k hk; omega) (by have := HX1.out.ex.len; omega) (fun p hp => by have := HX1.out.ex.at_ hp; omega)
  have hI0 : RuI 0 (rnOf ps) w6 w5.heap.size [] w6 := ⟨Mv.refl _ _, hb8, rfl, fun _ => rfl⟩
  have H6 := Lib.hid (And.intro hr6 (And.intro hb7 (And.intro hs6 hlt6)))
  clear hr6 hb7 hs6 hlt6 hb8 c7
  refine range_join ?h1 ?h2 ?h3 hh ?h4 ?h5 (RuI 0 (rnOf ps) w6 w5.heap.size) (RuX 0 w6 w5.heap.size) ?h6 ?h7 ?hx ?h8 hI0 ?a1 ?as1 ?bo1 ?co1
  case h1 => rfl
  case h2 => exact enters_of Try.func117 (by kernel_rfl) rfl
  case h3 => exact fun _ => rfl
  case h4 => exact fun k e => by have := H6.out.2.2.1; omega
  case h5 => exact fun _ _ _ _ h hk => h.cells hk
  case h6 => exact RuI.own
  case h7 => exact fun cd => RuX.own cd
  case hx => exact fun _ _ h => h.2.1
  case h8 => exact fun _ _ _ _ _ _ _ h hl ho e => h.put hl ho e
  case as1 =>
    intro l x X K hK
    gi_wp2
    exact hK
  case bo1 =>
    rintro l2 pre ⟨f, u, bs⟩ X hl2 ⟨hmv, hb8, hpre, hnil⟩ ⟨⟨pp, hpp, hpa, hpb⟩, hob⟩
    have HNIL := Lib.hid (hnil rfl)
    clear hnil
    simp only at hpa hpb
    replace hob : Ob X w6.heap.size u bs := hob
    obtain ⟨hkp, hxk⟩ := List.getElem?_eq_some_iff.1 hpp
    obtain ⟨j, hj⟩ : ∃ j, pre.length = j := ⟨_, rfl⟩
    have hru := H6.out.1.mv H6.out.2.2.2 hmv (fun k e => by omega)
    have hql : qs.length = ps.length := rnOf_len H4.out.1
    have hjq : j < qs.length := by omega
    have hqe : (rnOf qs)[j]? = (rnOf ps)[j]? := by rw [H4.out.1]
    rw [List.getElem?_eq_getElem (by rw [rnOf_length]; exact hjq), List.getElem?_eq_getElem (by rw [rnOf_length]; omega), rnOf_get qs j hjq, rnOf_get ps j (by omega)] at hqe
    injection hqe with hqe
    injection hqe with hqa hqb
    subst hj
    rw [hxk, ← hpa] at hqa
    rw [hxk, ← hpb] at hqb
    obtain ⟨-, gq, oq, Aq, cq, rfl, -, -, -, -, hqv, hqv1, hqv2, k1, k2⟩ := hru.want.get pre.length hjq
    rw [hqa] at k1
    rw [hqb] at k2 hqv
    have howq := hru.want.own qs[pre.length] (List.getElem_mem hjq)
    rw [hqv, hqb] at howq
    obtain ⟨A2, c2, rfl, hc1, hc2⟩ := hob.len_cap
    obtain ⟨j, hj⟩ : ∃ j, pre.length = j := ⟨_, rfl⟩
    obtain ⟨n6, hn6⟩ : ∃ n6, qs.length = n6 := ⟨_, rfl⟩
    obtain ⟨Lb, hLb⟩ : ∃ Lb, bs.length = Lb := ⟨_, rfl⟩
    rw [hj] at k1 k2 hb8 hjq
    rw [hn6] at hjq
    rw [hLb] at k2
    have c8 : X.cell? ⟨w5.heap.size, 0, none⟩ = some (.int .i64 (j : Int)) := hb8.cell rfl
    have c6 : X.cell? ⟨w4.heap.size, 0, none⟩ = some (.slice (some ⟨gq, oq, none⟩) n6 c4) := by rw [← hn6]; exact hru.b6.cell rfl
    have j1 : ¬ (j : Int) ≥ (n6 : Int) := by omega
    have j2 : (0 : Int) ≤ (j : Int) := by omega
    have j3 : (j : Int) < (n6 : Int) := by omega
    rw [hLb]
    have HSM := Lib.hid (same_two X hob.bs howq.bs)
    rw [hLb] at HSM
    have HT := Lib.hid (And.intro hmv (And.intro hb8 (And.intro hpre (And.intro hob (And.intro hru (And.intro hj hLb))))))
    have HNE := Lib.hid (show bs ≠ [] from ris_ne HX1.out.ex.ris (pp.at_, pp.bytes) (by rw [rnOf]; exact List.mem_map.2 ⟨pp, List.mem_of_getElem? hpp, rfl⟩) |> fun h => by rw [hpb]; exact h)
    have HLB := Lib.hid (show bs.length ≤ 4096 by rw [hpb]; have := HX1.out.ex.at_ (List.mem_of_getElem? hpp); omega)
    clear hmv hob hpre hpp hkp hxk hru hqa hqb hqv hqv1 hqv2 howq hc1 hc2 hjq hh hI0 hpa hpb
    gi_wp2
    refine ⟨trivial, callsIn_wide.2 (HSM.out.mono ?_)⟩
    rintro e wz ⟨rfl, rfl⟩
    gi_wp2
    have hrow : ∃ g5, A2 = some ⟨g5, 0, none⟩ ∧ w6.heap.size ≤ g5 ∧ g5 < X.heap.size ∧ Lb ≤ c2 ∧ ∃ cs : Array Value, cs.size = c2 ∧ Bk X g5 5 cs := by
      rcases HT.out.2.2.2.1.2 with ⟨e, e2⟩ | ⟨g', cap', cur, hv, hb, hg, hn, hm, hs, ht⟩
      · exact absurd (List.eq_nil_of_length_eq_zero e2) HNE.out
      · injection hv with ha hb2 hc2
        subst hc2
        simp at hs
        exact ⟨g', ha, hb, (Array.getElem?_eq_some_iff.1 hg).1, by rw [← HT.out.2.2.2.2.2.2]; omega, cur, hs, hg⟩
    obtain ⟨g5, rfl, hg5, hg5x, hNc, cs0, hcs0, hbk0⟩ := hrow
    have HG := Lib.hid (And.intro hg5 (And.intro hNc hg5x))
    have hN9 : Lb ≤ 4096 := by rw [← HT.out.2.2.2.2.2.2]; exact HLB.out
    clear hg5
    gi_loopw [11, 50] (fun _ i wr => ∃ j2 : Nat, j2 ≤ Lb ∧ i = .int .i64 (j2 : Int) ∧ Mv (· = g5) X wr ∧ ∃ cs : Array Value, cs.size = c2 ∧ Bk wr g5 5 cs) (fun _ i _ => Lb - (intOf i).toNat)
    case atStart => exact ⟨0, Nat.zero_le _, rfl, Mv.refl _ _, cs0, hcs0, hbk0⟩
    case round =>
      obtain ⟨j2, hj2, rfl, hm, cs, hcs, hbk⟩ := hrel
      clear hbk0 hcs0
      by_cases hlt : j2 < Lb
      · have hc : wr.cell? ⟨g5, j2, none⟩ = some (cs[j2]'(by omega)) := (hbk.get j2).trans (Array.getElem?_eq_getElem (by omega))
        generalize cs[j2]'(by omega) = x at hc
        have hz := hbk.free j2
        have hj0 : (0 : Int) ≤ (j2 : Int) := by omega
        have hj1 : (j2 : Int) < (Lb : Int) := by omega
        have HS := Lib.hid (And.intro (Mv.set (S := (· = g5)) (p := ⟨g5, j2, none⟩) hm rfl (.int .u8 5)) (And.intro (hbk.store j2 (.int .u8 5)) hcs))
        have HLT := Lib.hid hlt
        clear hm hbk hNc
        gi_wp2
        go_roundw
        case rel => exact ⟨j2 + 1, HLT.out, by go_num, HS.out.1, _, by rw [Array.size_setIfInBounds]; exact HS.out.2.2, HS.out.2.1⟩
        case measure => have h9 := HLT.out; clear hj1; simp [intOf]; omega
      · have hj1 : ¬ (j2 : Int) < (Lb : Int) := by omega
        have hb9 := hm.bk HT.out.2.1 (fun e => by have : w5.heap.size = g5 := e; have := HG.out.1; have := H6.out.2.2.1; omega)
        have d8 : wr.cell? ⟨w5.heap.size, 0, none⟩ = some (.int .i64 (j : Int)) := hb9.cell rfl
        have z8 := hb9.free 0
        have hb7 : Bk wr (w4.heap.size + 1) 3 #[.int .i64 0] := hm.bk (HT.out.1.bk H6.out.2.1 (fun e => by have : w4.heap.size + 1 = w5.heap.size := e; have := H5.out.2.2; omega)) (fun e => by have : w4.heap.size + 1 = g5 := e; have := HG.out.1; have := H6.out.2.2.1; have := H5.out.2.2; omega)
        have hj00 : j = 0 := by rw [← HT.out.2.2.2.2.2.1, HNIL.out]; rfl
        subst hj00
        have d7 : (wr.setCell ⟨w5.heap.size, 0, none⟩ (.int .i64 1)).cell? ⟨w4.heap.size + 1, 0, none⟩ = some (.int .i64 0) := (hb7.far (p := ⟨w5.heap.size, 0, none⟩) (by have := H5.out.2.2; show w4.heap.size + 1 ≠ w5.heap.size; omega) _).cell rfl
        have d9 : (wr.setCell ⟨w5.heap.size, 0, none⟩ (.int .i64 1)).cell? ⟨w5.heap.size, 0, none⟩ = some (.int .i64 1) := (hb9.store 0 (.int .i64 1)).cell rfl
        have hm9 : Mv (fun k => k = w5.heap.size) wr (wr.setCell ⟨w5.heap.size, 0, none⟩ (.int .i64 1)) := Mv.set (S := fun k => k = w5.heap.size) (Mv.refl _ _) (p := ⟨w5.heap.size, 0, none⟩) rfl _
        have HM := Lib.hid (And.intro hm hm9)
        clear hm hbk hb9 hb7 hm9
        gi_wp2
        exact ⟨(HM.out.1.mono fun k _ e => .inr (by show Value.ownBlock _ = some k; rw [show k = g5 from e]; rfl)).trans (HM.out.2.mono fun k _ e => .inl e), rfl, rfl, (show Mv (fun k => k = w5.heap.size) w6 _ from mv_skip HT.out.1 HM.out.1 HG.out.1 HM.out.2)⟩
  case co1 =>
    rintro D1 X hD1 hor hK1
    have hmv : Mv (fun k => k = w5.heap.size) w6 X := by
      rcases hor with ⟨_, _, h⟩ | h
      · exact h.1
      · exact h.2.2
    have hru := H6.out.1.mv H6.out.2.2.2 hmv (fun k e => by omega)
    have hb7 := hmv.bk H6.out.2.1 (fun e => by have : w4.heap.size + 1 = w5.heap.size := e; have := H5.out.2.2; omega)
    have c7 : X.cell? ⟨w4.heap.size + 1, 0, none⟩ = some (.int .i64 0) := hb7.cell rfl
    have HX := Lib.hid (And.intro hru (And.intro hb7 (And.intro hD1 (And.intro hK1 hmv.size))))
    clear hor hmv hru hb7 hh hI0 hK1 hD1
    go_wp2_with fail
    have hb9 : Bk (X.alloc (.cells #[.int .i64 1] 3)) X.heap.size 3 #[.int .i64 1] := Bk.made X _ _
    have hr9 := HX.out.1.mv HX.out.1.lt (S := fun _ => False) (Mv.of_ab ((Ab.refl X).alloc (.cells #[.int .i64 1] 3))) (fun _ e => e.elim)
    have hs9 : X.heap.size < (X.alloc (.cells #[.int .i64 1] 3)).heap.size := hb9.lt
    have hK9 : (X.alloc (.cells #[.int .i64 1] 3)).heap[D1]? = some (.deferred (some [])) := (Below.heap_alloc X _ D1 (Array.getElem?_eq_some_iff.1 HX.out.2.2.2.1).1).trans HX.out.2.2.2.1
    have hD9 : D1 < X.heap.size := (Array.getElem?_eq_some_iff.1 HX.out.2.2.2.1).1
    generalize X.alloc (.cells #[.int .i64 1] 3) = w7 at *
    have c7 : w7.cell? ⟨X.heap.size, 0, none⟩ = some (.int .i64 1) := hb9.cell rfl
    have H7 := Lib.hid (And.intro hr9 (And.intro hb9 hs9))
    have HD1 := Lib.hid (And.intro hK9 (And.intro hD9 HX.out.2.2.1))
    have HS6 := Lib.hid (show w5.heap.size ≤ w6.heap.size by have := H6.out.2.2.1; omega)
    clear hb9 hr9 hs9 hK9 hD9
    rw [rounds_succ]
    go_wp2_with fail
    have hb8 : Bk (w7.alloc (.cells #[.int .i64 0] 3)) w7.heap.size 3 #[.int .i64 0] := Bk.made w7 _ _
    have hr6 := H7.out.1.mv H7.out.1.lt (S := fun _ => False) (Mv.of_ab ((Ab.refl w7).alloc (.cells #[.int .i64 0] 3))) (fun _ e => e.elim)
    have hb7 := hb8
    have hb7 := H7.out.2.1.alloc (.cells #[.int .i64 0] 3)
    have hs6 : (w7.alloc (.cells #[.int .i64 0] 3)).heap.size = w7.heap.size + 1 := by simp
    have hlt6 := H7.out.1.lt
    have H8b := Lib.hid (fun (k : Nat) (hk : k < w7.heap.size) => Below.heap_alloc w7 (.cells #[.int .i64 0] 3) k hk)
    generalize w7.alloc (.cells #[.int .i64 0] 3) = w8 at *
    have hh := ext_hands w8 (W.heap.size + 1) base (fun k => k = w7.heap.size) (fun k e => by omega) hr6.bE hr6.row (fun k hk e => by have := hlt6.2.2.1 k hk; omega) (fun p hp k hk e => by have := hlt6.2.2.2.1 p hp k hk; omega) (by have := HX1.out.ex.len; omega) (fun p hp => by have := HX1.out.ex.at_ hp; omega)
    have hI0 : RuI 1 (rnOf ps) w8 w7.heap.size [] w8 := ⟨Mv.refl _ _, hb8, rfl, fun h => by cases h⟩
    have H8 := Lib.hid (And.intro hr6 (And.intro hb7 (And.intro hs6 hlt6)))
    clear hr6 hb7 hs6 hlt6 hb8 c7
    refine range_join ?g1 ?g2 ?g3 hh ?g4 ?g5 (RuI 1 (rnOf ps) w8 w7.heap.size) (RuX 1 w8 w7.heap.size) ?g6 ?g7 ?gx ?g8 hI0 ?a2 ?as2 ?bo2 ?co2
    case g1 => rfl
    case g2 => exact enters_of Try.func117 (by kernel_rfl) rfl
    case g3 => exact fun _ => rfl
    case g4 => exact fun k e => by have := H8.out.2.2.1; omega
    case g5 => exact fun _ _ _ _ h hk => h.cells hk
    case g6 => exact RuI.own
    case g7 => exact fun cd => RuX.own cd
    case gx => exact fun _ _ h => h.2.1
    case g8 => exact fun _ _ _ _ _ _ _ h hl ho e => h.put hl ho e
    case as2 =>
      intro l x X K hK
      gi_wp2
      exact hK
    case bo2 =>
      rintro l2 pre ⟨f, u, bs⟩ Y hl2 ⟨hmv, hb8, hpre, hnil⟩ ⟨⟨pp, hpp, hpa, hpb⟩, hob⟩
      clear hnil
      simp only at hpa hpb
      replace hob : Ob Y w8.heap.size u bs := hob
      obtain ⟨hkp, hxk⟩ := List.getElem?_eq_some_iff.1 hpp
      obtain ⟨j, hj⟩ : ∃ j, pre.length = j := ⟨_, rfl⟩
      have hru := H8.out.1.mv H8.out.2.2.2 hmv (fun k e => by omega)
      have hql : qs.length = ps.length := rnOf_len H4.out.1
      have hjq : j < qs.length := by omega
      have hqe : (rnOf qs)[j]? = (rnOf ps)[j]? := by rw [H4.out.1]
      rw [List.getElem?_eq_getElem (by rw [rnOf_length]; exact hjq), List.getElem?_eq_getElem (by rw [rnOf_length]; omega), rnOf_get qs j hjq, rnOf_get ps j (by omega)] at hqe
      injection hqe with hqe
      injection hqe with hqa hqb
      subst hj
      rw [hxk, ← hpa] at hqa
      rw [hxk, ← hpb] at hqb
      obtain ⟨-, gq, oq, Aq, cq, rfl, -, -, -, -, hqv, hqv1, hqv2, k1, k2⟩ := hru.want.get pre.length hjq
      rw [hqa] at k1
      rw [hqb] at k2 hqv
      have howq := hru.want.own qs[pre.length] (List.getElem_mem hjq)
      rw [hqv, hqb] at howq
      obtain ⟨A2, c2, rfl, hc1, hc2⟩ := hob.len_cap
      obtain ⟨j, hj⟩ : ∃ j, pre.length = j := ⟨_, rfl⟩
      obtain ⟨n6, hn6⟩ : ∃ n6, qs.length = n6 := ⟨_, rfl⟩
      obtain ⟨Lb, hLb⟩ : ∃ Lb, bs.length = Lb := ⟨_, rfl⟩
      rw [hj] at k1 k2 hb8 hjq
      rw [hn6] at hjq
      rw [hLb] at k2
      have c8 : Y.cell? ⟨w7.heap.size, 0, none⟩ = some (.int .i64 (j : Int)) := hb8.cell rfl
      have c6 : Y.cell? ⟨w4.heap.size, 0, none⟩ = some (.slice (some ⟨gq, oq, none⟩) n6 c4) := by rw [← hn6]; exact hru.b6.cell rfl
      have j1 : ¬ (j : Int) ≥ (n6 : Int) := by omega
      have j2 : (0 : Int) ≤ (j : Int) := by omega
      have j3 : (j : Int) < (n6 : Int) := by omega
      rw [hLb]
      have HSM := Lib.hid (same_two Y hob.bs howq.bs)
      rw [hLb] at HSM
      have HT := Lib.hid (And.intro hmv (And.intro hb8 (And.intro hpre (And.intro hob (And.intro hru (And.intro hj hLb))))))
      have hlp : pre.length < (rnOf ps).length := by rw [rnOf_length]; exact hkp
      have HNX := Lib.hid (fun u' : Value => show rnOf (pre ++ [⟨f, u', bs⟩]) = (rnOf ps).take (pre.length + 1) by
        rw [rnOf_append, List.take_succ_eq_append_getElem hlp, ← hpre, rnOf_get ps _ hkp, hxk, ← hpa, ← hpb]; rfl)
      have HJ4 := Lib.hid (show j + 1 ≤ 4096 by have := HX1.out.ex.len; omega)
      have HNE := Lib.hid (show bs ≠ [] from ris_ne HX1.out.ex.ris (pp.at_, pp.bytes) (by rw [rnOf]; exact List.mem_map.2 ⟨pp, List.mem_of_getElem? hpp, rfl⟩) |> fun h => by rw [hpb]; exact h)
      have HLB := Lib.hid (show bs.length ≤ 4096 by rw [hpb]; have := HX1.out.ex.at_ (List.mem_of_getElem? hpp); omega)
      clear hmv hob hpre hpp hkp hxk hru hqa hqb hqv hqv1 hqv2 howq hc1 hc2 hjq hh hI0 hpa hpb hlp
      gi_wp2
      refine ⟨trivial, callsIn_wide.2 (HSM.out.mono ?_)⟩
      rintro e wz ⟨rfl, rfl⟩
      gi_wp2
      have hrow : ∃ g5, A2 = some ⟨g5, 0, none⟩ ∧ w8.heap.size ≤ g5 ∧ g5 < Y.heap.size ∧ Lb ≤ c2 ∧ ∃ cs : Array Value, cs.size = c2 ∧ Bk Y g5 5 cs := by
        rcases HT.out.2.2.2.1.2 with ⟨e, e2⟩ | ⟨g', cap', cur, hv, hb, hg, hn, hm, hs, ht⟩
        · exact absurd (List.eq_nil_of_length_eq_zero e2) HNE.out
        · injection hv with ha hb2 hc2
          subst hc2
          simp at hs
          exact ⟨g', ha, hb, (Array.getElem?_eq_some_iff.1 hg).1, by rw [← HT.out.2.2.2.2.2.2]; omega, cur, hs, hg⟩
      obtain ⟨g5, rfl, hg5, hg5x, hNc, cs0, hcs0, hbk0⟩ := hrow
      have HG := Lib.hid (And.intro hg5 (And.intro hNc hg5x))
      have hN9 : Lb ≤ 4096 := by rw [← HT.out.2.2.2.2.2.2]; exact HLB.out
      clear hg5
      gi_loopw [11, 50] (fun _ i wr => ∃ j2 : Nat, j2 ≤ Lb ∧ i = .int .i64 (j2 : Int) ∧ Mv (· = g5) Y wr ∧ ∃ cs : Array Value, cs.size = c2 ∧ Bk wr g5 5 cs) (fun _ i _ => Lb - (intOf i).toNat)
      case atStart => exact ⟨0, Nat.zero_le _, rfl, Mv.refl _ _, cs0, hcs0, hbk0⟩
      case round =>
        obtain ⟨j2, hj2, rfl, hm, cs, hcs, hbk⟩ := hrel
        clear hbk0 hcs0
        by_cases hlt : j2 < Lb
        · have hc : wr.cell? ⟨g5, j2, none⟩ = some (cs[j2]'(by omega)) := (hbk.get j2).trans (Array.getElem?_eq_getElem (by omega))
          generalize cs[j2]'(by omega) = x at hc
          have hz := hbk.free j2
          have hj0 : (0 : Int) ≤ (j2 : Int) := by omega
          have hj1 : (j2 : Int) < (Lb : Int) := by omega
          have HS := Lib.hid (And.intro (Mv.set (S := (· = g5)) (p := ⟨g5, j2, none⟩) hm rfl (.int .u8 5)) (And.intro (hbk.store j2 (.int .u8 5)) hcs))
          have HLT := Lib.hid hlt
          clear hm hbk hNc
          gi_wp2
          go_roundw
          case rel => exact ⟨j2 + 1, HLT.out, by go_num, HS.out.1, _, by rw [Array.size_setIfInBounds]; exact HS.out.2.2, HS.out.2.1⟩
          case measure => have h9 := HLT.out; clear hj1; simp [intOf]; omega
        · have hj1 : ¬ (j2 : Int) < (Lb : Int) := by omega
          have hb9 := hm.bk HT.out.2.1 (fun e => by have : w7.heap.size = g5 := e; have := HG.out.1; have := H8.out.2.2.1; omega)
          have d8 : wr.cell? ⟨w7.heap.size, 0, none⟩ = some (.int .i64 (j : Int)) := hb9.cell rfl
          have z8 := hb9.free 0
          have hb7 : Bk wr (X.heap.size) 3 #[.int .i64 1] := hm.bk (HT.out.1.bk H8.out.2.1 (fun e => by have : X.heap.size = w7.heap.size := e; have := H7.out.2.2; omega)) (fun e => by have : X.heap.size = g5 := e; have := HG.out.1; have := H8.out.2.2.1; have := H7.out.2.2; omega)
          have hj4 : (j : Int) + 1 ≤ 4096 := by have := HJ4.out; omega
          have d7 : (wr.setCell ⟨w7.heap.size, 0, none⟩ (.int .i64 ((j : Int) + 1))).cell? ⟨X.heap.size, 0, none⟩ = some (.int .i64 1) := (hb7.far (p := ⟨w7.heap.size, 0, none⟩) (by have := H7.out.2.2; show X.heap.size ≠ w7.heap.size; omega) _).cell rfl
          have hb10 : Bk (wr.setCell ⟨w7.heap.size, 0, none⟩ (.int .i64 ((j : Int) + 1))) w7.heap.size 3 #[.int .i64 ((j : Int) + 1)] := hb9.store 0 _
          have hm9 : Mv (fun k => k = w7.heap.size) wr (wr.setCell ⟨w7.heap.size, 0, none⟩ (.int .i64 ((j : Int) + 1))) := Mv.set (S := fun k => k = w7.heap.size) (Mv.refl _ _) (p := ⟨w7.heap.size, 0, none⟩) rfl _
          have HM := Lib.hid (And.intro hm (And.intro hm9 hb10))
          clear hm hbk hb9 hb7 hm9 hb10
          gi_wp2
          exact ⟨(HM.out.1.mono fun k _ e => .inr (by show Value.ownBlock _ = some k; rw [show k = g5 from e]; rfl)).trans (HM.out.2.1.mono fun k _ e => .inl e), (show Mv (fun k => k = w7.heap.size) w8 _ from mv_skip HT.out.1 HM.out.1 HG.out.1 HM.out.2.1),
            by rw [List.length_append, List.length_singleton, HT.out.2.2.2.2.2.1]; exact HM.out.2.2, by rw [HNX.out, List.length_append, List.length_singleton], fun h => by cases h⟩
    case co2 =>
      rintro D2 Y hD2 hor hK2
      obtain ⟨xs, hxs, hmv, hb8, -, -⟩ : ∃ xs, rnOf xs = rnOf ps ∧ RuI 1 (rnOf ps) w8 w7.heap.size xs Y := by
        rcases hor with h | h
        · exact h
        · exact absurd h.1 (by decide)
      have hql : xs.length = qs.length := (rnOf_len hxs).trans (rnOf_len H4.out.1).symm
      rw [hql] at hb8
      have hru := H8.out.1.mv H8.out.2.2.2 hmv (fun k e => by omega)
      have hb7 := hmv.bk H8.out.2.1 (fun e => by have : X.heap.size = w7.heap.size := e; have := H7.out.2.2; omega)
      have c7 : Y.cell? ⟨X.heap.size, 0, none⟩ = some (.int .i64 1) := hb7.cell rfl
      have c8 : Y.cell? ⟨w7.heap.size, 0, none⟩ = some (.int .i64 ((qs.length : Nat) : Int)) := hb8.cell rfl
      have c6 : Y.cell? ⟨w4.heap.size, 0, none⟩ = some (.slice A4 qs.length c4) := hru.b6.cell rfl
      have hru2 := hru.mv hru.lt (S := fun _ => False) (Mv.of_ab ((Ab.refl Y).alloc (.cells #[.int .i64 2] 3))) (fun _ e => e.elim)
      have c4' : (Y.alloc (.cells #[.int .i64 2] 3)).cell? ⟨W.heap.size, 0, none⟩ = some (.bool false) := hru2.b4.cell rfl
      have z4 := hru2.b4.free 0
      have hal : ∀ D : Nat, Y.heap[D]? = some (Obj.deferred (some [])) → (Y.alloc (.cells #[.int .i64 2] 3)).heap[D]? = some (Obj.deferred (some [])) := fun D h => (Below.heap_alloc Y _ D (Array.getElem?_eq_some_iff.1 h).1).trans h
      have hD1y : Y.heap[D1]? = some (.deferred (some [])) := by
        have h1 := HD1.out.1
        have h2 := H8.out.2.2.1
        have h3 := (Array.getElem?_eq_some_iff.1 h1).1
        rw [hmv.block D1 (by omega) (fun e => by omega), ← h1]
        exact H8b.out D1 h3
      have HY := Lib.hid (And.intro hru2 (And.intro hD2 (And.intro (hal D2 hK2) (hal D1 hD1y))))
      clear hor hmv hru hru2 hb7 hb8 hh hI0 hK2 hD2 hal hD1y
      go_wp2_with fail
      rw [rounds_succ]
      go_wp2_with fail
      generalize Y.alloc (.cells #[.int .i64 2] 3) = w10 at *
      have hD21 : w10.heap[D2]? = some (.deferred (some [])) := HY.out.2.2.1
      have hD11 : w10.heap[D1]? = some (.deferred (some [])) := HY.out.2.2.2
      have hne : D1 ≠ D2 := by have := HD1.out.2.1; have := H7.out.2.2; have := H8.out.2.2.1; have := HY.out.2.1; omega
      have hK2 := (KeepsOthers.setCell w10 ⟨W.heap.size, 0, none⟩ (.bool true)).same D2 _ hD21 rfl
      have hK1' := (KeepsOthers.setCell w10 ⟨W.heap.size, 0, none⟩ (.bool true)).same D1 _ hD11 rfl
      have hK1 : ((w10.setCell ⟨W.heap.size, 0, none⟩ (.bool true)).putObj D2 (.deferred none)).heap[D1]? = some (.deferred (some [])) := (World.putObj_heap_other hne).trans hK1'
      refine ⟨by simp, .inl ⟨_, _, rfl, run_takeDeferred hK2, by simp, .inl ⟨_, _, rfl, run_takeDeferred hK1, ?_⟩⟩⟩
      have hc4 := cell_kept (World.cell?_setCell_same' w10 ⟨W.heap.size, 0, none⟩ (.bool true) (by rw [c4']; rfl)) (grownBy_putObj' _ D2 (.deferred none)) (fun r e => by cases e; exact ⟨_, hK2, rfl⟩)
      have hc5 := cell_kept hc4 (grownBy_putObj' _ D1 (.deferred none)) (fun r e => by cases e; exact ⟨_, hK1, rfl⟩)
      refine ⟨.bool true, ?_, rfl, ?_⟩
      · simp [results, Try.f32, go_sem, hc5]
      · have hW2 : W.heap.size ≤ D2 := by have := HD1.out.2.1; have := H7.out.2.2; have := H8.out.2.2.1; have := HY.out.2.1; have := HD1.out.2.2; have := HW9.out; have := HS6.out; omega
        have hW1 : W.heap.size ≤ D1 := by have := HD1.out.2.2; have := HW9.out; have := HS6.out; omega
        exact Below.trans (Below.trans (HY.out.1.ab.set (Nat.le_refl _) _) (belowK_b (w := W) (Nat.le_refl _) _ D2 _ _ hW2 hK2 rfl rfl)) (belowK_b (w := W) (Nat.le_refl _) _ D1 _ _ hW1 hK1 rfl rfl)
end Go.Proofs.Ytniodjigncicbaa.Dg

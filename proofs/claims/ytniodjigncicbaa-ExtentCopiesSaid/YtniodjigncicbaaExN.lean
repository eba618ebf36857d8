/- The program's map: Read. -/
import Derived.Test.YtniodjigncicbaaExM
import Derived.Test.YtniodjigncicbaaRxB
namespace Go.Proofs.Ytniodjigncicbaa.Dg
open Go.RowKit Go.Shelf
variable {w w' : World} {base a s B : Nat} {v : Value} {ps : List Pr} {l xs m : List UInt8} {c : Cel}
attribute [local go_sem ↓] Go.wp_at_zero Go.wp_at_succ
attribute [local go_sem] Oper.semAt_some
def gotE (at_ n : Int) : Int := if at_ < 0 ∨ n < 0 then 22 else 0
def gotC (c : Cel) (s : Nat) (at_ n : Int) : List UInt8 := if at_ < 0 ∨ n < 0 then [] else readC c at_.toNat (min n ((s : Int) - at_)).toNat
theorem read_nil (w : World) (at_ n : Int) :
    Calls Try.prog 64 #[.pointer none, .int .i64 at_, .int .i64 n] w fun e w' => e = .returned (.tuple #[.slice none 0 0, .int .i64 14]) ∧ Ab w w' := by
  refine (callsIn_wide (n := 2)).1 ?_
  refine callsIn_of_wp_marks Try.func64 rfl trivial ?_ rfl
  simp only [Try.ntmps64, List.size_toArray, List.length_cons, List.length_nil, Nat.reduceAdd, Nat.reduceSub, Array.replicate_succ, Array.replicate_zero, List.push_toArray, List.append_toArray, List.nil_append, List.cons_append]
  refine (wpIn_wide (n := 2)).2 ?_
  go_wp2_with (go_at_call 66; (with_reducible refine (exready_nil _).mono ?_); rintro e w2 ⟨rfl, rfl⟩)
  refine ⟨.tuple #[.slice none 0 0, .int .i64 14], ?_, rfl, ?_⟩
  · simp [results, Try.f64, go_sem]
  · exact ((Ab.refl w).alloc _).alloc _
theorem readC_zero (c : Cel) (at_ : Nat) : readC c at_ 0 = [] := rfl
theorem ob_own {row : Option Nat} (h : Ob w base v l) (hg : w.grownBy w' row) (hr : ∀ r, row = some r → ∃ o : Obj, w.heap[r]? = some o ∧ o.isCells = false) : Ob w' base v l := by
  rcases h.2 with ⟨rfl, _⟩ | ⟨g, cap, cur, rfl, _, hgg, _⟩
  · exact h.kept hg (.inl rfl)
  · refine h.kept hg (.inr fun e => ?_)
    obtain ⟨o, ho, hc⟩ := hr g e.symm
    rw [hgg] at ho
    cases ho
    cases hc
/-- While runs are read into g. -/
def RdI (ps : List Pr) (w8 : World) (base g m t : Nat) (bv : Value) (pre : List Pr) (W : World) : Prop := Mv (fun k => k = g) w8 W ∧ Ob W base bv (readC (cellR (rnOf pre)) t m) ∧ pre = ps.take pre.length
def RdX (ps : List Pr) (w8 : World) (base g m t : Nat) (bv : Value) (c : Code) (W : World) : Prop := c = .exit 1 ∧ Mv (fun k => k = g) w8 W ∧ Ob W base bv (readC (cellR (rnOf ps)) t m)
theorem RdI.own {w8 : World} {g m t : Nat} {bv : Value} : OwnFrom w8.heap.size (RdI ps w8 base g m t bv) := fun _ _ _ _ hs hg hr =>
  ⟨hs.1.grown hg (fun k e => .inr (hr k e).1), ob_own hs.2.1 hg (fun r e => (hr r e).2), hs.2.2⟩
theorem RdX.own {w8 : World} {g m t : Nat} {bv : Value} (c : Code) : OwnFrom w8.heap.size (fun (_ : Unit) => RdX ps w8 base g m t bv c) := fun _ _ _ _ hs hg hr =>
  ⟨hs.1, hs.2.1.grown hg (fun k e => .inr (hr k e).1), ob_own hs.2.2 hg (fun r e => (hr r e).2)⟩
theorem rd_hands {A : Option Addr} {cp : Nat} (w8 : World) (g gR : Nat) (hbR : Bk w8 gR 107 #[.slice A ps.length cp]) (hrl : Rl 218 w8 base (.slice A ps.length cp) ps) (h : Ex w base a (.slice A ps.length cp) ps s) (hg : w.heap.size ≤ g) :
    HandsX Try.prog 140 #[.pointer (some ⟨gR, 0, none⟩)] (fun x : Pr => #[.int .i64 (x.at_ : Int), x.val]) (fun pre x _ => ps[pre.length]? = some x) (fun xs => xs = ps) (fun k => k = g) (fun _ _ => False) w8 :=
  each_hands w8 gR base (fun k => k = g) hbR hrl (fun k hk e => by
    have h1 := (h.row.row.blk k hk).2
    omega) (by have := h.len; omega)
theorem rd_end {X : World} {bv : Value} {D : Nat} (hob : Ob X w.heap.size bv l) (hab : Ab w X) (hD : w.heap.size ≤ D) (hK : X.heap[D]? = some (.deferred (some []))) :
    Ob (X.putObj D (.deferred none)) w.heap.size bv l ∧ Ab w (X.putObj D (.deferred none)) :=
  ⟨ob_own hob (grownBy_putObj' _ D _) (fun r e => by cases e; exact ⟨_, hK, rfl⟩), Below.trans hab (belowK_b (w := w) (Nat.le_refl _) X D _ _ hD hK rfl rfl)⟩
set_option maxRecDepth 100000 in
set_option maxHeartbeats 4000000 in
theorem exread_any (w : World) (h : Ex w base a v ps s) (at_ n : Int) (h63 : at_ ≤ 9223372036854775807 ∧ n ≤ 9223372036854775807) (hbase : base ≤ w.heap.size) :
    Calls Try.prog 64 #[.pointer (some ⟨a, 0, none⟩), .int .i64 at_, .int .i64 n] w fun e w' => ∃ A k, e = .returned (.tuple #[.slice A (gotC (celP ps) s at_ n).length k, .int .i64 (gotE at_ n)]) ∧ Ob w' w.heap.size (.slice A (gotC (celP ps) s at_ n).length k) (gotC (celP ps) s at_ n) ∧ Ab w w' := by
  have HE := Lib.hid h
  have HB := Lib.hid hbase
  obtain ⟨h0, h1, h2⟩ := h.cells
  have hal := h.blk.lt
  have hs := h.max
  obtain ⟨A, cp, rfl, -, -⟩ := h.row.row.len_cap
  clear h hbase
  have hab : Ab w ((w.alloc (.cells #[.int .i64 at_] 3)).alloc (.cells #[.int .i64 n] 3)) := ((Ab.refl w).alloc _).alloc _
  have hbA : Bk ((w.alloc (.cells #[.int .i64 at_] 3)).alloc (.cells #[.int .i64 n] 3)) w.heap.size 3 #[.int .i64 at_] := (Bk.made w _ _).alloc _
  have hbN : Bk ((w.alloc (.cells #[.int .i64 at_] 3)).alloc (.cells #[.int .i64 n] 3)) (w.heap.size + 1) 3 #[.int .i64 n] := Bk.new (by simp)
  have HA := Lib.hid ((hab.cells a 0 hal).trans h0)
  have HW := Lib.hid hab
  by_cases n1 : at_ < 0
  · have E1 : gotE at_ n = 22 := by unfold gotE; rw [if_pos (.inl n1)]
    have E2 : gotC (celP ps) s at_ n = [] := by unfold gotC; rw [if_pos (.inl n1)]
    rw [E1, E2]
    clear hab hbA hbN
    refine (callsIn_wide (n := 2)).1 ?_
    refine callsIn_of_wp_marks Try.func64 rfl trivial ?_ rfl
    simp only [Try.ntmps64, List.size_toArray, List.length_cons, List.length_nil, Nat.reduceAdd, Nat.reduceSub, Array.replicate_succ, Array.replicate_zero, List.push_toArray, List.append_toArray, List.nil_append, List.cons_append]
    refine (wpIn_wide (n := 2)).2 ?_
    go_wp2_with (go_at_call 66; (with_reducible refine (exready_any _ a true HA.out).mono ?_); rintro e w2 ⟨rfl, rfl⟩)
    refine ⟨.tuple #[.slice none 0 0, .int .i64 22], ?_, none, 0, rfl, Ob.nil _ _, HW.out⟩
    simp [results, Try.f64, go_sem]
  by_cases n2 : n < 0
  · have E1 : gotE at_ n = 22 := by unfold gotE; rw [if_pos (.inr n2)]
    have E2 : gotC (celP ps) s at_ n = [] := by unfold gotC; rw [if_pos (.inr n2)]
    rw [E1, E2]
    clear hab hbA hbN
    refine (callsIn_wide (n := 2)).1 ?_
    refine callsIn_of_wp_marks Try.func64 rfl trivial ?_ rfl
    simp only [Try.ntmps64, List.size_toArray, List.length_cons, List.length_nil, Nat.reduceAdd, Nat.reduceSub, Array.replicate_succ, Array.replicate_zero, List.push_toArray, List.append_toArray, List.nil_append, List.cons_append]
    refine (wpIn_wide (n := 2)).2 ?_
    go_wp2_with (go_at_call 66; (with_reducible refine (exready_any _ a true HA.out).mono ?_); rintro e w2 ⟨rfl, rfl⟩)
    refine ⟨.tuple #[.slice none 0 0, .int .i64 22], ?_, none, 0, rfl, Ob.nil _ _, HW.out⟩
    simp [results, Try.f64, go_sem]
  have E1 : gotE at_ n = 0 := by unfold gotE; rw [if_neg (by omega)]
  obtain ⟨t, rfl⟩ : ∃ t : Nat, at_ = (t : Int) := ⟨at_.toNat, by omega⟩
  have E2 : gotC (celP ps) s t n = readC (celP ps) t (min n ((s : Int) - t)).toNat := by unfold gotC; rw [if_neg (by omega), Int.toNat_natCast]
  rw [E1, E2]
  clear E1 E2
  have e1 : IntKind.i64.wrap ((s : Int) - (t : Int)) = (s : Int) - (t : Int) := IntWalk.i64_in _ (by omega)
  obtain ⟨x, hx⟩ : ∃ x, min n ((s : Int) - (t : Int)) = x := ⟨_, rfl⟩
  rw [hx]
  have HX := Lib.hid hx
  obtain ⟨m, hm⟩ : ∃ m, x.toNat = m := ⟨_, rfl⟩
  rw [hm]
  have HMX := Lib.hid hm
  clear hm
  refine (callsIn_wide (n := 2)).1 ?_
  refine callsIn_of_wp_marks Try.func64 rfl trivial ?_ rfl
  simp only [Try.ntmps64, List.size_toArray, List.length_cons, List.length_nil, Nat.reduceAdd, Nat.reduceSub, Array.replicate_succ, Array.replicate_zero, List.push_toArray, List.append_toArray, List.nil_append, List.cons_append]
  refine (wpIn_wide (n := 2)).2 ?_
  go_wp2_with (go_at_call 66; (with_reducible refine (exready_any _ a true HA.out).mono ?_); rintro e w2 ⟨rfl, rfl⟩)
  generalize (w.alloc (.cells #[.int .i64 (t : Int)] 3)).alloc (.cells #[.int .i64 n] 3) = w2 at *
  have cA : w2.cell? ⟨w.heap.size, 0, none⟩ = some (.int .i64 (t : Int)) := hbA.cell rfl
  have cN : w2.cell? ⟨w.heap.size + 1, 0, none⟩ = some (.int .i64 n) := hbN.cell rfl
  have cS := (hab.cells a 1 hal).trans h1
  have fN := hbN.free 0
  have hbN2 := hbN.store 0 (.int .i64 x)
  have hab2 : Ab w (w2.setCell ⟨w.heap.size + 1, 0, none⟩ (.int .i64 x)) := hab.set (by simp) _
  have hbA2 := hbA.far (p := ⟨w.heap.size + 1, 0, none⟩) (by simp) (.int .i64 x)
  have HX2 := Lib.hid (And.intro hbN2 (And.intro hab2 hbA2))
  clear hab hbA hbN hbN2 hab2 hbA2
  go_region
  obtain ⟨hbN, hab, hbA⟩ := HX2.out
  replace hbN := hbN.drew
  replace hab := hab.drew
  replace hbA := hbA.drew
  generalize (w2.setCell ⟨w.heap.size + 1, 0, none⟩ (.int .i64 x)).drew = w5 at *
  replace cA : w5.cell? ⟨w.heap.size, 0, none⟩ = some (.int .i64 (t : Int)) := hbA.cell rfl
  replace cN : w5.cell? ⟨w.heap.size + 1, 0, none⟩ = some (.int .i64 x) := hbN.cell rfl
  have HX5 := Lib.hid (And.intro hbN (And.intro hab hbA))
  clear hbN hab hbA HX2 cS fN HW HA
  by_cases hx0 : x ≤ 0
  · have hx1 : m = 0 := by have := HMX.out; omega
    subst hx1
    go_wp2_with fail
    refine ⟨.tuple #[.slice none 0 0, .int .i64 0], ?_, none, 0, rfl, Ob.nil _ _, HX5.out.2.1⟩
    simp [results, Try.f64, go_sem]
  obtain rfl : x = (m : Int) := by have := HMX.out; omega
  have hm0 : 0 < m := by omega
  have hmt : t + m ≤ 4096 := by have := HX.out; omega
  obtain ⟨i0, hi, hz0, hz1, hz2⟩ := info_parts info8
  have HI := Lib.hid (And.intro hi (And.intro hz0 (And.intro hz1 hz2)))
  have HM := Lib.hid (And.intro hm0 hmt)
  have hx2 : ¬ (m : Int) ≤ 0 := by omega
  clear hi hz0 hz1 hz2 hx0 h1 h0
  go_wp2_with (refine wpList_make_full w5 rfl _ _ 30 rfl w.heap.size 5 i0 (.int .u8 0) 1 Try.underlying30 HI.out.1 HI.out.2.1 HI.out.2.2.1 .i64 .i64 (m : Int) (m : Int) m rfl rfl (by rfl) (by rfl) (by rw [HI.out.2.2.2]; omega) (by unfold maxLen; omega) (HX5.out.2.1.size) ?_)
  intro w6 ho6 hg6
  have ho6 : Ob w6 w.heap.size (.slice (some ⟨w5.heap.size, 0, none⟩) m m) (readC (cellR []) t m) := by
    rw [readC_nil]
    unfold Ob
    rw [List.length_replicate, List.map_replicate]
    have e : (madeCells #[Value.int IntKind.u8 0] m).toList = List.replicate m (u8v 0) := by
      unfold madeCells
      apply List.ext_getElem
      · simp
      · intro i h1 h2
        simp [u8v, n8, Nat.mod_one]
    rw [← e]
    exact ho6
  have ha6 : Ab w5 w6 := grown_ab (Ab.refl w5) hg6 (fun k hk => by cases hk)
  have h6 : Ab w w6 := HX5.out.2.1.trans ha6
  have k2 : (w6.alloc (.cells #[.slice (some ⟨w5.heap.size, 0, none⟩) m m] 30)).cell? ⟨a, 2, none⟩ = some (.slice A ps.length cp) := ((h6.alloc _).cells a 2 hal).trans h2
  have HL := Lib.hid (HE.out.row.ab (h6.alloc (.cells #[.slice (some ⟨w5.heap.size, 0, none⟩) m m] 30)))
  have b8 : Bk (w6.alloc (.cells #[.slice (some ⟨w5.heap.size, 0, none⟩) m m] 30)) w6.heap.size 30 #[.slice (some ⟨w5.heap.size, 0, none⟩) m m] := Bk.made w6 _ _
  have H6 := Lib.hid (And.intro (ho6.alloc (.cells #[.slice (some ⟨w5.heap.size, 0, none⟩) m m] 30)) (And.intro ((ha6.alloc (.cells #[.slice (some ⟨w5.heap.size, 0, none⟩) m m] 30)).bk HX5.out.1) (And.intro ((ha6.alloc (.cells #[.slice (some ⟨w5.heap.size, 0, none⟩) m m] 30)).bk HX5.out.2.2) (And.intro b8 (And.intro (h6.alloc (.cells #[.slice (some ⟨w5.heap.size, 0, none⟩) m m] 30)) (show w.heap.size + 1 < w5.heap.size ∧ w5.heap.size < w6.heap.size from ⟨HX5.out.1.lt, (ho6.blk _ rfl).2⟩))))))
  clear ho6 hg6 ha6 h6 b8 h2 hal
  go_wp2_with (go_at_call 116; (with_reducible refine (each_any _ HL.out).mono ?_); rintro e w8 ⟨rfl, rfl⟩)
  obtain ⟨hob, hbN, hbA, hbB, hab, hg1, hg2⟩ := H6.out
  have hrl := HL.out
  have hbR : Bk ((w6.alloc (.cells #[.slice (some ⟨w5.heap.size, 0, none⟩) m m] 30)).alloc (.cells #[.slice A ps.length cp] 107)) (w6.heap.size + 1) 107 #[.slice A ps.length cp] := Bk.new (by simp)
  replace hob := hob.alloc (.cells #[.slice A ps.length cp] 107)
  replace hbN := hbN.alloc (.cells #[.slice A ps.length cp] 107)
  replace hbA := hbA.alloc (.cells #[.slice A ps.length cp] 107)
  replace hbB := hbB.alloc (.cells #[.slice A ps.length cp] 107)
  replace hab := hab.alloc (.cells #[.slice A ps.length cp] 107)
  replace hrl := hrl.ab ((Ab.refl _).alloc (.cells #[.slice A ps.length cp] 107))
  generalize (w6.alloc (.cells #[.slice (some ⟨w5.heap.size, 0, none⟩) m m] 30)).alloc (.cells #[.slice A ps.length cp] 107) = w8 at *
  generalize w6.heap.size = gB at *
  generalize w5.heap.size = g at *
  have hgw : g < w8.heap.size := by have := hbB.lt; omega
  have H8 := Lib.hid (And.intro hbN (And.intro hbA (And.intro hbB (And.intro hrl hab))))
  have HG := Lib.hid (And.intro hg1 hg2)
  clear H6 HL hbN hbA hbB hrl hab cA cN k2 HX5
  have HH := Lib.hid (rd_hands w8 g (gB + 1) hbR H8.out.2.2.2.1 HE.out (by have := HG.out.1; omega))
  clear hbR
  have h0 : RdI ps w8 w.heap.size g m t (.slice (some ⟨g, 0, none⟩) m m) [] w8 := ⟨Mv.refl _ _, hob, rfl⟩
  refine range_some ?h1 ?h2 ?h3 HH.out ?h4 ?h5
    (RdI ps w8 w.heap.size g m t (.slice (some ⟨g, 0, none⟩) m m)) (RdX ps w8 w.heap.size g m t (.slice (some ⟨g, 0, none⟩) m m)) ?h6 ?h7 ?h8 h0 ?a1 ?as1 ?bo1 ?do1 ?st1
  case h1 => rfl
  case h2 => exact enters_of Try.func140 (by kernel_rfl) rfl
  case h3 => exact fun _ => rfl
  case h4 => exact fun k e => Nat.lt_of_le_of_lt (Nat.le_of_eq e) hgw
  case h5 => exact fun _ _ _ _ _ h => h.elim
  case h6 => exact RdI.own
  case h7 => exact RdX.own
  case h8 => exact fun _ _ _ _ _ _ _ h _ _ _ => h
  case as1 =>
    intro l x X K hK
    gi_wp2
    exact hK
  case do1 =>
    rintro D xs X hD hxs ⟨hmv, hob1, -⟩ hK1
    rw [hxs] at hob1
    have cB : X.cell? ⟨gB, 0, none⟩ = some (.slice (some ⟨g, 0, none⟩) m m) := (hmv.cell H8.out.2.2.1.lt (by have := HG.out.2; omega) 0).trans (H8.out.2.2.1.cell rfl)
    have HO := Lib.hid (rd_end hob1 (hmv.ab H8.out.2.2.2.2 (fun k e => by have := HG.out.1; omega)) (Nat.le_trans H8.out.2.2.2.2.size hD) hK1)
    clear hmv hob1 hxs hD h0 hob hgw
    go_wp2_with fail
    refine ⟨by simp, .inl ⟨_, _, rfl, run_takeDeferred hK1, ?_⟩⟩
    refine ⟨.tuple #[.slice (some ⟨g, 0, none⟩) m m, .int .i64 0], ?_, some ⟨g, 0, none⟩, m, by rw [readC_length], by rw [readC_length]; exact HO.out.1, HO.out.2⟩
    simp [results, Try.f64, go_sem]
  case st1 =>
    rintro D cd X hD ⟨rfl, hmv, hob1⟩ hK1
    have cB : X.cell? ⟨gB, 0, none⟩ = some (.slice (some ⟨g, 0, none⟩) m m) := (hmv.cell H8.out.2.2.1.lt (by have := HG.out.2; omega) 0).trans (H8.out.2.2.1.cell rfl)
    have HO := Lib.hid (rd_end hob1 (hmv.ab H8.out.2.2.2.2 (fun k e => by have := HG.out.1; omega)) (Nat.le_trans H8.out.2.2.2.2.size hD) hK1)
    clear hmv hob1 hD h0 hob hgw
    gi_wp2
    go_wp2_with fail
    refine ⟨by simp, .inl ⟨_, _, rfl, run_takeDeferred hK1, ?_⟩⟩
    refine ⟨.tuple #[.slice (some ⟨g, 0, none⟩) m m, .int .i64 0], ?_, some ⟨g, 0, none⟩, m, by rw [readC_length], by rw [readC_length]; exact HO.out.1, HO.out.2⟩
    simp [results, Try.f64, go_sem]
  case bo1 =>
    rintro l pre ⟨f, u, bs⟩ X hl ⟨hmv, hob1, hpre⟩ hok
    obtain ⟨hkp, hxk⟩ := List.getElem?_eq_some_iff.1 hok
    have hmem : (⟨f, u, bs⟩ : Pr) ∈ ps := hxk ▸ List.getElem_mem hkp
    have hfin : f + bs.length ≤ 4096 := HE.out.at_ hmem
    have hbs0 : Bs w w.heap.size u bs := (HE.out.row.own _ hmem).bs
    have hbs : Bs X w.heap.size u bs := (hbs0.ab H8.out.2.2.2.2 (Nat.le_refl _)).keep fun b o hb => hmv.cell (Nat.lt_of_lt_of_le hb H8.out.2.2.2.2.size) (by have := HG.out.1; omega) o
    have hnx : rnOf (pre ++ [⟨f, u, bs⟩]) = rnOf pre ++ [(f, bs)] := by rw [rnOf_append]; rfl
    have hpx : pre ++ [⟨f, u, bs⟩] = ps.take (pre ++ [(⟨f, u, bs⟩ : Pr)]).length := by
      rw [List.length_append, List.length_singleton, List.take_succ_eq_append_getElem hkp, hxk, ← hpre]
    have hsp : rnOf ps = rnOf pre ++ rnOf (ps.drop pre.length) := by
      conv => lhs; rw [← List.take_append_drop pre.length ps, rnOf_append, ← hpre]
    have hris : Ris (rnOf pre ++ [(f, bs)]) := by
      have h1 := HE.out.ris
      rw [hsp, List.drop_eq_getElem_cons hkp, hxk] at h1
      have h2 := (ris_append _ _).1 h1
      exact (ris_append _ _).2 ⟨h2.1, ⟨h2.2.1.1, fun r hr => (by cases hr), trivial⟩, fun q hq r hr => by rw [List.mem_singleton.1 hr]; exact h2.2.2 q hq _ (List.mem_cons_self ..)⟩
    have hrest : t + m ≤ f → readC (cellR (rnOf ps)) t m = readC (cellR (rnOf pre)) t m := fun hle => by
      rw [hsp]
      refine readC_rest fun q hq => ?_
      have h1 := HE.out.ris
      rw [hsp] at h1
      have h2 := ((ris_append _ _).1 h1).2.1
      rw [List.drop_eq_getElem_cons hkp, hxk] at h2 hq
      rcases List.mem_cons.1 hq with rfl | hq
      · exact hle
      · have := h2.2.1 q hq
        have h3 : (f : Nat) + bs.length < q.1 := this
        omega
    obtain ⟨Au, cu, rfl, hcu1, hcu2, -⟩ := id hbs
    have cA : X.cell? ⟨w.heap.size, 0, none⟩ = some (.int .i64 (t : Int)) := (hmv.cell H8.out.2.1.lt (by have := HG.out.1; omega) 0).trans (H8.out.2.1.cell rfl)
    have cN : X.cell? ⟨w.heap.size + 1, 0, none⟩ = some (.int .i64 (m : Int)) := (hmv.cell H8.out.1.lt (by have := HG.out.1; omega) 0).trans (H8.out.1.cell rfl)
    have cB : X.cell? ⟨gB, 0, none⟩ = some (.slice (some ⟨g, 0, none⟩) m m) := (hmv.cell H8.out.2.2.1.lt (by have := HG.out.2; omega) 0).trans (H8.out.2.2.1.cell rfl)
    obtain ⟨L, hL⟩ : ∃ L, bs.length = L := ⟨_, rfl⟩
    rw [hL] at hfin
    have hL0 : 0 < L := by
      have h1 := ((ris_append _ _).1 hris).2.1.1
      rcases Nat.eq_zero_or_pos L with h2 | h2
      · exact absurd (List.eq_nil_of_length_eq_zero (hL.trans h2)) h1
      · exact h2
    obtain ⟨d, hd⟩ : ∃ d : Int, (t : Int) - (f : Int) = d := ⟨_, rfl⟩
    obtain ⟨tm, htm⟩ : ∃ tm : Nat, t + m = tm := ⟨_, rfl⟩
    have e2 : IntKind.i64.wrap d = d := IntWalk.i64_in _ (by omega)
    have e3 : (t : Int) + (m : Int) = (tm : Int) := by omega
    have e4 : IntKind.i64.wrap (tm : Int) = (tm : Int) := IntWalk.i64_in _ (by omega)
    rw [hL] at hnx hpx hbs
    have HX9 := Lib.hid (And.intro hmv (And.intro hob1 (And.intro hnx (And.intro hpx (And.intro hris (And.intro hrest (And.intro hbs hL)))))))
    have HNN := Lib.hid (And.intro htm (And.intro hd (And.intro hfin hmt)))
    have hlo : -4096 ≤ d ∧ d ≤ 4096 := by omega
    clear hmv hob1 hpre hok hkp hxk hmem hbs0 hnx hpx hsp hris hrest hbs h0 hob hgw hfin
    rw [hL]
    clear hL
    by_cases c1 : tm ≤ f
    · have c1' : (tm : Int) ≤ (f : Int) := by omega
      clear hd hlo e2 htm
      gi_wp2
      exact ⟨Mv.refl _ _, rfl, HX9.out.1, by rw [HX9.out.2.2.2.2.2.1 (by have := HNN.out.1; omega)]; exact HX9.out.2.1⟩
    · have c1' : ¬ (tm : Int) ≤ (f : Int) := by omega
      by_cases c2 : d < (L : Int)
      · obtain ⟨o, ho⟩ : ∃ o, f - t = o := ⟨_, rfl⟩
        obtain ⟨q, hq⟩ : ∃ q, t - f = q := ⟨_, rfl⟩
        have hom : o < m := by omega
        have hqL : q < L := by omega
        have m1 : max (-d) 0 = (o : Int) := by omega
        have m2 : max d 0 = (q : Int) := by omega
        have m3 : IntKind.i64.wrap (-d) = -d := IntWalk.i64_in _ (by omega)
        have hs1 : ∀ wx : World, (Instr.slice 30 (.slice (some ⟨g, 0, none⟩) m m) (some (.int .i64 (o : Int))) none none).run Try.prog wx = .ok (.slice (some ⟨g, o, none⟩) (m - o) (m - o)) wx := fun wx => by
          rw [run_slice_tail _ m m o (by omega) wx, if_neg (by omega), Option.map_some, Addr.add_lit, Nat.zero_add]
        have hs2 := fun wx => run_slice_tail Au L cu q (Nat.le_of_lt hqL) wx
        have hcut := cutB (HX9.out.2.2.2.2.2.2.2 ▸ HX9.out.2.2.2.2.2.2.1) q (by rw [HX9.out.2.2.2.2.2.2.2]; exact Nat.le_of_lt hqL) (n := L - q) (by rw [HX9.out.2.2.2.2.2.2.2])
        generalize (if cu = q then Au else Option.map (fun x => x.add q) Au) = Aq at hs2 hcut
        obtain ⟨w', hcp, hob2, hmv2⟩ := copy_ob (ty := 3) (w := X.drew) HX9.out.2.1.drew (readC_length _ _ _) (Nat.le_of_lt hom) hcut.drew (by
          intro e
          have := congrArg List.length e
          rw [List.length_drop, HX9.out.2.2.2.2.2.2.2] at this
          simp at this; omega)
        have hnext := readC_next HX9.out.2.2.2.2.1 (at_ := t) (n := m) (by have := HNN.out.1; omega) (by have := HNN.out.2.1; have := HX9.out.2.2.2.2.2.2.2; omega)
        rw [ho, hq, HX9.out.2.2.2.2.2.2.2] at hnext
        rw [List.length_drop, HX9.out.2.2.2.2.2.2.2] at hob2 hcp
        rw [← hnext] at hob2
        have HCP := Lib.hid (And.intro hcp (And.intro hob2 hmv2))
        clear hcp hob2 hmv2 hnext hcut hlo htm ho hq hom hqL
        gi_wp2
        refine wpIn_region_any (by kernel_rfl) ?_
        refine wpAnyIn_round rfl l (by kernel_rfl) _ _ _ _ ?_
        refine wpAnyIn_take (i := 1) (v := .int .i64 d) rfl rfl (by kernel_rfl) (by kernel_rfl) (by kernel_rfl) (fun _ _ _ h => h) ⟨Or.inl ⟨by rfl, fun w => by go_simp⟩, fun _ => rfl⟩ ?_
        refine wpAnyIn_take (i := 2) (v := .int .i64 (-d)) rfl rfl (by kernel_rfl) (by kernel_rfl) (by kernel_rfl) (fun _ _ _ h => h) ⟨Or.inl ⟨by rfl, fun w => by go_simp⟩, fun _ => rfl⟩ ?_
        refine wpAnyIn_take (i := 3) (v := .int .i64 (o : Int)) rfl rfl (by kernel_rfl) (by kernel_rfl) (by kernel_rfl) (fun _ _ _ h => h) ⟨Or.inl ⟨by rfl, fun w => by go_simp⟩, fun _ => rfl⟩ ?_
        refine wpAnyIn_take (i := 5) (v := .slice Au L cu) rfl rfl (by kernel_rfl) (by kernel_rfl) (by kernel_rfl) (fun _ _ _ h => h) ⟨Or.inl ⟨by rfl, fun w => by go_simp⟩, fun _ => rfl⟩ ?_
        refine wpAnyIn_take (i := 6) (v := .int .i64 d) rfl rfl (by kernel_rfl) (by kernel_rfl) (by kernel_rfl) (fun _ _ _ h => h) ⟨Or.inl ⟨by rfl, fun w => by go_simp⟩, fun _ => rfl⟩ ?_
        refine wpAnyIn_take (i := 7) (v := .int .i64 (q : Int)) rfl rfl (by kernel_rfl) (by kernel_rfl) (by kernel_rfl) (fun _ _ _ h => h) ⟨Or.inl ⟨by rfl, fun w => by go_simp⟩, fun _ => rfl⟩ ?_
        refine wpAnyIn_take (i := 8) (v := .slice Aq (L - q) (cu - q)) rfl rfl (by kernel_rfl) (by kernel_rfl) (by kernel_rfl) (fun _ _ _ h => h) ⟨Or.inl ⟨by rfl, fun w => by go_simp⟩, fun _ => rfl⟩ ?_
        refine wpAnyIn_ready (rs := [0]) (by kernel_rfl) (by simp) (AllReadyIn.cons rfl (fun K hK => ?_) AllReadyIn.nil)
        go_simp
        refine hK _ _ ?_
        clear hK K
        refine wpAnyIn_ready (rs := [4]) (by kernel_rfl) (by simp) (AllReadyIn.cons rfl (fun K hK => ?_) AllReadyIn.nil)
        go_simp
        refine hK _ _ ?_
        clear hK K
        refine wpAnyIn_ready (rs := [9]) (by kernel_rfl) (by simp) (AllReadyIn.cons rfl (fun K hK => ?_) AllReadyIn.nil)
        refine stepIn_copy2 rfl (.tmp 58) (.tmp 62) _ _ rfl (.slice (some ⟨g, o, none⟩) (m - o) (m - o)) (.slice Aq (L - q) (cu - q)) rfl rfl HCP.out.1 ?_
        refine hK _ _ ?_
        clear hK K
        refine wpAnyIn_done (by kernel_rfl) ?_ _
        gi_wp2
        exact ⟨(Mv.refl _ X).drew.trans (HCP.out.2.2.mono fun _ _ e => .inl e), HX9.out.1.drew.trans HCP.out.2.2, by rw [HX9.out.2.2.1]; exact HCP.out.2.1, HX9.out.2.2.2.1⟩
      · clear hlo htm
        gi_wp2
        exact ⟨Mv.refl _ _, HX9.out.1, by rw [HX9.out.2.2.1, readC_past (by have := HNN.out.2.1; have := HX9.out.2.2.2.2.2.2.2; omega)]; exact HX9.out.2.1, HX9.out.2.2.2.1⟩
end Go.Proofs.Ytniodjigncicbaa.Dg

/- wire: whole values, writing; the cells of a value. Made by wip/gen_top.py. -/
import Derived.Test.YtphbaaaklgiloaaGreatWrE
import Derived.Test.YtphbaaaklgiloaaGreatWrP
import Derived.Test.YtphbaaaklgiloaaGreatWrT
namespace Go.Proofs.YtphbaaaklgiloaaGreat.Dg
open Go.RowKit
attribute [local go_sem ↓] Go.wp_at_zero Go.wp_at_succ
theorem EncF.more {w : World} {base base' : Nat} {s : Sch} {f : Nat → Option Value} {m : List UInt8} (h : EncF w base s f m) (hb : base ≤ base') : EncF w base' s f m := by
  induction s generalizing f m with
  | num => exact h
  | word => exact h
  | bool => exact h
  | text => exact h
  | data => obtain ⟨v, l, h1, h2, h3⟩ := h; exact ⟨v, l, h1, h2.more hb, h3⟩
  | pair a b iha ihb => obtain ⟨m1, m2, h1, h2, h3⟩ := h; exact ⟨m1, m2, iha h1, ihb h2, h3⟩
  | list s ih =>
    obtain ⟨A, n, c, ms, h1, h2, h3, h4, h5, h6⟩ := h
    refine ⟨A, n, c, ms, h1, h2, h3, h4, fun hn => ?_, h6⟩
    obtain ⟨b, o, hA, hlt, hi⟩ := h5 hn
    exact ⟨b, o, hA, by omega, fun i hin => ih (hi i hin)⟩
theorem EncF.ab {w w' : World} {base : Nat} {s : Sch} {f : Nat → Option Value} {m : List UInt8} (h : EncF w base s f m) (ha : Ab w w') (hb : base ≤ w.heap.size) : EncF w' base s f m :=
  EncF.congr (fun b o hlt => ha.cells b o (Nat.lt_of_lt_of_le hlt hb)) _ _ _ _ (fun _ _ => rfl) h
theorem leaves_Map {w : World} {F : Nat → Prop} {cs : Array Value} {m : List UInt8} (hs : cs.size = 5) (h : EncP w F (.pair .num (.pair (.list (.pair .bool (.pair .bool (.pair .num (.pair .num (.pair .num .num)))))) (.pair (.list (.pair .num (.pair .num (.pair .num .num)))) (.pair (.list (.pair .num (.pair .num (.pair (.list .num) (.list .num))))) .num)))) (fun k => cs[0 + k]?) m) : ∃ (x0 : Int) (A1 : Option Addr) (q1 c1 : Nat) (A2 : Option Addr) (q2 c2 : Nat) (A3 : Option Addr) (q3 c3 : Nat) (x4 : Int), cs = #[.int .i64 x0, .slice A1 q1 c1, .slice A2 q2 c2, .slice A3 q3 c3, .int .i64 x4] := by
  obtain ⟨_, _, l1, r1, -⟩ := h
  obtain ⟨x0, e0, -⟩ := l1
  obtain ⟨_, _, l3, r3, -⟩ := r1
  obtain ⟨A1, q1, c1, _, e1, -⟩ := l3
  obtain ⟨_, _, l5, r5, -⟩ := r3
  obtain ⟨A2, q2, c2, _, e2, -⟩ := l5
  obtain ⟨_, _, l7, r7, -⟩ := r5
  obtain ⟨A3, q3, c3, _, e3, -⟩ := l7
  obtain ⟨x4, e4, -⟩ := r7
  replace e0 : cs[0]? = some (.int .i64 x0) := by first | exact e0 | simpa using e0
  replace e1 : cs[1]? = some (.slice A1 q1 c1) := by first | exact e1 | simpa using e1
  replace e2 : cs[2]? = some (.slice A2 q2 c2) := by first | exact e2 | simpa using e2
  replace e3 : cs[3]? = some (.slice A3 q3 c3) := by first | exact e3 | simpa using e3
  replace e4 : cs[4]? = some (.int .i64 x4) := by first | exact e4 | simpa using e4
  refine ⟨x0, A1, q1, c1, A2, q2, c2, A3, q3, c3, x4, Array.ext (by simp [hs]) (fun i h1 h2 => ?_)⟩
  have hi : i = 0 ∨ i = 1 ∨ i = 2 ∨ i = 3 ∨ i = 4 := by omega
  rcases hi with rfl | rfl | rfl | rfl | rfl
  · exact Option.some.inj ((Array.getElem?_eq_getElem h1).symm.trans e0)
  · exact Option.some.inj ((Array.getElem?_eq_getElem h1).symm.trans e1)
  · exact Option.some.inj ((Array.getElem?_eq_getElem h1).symm.trans e2)
  · exact Option.some.inj ((Array.getElem?_eq_getElem h1).symm.trans e3)
  · exact Option.some.inj ((Array.getElem?_eq_getElem h1).symm.trans e4)
set_option maxRecDepth 100000 in
set_option maxHeartbeats 2000000 in
theorem written_Map (x0 : Int) (A1 : Option Addr) (q1 c1 : Nat) (A2 : Option Addr) (q2 c2 : Nat) (A3 : Option Addr) (q3 c3 : Nat) (x4 : Int) (m : List UInt8) (w : World) (h : EncF w w.heap.size (.pair .num (.pair (.list (.pair .bool (.pair .bool (.pair .num (.pair .num (.pair .num .num)))))) (.pair (.list (.pair .num (.pair .num (.pair .num .num)))) (.pair (.list (.pair .num (.pair .num (.pair (.list .num) (.list .num))))) .num)))) (fun k => (#[.int .i64 x0, .slice A1 q1 c1, .slice A2 q2 c2, .slice A3 q3 c3, .int .i64 x4] : Array Value)[k]?) m) (hl : m.length ≤ 100000000) :
    Calls Tryz.prog 47 #[.agg #[.int .i64 x0, .slice A1 q1 c1, .slice A2 q2 c2, .slice A3 q3 c3, .int .i64 x4], .func (.func 45) #[] #[]] w fun e w' => ∃ v', e = .returned v' ∧ Ob w' w.heap.size v' m ∧ Ab w w' := by
  have HH := Lib.hid h
  have HL := Lib.hid hl
  clear h hl
  go_enter Tryz.func47, Tryz.ntmps47
  go_wp2_with fail
  have ha : Ab w ((w.alloc (.cells #[.int .i64 x0, .slice A1 q1 c1, .slice A2 q2 c2, .slice A3 q3 c3, .int .i64 x4] 70)).alloc (.cells #[.bool false, .slice none 0 0] 137)) := ((Ab.refl w).alloc _).alloc _
  have hb : Bk ((w.alloc (.cells #[.int .i64 x0, .slice A1 q1 c1, .slice A2 q2 c2, .slice A3 q3 c3, .int .i64 x4] 70)).alloc (.cells #[.bool false, .slice none 0 0] 137)) w.heap.size 70 #[.int .i64 x0, .slice A1 q1 c1, .slice A2 q2 c2, .slice A3 q3 c3, .int .i64 x4] := (Bk.made w _ _).alloc _
  have hc : Cw ((w.alloc (.cells #[.int .i64 x0, .slice A1 q1 c1, .slice A2 q2 c2, .slice A3 q3 c3, .int .i64 x4] 70)).alloc (.cells #[.bool false, .slice none 0 0] 137)) (w.heap.size + 1) (w.heap.size + 1) (.slice none 0 0) [] := by
    have h := Cw.made (w.alloc (.cells #[.int .i64 x0, .slice A1 q1 c1, .slice A2 q2 c2, .slice A3 q3 c3, .int .i64 x4] 70))
    have e : (w.alloc (.cells #[.int .i64 x0, .slice A1 q1 c1, .slice A2 q2 c2, .slice A3 q3 c3, .int .i64 x4] 70)).heap.size = w.heap.size + 1 := by simp
    rw [e] at h
    exact h
  generalize (w.alloc (.cells #[.int .i64 x0, .slice A1 q1 c1, .slice A2 q2 c2, .slice A3 q3 c3, .int .i64 x4] 70)).alloc (.cells #[.bool false, .slice none 0 0] 137) = w1 at *
  have hat : At w1 (w.heap.size + 1) (.pair .num (.pair (.list (.pair .bool (.pair .bool (.pair .num (.pair .num (.pair .num .num)))))) (.pair (.list (.pair .num (.pair .num (.pair .num .num)))) (.pair (.list (.pair .num (.pair .num (.pair (.list .num) (.list .num))))) .num)))) w.heap.size 0 m := ⟨by omega, EncF.more (EncF.congr (fun b o hlt => ha.cells b o hlt) _ _ _ _ (fun k _ => by rw [mem, Nat.zero_add, hb.get]) HH.out) (by omega)⟩
  refine (clusterMap_s w.heap.size 0 m w1 (w.heap.size + 1) (w.heap.size + 1) _ [] hat hc (by have := HL.out; simp only [List.length_nil]; omega)).mono ?_
  rintro e w2 ⟨rfl, v2, hc2, hf2⟩
  have hab := hf2.ab ha (by omega) (by omega)
  obtain ⟨A9, q9, c9, rfl⟩ := hc2.own.shape
  have hb2 := hc2.bytes
  have H2 := Lib.hid (And.intro (hc2.own.lower (Nat.le_succ w.heap.size)) hab)
  clear hc2 hf2 hab hat hc hb ha
  go_wp2_with fail
  go_ret
  exact ⟨_, rfl, by simpa using H2.out.1, H2.out.2⟩
set_option maxHeartbeats 1000000 in
theorem wire_Map (x0 : Int) (A1 : Option Addr) (q1 c1 : Nat) (A2 : Option Addr) (q2 c2 : Nat) (A3 : Option Addr) (q3 c3 : Nat) (x4 : Int) (m : List UInt8) (w : World) (h : EncF w w.heap.size (.pair .num (.pair (.list (.pair .bool (.pair .bool (.pair .num (.pair .num (.pair .num .num)))))) (.pair (.list (.pair .num (.pair .num (.pair .num .num)))) (.pair (.list (.pair .num (.pair .num (.pair (.list .num) (.list .num))))) .num)))) (fun k => (#[.int .i64 x0, .slice A1 q1 c1, .slice A2 q2 c2, .slice A3 q3 c3, .int .i64 x4] : Array Value)[k]?) m) (hl : m.length ≤ 100000000) :
    Calls Tryz.prog 19 #[.agg #[.int .i64 x0, .slice A1 q1 c1, .slice A2 q2 c2, .slice A3 q3 c3, .int .i64 x4]] w fun e w' => ∃ v', e = .returned v' ∧ Ob w' w.heap.size v' m ∧ Ab w w' := by
  have HH := Lib.hid h
  clear h
  go_enter Tryz.func19, Tryz.ntmps19
  go_wp2_with fail
  have ha1 : Ab w (w.alloc (.cells #[.int .i64 x0, .slice A1 q1 c1, .slice A2 q2 c2, .slice A3 q3 c3, .int .i64 x4] 70)) := (Ab.refl w).alloc _
  have hs1 := ha1.size
  refine (written_Map x0 A1 q1 c1 A2 q2 c2 A3 q3 c3 x4 m _ ((HH.out.ab ha1 (Nat.le_refl _)).more hs1) hl).mono ?_
  rintro e w2 ⟨v2, rfl, ho2, ha2⟩
  have H2 := Lib.hid (And.intro (ho2.lower hs1) (ha1.trans ha2))
  clear ho2 ha2
  go_wp2_with fail
  go_ret
  exact ⟨v2, rfl, H2.out.1, H2.out.2⟩
theorem leaves_Inc {w : World} {F : Nat → Prop} {cs : Array Value} {m : List UInt8} (hs : cs.size = 2) (h : EncP w F (.pair .num (.list (.pair .num (.pair .num (.pair .num (.pair (.pair .num (.pair .num (.pair .num .num))) (.pair .num (.pair .num (.pair (.list .num) (.list .num)))))))))) (fun k => cs[0 + k]?) m) : ∃ (x0 : Int) (A1 : Option Addr) (q1 c1 : Nat), cs = #[.int .i64 x0, .slice A1 q1 c1] := by
  obtain ⟨_, _, l1, r1, -⟩ := h
  obtain ⟨x0, e0, -⟩ := l1
  obtain ⟨A1, q1, c1, _, e1, -⟩ := r1
  replace e0 : cs[0]? = some (.int .i64 x0) := by first | exact e0 | simpa using e0
  replace e1 : cs[1]? = some (.slice A1 q1 c1) := by first | exact e1 | simpa using e1
  refine ⟨x0, A1, q1, c1, Array.ext (by simp [hs]) (fun i h1 h2 => ?_)⟩
  have hi : i = 0 ∨ i = 1 := by omega
  rcases hi with rfl | rfl
  · exact Option.some.inj ((Array.getElem?_eq_getElem h1).symm.trans e0)
  · exact Option.some.inj ((Array.getElem?_eq_getElem h1).symm.trans e1)
set_option maxRecDepth 100000 in
set_option maxHeartbeats 2000000 in
theorem written_Inc (x0 : Int) (A1 : Option Addr) (q1 c1 : Nat) (m : List UInt8) (w : World) (h : EncF w w.heap.size (.pair .num (.list (.pair .num (.pair .num (.pair .num (.pair (.pair .num (.pair .num (.pair .num .num))) (.pair .num (.pair .num (.pair (.list .num) (.list .num)))))))))) (fun k => (#[.int .i64 x0, .slice A1 q1 c1] : Array Value)[k]?) m) (hl : m.length ≤ 100000000) :
    Calls Tryz.prog 42 #[.agg #[.int .i64 x0, .slice A1 q1 c1], .func (.func 40) #[] #[]] w fun e w' => ∃ v', e = .returned v' ∧ Ob w' w.heap.size v' m ∧ Ab w w' := by
  have HH := Lib.hid h
  have HL := Lib.hid hl
  clear h hl
  go_enter Tryz.func42, Tryz.ntmps42
  go_wp2_with fail
  have ha : Ab w ((w.alloc (.cells #[.int .i64 x0, .slice A1 q1 c1] 60)).alloc (.cells #[.bool false, .slice none 0 0] 137)) := ((Ab.refl w).alloc _).alloc _
  have hb : Bk ((w.alloc (.cells #[.int .i64 x0, .slice A1 q1 c1] 60)).alloc (.cells #[.bool false, .slice none 0 0] 137)) w.heap.size 60 #[.int .i64 x0, .slice A1 q1 c1] := (Bk.made w _ _).alloc _
  have hc : Cw ((w.alloc (.cells #[.int .i64 x0, .slice A1 q1 c1] 60)).alloc (.cells #[.bool false, .slice none 0 0] 137)) (w.heap.size + 1) (w.heap.size + 1) (.slice none 0 0) [] := by
    have h := Cw.made (w.alloc (.cells #[.int .i64 x0, .slice A1 q1 c1] 60))
    have e : (w.alloc (.cells #[.int .i64 x0, .slice A1 q1 c1] 60)).heap.size = w.heap.size + 1 := by simp
    rw [e] at h
    exact h
  generalize (w.alloc (.cells #[.int .i64 x0, .slice A1 q1 c1] 60)).alloc (.cells #[.bool false, .slice none 0 0] 137) = w1 at *
  have hat : At w1 (w.heap.size + 1) (.pair .num (.list (.pair .num (.pair .num (.pair .num (.pair (.pair .num (.pair .num (.pair .num .num))) (.pair .num (.pair .num (.pair (.list .num) (.list .num)))))))))) w.heap.size 0 m := ⟨by omega, EncF.more (EncF.congr (fun b o hlt => ha.cells b o hlt) _ _ _ _ (fun k _ => by rw [mem, Nat.zero_add, hb.get]) HH.out) (by omega)⟩
  refine (inc_s w.heap.size 0 m w1 (w.heap.size + 1) (w.heap.size + 1) _ [] hat hc (by have := HL.out; simp only [List.length_nil]; omega)).mono ?_
  rintro e w2 ⟨rfl, v2, hc2, hf2⟩
  have hab := hf2.ab ha (by omega) (by omega)
  obtain ⟨A9, q9, c9, rfl⟩ := hc2.own.shape
  have hb2 := hc2.bytes
  have H2 := Lib.hid (And.intro (hc2.own.lower (Nat.le_succ w.heap.size)) hab)
  clear hc2 hf2 hab hat hc hb ha
  go_wp2_with fail
  go_ret
  exact ⟨_, rfl, by simpa using H2.out.1, H2.out.2⟩
set_option maxHeartbeats 1000000 in
theorem wire_Inc (x0 : Int) (A1 : Option Addr) (q1 c1 : Nat) (m : List UInt8) (w : World) (h : EncF w w.heap.size (.pair .num (.list (.pair .num (.pair .num (.pair .num (.pair (.pair .num (.pair .num (.pair .num .num))) (.pair .num (.pair .num (.pair (.list .num) (.list .num)))))))))) (fun k => (#[.int .i64 x0, .slice A1 q1 c1] : Array Value)[k]?) m) (hl : m.length ≤ 100000000) :
    Calls Tryz.prog 15 #[.agg #[.int .i64 x0, .slice A1 q1 c1]] w fun e w' => ∃ v', e = .returned v' ∧ Ob w' w.heap.size v' m ∧ Ab w w' := by
  have HH := Lib.hid h
  clear h
  go_enter Tryz.func15, Tryz.ntmps15
  go_wp2_with fail
  have ha1 : Ab w (w.alloc (.cells #[.int .i64 x0, .slice A1 q1 c1] 60)) := (Ab.refl w).alloc _
  have hs1 := ha1.size
  refine (written_Inc x0 A1 q1 c1 m _ ((HH.out.ab ha1 (Nat.le_refl _)).more hs1) hl).mono ?_
  rintro e w2 ⟨v2, rfl, ho2, ha2⟩
  have H2 := Lib.hid (And.intro (ho2.lower hs1) (ha1.trans ha2))
  clear ho2 ha2
  go_wp2_with fail
  go_ret
  exact ⟨v2, rfl, H2.out.1, H2.out.2⟩
theorem leaves_State {w : World} {F : Nat → Prop} {cs : Array Value} {m : List UInt8} (hs : cs.size = 6) (h : EncP w F (.pair .num (.pair (.pair .num .num) (.pair (.list (.pair (.pair .num .num) (.pair .bool (.pair .num (.pair .text (.pair .num .num)))))) (.pair (.list (.pair .num (.pair .num (.pair .num (.pair .num .num))))) (.list (.pair .text (.pair (.pair .num .num) .word))))))) (fun k => cs[0 + k]?) m) : ∃ (x0 : Int) (x1 : Int) (x2 : Int) (A3 : Option Addr) (q3 c3 : Nat) (A4 : Option Addr) (q4 c4 : Nat) (A5 : Option Addr) (q5 c5 : Nat), cs = #[.int .i64 x0, .int .i64 x1, .int .i64 x2, .slice A3 q3 c3, .slice A4 q4 c4, .slice A5 q5 c5] := by
  obtain ⟨_, _, l1, r1, -⟩ := h
  obtain ⟨x0, e0, -⟩ := l1
  obtain ⟨_, _, l3, r3, -⟩ := r1
  obtain ⟨_, _, l4, r4, -⟩ := l3
  obtain ⟨x1, e1, -⟩ := l4
  obtain ⟨x2, e2, -⟩ := r4
  obtain ⟨_, _, l7, r7, -⟩ := r3
  obtain ⟨A3, q3, c3, _, e3, -⟩ := l7
  obtain ⟨_, _, l9, r9, -⟩ := r7
  obtain ⟨A4, q4, c4, _, e4, -⟩ := l9
  obtain ⟨A5, q5, c5, _, e5, -⟩ := r9
  replace e0 : cs[0]? = some (.int .i64 x0) := by first | exact e0 | simpa using e0
  replace e1 : cs[1]? = some (.int .i64 x1) := by first | exact e1 | simpa using e1
  replace e2 : cs[2]? = some (.int .i64 x2) := by first | exact e2 | simpa using e2
  replace e3 : cs[3]? = some (.slice A3 q3 c3) := by first | exact e3 | simpa using e3
  replace e4 : cs[4]? = some (.slice A4 q4 c4) := by first | exact e4 | simpa using e4
  replace e5 : cs[5]? = some (.slice A5 q5 c5) := by first | exact e5 | simpa using e5
  refine ⟨x0, x1, x2, A3, q3, c3, A4, q4, c4, A5, q5, c5, Array.ext (by simp [hs]) (fun i h1 h2 => ?_)⟩
  have hi : i = 0 ∨ i = 1 ∨ i = 2 ∨ i = 3 ∨ i = 4 ∨ i = 5 := by omega
  rcases hi with rfl | rfl | rfl | rfl | rfl | rfl
  · exact Option.some.inj ((Array.getElem?_eq_getElem h1).symm.trans e0)
  · exact Option.some.inj ((Array.getElem?_eq_getElem h1).symm.trans e1)
  · exact Option.some.inj ((Array.getElem?_eq_getElem h1).symm.trans e2)
  · exact Option.some.inj ((Array.getElem?_eq_getElem h1).symm.trans e3)
  · exact Option.some.inj ((Array.getElem?_eq_getElem h1).symm.trans e4)
  · exact Option.some.inj ((Array.getElem?_eq_getElem h1).symm.trans e5)
set_option maxRecDepth 100000 in
set_option maxHeartbeats 2000000 in
theorem written_State (x0 : Int) (x1 : Int) (x2 : Int) (A3 : Option Addr) (q3 c3 : Nat) (A4 : Option Addr) (q4 c4 : Nat) (A5 : Option Addr) (q5 c5 : Nat) (m : List UInt8) (w : World) (h : EncF w w.heap.size (.pair .num (.pair (.pair .num .num) (.pair (.list (.pair (.pair .num .num) (.pair .bool (.pair .num (.pair .text (.pair .num .num)))))) (.pair (.list (.pair .num (.pair .num (.pair .num (.pair .num .num))))) (.list (.pair .text (.pair (.pair .num .num) .word))))))) (fun k => (#[.int .i64 x0, .int .i64 x1, .int .i64 x2, .slice A3 q3 c3, .slice A4 q4 c4, .slice A5 q5 c5] : Array Value)[k]?) m) (hl : m.length ≤ 100000000) :
    Calls Tryz.prog 52 #[.agg #[.int .i64 x0, .int .i64 x1, .int .i64 x2, .slice A3 q3 c3, .slice A4 q4 c4, .slice A5 q5 c5], .func (.func 50) #[] #[]] w fun e w' => ∃ v', e = .returned v' ∧ Ob w' w.heap.size v' m ∧ Ab w w' := by
  have HH := Lib.hid h
  have HL := Lib.hid hl
  clear h hl
  go_enter Tryz.func52, Tryz.ntmps52
  go_wp2_with fail
  have ha : Ab w ((w.alloc (.cells #[.int .i64 x0, .int .i64 x1, .int .i64 x2, .slice A3 q3 c3, .slice A4 q4 c4, .slice A5 q5 c5] 37)).alloc (.cells #[.bool false, .slice none 0 0] 137)) := ((Ab.refl w).alloc _).alloc _
  have hb : Bk ((w.alloc (.cells #[.int .i64 x0, .int .i64 x1, .int .i64 x2, .slice A3 q3 c3, .slice A4 q4 c4, .slice A5 q5 c5] 37)).alloc (.cells #[.bool false, .slice none 0 0] 137)) w.heap.size 37 #[.int .i64 x0, .int .i64 x1, .int .i64 x2, .slice A3 q3 c3, .slice A4 q4 c4, .slice A5 q5 c5] := (Bk.made w _ _).alloc _
  have hc : Cw ((w.alloc (.cells #[.int .i64 x0, .int .i64 x1, .int .i64 x2, .slice A3 q3 c3, .slice A4 q4 c4, .slice A5 q5 c5] 37)).alloc (.cells #[.bool false, .slice none 0 0] 137)) (w.heap.size + 1) (w.heap.size + 1) (.slice none 0 0) [] := by
    have h := Cw.made (w.alloc (.cells #[.int .i64 x0, .int .i64 x1, .int .i64 x2, .slice A3 q3 c3, .slice A4 q4 c4, .slice A5 q5 c5] 37))
    have e : (w.alloc (.cells #[.int .i64 x0, .int .i64 x1, .int .i64 x2, .slice A3 q3 c3, .slice A4 q4 c4, .slice A5 q5 c5] 37)).heap.size = w.heap.size + 1 := by simp
    rw [e] at h
    exact h
  generalize (w.alloc (.cells #[.int .i64 x0, .int .i64 x1, .int .i64 x2, .slice A3 q3 c3, .slice A4 q4 c4, .slice A5 q5 c5] 37)).alloc (.cells #[.bool false, .slice none 0 0] 137) = w1 at *
  have hat : At w1 (w.heap.size + 1) (.pair .num (.pair (.pair .num .num) (.pair (.list (.pair (.pair .num .num) (.pair .bool (.pair .num (.pair .text (.pair .num .num)))))) (.pair (.list (.pair .num (.pair .num (.pair .num (.pair .num .num))))) (.list (.pair .text (.pair (.pair .num .num) .word))))))) w.heap.size 0 m := ⟨by omega, EncF.more (EncF.congr (fun b o hlt => ha.cells b o hlt) _ _ _ _ (fun k _ => by rw [mem, Nat.zero_add, hb.get]) HH.out) (by omega)⟩
  refine (state_s w.heap.size 0 m w1 (w.heap.size + 1) (w.heap.size + 1) _ [] hat hc (by have := HL.out; simp only [List.length_nil]; omega)).mono ?_
  rintro e w2 ⟨rfl, v2, hc2, hf2⟩
  have hab := hf2.ab ha (by omega) (by omega)
  obtain ⟨A9, q9, c9, rfl⟩ := hc2.own.shape
  have hb2 := hc2.bytes
  have H2 := Lib.hid (And.intro (hc2.own.lower (Nat.le_succ w.heap.size)) hab)
  clear hc2 hf2 hab hat hc hb ha
  go_wp2_with fail
  go_ret
  exact ⟨_, rfl, by simpa using H2.out.1, H2.out.2⟩
set_option maxHeartbeats 1000000 in
theorem wire_State (x0 : Int) (x1 : Int) (x2 : Int) (A3 : Option Addr) (q3 c3 : Nat) (A4 : Option Addr) (q4 c4 : Nat) (A5 : Option Addr) (q5 c5 : Nat) (m : List UInt8) (w : World) (h : EncF w w.heap.size (.pair .num (.pair (.pair .num .num) (.pair (.list (.pair (.pair .num .num) (.pair .bool (.pair .num (.pair .text (.pair .num .num)))))) (.pair (.list (.pair .num (.pair .num (.pair .num (.pair .num .num))))) (.list (.pair .text (.pair (.pair .num .num) .word))))))) (fun k => (#[.int .i64 x0, .int .i64 x1, .int .i64 x2, .slice A3 q3 c3, .slice A4 q4 c4, .slice A5 q5 c5] : Array Value)[k]?) m) (hl : m.length ≤ 100000000) :
    Calls Tryz.prog 23 #[.agg #[.int .i64 x0, .int .i64 x1, .int .i64 x2, .slice A3 q3 c3, .slice A4 q4 c4, .slice A5 q5 c5]] w fun e w' => ∃ v', e = .returned v' ∧ Ob w' w.heap.size v' m ∧ Ab w w' := by
  have HH := Lib.hid h
  clear h
  go_enter Tryz.func23, Tryz.ntmps23
  go_wp2_with fail
  have ha1 : Ab w (w.alloc (.cells #[.int .i64 x0, .int .i64 x1, .int .i64 x2, .slice A3 q3 c3, .slice A4 q4 c4, .slice A5 q5 c5] 37)) := (Ab.refl w).alloc _
  have hs1 := ha1.size
  refine (written_State x0 x1 x2 A3 q3 c3 A4 q4 c4 A5 q5 c5 m _ ((HH.out.ab ha1 (Nat.le_refl _)).more hs1) hl).mono ?_
  rintro e w2 ⟨v2, rfl, ho2, ha2⟩
  have H2 := Lib.hid (And.intro (ho2.lower hs1) (ha1.trans ha2))
  clear ho2 ha2
  go_wp2_with fail
  go_ret
  exact ⟨v2, rfl, H2.out.1, H2.out.2⟩
theorem leaves_Tx {w : World} {F : Nat → Prop} {cs : Array Value} {m : List UInt8} (hs : cs.size = 1) (h : EncP w F (.list (.pair .num (.pair (.pair .num .num) (.pair .text (.pair .num (.pair .num (.pair .text .data))))))) (fun k => cs[0 + k]?) m) : ∃ (A0 : Option Addr) (q0 c0 : Nat), cs = #[.slice A0 q0 c0] := by
  obtain ⟨A0, q0, c0, _, e0, -⟩ := h
  replace e0 : cs[0]? = some (.slice A0 q0 c0) := by first | exact e0 | simpa using e0
  refine ⟨A0, q0, c0, Array.ext (by simp [hs]) (fun i h1 h2 => ?_)⟩
  have hi : i = 0 := by omega
  subst hi
  exact Option.some.inj ((Array.getElem?_eq_getElem h1).symm.trans e0)
set_option maxRecDepth 100000 in
set_option maxHeartbeats 2000000 in
theorem written_Tx (A0 : Option Addr) (q0 c0 : Nat) (m : List UInt8) (w : World) (h : EncF w w.heap.size (.list (.pair .num (.pair (.pair .num .num) (.pair .text (.pair .num (.pair .num (.pair .text .data))))))) (fun k => (#[.slice A0 q0 c0] : Array Value)[k]?) m) (hl : m.length ≤ 100000000) :
    Calls Tryz.prog 57 #[.agg #[.slice A0 q0 c0], .func (.func 55) #[] #[]] w fun e w' => ∃ v', e = .returned v' ∧ Ob w' w.heap.size v' m ∧ Ab w w' := by
  have HH := Lib.hid h
  have HL := Lib.hid hl
  clear h hl
  go_enter Tryz.func57, Tryz.ntmps57
  go_wp2_with fail
  have ha : Ab w ((w.alloc (.cells #[.slice A0 q0 c0] 83)).alloc (.cells #[.bool false, .slice none 0 0] 137)) := ((Ab.refl w).alloc _).alloc _
  have hb : Bk ((w.alloc (.cells #[.slice A0 q0 c0] 83)).alloc (.cells #[.bool false, .slice none 0 0] 137)) w.heap.size 83 #[.slice A0 q0 c0] := (Bk.made w _ _).alloc _
  have hc : Cw ((w.alloc (.cells #[.slice A0 q0 c0] 83)).alloc (.cells #[.bool false, .slice none 0 0] 137)) (w.heap.size + 1) (w.heap.size + 1) (.slice none 0 0) [] := by
    have h := Cw.made (w.alloc (.cells #[.slice A0 q0 c0] 83))
    have e : (w.alloc (.cells #[.slice A0 q0 c0] 83)).heap.size = w.heap.size + 1 := by simp
    rw [e] at h
    exact h
  generalize (w.alloc (.cells #[.slice A0 q0 c0] 83)).alloc (.cells #[.bool false, .slice none 0 0] 137) = w1 at *
  have hat : At w1 (w.heap.size + 1) (.list (.pair .num (.pair (.pair .num .num) (.pair .text (.pair .num (.pair .num (.pair .text .data))))))) w.heap.size 0 m := ⟨by omega, EncF.more (EncF.congr (fun b o hlt => ha.cells b o hlt) _ _ _ _ (fun k _ => by rw [mem, Nat.zero_add, hb.get]) HH.out) (by omega)⟩
  refine (tx_s w.heap.size 0 m w1 (w.heap.size + 1) (w.heap.size + 1) _ [] hat hc (by have := HL.out; simp only [List.length_nil]; omega)).mono ?_
  rintro e w2 ⟨rfl, v2, hc2, hf2⟩
  have hab := hf2.ab ha (by omega) (by omega)
  obtain ⟨A9, q9, c9, rfl⟩ := hc2.own.shape
  have hb2 := hc2.bytes
  have H2 := Lib.hid (And.intro (hc2.own.lower (Nat.le_succ w.heap.size)) hab)
  clear hc2 hf2 hab hat hc hb ha
  go_wp2_with fail
  go_ret
  exact ⟨_, rfl, by simpa using H2.out.1, H2.out.2⟩
set_option maxHeartbeats 1000000 in
theorem wire_Tx (A0 : Option Addr) (q0 c0 : Nat) (m : List UInt8) (w : World) (h : EncF w w.heap.size (.list (.pair .num (.pair (.pair .num .num) (.pair .text (.pair .num (.pair .num (.pair .text .data))))))) (fun k => (#[.slice A0 q0 c0] : Array Value)[k]?) m) (hl : m.length ≤ 100000000) :
    Calls Tryz.prog 27 #[.agg #[.slice A0 q0 c0]] w fun e w' => ∃ v', e = .returned v' ∧ Ob w' w.heap.size v' m ∧ Ab w w' := by
  have HH := Lib.hid h
  clear h
  go_enter Tryz.func27, Tryz.ntmps27
  go_wp2_with fail
  have ha1 : Ab w (w.alloc (.cells #[.slice A0 q0 c0] 83)) := (Ab.refl w).alloc _
  have hs1 := ha1.size
  refine (written_Tx A0 q0 c0 m _ ((HH.out.ab ha1 (Nat.le_refl _)).more hs1) hl).mono ?_
  rintro e w2 ⟨v2, rfl, ho2, ha2⟩
  have H2 := Lib.hid (And.intro (ho2.lower hs1) (ha1.trans ha2))
  clear ho2 ha2
  go_wp2_with fail
  go_ret
  exact ⟨v2, rfl, H2.out.1, H2.out.2⟩
end Go.Proofs.YtphbaaaklgiloaaGreat.Dg

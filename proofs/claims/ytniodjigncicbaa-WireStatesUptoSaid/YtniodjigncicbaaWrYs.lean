/- wire: whole values, read (the calls); the reference's. Made by wip/gen_top3.py. -/
import Derived.Test.YtniodjigncicbaaWrYr
import Derived.Test.YtniodjigncicbaaWrS
namespace Go.Proofs.Ytniodjigncicbaa.Dg
open Go.RowKit
variable {v : Value}
theorem enc_one {w : World} {base : Nat} {s : Sch} {f : Nat → Option Value} {m : List UInt8} (u : Value) (h : EncF w base (.list s) f m) (hf : f 0 = some u) : EncF w base (.list s) (fun _ => some u) m :=
  EncF.congr (fun _ _ _ => rfl) _ _ _ _ (fun k hk => by
    have : k = 0 := by simp only [Sch.sz] at hk; omega
    subst this
    exact hf.symm) h
set_option maxHeartbeats 2000000 in
theorem wread_Map (m : List UInt8) (w : World) (h : Bs w w.heap.size v m) (hp : Par (.pair .num (.pair (.list (.pair .bool (.pair .bool (.pair .num (.pair .num (.pair .num .num)))))) (.pair (.list (.pair .num (.pair .num (.pair .num .num)))) (.pair (.list (.pair .num (.pair .num (.pair (.list .num) (.list .num))))) .num)))) m) (hl : m.length ≤ 100000000) :
    Calls Try.prog 11 #[v] w fun e w' => ∃ (x0 : Int) (A1 : Option Addr) (q1 c1 : Nat) (A2 : Option Addr) (q2 c2 : Nat) (A3 : Option Addr) (q3 c3 : Nat) (x4 : Int), e = .returned (.tuple #[.agg #[.int .i64 x0, .slice A1 q1 c1, .slice A2 q2 c2, .slice A3 q3 c3, .int .i64 x4], .int .i64 0]) ∧ EncP w' (fun k => w.heap.size ≤ k ∧ k < w'.heap.size) (.pair .num (.pair (.list (.pair .bool (.pair .bool (.pair .num (.pair .num (.pair .num .num)))))) (.pair (.list (.pair .num (.pair .num (.pair .num .num)))) (.pair (.list (.pair .num (.pair .num (.pair (.list .num) (.list .num))))) .num)))) (fun k => (#[.int .i64 x0, .slice A1 q1 c1, .slice A2 q2 c2, .slice A3 q3 c3, .int .i64 x4] : Array Value)[k]?) m ∧ Ab w w' := by
  have ha1 : Ab w (w.alloc (.cells #[.int .i64 0, .slice none 0 0, .slice none 0 0, .slice none 0 0, .int .i64 0] 26)) := (Ab.refl w).alloc _
  have hb1 : Bk (w.alloc (.cells #[.int .i64 0, .slice none 0 0, .slice none 0 0, .slice none 0 0, .int .i64 0] 26)) w.heap.size 26 #[.int .i64 0, .slice none 0 0, .slice none 0 0, .slice none 0 0, .int .i64 0] := Bk.made w _ _
  have hs1 : (w.alloc (.cells #[.int .i64 0, .slice none 0 0, .slice none 0 0, .slice none 0 0, .int .i64 0] 26)).heap.size = w.heap.size + 1 := by simp
  have HH := Lib.hid ((h.ab ha1 (Nat.le_refl _)).more ha1.size)
  obtain ⟨A, c, rfl, -, -, -⟩ := id h
  clear h
  go_enter Try.func11, Try.ntmps11
  go_wp2_with fail
  obtain ⟨w1, hw1⟩ : ∃ w1, w.alloc (.cells #[.int .i64 0, .slice none 0 0, .slice none 0 0, .slice none 0 0, .int .i64 0] 26) = w1 := ⟨_, rfl⟩
  rw [hw1] at HH hb1 ha1 hs1 ⊢
  have H1 := Lib.hid (And.intro hb1 (And.intro ha1 hs1))
  clear hb1 ha1 hw1 hs1
  refine (read_Map m w1 HH.out hp hl).mono ?_
  rintro e w2 ⟨x0, A1, q1, c1, A2, q2, c2, A3, q3, c3, x4, rfl, he2, ha2⟩
  have hb2 := ha2.bk H1.out.1
  have y0 : w2.cell? ⟨w.heap.size, 0, none⟩ = some (.int .i64 0) := hb2.cell rfl
  have f0 := hb2.free 0
  have y1 : w2.cell? ⟨w.heap.size, 1, none⟩ = some (.slice none 0 0) := hb2.cell rfl
  have f1 := hb2.free 1
  have y2 : w2.cell? ⟨w.heap.size, 2, none⟩ = some (.slice none 0 0) := hb2.cell rfl
  have f2 := hb2.free 2
  have y3 : w2.cell? ⟨w.heap.size, 3, none⟩ = some (.slice none 0 0) := hb2.cell rfl
  have f3 := hb2.free 3
  have y4 : w2.cell? ⟨w.heap.size, 4, none⟩ = some (.int .i64 0) := hb2.cell rfl
  have f4 := hb2.free 4
  have H2 := Lib.hid (And.intro he2 (And.intro (H1.out.2.1.trans ha2) hb2))
  clear he2 ha2 hb2
  go_wp2_with fail
  have hmq : Mv (· = w.heap.size) w2 (((((w2.setCell ⟨w.heap.size, 0, none⟩ (.int .i64 x0)).setCell ⟨w.heap.size, 1, none⟩ (.slice A1 q1 c1)).setCell ⟨w.heap.size, 2, none⟩ (.slice A2 q2 c2)).setCell ⟨w.heap.size, 3, none⟩ (.slice A3 q3 c3)).setCell ⟨w.heap.size, 4, none⟩ (.int .i64 x4)) := ((((((Mv.refl _ w2).set (S := (· = w.heap.size)) (p := ⟨w.heap.size, 0, none⟩) rfl (.int .i64 x0)).set (S := (· = w.heap.size)) (p := ⟨w.heap.size, 1, none⟩) rfl (.slice A1 q1 c1)).set (S := (· = w.heap.size)) (p := ⟨w.heap.size, 2, none⟩) rfl (.slice A2 q2 c2)).set (S := (· = w.heap.size)) (p := ⟨w.heap.size, 3, none⟩) rfl (.slice A3 q3 c3)).set (S := (· = w.heap.size)) (p := ⟨w.heap.size, 4, none⟩) rfl (.int .i64 x4))
  have hb3 : Bk (((((w2.setCell ⟨w.heap.size, 0, none⟩ (.int .i64 x0)).setCell ⟨w.heap.size, 1, none⟩ (.slice A1 q1 c1)).setCell ⟨w.heap.size, 2, none⟩ (.slice A2 q2 c2)).setCell ⟨w.heap.size, 3, none⟩ (.slice A3 q3 c3)).setCell ⟨w.heap.size, 4, none⟩ (.int .i64 x4)) w.heap.size 26 #[.int .i64 x0, .slice A1 q1 c1, .slice A2 q2 c2, .slice A3 q3 c3, .int .i64 x4] := (((((H2.out.2.2.store 0 (.int .i64 x0)).store 1 (.slice A1 q1 c1)).store 2 (.slice A2 q2 c2)).store 3 (.slice A3 q3 c3)).store 4 (.int .i64 x4))
  obtain ⟨w3, hw3⟩ : ∃ w3, (((((w2.setCell ⟨w.heap.size, 0, none⟩ (.int .i64 x0)).setCell ⟨w.heap.size, 1, none⟩ (.slice A1 q1 c1)).setCell ⟨w.heap.size, 2, none⟩ (.slice A2 q2 c2)).setCell ⟨w.heap.size, 3, none⟩ (.slice A3 q3 c3)).setCell ⟨w.heap.size, 4, none⟩ (.int .i64 x4)) = w3 := ⟨_, rfl⟩
  rw [hw3] at hmq hb3 ⊢
  have ha3 := hmq.ab H2.out.2.1 (fun k e => by omega)
  have hF : EncP w3 (fun k => w.heap.size ≤ k ∧ k < w3.heap.size) (.pair .num (.pair (.list (.pair .bool (.pair .bool (.pair .num (.pair .num (.pair .num .num)))))) (.pair (.list (.pair .num (.pair .num (.pair .num .num)))) (.pair (.list (.pair .num (.pair .num (.pair (.list .num) (.list .num))))) .num)))) (fun k => (#[.int .i64 x0, .slice A1 q1 c1, .slice A2 q2 c2, .slice A3 q3 c3, .int .i64 x4] : Array Value)[k]?) m :=
    (EncP.congr (F' := fun k => w.heap.size ≤ k ∧ k < w3.heap.size) (fun k hk => ⟨⟨by have := H1.out.2.2; omega, by have := hmq.size; omega⟩, fun o' => World.cell?_of_block (a := ⟨k, o', none⟩) (hmq.block k hk.2 (fun e => by have := H1.out.2.2; omega))⟩) _ _ _ _ (fun k _ => rfl) H2.out.1)
  have r0 : w3.cell? ⟨w.heap.size, 0, none⟩ = some (.int .i64 x0) := hb3.cell rfl
  have r1 : w3.cell? ⟨w.heap.size, 1, none⟩ = some (.slice A1 q1 c1) := hb3.cell rfl
  have r2 : w3.cell? ⟨w.heap.size, 2, none⟩ = some (.slice A2 q2 c2) := hb3.cell rfl
  have r3 : w3.cell? ⟨w.heap.size, 3, none⟩ = some (.slice A3 q3 c3) := hb3.cell rfl
  have r4 : w3.cell? ⟨w.heap.size, 4, none⟩ = some (.int .i64 x4) := hb3.cell rfl
  exact ⟨rfl, .tuple #[.agg #[.int .i64 x0, .slice A1 q1 c1, .slice A2 q2 c2, .slice A3 q3 c3, .int .i64 x4], .int .i64 0], by simp [results, Try.results11, go_sem, r0, r1, r2, r3, r4], x0, A1, q1, c1, A2, q2, c2, A3, q3, c3, x4, rfl, hF, ha3⟩
set_option maxRecDepth 100000 in
set_option maxHeartbeats 2000000 in
theorem ref_Map (x0 : Int) (A1 : Option Addr) (q1 c1 : Nat) (A2 : Option Addr) (q2 c2 : Nat) (A3 : Option Addr) (q3 c3 : Nat) (x4 : Int) (m : List UInt8) (w : World) (h : EncF w w.heap.size (.pair .num (.pair (.list (.pair .bool (.pair .bool (.pair .num (.pair .num (.pair .num .num)))))) (.pair (.list (.pair .num (.pair .num (.pair .num .num)))) (.pair (.list (.pair .num (.pair .num (.pair (.list .num) (.list .num))))) .num)))) (fun k => (#[.int .i64 x0, .slice A1 q1 c1, .slice A2 q2 c2, .slice A3 q3 c3, .int .i64 x4] : Array Value)[k]?) m) (hl : m.length ≤ 100000000) :
    Calls Try.prog 9 #[.agg #[.int .i64 x0, .slice A1 q1 c1, .slice A2 q2 c2, .slice A3 q3 c3, .int .i64 x4]] w fun e w' => ∃ v', e = .returned v' ∧ Ob w' w.heap.size v' m ∧ Ab w w' := by
  obtain ⟨b1, d1, l1, r1, rfl⟩ := h
  obtain ⟨z0, e0, rfl⟩ := l1
  obtain rfl : x0 = z0 := by
    have e : some (Value.int .i64 x0) = some (.int .i64 z0) := e0
    injection e with e
    injection e
  clear e0
  obtain ⟨b2, d2, l2, r2, rfl⟩ := r1
  replace l2 := enc_one (.slice A1 q1 c1) l2 rfl
  obtain ⟨b3, d3, l3, r3, rfl⟩ := r2
  replace l3 := enc_one (.slice A2 q2 c2) l3 rfl
  obtain ⟨b4, d4, l4, r4, rfl⟩ := r3
  replace l4 := enc_one (.slice A3 q3 c3) l4 rfl
  obtain ⟨z4, e4, rfl⟩ := r4
  obtain rfl : x4 = z4 := by
    have e : some (Value.int .i64 x4) = some (.int .i64 z4) := e4
    injection e with e
    injection e
  clear e4
  have ha1 : Ab w (w.alloc (.cells #[.int .i64 x0, .slice A1 q1 c1, .slice A2 q2 c2, .slice A3 q3 c3, .int .i64 x4] 26)) := (Ab.refl w).alloc _
  have H := Lib.hid (And.intro (l2.ab ha1 (Nat.le_refl _)) (And.intro (l3.ab ha1 (Nat.le_refl _)) (And.intro (l4.ab ha1 (Nat.le_refl _)) trivial)))
  have HL := Lib.hid hl
  have hs1 := ha1.size
  have HA := Lib.hid ha1
  clear ha1 hl l2 l3 l4
  go_enter Try.func9, Try.ntmps9
  go_wp2_with fail
  refine (putMap_r (base := w.heap.size) (v := .slice none 0 0) (l := []) x0 A1 q1 c1 b2 A2 q2 c2 b3 A3 q3 c3 b4 x4 _ (Ob.nil _ _) hs1 H.out.1 H.out.2.1 H.out.2.2.1 (by have := HL.out; first | (simp only [List.length_nil]; omega) | (simp only [List.length_append, List.length_nil] at this ⊢; omega))).mono ?_
  rintro e w2 ⟨v2, rfl, ho2, hf2⟩
  have hab := hf2.ab HA.out (Nat.le_refl _)
  have H2 := Lib.hid (And.intro ho2 hab)
  clear ho2 hf2 hab
  go_wp2_with fail
  go_ret
  exact ⟨v2, rfl, by simpa only [List.nil_append] using H2.out.1, H2.out.2⟩
set_option maxHeartbeats 2000000 in
theorem wread_Inc (m : List UInt8) (w : World) (h : Bs w w.heap.size v m) (hp : Par (.pair .num (.list (.pair .num (.pair .num (.pair .num (.pair (.pair .num (.pair .num (.pair .num .num))) (.pair .num (.pair .num (.pair (.list .num) (.list .num)))))))))) m) (hl : m.length ≤ 100000000) :
    Calls Try.prog 12 #[v] w fun e w' => ∃ (x0 : Int) (A1 : Option Addr) (q1 c1 : Nat), e = .returned (.tuple #[.agg #[.int .i64 x0, .slice A1 q1 c1], .int .i64 0]) ∧ EncP w' (fun k => w.heap.size ≤ k ∧ k < w'.heap.size) (.pair .num (.list (.pair .num (.pair .num (.pair .num (.pair (.pair .num (.pair .num (.pair .num .num))) (.pair .num (.pair .num (.pair (.list .num) (.list .num)))))))))) (fun k => (#[.int .i64 x0, .slice A1 q1 c1] : Array Value)[k]?) m ∧ Ab w w' := by
  have ha1 : Ab w (w.alloc (.cells #[.int .i64 0, .slice none 0 0] 29)) := (Ab.refl w).alloc _
  have hb1 : Bk (w.alloc (.cells #[.int .i64 0, .slice none 0 0] 29)) w.heap.size 29 #[.int .i64 0, .slice none 0 0] := Bk.made w _ _
  have hs1 : (w.alloc (.cells #[.int .i64 0, .slice none 0 0] 29)).heap.size = w.heap.size + 1 := by simp
  have HH := Lib.hid ((h.ab ha1 (Nat.le_refl _)).more ha1.size)
  obtain ⟨A, c, rfl, -, -, -⟩ := id h
  clear h
  go_enter Try.func12, Try.ntmps12
  go_wp2_with fail
  obtain ⟨w1, hw1⟩ : ∃ w1, w.alloc (.cells #[.int .i64 0, .slice none 0 0] 29) = w1 := ⟨_, rfl⟩
  rw [hw1] at HH hb1 ha1 hs1 ⊢
  have H1 := Lib.hid (And.intro hb1 (And.intro ha1 hs1))
  clear hb1 ha1 hw1 hs1
  refine (read_Inc m w1 HH.out hp hl).mono ?_
  rintro e w2 ⟨x0, A1, q1, c1, rfl, he2, ha2⟩
  have hb2 := ha2.bk H1.out.1
  have y0 : w2.cell? ⟨w.heap.size, 0, none⟩ = some (.int .i64 0) := hb2.cell rfl
  have f0 := hb2.free 0
  have y1 : w2.cell? ⟨w.heap.size, 1, none⟩ = some (.slice none 0 0) := hb2.cell rfl
  have f1 := hb2.free 1
  have H2 := Lib.hid (And.intro he2 (And.intro (H1.out.2.1.trans ha2) hb2))
  clear he2 ha2 hb2
  go_wp2_with fail
  have hmq : Mv (· = w.heap.size) w2 ((w2.setCell ⟨w.heap.size, 0, none⟩ (.int .i64 x0)).setCell ⟨w.heap.size, 1, none⟩ (.slice A1 q1 c1)) := (((Mv.refl _ w2).set (S := (· = w.heap.size)) (p := ⟨w.heap.size, 0, none⟩) rfl (.int .i64 x0)).set (S := (· = w.heap.size)) (p := ⟨w.heap.size, 1, none⟩) rfl (.slice A1 q1 c1))
  have hb3 : Bk ((w2.setCell ⟨w.heap.size, 0, none⟩ (.int .i64 x0)).setCell ⟨w.heap.size, 1, none⟩ (.slice A1 q1 c1)) w.heap.size 29 #[.int .i64 x0, .slice A1 q1 c1] := ((H2.out.2.2.store 0 (.int .i64 x0)).store 1 (.slice A1 q1 c1))
  obtain ⟨w3, hw3⟩ : ∃ w3, ((w2.setCell ⟨w.heap.size, 0, none⟩ (.int .i64 x0)).setCell ⟨w.heap.size, 1, none⟩ (.slice A1 q1 c1)) = w3 := ⟨_, rfl⟩
  rw [hw3] at hmq hb3 ⊢
  have ha3 := hmq.ab H2.out.2.1 (fun k e => by omega)
  have hF : EncP w3 (fun k => w.heap.size ≤ k ∧ k < w3.heap.size) (.pair .num (.list (.pair .num (.pair .num (.pair .num (.pair (.pair .num (.pair .num (.pair .num .num))) (.pair .num (.pair .num (.pair (.list .num) (.list .num)))))))))) (fun k => (#[.int .i64 x0, .slice A1 q1 c1] : Array Value)[k]?) m :=
    (EncP.congr (F' := fun k => w.heap.size ≤ k ∧ k < w3.heap.size) (fun k hk => ⟨⟨by have := H1.out.2.2; omega, by have := hmq.size; omega⟩, fun o' => World.cell?_of_block (a := ⟨k, o', none⟩) (hmq.block k hk.2 (fun e => by have := H1.out.2.2; omega))⟩) _ _ _ _ (fun k _ => rfl) H2.out.1)
  have r0 : w3.cell? ⟨w.heap.size, 0, none⟩ = some (.int .i64 x0) := hb3.cell rfl
  have r1 : w3.cell? ⟨w.heap.size, 1, none⟩ = some (.slice A1 q1 c1) := hb3.cell rfl
  exact ⟨rfl, .tuple #[.agg #[.int .i64 x0, .slice A1 q1 c1], .int .i64 0], by simp [results, Try.results12, go_sem, r0, r1], x0, A1, q1, c1, rfl, hF, ha3⟩
set_option maxRecDepth 100000 in
set_option maxHeartbeats 2000000 in
theorem ref_Inc (x0 : Int) (A1 : Option Addr) (q1 c1 : Nat) (m : List UInt8) (w : World) (h : EncF w w.heap.size (.pair .num (.list (.pair .num (.pair .num (.pair .num (.pair (.pair .num (.pair .num (.pair .num .num))) (.pair .num (.pair .num (.pair (.list .num) (.list .num)))))))))) (fun k => (#[.int .i64 x0, .slice A1 q1 c1] : Array Value)[k]?) m) (hl : m.length ≤ 100000000) :
    Calls Try.prog 10 #[.agg #[.int .i64 x0, .slice A1 q1 c1]] w fun e w' => ∃ v', e = .returned v' ∧ Ob w' w.heap.size v' m ∧ Ab w w' := by
  obtain ⟨b1, d1, l1, r1, rfl⟩ := h
  obtain ⟨z0, e0, rfl⟩ := l1
  obtain rfl : x0 = z0 := by
    have e : some (Value.int .i64 x0) = some (.int .i64 z0) := e0
    injection e with e
    injection e
  clear e0
  replace r1 := enc_one (.slice A1 q1 c1) r1 rfl
  have ha1 : Ab w (w.alloc (.cells #[.int .i64 x0, .slice A1 q1 c1] 29)) := (Ab.refl w).alloc _
  have H := Lib.hid (And.intro (r1.ab ha1 (Nat.le_refl _)) trivial)
  have HL := Lib.hid hl
  have hs1 := ha1.size
  have HA := Lib.hid ha1
  clear ha1 hl r1
  go_enter Try.func10, Try.ntmps10
  go_wp2_with fail
  refine (putInc_r (base := w.heap.size) (v := .slice none 0 0) (l := []) x0 A1 q1 c1 d1 _ (Ob.nil _ _) hs1 H.out.1 (by have := HL.out; first | (simp only [List.length_nil]; omega) | (simp only [List.length_append, List.length_nil] at this ⊢; omega))).mono ?_
  rintro e w2 ⟨v2, rfl, ho2, hf2⟩
  have hab := hf2.ab HA.out (Nat.le_refl _)
  have H2 := Lib.hid (And.intro ho2 hab)
  clear ho2 hf2 hab
  go_wp2_with fail
  go_ret
  exact ⟨v2, rfl, by simpa only [List.nil_append] using H2.out.1, H2.out.2⟩
set_option maxHeartbeats 2000000 in
theorem wread_State (m : List UInt8) (w : World) (h : Bs w w.heap.size v m) (hp : Par (.pair .num (.pair (.pair .num .num) (.pair (.list (.pair (.pair .num .num) (.pair .bool (.pair .num (.pair .text (.pair .num .num)))))) (.pair (.list (.pair .num (.pair .num (.pair .num (.pair .num .num))))) (.list (.pair .text (.pair (.pair .num .num) .word))))))) m) (hl : m.length ≤ 100000000) :
    Calls Try.prog 21 #[v] w fun e w' => ∃ (x0 : Int) (x1 : Int) (x2 : Int) (A3 : Option Addr) (q3 c3 : Nat) (A4 : Option Addr) (q4 c4 : Nat) (A5 : Option Addr) (q5 c5 : Nat), e = .returned (.tuple #[.agg #[.int .i64 x0, .int .i64 x1, .int .i64 x2, .slice A3 q3 c3, .slice A4 q4 c4, .slice A5 q5 c5], .int .i64 0]) ∧ EncP w' (fun k => w.heap.size ≤ k ∧ k < w'.heap.size) (.pair .num (.pair (.pair .num .num) (.pair (.list (.pair (.pair .num .num) (.pair .bool (.pair .num (.pair .text (.pair .num .num)))))) (.pair (.list (.pair .num (.pair .num (.pair .num (.pair .num .num))))) (.list (.pair .text (.pair (.pair .num .num) .word))))))) (fun k => (#[.int .i64 x0, .int .i64 x1, .int .i64 x2, .slice A3 q3 c3, .slice A4 q4 c4, .slice A5 q5 c5] : Array Value)[k]?) m ∧ Ab w w' := by
  have ha1 : Ab w (w.alloc (.cells #[.int .i64 0, .int .i64 0, .int .i64 0, .slice none 0 0, .slice none 0 0, .slice none 0 0] 48)) := (Ab.refl w).alloc _
  have hb1 : Bk (w.alloc (.cells #[.int .i64 0, .int .i64 0, .int .i64 0, .slice none 0 0, .slice none 0 0, .slice none 0 0] 48)) w.heap.size 48 #[.int .i64 0, .int .i64 0, .int .i64 0, .slice none 0 0, .slice none 0 0, .slice none 0 0] := Bk.made w _ _
  have hs1 : (w.alloc (.cells #[.int .i64 0, .int .i64 0, .int .i64 0, .slice none 0 0, .slice none 0 0, .slice none 0 0] 48)).heap.size = w.heap.size + 1 := by simp
  have HH := Lib.hid ((h.ab ha1 (Nat.le_refl _)).more ha1.size)
  obtain ⟨A, c, rfl, -, -, -⟩ := id h
  clear h
  go_enter Try.func21, Try.ntmps21
  go_wp2_with fail
  obtain ⟨w1, hw1⟩ : ∃ w1, w.alloc (.cells #[.int .i64 0, .int .i64 0, .int .i64 0, .slice none 0 0, .slice none 0 0, .slice none 0 0] 48) = w1 := ⟨_, rfl⟩
  rw [hw1] at HH hb1 ha1 hs1 ⊢
  have H1 := Lib.hid (And.intro hb1 (And.intro ha1 hs1))
  clear hb1 ha1 hw1 hs1
  refine (read_State m w1 HH.out hp hl).mono ?_
  rintro e w2 ⟨x0, x1, x2, A3, q3, c3, A4, q4, c4, A5, q5, c5, rfl, he2, ha2⟩
  have hb2 := ha2.bk H1.out.1
  have y0 : w2.cell? ⟨w.heap.size, 0, none⟩ = some (.int .i64 0) := hb2.cell rfl
  have f0 := hb2.free 0
  have y1 : w2.cell? ⟨w.heap.size, 1, none⟩ = some (.int .i64 0) := hb2.cell rfl
  have f1 := hb2.free 1
  have y2 : w2.cell? ⟨w.heap.size, 2, none⟩ = some (.int .i64 0) := hb2.cell rfl
  have f2 := hb2.free 2
  have y3 : w2.cell? ⟨w.heap.size, 3, none⟩ = some (.slice none 0 0) := hb2.cell rfl
  have f3 := hb2.free 3
  have y4 : w2.cell? ⟨w.heap.size, 4, none⟩ = some (.slice none 0 0) := hb2.cell rfl
  have f4 := hb2.free 4
  have y5 : w2.cell? ⟨w.heap.size, 5, none⟩ = some (.slice none 0 0) := hb2.cell rfl
  have f5 := hb2.free 5
  have H2 := Lib.hid (And.intro he2 (And.intro (H1.out.2.1.trans ha2) hb2))
  clear he2 ha2 hb2
  go_wp2_with fail
  have hmq : Mv (· = w.heap.size) w2 ((((((w2.setCell ⟨w.heap.size, 0, none⟩ (.int .i64 x0)).setCell ⟨w.heap.size, 1, none⟩ (.int .i64 x1)).setCell ⟨w.heap.size, 2, none⟩ (.int .i64 x2)).setCell ⟨w.heap.size, 3, none⟩ (.slice A3 q3 c3)).setCell ⟨w.heap.size, 4, none⟩ (.slice A4 q4 c4)).setCell ⟨w.heap.size, 5, none⟩ (.slice A5 q5 c5)) := (((((((Mv.refl _ w2).set (S := (· = w.heap.size)) (p := ⟨w.heap.size, 0, none⟩) rfl (.int .i64 x0)).set (S := (· = w.heap.size)) (p := ⟨w.heap.size, 1, none⟩) rfl (.int .i64 x1)).set (S := (· = w.heap.size)) (p := ⟨w.heap.size, 2, none⟩) rfl (.int .i64 x2)).set (S := (· = w.heap.size)) (p := ⟨w.heap.size, 3, none⟩) rfl (.slice A3 q3 c3)).set (S := (· = w.heap.size)) (p := ⟨w.heap.size, 4, none⟩) rfl (.slice A4 q4 c4)).set (S := (· = w.heap.size)) (p := ⟨w.heap.size, 5, none⟩) rfl (.slice A5 q5 c5))
  have hb3 : Bk ((((((w2.setCell ⟨w.heap.size, 0, none⟩ (.int .i64 x0)).setCell ⟨w.heap.size, 1, none⟩ (.int .i64 x1)).setCell ⟨w.heap.size, 2, none⟩ (.int .i64 x2)).setCell ⟨w.heap.size, 3, none⟩ (.slice A3 q3 c3)).setCell ⟨w.heap.size, 4, none⟩ (.slice A4 q4 c4)).setCell ⟨w.heap.size, 5, none⟩ (.slice A5 q5 c5)) w.heap.size 48 #[.int .i64 x0, .int .i64 x1, .int .i64 x2, .slice A3 q3 c3, .slice A4 q4 c4, .slice A5 q5 c5] := ((((((H2.out.2.2.store 0 (.int .i64 x0)).store 1 (.int .i64 x1)).store 2 (.int .i64 x2)).store 3 (.slice A3 q3 c3)).store 4 (.slice A4 q4 c4)).store 5 (.slice A5 q5 c5))
  obtain ⟨w3, hw3⟩ : ∃ w3, ((((((w2.setCell ⟨w.heap.size, 0, none⟩ (.int .i64 x0)).setCell ⟨w.heap.size, 1, none⟩ (.int .i64 x1)).setCell ⟨w.heap.size, 2, none⟩ (.int .i64 x2)).setCell ⟨w.heap.size, 3, none⟩ (.slice A3 q3 c3)).setCell ⟨w.heap.size, 4, none⟩ (.slice A4 q4 c4)).setCell ⟨w.heap.size, 5, none⟩ (.slice A5 q5 c5)) = w3 := ⟨_, rfl⟩
  rw [hw3] at hmq hb3 ⊢
  have ha3 := hmq.ab H2.out.2.1 (fun k e => by omega)
  have hF : EncP w3 (fun k => w.heap.size ≤ k ∧ k < w3.heap.size) (.pair .num (.pair (.pair .num .num) (.pair (.list (.pair (.pair .num .num) (.pair .bool (.pair .num (.pair .text (.pair .num .num)))))) (.pair (.list (.pair .num (.pair .num (.pair .num (.pair .num .num))))) (.list (.pair .text (.pair (.pair .num .num) .word))))))) (fun k => (#[.int .i64 x0, .int .i64 x1, .int .i64 x2, .slice A3 q3 c3, .slice A4 q4 c4, .slice A5 q5 c5] : Array Value)[k]?) m :=
    (EncP.congr (F' := fun k => w.heap.size ≤ k ∧ k < w3.heap.size) (fun k hk => ⟨⟨by have := H1.out.2.2; omega, by have := hmq.size; omega⟩, fun o' => World.cell?_of_block (a := ⟨k, o', none⟩) (hmq.block k hk.2 (fun e => by have := H1.out.2.2; omega))⟩) _ _ _ _ (fun k _ => rfl) H2.out.1)
  have r0 : w3.cell? ⟨w.heap.size, 0, none⟩ = some (.int .i64 x0) := hb3.cell rfl
  have r1 : w3.cell? ⟨w.heap.size, 1, none⟩ = some (.int .i64 x1) := hb3.cell rfl
  have r2 : w3.cell? ⟨w.heap.size, 2, none⟩ = some (.int .i64 x2) := hb3.cell rfl
  have r3 : w3.cell? ⟨w.heap.size, 3, none⟩ = some (.slice A3 q3 c3) := hb3.cell rfl
  have r4 : w3.cell? ⟨w.heap.size, 4, none⟩ = some (.slice A4 q4 c4) := hb3.cell rfl
  have r5 : w3.cell? ⟨w.heap.size, 5, none⟩ = some (.slice A5 q5 c5) := hb3.cell rfl
  exact ⟨rfl, .tuple #[.agg #[.int .i64 x0, .int .i64 x1, .int .i64 x2, .slice A3 q3 c3, .slice A4 q4 c4, .slice A5 q5 c5], .int .i64 0], by simp [results, Try.results21, go_sem, r0, r1, r2, r3, r4, r5], x0, x1, x2, A3, q3, c3, A4, q4, c4, A5, q5, c5, rfl, hF, ha3⟩
set_option maxRecDepth 100000 in
set_option maxHeartbeats 2000000 in
theorem ref_State (x0 : Int) (x1 : Int) (x2 : Int) (A3 : Option Addr) (q3 c3 : Nat) (A4 : Option Addr) (q4 c4 : Nat) (A5 : Option Addr) (q5 c5 : Nat) (m : List UInt8) (w : World) (h : EncF w w.heap.size (.pair .num (.pair (.pair .num .num) (.pair (.list (.pair (.pair .num .num) (.pair .bool (.pair .num (.pair .text (.pair .num .num)))))) (.pair (.list (.pair .num (.pair .num (.pair .num (.pair .num .num))))) (.list (.pair .text (.pair (.pair .num .num) .word))))))) (fun k => (#[.int .i64 x0, .int .i64 x1, .int .i64 x2, .slice A3 q3 c3, .slice A4 q4 c4, .slice A5 q5 c5] : Array Value)[k]?) m) (hl : m.length ≤ 100000000) :
    Calls Try.prog 18 #[.agg #[.int .i64 x0, .int .i64 x1, .int .i64 x2, .slice A3 q3 c3, .slice A4 q4 c4, .slice A5 q5 c5]] w fun e w' => ∃ v', e = .returned v' ∧ Ob w' w.heap.size v' m ∧ Ab w w' := by
  obtain ⟨b1, d1, l1, r1, rfl⟩ := h
  obtain ⟨z0, e0, rfl⟩ := l1
  obtain rfl : x0 = z0 := by
    have e : some (Value.int .i64 x0) = some (.int .i64 z0) := e0
    injection e with e
    injection e
  clear e0
  obtain ⟨b2, d2, l2, r2, rfl⟩ := r1
  obtain ⟨b3, d3, l3, r3, rfl⟩ := l2
  obtain ⟨z1, e1, rfl⟩ := l3
  obtain rfl : x1 = z1 := by
    have e : some (Value.int .i64 x1) = some (.int .i64 z1) := e1
    injection e with e
    injection e
  clear e1
  obtain ⟨z2, e2, rfl⟩ := r3
  obtain rfl : x2 = z2 := by
    have e : some (Value.int .i64 x2) = some (.int .i64 z2) := e2
    injection e with e
    injection e
  clear e2
  obtain ⟨b4, d4, l4, r4, rfl⟩ := r2
  replace l4 := enc_one (.slice A3 q3 c3) l4 rfl
  obtain ⟨b5, d5, l5, r5, rfl⟩ := r4
  replace l5 := enc_one (.slice A4 q4 c4) l5 rfl
  replace r5 := enc_one (.slice A5 q5 c5) r5 rfl
  have ha1 : Ab w (w.alloc (.cells #[.int .i64 x0, .int .i64 x1, .int .i64 x2, .slice A3 q3 c3, .slice A4 q4 c4, .slice A5 q5 c5] 48)) := (Ab.refl w).alloc _
  have H := Lib.hid (And.intro (l4.ab ha1 (Nat.le_refl _)) (And.intro (l5.ab ha1 (Nat.le_refl _)) (And.intro (r5.ab ha1 (Nat.le_refl _)) trivial)))
  have HL := Lib.hid hl
  have hs1 := ha1.size
  have HA := Lib.hid ha1
  clear ha1 hl l4 l5 r5
  go_enter Try.func18, Try.ntmps18
  go_wp2_with fail
  refine (putState_r (base := w.heap.size) (v := .slice none 0 0) (l := []) x0 x1 x2 A3 q3 c3 b4 A4 q4 c4 b5 A5 q5 c5 d5 _ (Ob.nil _ _) hs1 H.out.1 H.out.2.1 H.out.2.2.1 (by have := HL.out; first | (simp only [List.length_nil]; omega) | (simp only [List.length_append, List.length_nil] at this ⊢; omega))).mono ?_
  rintro e w2 ⟨v2, rfl, ho2, hf2⟩
  have hab := hf2.ab HA.out (Nat.le_refl _)
  have H2 := Lib.hid (And.intro ho2 hab)
  clear ho2 hf2 hab
  go_wp2_with fail
  go_ret
  exact ⟨v2, rfl, by simpa only [List.nil_append] using H2.out.1, H2.out.2⟩
set_option maxHeartbeats 2000000 in
theorem wread_Tx (m : List UInt8) (w : World) (h : Bs w w.heap.size v m) (hp : Par (.list (.pair .num (.pair (.pair .num .num) (.pair .text (.pair .num (.pair .num (.pair .text .data))))))) m) (hl : m.length ≤ 100000000) :
    Calls Try.prog 22 #[v] w fun e w' => ∃ (A0 : Option Addr) (q0 c0 : Nat), e = .returned (.tuple #[.agg #[.slice A0 q0 c0], .int .i64 0]) ∧ EncP w' (fun k => w.heap.size ≤ k ∧ k < w'.heap.size) (.list (.pair .num (.pair (.pair .num .num) (.pair .text (.pair .num (.pair .num (.pair .text .data))))))) (fun k => (#[.slice A0 q0 c0] : Array Value)[k]?) m ∧ Ab w w' := by
  have ha1 : Ab w (w.alloc (.cells #[.slice none 0 0] 51)) := (Ab.refl w).alloc _
  have hb1 : Bk (w.alloc (.cells #[.slice none 0 0] 51)) w.heap.size 51 #[.slice none 0 0] := Bk.made w _ _
  have hs1 : (w.alloc (.cells #[.slice none 0 0] 51)).heap.size = w.heap.size + 1 := by simp
  have HH := Lib.hid ((h.ab ha1 (Nat.le_refl _)).more ha1.size)
  obtain ⟨A, c, rfl, -, -, -⟩ := id h
  clear h
  go_enter Try.func22, Try.ntmps22
  go_wp2_with fail
  obtain ⟨w1, hw1⟩ : ∃ w1, w.alloc (.cells #[.slice none 0 0] 51) = w1 := ⟨_, rfl⟩
  rw [hw1] at HH hb1 ha1 hs1 ⊢
  have H1 := Lib.hid (And.intro hb1 (And.intro ha1 hs1))
  clear hb1 ha1 hw1 hs1
  refine (read_Tx m w1 HH.out hp hl).mono ?_
  rintro e w2 ⟨A0, q0, c0, rfl, he2, ha2⟩
  have hb2 := ha2.bk H1.out.1
  have y0 : w2.cell? ⟨w.heap.size, 0, none⟩ = some (.slice none 0 0) := hb2.cell rfl
  have f0 := hb2.free 0
  have H2 := Lib.hid (And.intro he2 (And.intro (H1.out.2.1.trans ha2) hb2))
  clear he2 ha2 hb2
  go_wp2_with fail
  have hmq : Mv (· = w.heap.size) w2 (w2.setCell ⟨w.heap.size, 0, none⟩ (.slice A0 q0 c0)) := ((Mv.refl _ w2).set (S := (· = w.heap.size)) (p := ⟨w.heap.size, 0, none⟩) rfl (.slice A0 q0 c0))
  have hb3 : Bk (w2.setCell ⟨w.heap.size, 0, none⟩ (.slice A0 q0 c0)) w.heap.size 51 #[.slice A0 q0 c0] := (H2.out.2.2.store 0 (.slice A0 q0 c0))
  obtain ⟨w3, hw3⟩ : ∃ w3, (w2.setCell ⟨w.heap.size, 0, none⟩ (.slice A0 q0 c0)) = w3 := ⟨_, rfl⟩
  rw [hw3] at hmq hb3 ⊢
  have ha3 := hmq.ab H2.out.2.1 (fun k e => by omega)
  have hF : EncP w3 (fun k => w.heap.size ≤ k ∧ k < w3.heap.size) (.list (.pair .num (.pair (.pair .num .num) (.pair .text (.pair .num (.pair .num (.pair .text .data))))))) (fun k => (#[.slice A0 q0 c0] : Array Value)[k]?) m :=
    (EncP.congr (F' := fun k => w.heap.size ≤ k ∧ k < w3.heap.size) (fun k hk => ⟨⟨by have := H1.out.2.2; omega, by have := hmq.size; omega⟩, fun o' => World.cell?_of_block (a := ⟨k, o', none⟩) (hmq.block k hk.2 (fun e => by have := H1.out.2.2; omega))⟩) _ _ _ _ (fun k _ => rfl) H2.out.1)
  have r0 : w3.cell? ⟨w.heap.size, 0, none⟩ = some (.slice A0 q0 c0) := hb3.cell rfl
  exact ⟨rfl, .tuple #[.agg #[.slice A0 q0 c0], .int .i64 0], by simp [results, Try.results22, go_sem, r0], A0, q0, c0, rfl, hF, ha3⟩
set_option maxRecDepth 100000 in
set_option maxHeartbeats 2000000 in
theorem ref_Tx (A0 : Option Addr) (q0 c0 : Nat) (m : List UInt8) (w : World) (h : EncF w w.heap.size (.list (.pair .num (.pair (.pair .num .num) (.pair .text (.pair .num (.pair .num (.pair .text .data))))))) (fun k => (#[.slice A0 q0 c0] : Array Value)[k]?) m) (hl : m.length ≤ 100000000) :
    Calls Try.prog 19 #[.agg #[.slice A0 q0 c0]] w fun e w' => ∃ v', e = .returned v' ∧ Ob w' w.heap.size v' m ∧ Ab w w' := by
  replace h := enc_one (.slice A0 q0 c0) h rfl
  have ha1 : Ab w (w.alloc (.cells #[.slice A0 q0 c0] 51)) := (Ab.refl w).alloc _
  have H := Lib.hid (And.intro (h.ab ha1 (Nat.le_refl _)) trivial)
  have HL := Lib.hid hl
  have hs1 := ha1.size
  have HA := Lib.hid ha1
  clear ha1 hl h
  go_enter Try.func19, Try.ntmps19
  go_wp2_with fail
  refine (putTx_r (base := w.heap.size) (v := .slice none 0 0) (l := []) A0 q0 c0 m _ (Ob.nil _ _) hs1 H.out.1 (by have := HL.out; first | (simp only [List.length_nil]; omega) | (simp only [List.length_append, List.length_nil] at this ⊢; omega))).mono ?_
  rintro e w2 ⟨v2, rfl, ho2, hf2⟩
  have hab := hf2.ab HA.out (Nat.le_refl _)
  have H2 := Lib.hid (And.intro ho2 hab)
  clear ho2 hf2 hab
  go_wp2_with fail
  go_ret
  exact ⟨v2, rfl, by simpa only [List.nil_append] using H2.out.1, H2.out.2⟩
set_option maxHeartbeats 2000000 in
theorem wread_Strings (m : List UInt8) (w : World) (h : Bs w w.heap.size v m) (hp : Par (.list .text) m) (hl : m.length ≤ 100000000) :
    Calls Try.prog 23 #[v] w fun e w' => ∃ (A0 : Option Addr) (q0 c0 : Nat), e = .returned (.tuple #[.slice A0 q0 c0, .int .i64 0]) ∧ EncP w' (fun k => w.heap.size ≤ k ∧ k < w'.heap.size) (.list .text) (fun k => (#[.slice A0 q0 c0] : Array Value)[k]?) m ∧ Ab w w' := by
  have HH := Lib.hid h
  obtain ⟨A, c, rfl, -, -, -⟩ := id h
  clear h
  go_enter Try.func23, Try.ntmps23
  go_wp2_with fail
  refine (read_Strings m w HH.out hp hl).mono ?_
  rintro e w2 ⟨A0, q0, c0, rfl, he2, ha2⟩
  have H2 := Lib.hid (And.intro he2 ha2)
  clear he2 ha2
  go_wp2_with fail
  go_ret2
  exact ⟨A0, q0, c0, rfl, H2.out.1, H2.out.2⟩
end Go.Proofs.Ytniodjigncicbaa.Dg

/- wire: whole values, read. Made by wip/gen_top2.py. -/
import Derived.Test.YtniodjigncicbaaWrY
import Derived.Test.YtniodjigncicbaaWrR
import Derived.Test.YtniodjigncicbaaWrG
namespace Go.Proofs.Ytniodjigncicbaa.Dg
open Go.RowKit
attribute [local go_sem ↓] Go.wp_at_zero Go.wp_at_succ
variable {v : Value}
theorem leaves_Strings {w : World} {F : Nat → Prop} {cs : Array Value} {m : List UInt8} (hs : cs.size = 1) (h : EncP w F (.list .text) (fun k => cs[0 + k]?) m) : ∃ (A0 : Option Addr) (q0 c0 : Nat), cs = #[.slice A0 q0 c0] := by
  obtain ⟨A0, q0, c0, _, e0, -⟩ := h
  replace e0 : cs[0]? = some (.slice A0 q0 c0) := by first | exact e0 | simpa using e0
  refine ⟨A0, q0, c0, Array.ext (by simp [hs]) (fun i h1 h2 => ?_)⟩
  have hi : i = 0 := by omega
  subst hi
  exact Option.some.inj ((Array.getElem?_eq_getElem h1).symm.trans e0)
set_option maxRecDepth 100000 in
set_option maxHeartbeats 1000000 in
theorem calm_Map (p q : Addr) (w : World) :
    CallsD Try.prog 83 #[.pointer (some p), .pointer (some q)] .returning w fun e u' w' => e = .returned (.tuple #[]) ∧ u' = .returning ∧ w = w' := by
  refine callsD_of_wpS Try.func83 rfl fun c₀ cs hu => ?_
  apply wpS_seq
  apply wpS_region
  simp [wpOpsS, go_sem, recoverD, hu, Try.ntmps83, Exit.thenS]
  refine wpS_cond (t := false) (by simp [Act.eval, Array.replicate]) ?_
  simp only [Bool.false_eq_true, if_false]
  apply wpS_of_wp
  refine wp_skip ?_
  exact ⟨rfl, .returning, by cases c₀; cases hu; rfl, _, results_none rfl _ _ _, rfl, rfl, rfl⟩
set_option maxRecDepth 100000 in
set_option maxHeartbeats 4000000 in
theorem read_Map (m : List UInt8) (w : World) (h : Bs w w.heap.size v m) (hp : Par (.pair .num (.pair (.list (.pair .bool (.pair .bool (.pair .num (.pair .num (.pair .num .num)))))) (.pair (.list (.pair .num (.pair .num (.pair .num .num)))) (.pair (.list (.pair .num (.pair .num (.pair (.list .num) (.list .num))))) .num)))) m) (hl : m.length ≤ 100000000) :
    Calls Try.prog 40 #[v, .func (.func 35) #[] #[]] w fun e w' => ∃ (x0 : Int) (A1 : Option Addr) (q1 c1 : Nat) (A2 : Option Addr) (q2 c2 : Nat) (A3 : Option Addr) (q3 c3 : Nat) (x4 : Int), e = .returned (.tuple #[.agg #[.int .i64 x0, .slice A1 q1 c1, .slice A2 q2 c2, .slice A3 q3 c3, .int .i64 x4], .int .i64 0]) ∧ EncP w' (fun k => w.heap.size ≤ k ∧ k < w'.heap.size) (.pair .num (.pair (.list (.pair .bool (.pair .bool (.pair .num (.pair .num (.pair .num .num)))))) (.pair (.list (.pair .num (.pair .num (.pair .num .num)))) (.pair (.list (.pair .num (.pair .num (.pair (.list .num) (.list .num))))) .num)))) (fun k => (#[.int .i64 x0, .slice A1 q1 c1, .slice A2 q2 c2, .slice A3 q3 c3, .int .i64 x4] : Array Value)[k]?) m ∧ Ab w w' := by
  have hmf : ∀ (fn : Fn) (first cap : Array Value) (w : World), (Instr.makeFunc fn first cap).run Try.prog w = .ok (.func fn first cap) w := fun _ _ _ _ => rfl
  have HH := Lib.hid h
  have HP := Lib.hid (And.intro hp hl)
  obtain ⟨A, c, rfl, -, -, -⟩ := id h
  clear h hp hl
  go_enter_defers Try.func40, Try.ntmps40
  go_wp2_with fail
  have ha : Ab w (((w.alloc (.cells #[.int .i64 0, .slice none 0 0, .slice none 0 0, .slice none 0 0, .int .i64 0] 26)).alloc (.cells #[.int .i64 0] 34)).alloc (.cells #[.bool true, .slice A m.length c] 130)) := (((Ab.refl w).alloc _).alloc _).alloc _
  have hcr : Cr (((w.alloc (.cells #[.int .i64 0, .slice none 0 0, .slice none 0 0, .slice none 0 0, .int .i64 0] 26)).alloc (.cells #[.int .i64 0] 34)).alloc (.cells #[.bool true, .slice A m.length c] 130)) (w.heap.size + 1 + 1) w.heap.size (.slice A m.length c) m :=
    ⟨Bk.new (by simp), HH.out.ab ha (Nat.le_refl _), by omega⟩
  have hk0 : Bk (((w.alloc (.cells #[.int .i64 0, .slice none 0 0, .slice none 0 0, .slice none 0 0, .int .i64 0] 26)).alloc (.cells #[.int .i64 0] 34)).alloc (.cells #[.bool true, .slice A m.length c] 130)) w.heap.size 26 #[.int .i64 0, .slice none 0 0, .slice none 0 0, .slice none 0 0, .int .i64 0] := ((Bk.made w _ _).alloc _).alloc _
  have hk1 : Bk (((w.alloc (.cells #[.int .i64 0, .slice none 0 0, .slice none 0 0, .slice none 0 0, .int .i64 0] 26)).alloc (.cells #[.int .i64 0] 34)).alloc (.cells #[.bool true, .slice A m.length c] 130)) (w.heap.size + 1) 34 #[.int .i64 0] := (Bk.new (by simp)).alloc _
  generalize ((w.alloc (.cells #[.int .i64 0, .slice none 0 0, .slice none 0 0, .slice none 0 0, .int .i64 0] 26)).alloc (.cells #[.int .i64 0] 34)).alloc (.cells #[.bool true, .slice A m.length c] 130) = w1 at *
  have HW1 := Lib.hid hcr.lt
  rw [← List.append_nil m] at hcr
  refine (clusterMap_rd w.heap.size 0 26 #[.int .i64 0, .slice none 0 0, .slice none 0 0, .slice none 0 0, .int .i64 0] m [] w1 (w.heap.size + 1 + 1) w.heap.size _ HP.out.1 hcr hk0 (by omega) (Nat.le_refl _) (fun k hk => by rw [Nat.zero_add]; show (Zc (.pair .num (.pair (.list (.pair .bool (.pair .bool (.pair .num (.pair .num (.pair .num .num)))))) (.pair (.list (.pair .num (.pair .num (.pair .num .num)))) (.pair (.list (.pair .num (.pair .num (.pair (.list .num) (.list .num))))) .num))))).toArray[k]? = _; rw [List.getElem?_toArray]) HP.out.2).mono ?_
  rintro e w2 ⟨rfl, v2, cs2, hc2, hb2, hs2, -, hm2, he2⟩
  obtain ⟨x0, A1, q1, c1, A2, q2, c2, A3, q3, c3, x4, rfl⟩ := leaves_Map hs2 he2
  have hk1 := hm2.bk hk1 (by omega)
  have ha2 := hm2.ab ha (fun k e => by omega)
  obtain ⟨A9, c9, hv9, -⟩ := id hc2.src
  have hv9' : v2 = .slice A9 0 c9 := hv9
  subst hv9'
  have hbb := hc2.bytes
  have y0 : w2.cell? ⟨w.heap.size, 0, none⟩ = some (.int .i64 x0) := hb2.cell rfl
  have f0 := hb2.free 0
  have y1 : w2.cell? ⟨w.heap.size, 1, none⟩ = some (.slice A1 q1 c1) := hb2.cell rfl
  have f1 := hb2.free 1
  have y2 : w2.cell? ⟨w.heap.size, 2, none⟩ = some (.slice A2 q2 c2) := hb2.cell rfl
  have f2 := hb2.free 2
  have y3 : w2.cell? ⟨w.heap.size, 3, none⟩ = some (.slice A3 q3 c3) := hb2.cell rfl
  have f3 := hb2.free 3
  have y4 : w2.cell? ⟨w.heap.size, 4, none⟩ = some (.int .i64 x4) := hb2.cell rfl
  have f4 := hb2.free 4
  have z0 : w2.cell? ⟨w.heap.size + 1, 0, none⟩ = some (.int .i64 0) := hk1.cell rfl
  have g0 := hk1.free 0
  have H2 := Lib.hid (And.intro hb2 (And.intro hk1 (And.intro ha2 (And.intro hm2 he2))))
  clear hc2 hb2 hk1 ha2 he2 hv9 hm2 hk0 hcr ha hs2
  go_wp2_with fail
  have hmq : Mv (· = w.heap.size) w2 (((((w2.setCell ⟨w.heap.size, 0, none⟩ (.int .i64 x0)).setCell ⟨w.heap.size, 1, none⟩ (.slice A1 q1 c1)).setCell ⟨w.heap.size, 2, none⟩ (.slice A2 q2 c2)).setCell ⟨w.heap.size, 3, none⟩ (.slice A3 q3 c3)).setCell ⟨w.heap.size, 4, none⟩ (.int .i64 x4)) := ((((((Mv.refl _ w2).set (S := (· = w.heap.size)) (p := ⟨w.heap.size, 0, none⟩) rfl (.int .i64 x0)).set (S := (· = w.heap.size)) (p := ⟨w.heap.size, 1, none⟩) rfl (.slice A1 q1 c1)).set (S := (· = w.heap.size)) (p := ⟨w.heap.size, 2, none⟩) rfl (.slice A2 q2 c2)).set (S := (· = w.heap.size)) (p := ⟨w.heap.size, 3, none⟩) rfl (.slice A3 q3 c3)).set (S := (· = w.heap.size)) (p := ⟨w.heap.size, 4, none⟩) rfl (.int .i64 x4))
  have hm3 : Mv (fun k => k = w.heap.size ∨ k = w.heap.size + 1) w2 ((((((w2.setCell ⟨w.heap.size, 0, none⟩ (.int .i64 x0)).setCell ⟨w.heap.size, 1, none⟩ (.slice A1 q1 c1)).setCell ⟨w.heap.size, 2, none⟩ (.slice A2 q2 c2)).setCell ⟨w.heap.size, 3, none⟩ (.slice A3 q3 c3)).setCell ⟨w.heap.size, 4, none⟩ (.int .i64 x4)).setCell ⟨w.heap.size + 1, 0, none⟩ (.int .i64 0)) := (hmq.mono (fun _ _ e => .inl e)).set (p := ⟨w.heap.size + 1, 0, none⟩) (.inr rfl) _
  have hb3 : Bk ((((((w2.setCell ⟨w.heap.size, 0, none⟩ (.int .i64 x0)).setCell ⟨w.heap.size, 1, none⟩ (.slice A1 q1 c1)).setCell ⟨w.heap.size, 2, none⟩ (.slice A2 q2 c2)).setCell ⟨w.heap.size, 3, none⟩ (.slice A3 q3 c3)).setCell ⟨w.heap.size, 4, none⟩ (.int .i64 x4)).setCell ⟨w.heap.size + 1, 0, none⟩ (.int .i64 0)) w.heap.size 26 #[.int .i64 x0, .slice A1 q1 c1, .slice A2 q2 c2, .slice A3 q3 c3, .int .i64 x4] := ((((((H2.out.1.store 0 (.int .i64 x0)).store 1 (.slice A1 q1 c1)).store 2 (.slice A2 q2 c2)).store 3 (.slice A3 q3 c3)).store 4 (.int .i64 x4)).far (p := ⟨w.heap.size + 1, 0, none⟩) (by simp) (.int .i64 0))
  have he3 : Bk ((((((w2.setCell ⟨w.heap.size, 0, none⟩ (.int .i64 x0)).setCell ⟨w.heap.size, 1, none⟩ (.slice A1 q1 c1)).setCell ⟨w.heap.size, 2, none⟩ (.slice A2 q2 c2)).setCell ⟨w.heap.size, 3, none⟩ (.slice A3 q3 c3)).setCell ⟨w.heap.size, 4, none⟩ (.int .i64 x4)).setCell ⟨w.heap.size + 1, 0, none⟩ (.int .i64 0)) (w.heap.size + 1) 34 #[.int .i64 0] := (hmq.bk H2.out.2.1 (by omega)).store 0 (.int .i64 0)
  obtain ⟨w3, hw3⟩ : ∃ w3, ((((((w2.setCell ⟨w.heap.size, 0, none⟩ (.int .i64 x0)).setCell ⟨w.heap.size, 1, none⟩ (.slice A1 q1 c1)).setCell ⟨w.heap.size, 2, none⟩ (.slice A2 q2 c2)).setCell ⟨w.heap.size, 3, none⟩ (.slice A3 q3 c3)).setCell ⟨w.heap.size, 4, none⟩ (.int .i64 x4)).setCell ⟨w.heap.size + 1, 0, none⟩ (.int .i64 0)) = w3 := ⟨_, rfl⟩
  rw [hw3] at hm3 hb3 he3 ⊢
  have ha3 := hm3.ab H2.out.2.2.1 (fun k e => by omega)
  have hF : EncP w3 (fun k => w.heap.size ≤ k ∧ k < w3.heap.size) (.pair .num (.pair (.list (.pair .bool (.pair .bool (.pair .num (.pair .num (.pair .num .num)))))) (.pair (.list (.pair .num (.pair .num (.pair .num .num)))) (.pair (.list (.pair .num (.pair .num (.pair (.list .num) (.list .num))))) .num)))) (fun k => (#[.int .i64 x0, .slice A1 q1 c1, .slice A2 q2 c2, .slice A3 q3 c3, .int .i64 x4] : Array Value)[k]?) m :=
    (EncP.congr (F' := fun k => w.heap.size ≤ k ∧ k < w3.heap.size) (fun k hk => ⟨⟨by have := HW1.out; omega, by have := hm3.size; omega⟩, fun o' => World.cell?_of_block (a := ⟨k, o', none⟩) (hm3.block k hk.2 (fun e => by have := HW1.out; omega))⟩) _ _ _ _ (fun k _ => by rw [Nat.zero_add]) H2.out.2.2.2.2)
  refine leaves_cons (f := 83) (args := #[.pointer (some ⟨w.heap.size, 0, none⟩), .pointer (some ⟨w.heap.size + 1, 0, none⟩)]) (by simp) (by simp [go_sem]) ?_
  refine (calm_Map _ _ w3).mono ?_
  rintro e u' w4 ⟨rfl, rfl, rfl⟩
  have r0 : w3.cell? ⟨w.heap.size, 0, none⟩ = some (.int .i64 x0) := hb3.cell rfl
  have r1 : w3.cell? ⟨w.heap.size, 1, none⟩ = some (.slice A1 q1 c1) := hb3.cell rfl
  have r2 : w3.cell? ⟨w.heap.size, 2, none⟩ = some (.slice A2 q2 c2) := hb3.cell rfl
  have r3 : w3.cell? ⟨w.heap.size, 3, none⟩ = some (.slice A3 q3 c3) := hb3.cell rfl
  have r4 : w3.cell? ⟨w.heap.size, 4, none⟩ = some (.int .i64 x4) := hb3.cell rfl
  have rz : w3.cell? ⟨w.heap.size + 1, 0, none⟩ = some (.int .i64 0) := he3.cell rfl
  show Leaves _ _ _ _ [] .returning w3
  unfold Leaves
  exact ⟨.tuple #[.agg #[.int .i64 x0, .slice A1 q1 c1, .slice A2 q2 c2, .slice A3 q3 c3, .int .i64 x4], .int .i64 0], by simp [results, Try.results40, go_sem, r0, r1, r2, r3, r4, rz], x0, A1, q1, c1, A2, q2, c2, A3, q3, c3, x4, rfl, hF, ha3⟩
set_option maxRecDepth 100000 in
set_option maxHeartbeats 1000000 in
theorem calm_Inc (p q : Addr) (w : World) :
    CallsD Try.prog 84 #[.pointer (some p), .pointer (some q)] .returning w fun e u' w' => e = .returned (.tuple #[]) ∧ u' = .returning ∧ w = w' := by
  refine callsD_of_wpS Try.func84 rfl fun c₀ cs hu => ?_
  apply wpS_seq
  apply wpS_region
  simp [wpOpsS, go_sem, recoverD, hu, Try.ntmps84, Exit.thenS]
  refine wpS_cond (t := false) (by simp [Act.eval, Array.replicate]) ?_
  simp only [Bool.false_eq_true, if_false]
  apply wpS_of_wp
  refine wp_skip ?_
  exact ⟨rfl, .returning, by cases c₀; cases hu; rfl, _, results_none rfl _ _ _, rfl, rfl, rfl⟩
set_option maxRecDepth 100000 in
set_option maxHeartbeats 4000000 in
theorem read_Inc (m : List UInt8) (w : World) (h : Bs w w.heap.size v m) (hp : Par (.pair .num (.list (.pair .num (.pair .num (.pair .num (.pair (.pair .num (.pair .num (.pair .num .num))) (.pair .num (.pair .num (.pair (.list .num) (.list .num)))))))))) m) (hl : m.length ≤ 100000000) :
    Calls Try.prog 41 #[v, .func (.func 37) #[] #[]] w fun e w' => ∃ (x0 : Int) (A1 : Option Addr) (q1 c1 : Nat), e = .returned (.tuple #[.agg #[.int .i64 x0, .slice A1 q1 c1], .int .i64 0]) ∧ EncP w' (fun k => w.heap.size ≤ k ∧ k < w'.heap.size) (.pair .num (.list (.pair .num (.pair .num (.pair .num (.pair (.pair .num (.pair .num (.pair .num .num))) (.pair .num (.pair .num (.pair (.list .num) (.list .num)))))))))) (fun k => (#[.int .i64 x0, .slice A1 q1 c1] : Array Value)[k]?) m ∧ Ab w w' := by
  have hmf : ∀ (fn : Fn) (first cap : Array Value) (w : World), (Instr.makeFunc fn first cap).run Try.prog w = .ok (.func fn first cap) w := fun _ _ _ _ => rfl
  have HH := Lib.hid h
  have HP := Lib.hid (And.intro hp hl)
  obtain ⟨A, c, rfl, -, -, -⟩ := id h
  clear h hp hl
  go_enter_defers Try.func41, Try.ntmps41
  go_wp2_with fail
  have ha : Ab w (((w.alloc (.cells #[.int .i64 0, .slice none 0 0] 29)).alloc (.cells #[.int .i64 0] 34)).alloc (.cells #[.bool true, .slice A m.length c] 130)) := (((Ab.refl w).alloc _).alloc _).alloc _
  have hcr : Cr (((w.alloc (.cells #[.int .i64 0, .slice none 0 0] 29)).alloc (.cells #[.int .i64 0] 34)).alloc (.cells #[.bool true, .slice A m.length c] 130)) (w.heap.size + 1 + 1) w.heap.size (.slice A m.length c) m :=
    ⟨Bk.new (by simp), HH.out.ab ha (Nat.le_refl _), by omega⟩
  have hk0 : Bk (((w.alloc (.cells #[.int .i64 0, .slice none 0 0] 29)).alloc (.cells #[.int .i64 0] 34)).alloc (.cells #[.bool true, .slice A m.length c] 130)) w.heap.size 29 #[.int .i64 0, .slice none 0 0] := ((Bk.made w _ _).alloc _).alloc _
  have hk1 : Bk (((w.alloc (.cells #[.int .i64 0, .slice none 0 0] 29)).alloc (.cells #[.int .i64 0] 34)).alloc (.cells #[.bool true, .slice A m.length c] 130)) (w.heap.size + 1) 34 #[.int .i64 0] := (Bk.new (by simp)).alloc _
  generalize ((w.alloc (.cells #[.int .i64 0, .slice none 0 0] 29)).alloc (.cells #[.int .i64 0] 34)).alloc (.cells #[.bool true, .slice A m.length c] 130) = w1 at *
  have HW1 := Lib.hid hcr.lt
  rw [← List.append_nil m] at hcr
  refine (inc_rd w.heap.size 0 29 #[.int .i64 0, .slice none 0 0] m [] w1 (w.heap.size + 1 + 1) w.heap.size _ HP.out.1 hcr hk0 (by omega) (Nat.le_refl _) (fun k hk => by rw [Nat.zero_add]; show (Zc (.pair .num (.list (.pair .num (.pair .num (.pair .num (.pair (.pair .num (.pair .num (.pair .num .num))) (.pair .num (.pair .num (.pair (.list .num) (.list .num))))))))))).toArray[k]? = _; rw [List.getElem?_toArray]) HP.out.2).mono ?_
  rintro e w2 ⟨rfl, v2, cs2, hc2, hb2, hs2, -, hm2, he2⟩
  obtain ⟨x0, A1, q1, c1, rfl⟩ := leaves_Inc hs2 he2
  have hk1 := hm2.bk hk1 (by omega)
  have ha2 := hm2.ab ha (fun k e => by omega)
  obtain ⟨A9, c9, hv9, -⟩ := id hc2.src
  have hv9' : v2 = .slice A9 0 c9 := hv9
  subst hv9'
  have hbb := hc2.bytes
  have y0 : w2.cell? ⟨w.heap.size, 0, none⟩ = some (.int .i64 x0) := hb2.cell rfl
  have f0 := hb2.free 0
  have y1 : w2.cell? ⟨w.heap.size, 1, none⟩ = some (.slice A1 q1 c1) := hb2.cell rfl
  have f1 := hb2.free 1
  have z0 : w2.cell? ⟨w.heap.size + 1, 0, none⟩ = some (.int .i64 0) := hk1.cell rfl
  have g0 := hk1.free 0
  have H2 := Lib.hid (And.intro hb2 (And.intro hk1 (And.intro ha2 (And.intro hm2 he2))))
  clear hc2 hb2 hk1 ha2 he2 hv9 hm2 hk0 hcr ha hs2
  go_wp2_with fail
  have hmq : Mv (· = w.heap.size) w2 ((w2.setCell ⟨w.heap.size, 0, none⟩ (.int .i64 x0)).setCell ⟨w.heap.size, 1, none⟩ (.slice A1 q1 c1)) := (((Mv.refl _ w2).set (S := (· = w.heap.size)) (p := ⟨w.heap.size, 0, none⟩) rfl (.int .i64 x0)).set (S := (· = w.heap.size)) (p := ⟨w.heap.size, 1, none⟩) rfl (.slice A1 q1 c1))
  have hm3 : Mv (fun k => k = w.heap.size ∨ k = w.heap.size + 1) w2 (((w2.setCell ⟨w.heap.size, 0, none⟩ (.int .i64 x0)).setCell ⟨w.heap.size, 1, none⟩ (.slice A1 q1 c1)).setCell ⟨w.heap.size + 1, 0, none⟩ (.int .i64 0)) := (hmq.mono (fun _ _ e => .inl e)).set (p := ⟨w.heap.size + 1, 0, none⟩) (.inr rfl) _
  have hb3 : Bk (((w2.setCell ⟨w.heap.size, 0, none⟩ (.int .i64 x0)).setCell ⟨w.heap.size, 1, none⟩ (.slice A1 q1 c1)).setCell ⟨w.heap.size + 1, 0, none⟩ (.int .i64 0)) w.heap.size 29 #[.int .i64 x0, .slice A1 q1 c1] := (((H2.out.1.store 0 (.int .i64 x0)).store 1 (.slice A1 q1 c1)).far (p := ⟨w.heap.size + 1, 0, none⟩) (by simp) (.int .i64 0))
  have he3 : Bk (((w2.setCell ⟨w.heap.size, 0, none⟩ (.int .i64 x0)).setCell ⟨w.heap.size, 1, none⟩ (.slice A1 q1 c1)).setCell ⟨w.heap.size + 1, 0, none⟩ (.int .i64 0)) (w.heap.size + 1) 34 #[.int .i64 0] := (hmq.bk H2.out.2.1 (by omega)).store 0 (.int .i64 0)
  obtain ⟨w3, hw3⟩ : ∃ w3, (((w2.setCell ⟨w.heap.size, 0, none⟩ (.int .i64 x0)).setCell ⟨w.heap.size, 1, none⟩ (.slice A1 q1 c1)).setCell ⟨w.heap.size + 1, 0, none⟩ (.int .i64 0)) = w3 := ⟨_, rfl⟩
  rw [hw3] at hm3 hb3 he3 ⊢
  have ha3 := hm3.ab H2.out.2.2.1 (fun k e => by omega)
  have hF : EncP w3 (fun k => w.heap.size ≤ k ∧ k < w3.heap.size) (.pair .num (.list (.pair .num (.pair .num (.pair .num (.pair (.pair .num (.pair .num (.pair .num .num))) (.pair .num (.pair .num (.pair (.list .num) (.list .num)))))))))) (fun k => (#[.int .i64 x0, .slice A1 q1 c1] : Array Value)[k]?) m :=
    (EncP.congr (F' := fun k => w.heap.size ≤ k ∧ k < w3.heap.size) (fun k hk => ⟨⟨by have := HW1.out; omega, by have := hm3.size; omega⟩, fun o' => World.cell?_of_block (a := ⟨k, o', none⟩) (hm3.block k hk.2 (fun e => by have := HW1.out; omega))⟩) _ _ _ _ (fun k _ => by rw [Nat.zero_add]) H2.out.2.2.2.2)
  refine leaves_cons (f := 84) (args := #[.pointer (some ⟨w.heap.size, 0, none⟩), .pointer (some ⟨w.heap.size + 1, 0, none⟩)]) (by simp) (by simp [go_sem]) ?_
  refine (calm_Inc _ _ w3).mono ?_
  rintro e u' w4 ⟨rfl, rfl, rfl⟩
  have r0 : w3.cell? ⟨w.heap.size, 0, none⟩ = some (.int .i64 x0) := hb3.cell rfl
  have r1 : w3.cell? ⟨w.heap.size, 1, none⟩ = some (.slice A1 q1 c1) := hb3.cell rfl
  have rz : w3.cell? ⟨w.heap.size + 1, 0, none⟩ = some (.int .i64 0) := he3.cell rfl
  show Leaves _ _ _ _ [] .returning w3
  unfold Leaves
  exact ⟨.tuple #[.agg #[.int .i64 x0, .slice A1 q1 c1], .int .i64 0], by simp [results, Try.results41, go_sem, r0, r1, rz], x0, A1, q1, c1, rfl, hF, ha3⟩
set_option maxRecDepth 100000 in
set_option maxHeartbeats 1000000 in
theorem calm_State (p q : Addr) (w : World) :
    CallsD Try.prog 105 #[.pointer (some p), .pointer (some q)] .returning w fun e u' w' => e = .returned (.tuple #[]) ∧ u' = .returning ∧ w = w' := by
  refine callsD_of_wpS Try.func105 rfl fun c₀ cs hu => ?_
  apply wpS_seq
  apply wpS_region
  simp [wpOpsS, go_sem, recoverD, hu, Try.ntmps105, Exit.thenS]
  refine wpS_cond (t := false) (by simp [Act.eval, Array.replicate]) ?_
  simp only [Bool.false_eq_true, if_false]
  apply wpS_of_wp
  refine wp_skip ?_
  exact ⟨rfl, .returning, by cases c₀; cases hu; rfl, _, results_none rfl _ _ _, rfl, rfl, rfl⟩
set_option maxRecDepth 100000 in
set_option maxHeartbeats 4000000 in
theorem read_State (m : List UInt8) (w : World) (h : Bs w w.heap.size v m) (hp : Par (.pair .num (.pair (.pair .num .num) (.pair (.list (.pair (.pair .num .num) (.pair .bool (.pair .num (.pair .text (.pair .num .num)))))) (.pair (.list (.pair .num (.pair .num (.pair .num (.pair .num .num))))) (.list (.pair .text (.pair (.pair .num .num) .word))))))) m) (hl : m.length ≤ 100000000) :
    Calls Try.prog 53 #[v, .func (.func 44) #[] #[]] w fun e w' => ∃ (x0 : Int) (x1 : Int) (x2 : Int) (A3 : Option Addr) (q3 c3 : Nat) (A4 : Option Addr) (q4 c4 : Nat) (A5 : Option Addr) (q5 c5 : Nat), e = .returned (.tuple #[.agg #[.int .i64 x0, .int .i64 x1, .int .i64 x2, .slice A3 q3 c3, .slice A4 q4 c4, .slice A5 q5 c5], .int .i64 0]) ∧ EncP w' (fun k => w.heap.size ≤ k ∧ k < w'.heap.size) (.pair .num (.pair (.pair .num .num) (.pair (.list (.pair (.pair .num .num) (.pair .bool (.pair .num (.pair .text (.pair .num .num)))))) (.pair (.list (.pair .num (.pair .num (.pair .num (.pair .num .num))))) (.list (.pair .text (.pair (.pair .num .num) .word))))))) (fun k => (#[.int .i64 x0, .int .i64 x1, .int .i64 x2, .slice A3 q3 c3, .slice A4 q4 c4, .slice A5 q5 c5] : Array Value)[k]?) m ∧ Ab w w' := by
  have hmf : ∀ (fn : Fn) (first cap : Array Value) (w : World), (Instr.makeFunc fn first cap).run Try.prog w = .ok (.func fn first cap) w := fun _ _ _ _ => rfl
  have HH := Lib.hid h
  have HP := Lib.hid (And.intro hp hl)
  obtain ⟨A, c, rfl, -, -, -⟩ := id h
  clear h hp hl
  go_enter_defers Try.func53, Try.ntmps53
  go_wp2_with fail
  have ha : Ab w (((w.alloc (.cells #[.int .i64 0, .int .i64 0, .int .i64 0, .slice none 0 0, .slice none 0 0, .slice none 0 0] 48)).alloc (.cells #[.int .i64 0] 34)).alloc (.cells #[.bool true, .slice A m.length c] 130)) := (((Ab.refl w).alloc _).alloc _).alloc _
  have hcr : Cr (((w.alloc (.cells #[.int .i64 0, .int .i64 0, .int .i64 0, .slice none 0 0, .slice none 0 0, .slice none 0 0] 48)).alloc (.cells #[.int .i64 0] 34)).alloc (.cells #[.bool true, .slice A m.length c] 130)) (w.heap.size + 1 + 1) w.heap.size (.slice A m.length c) m :=
    ⟨Bk.new (by simp), HH.out.ab ha (Nat.le_refl _), by omega⟩
  have hk0 : Bk (((w.alloc (.cells #[.int .i64 0, .int .i64 0, .int .i64 0, .slice none 0 0, .slice none 0 0, .slice none 0 0] 48)).alloc (.cells #[.int .i64 0] 34)).alloc (.cells #[.bool true, .slice A m.length c] 130)) w.heap.size 48 #[.int .i64 0, .int .i64 0, .int .i64 0, .slice none 0 0, .slice none 0 0, .slice none 0 0] := ((Bk.made w _ _).alloc _).alloc _
  have hk1 : Bk (((w.alloc (.cells #[.int .i64 0, .int .i64 0, .int .i64 0, .slice none 0 0, .slice none 0 0, .slice none 0 0] 48)).alloc (.cells #[.int .i64 0] 34)).alloc (.cells #[.bool true, .slice A m.length c] 130)) (w.heap.size + 1) 34 #[.int .i64 0] := (Bk.new (by simp)).alloc _
  generalize ((w.alloc (.cells #[.int .i64 0, .int .i64 0, .int .i64 0, .slice none 0 0, .slice none 0 0, .slice none 0 0] 48)).alloc (.cells #[.int .i64 0] 34)).alloc (.cells #[.bool true, .slice A m.length c] 130) = w1 at *
  have HW1 := Lib.hid hcr.lt
  rw [← List.append_nil m] at hcr
  refine (state_rd w.heap.size 0 48 #[.int .i64 0, .int .i64 0, .int .i64 0, .slice none 0 0, .slice none 0 0, .slice none 0 0] m [] w1 (w.heap.size + 1 + 1) w.heap.size _ HP.out.1 hcr hk0 (by omega) (Nat.le_refl _) (fun k hk => by rw [Nat.zero_add]; show (Zc (.pair .num (.pair (.pair .num .num) (.pair (.list (.pair (.pair .num .num) (.pair .bool (.pair .num (.pair .text (.pair .num .num)))))) (.pair (.list (.pair .num (.pair .num (.pair .num (.pair .num .num))))) (.list (.pair .text (.pair (.pair .num .num) .word)))))))).toArray[k]? = _; rw [List.getElem?_toArray]) HP.out.2).mono ?_
  rintro e w2 ⟨rfl, v2, cs2, hc2, hb2, hs2, -, hm2, he2⟩
  obtain ⟨x0, x1, x2, A3, q3, c3, A4, q4, c4, A5, q5, c5, rfl⟩ := leaves_State hs2 he2
  have hk1 := hm2.bk hk1 (by omega)
  have ha2 := hm2.ab ha (fun k e => by omega)
  obtain ⟨A9, c9, hv9, -⟩ := id hc2.src
  have hv9' : v2 = .slice A9 0 c9 := hv9
  subst hv9'
  have hbb := hc2.bytes
  have y0 : w2.cell? ⟨w.heap.size, 0, none⟩ = some (.int .i64 x0) := hb2.cell rfl
  have f0 := hb2.free 0
  have y1 : w2.cell? ⟨w.heap.size, 1, none⟩ = some (.int .i64 x1) := hb2.cell rfl
  have f1 := hb2.free 1
  have y2 : w2.cell? ⟨w.heap.size, 2, none⟩ = some (.int .i64 x2) := hb2.cell rfl
  have f2 := hb2.free 2
  have y3 : w2.cell? ⟨w.heap.size, 3, none⟩ = some (.slice A3 q3 c3) := hb2.cell rfl
  have f3 := hb2.free 3
  have y4 : w2.cell? ⟨w.heap.size, 4, none⟩ = some (.slice A4 q4 c4) := hb2.cell rfl
  have f4 := hb2.free 4
  have y5 : w2.cell? ⟨w.heap.size, 5, none⟩ = some (.slice A5 q5 c5) := hb2.cell rfl
  have f5 := hb2.free 5
  have z0 : w2.cell? ⟨w.heap.size + 1, 0, none⟩ = some (.int .i64 0) := hk1.cell rfl
  have g0 := hk1.free 0
  have H2 := Lib.hid (And.intro hb2 (And.intro hk1 (And.intro ha2 (And.intro hm2 he2))))
  clear hc2 hb2 hk1 ha2 he2 hv9 hm2 hk0 hcr ha hs2
  go_wp2_with fail
  have hmq : Mv (· = w.heap.size) w2 ((((((w2.setCell ⟨w.heap.size, 0, none⟩ (.int .i64 x0)).setCell ⟨w.heap.size, 1, none⟩ (.int .i64 x1)).setCell ⟨w.heap.size, 2, none⟩ (.int .i64 x2)).setCell ⟨w.heap.size, 3, none⟩ (.slice A3 q3 c3)).setCell ⟨w.heap.size, 4, none⟩ (.slice A4 q4 c4)).setCell ⟨w.heap.size, 5, none⟩ (.slice A5 q5 c5)) := (((((((Mv.refl _ w2).set (S := (· = w.heap.size)) (p := ⟨w.heap.size, 0, none⟩) rfl (.int .i64 x0)).set (S := (· = w.heap.size)) (p := ⟨w.heap.size, 1, none⟩) rfl (.int .i64 x1)).set (S := (· = w.heap.size)) (p := ⟨w.heap.size, 2, none⟩) rfl (.int .i64 x2)).set (S := (· = w.heap.size)) (p := ⟨w.heap.size, 3, none⟩) rfl (.slice A3 q3 c3)).set (S := (· = w.heap.size)) (p := ⟨w.heap.size, 4, none⟩) rfl (.slice A4 q4 c4)).set (S := (· = w.heap.size)) (p := ⟨w.heap.size, 5, none⟩) rfl (.slice A5 q5 c5))
  have hm3 : Mv (fun k => k = w.heap.size ∨ k = w.heap.size + 1) w2 (((((((w2.setCell ⟨w.heap.size, 0, none⟩ (.int .i64 x0)).setCell ⟨w.heap.size, 1, none⟩ (.int .i64 x1)).setCell ⟨w.heap.size, 2, none⟩ (.int .i64 x2)).setCell ⟨w.heap.size, 3, none⟩ (.slice A3 q3 c3)).setCell ⟨w.heap.size, 4, none⟩ (.slice A4 q4 c4)).setCell ⟨w.heap.size, 5, none⟩ (.slice A5 q5 c5)).setCell ⟨w.heap.size + 1, 0, none⟩ (.int .i64 0)) := (hmq.mono (fun _ _ e => .inl e)).set (p := ⟨w.heap.size + 1, 0, none⟩) (.inr rfl) _
  have hb3 : Bk (((((((w2.setCell ⟨w.heap.size, 0, none⟩ (.int .i64 x0)).setCell ⟨w.heap.size, 1, none⟩ (.int .i64 x1)).setCell ⟨w.heap.size, 2, none⟩ (.int .i64 x2)).setCell ⟨w.heap.size, 3, none⟩ (.slice A3 q3 c3)).setCell ⟨w.heap.size, 4, none⟩ (.slice A4 q4 c4)).setCell ⟨w.heap.size, 5, none⟩ (.slice A5 q5 c5)).setCell ⟨w.heap.size + 1, 0, none⟩ (.int .i64 0)) w.heap.size 48 #[.int .i64 x0, .int .i64 x1, .int .i64 x2, .slice A3 q3 c3, .slice A4 q4 c4, .slice A5 q5 c5] := (((((((H2.out.1.store 0 (.int .i64 x0)).store 1 (.int .i64 x1)).store 2 (.int .i64 x2)).store 3 (.slice A3 q3 c3)).store 4 (.slice A4 q4 c4)).store 5 (.slice A5 q5 c5)).far (p := ⟨w.heap.size + 1, 0, none⟩) (by simp) (.int .i64 0))
  have he3 : Bk (((((((w2.setCell ⟨w.heap.size, 0, none⟩ (.int .i64 x0)).setCell ⟨w.heap.size, 1, none⟩ (.int .i64 x1)).setCell ⟨w.heap.size, 2, none⟩ (.int .i64 x2)).setCell ⟨w.heap.size, 3, none⟩ (.slice A3 q3 c3)).setCell ⟨w.heap.size, 4, none⟩ (.slice A4 q4 c4)).setCell ⟨w.heap.size, 5, none⟩ (.slice A5 q5 c5)).setCell ⟨w.heap.size + 1, 0, none⟩ (.int .i64 0)) (w.heap.size + 1) 34 #[.int .i64 0] := (hmq.bk H2.out.2.1 (by omega)).store 0 (.int .i64 0)
  obtain ⟨w3, hw3⟩ : ∃ w3, (((((((w2.setCell ⟨w.heap.size, 0, none⟩ (.int .i64 x0)).setCell ⟨w.heap.size, 1, none⟩ (.int .i64 x1)).setCell ⟨w.heap.size, 2, none⟩ (.int .i64 x2)).setCell ⟨w.heap.size, 3, none⟩ (.slice A3 q3 c3)).setCell ⟨w.heap.size, 4, none⟩ (.slice A4 q4 c4)).setCell ⟨w.heap.size, 5, none⟩ (.slice A5 q5 c5)).setCell ⟨w.heap.size + 1, 0, none⟩ (.int .i64 0)) = w3 := ⟨_, rfl⟩
  rw [hw3] at hm3 hb3 he3 ⊢
  have ha3 := hm3.ab H2.out.2.2.1 (fun k e => by omega)
  have hF : EncP w3 (fun k => w.heap.size ≤ k ∧ k < w3.heap.size) (.pair .num (.pair (.pair .num .num) (.pair (.list (.pair (.pair .num .num) (.pair .bool (.pair .num (.pair .text (.pair .num .num)))))) (.pair (.list (.pair .num (.pair .num (.pair .num (.pair .num .num))))) (.list (.pair .text (.pair (.pair .num .num) .word))))))) (fun k => (#[.int .i64 x0, .int .i64 x1, .int .i64 x2, .slice A3 q3 c3, .slice A4 q4 c4, .slice A5 q5 c5] : Array Value)[k]?) m :=
    (EncP.congr (F' := fun k => w.heap.size ≤ k ∧ k < w3.heap.size) (fun k hk => ⟨⟨by have := HW1.out; omega, by have := hm3.size; omega⟩, fun o' => World.cell?_of_block (a := ⟨k, o', none⟩) (hm3.block k hk.2 (fun e => by have := HW1.out; omega))⟩) _ _ _ _ (fun k _ => by rw [Nat.zero_add]) H2.out.2.2.2.2)
  refine leaves_cons (f := 105) (args := #[.pointer (some ⟨w.heap.size, 0, none⟩), .pointer (some ⟨w.heap.size + 1, 0, none⟩)]) (by simp) (by simp [go_sem]) ?_
  refine (calm_State _ _ w3).mono ?_
  rintro e u' w4 ⟨rfl, rfl, rfl⟩
  have r0 : w3.cell? ⟨w.heap.size, 0, none⟩ = some (.int .i64 x0) := hb3.cell rfl
  have r1 : w3.cell? ⟨w.heap.size, 1, none⟩ = some (.int .i64 x1) := hb3.cell rfl
  have r2 : w3.cell? ⟨w.heap.size, 2, none⟩ = some (.int .i64 x2) := hb3.cell rfl
  have r3 : w3.cell? ⟨w.heap.size, 3, none⟩ = some (.slice A3 q3 c3) := hb3.cell rfl
  have r4 : w3.cell? ⟨w.heap.size, 4, none⟩ = some (.slice A4 q4 c4) := hb3.cell rfl
  have r5 : w3.cell? ⟨w.heap.size, 5, none⟩ = some (.slice A5 q5 c5) := hb3.cell rfl
  have rz : w3.cell? ⟨w.heap.size + 1, 0, none⟩ = some (.int .i64 0) := he3.cell rfl
  show Leaves _ _ _ _ [] .returning w3
  unfold Leaves
  exact ⟨.tuple #[.agg #[.int .i64 x0, .int .i64 x1, .int .i64 x2, .slice A3 q3 c3, .slice A4 q4 c4, .slice A5 q5 c5], .int .i64 0], by simp [results, Try.results53, go_sem, r0, r1, r2, r3, r4, r5, rz], x0, x1, x2, A3, q3, c3, A4, q4, c4, A5, q5, c5, rfl, hF, ha3⟩
set_option maxRecDepth 100000 in
set_option maxHeartbeats 1000000 in
theorem calm_Tx (p q : Addr) (w : World) :
    CallsD Try.prog 106 #[.pointer (some p), .pointer (some q)] .returning w fun e u' w' => e = .returned (.tuple #[]) ∧ u' = .returning ∧ w = w' := by
  refine callsD_of_wpS Try.func106 rfl fun c₀ cs hu => ?_
  apply wpS_seq
  apply wpS_region
  simp [wpOpsS, go_sem, recoverD, hu, Try.ntmps106, Exit.thenS]
  refine wpS_cond (t := false) (by simp [Act.eval, Array.replicate]) ?_
  simp only [Bool.false_eq_true, if_false]
  apply wpS_of_wp
  refine wp_skip ?_
  exact ⟨rfl, .returning, by cases c₀; cases hu; rfl, _, results_none rfl _ _ _, rfl, rfl, rfl⟩
set_option maxRecDepth 100000 in
set_option maxHeartbeats 4000000 in
theorem read_Tx (m : List UInt8) (w : World) (h : Bs w w.heap.size v m) (hp : Par (.list (.pair .num (.pair (.pair .num .num) (.pair .text (.pair .num (.pair .num (.pair .text .data))))))) m) (hl : m.length ≤ 100000000) :
    Calls Try.prog 54 #[v, .func (.func 46) #[] #[]] w fun e w' => ∃ (A0 : Option Addr) (q0 c0 : Nat), e = .returned (.tuple #[.agg #[.slice A0 q0 c0], .int .i64 0]) ∧ EncP w' (fun k => w.heap.size ≤ k ∧ k < w'.heap.size) (.list (.pair .num (.pair (.pair .num .num) (.pair .text (.pair .num (.pair .num (.pair .text .data))))))) (fun k => (#[.slice A0 q0 c0] : Array Value)[k]?) m ∧ Ab w w' := by
  have hmf : ∀ (fn : Fn) (first cap : Array Value) (w : World), (Instr.makeFunc fn first cap).run Try.prog w = .ok (.func fn first cap) w := fun _ _ _ _ => rfl
  have HH := Lib.hid h
  have HP := Lib.hid (And.intro hp hl)
  obtain ⟨A, c, rfl, -, -, -⟩ := id h
  clear h hp hl
  go_enter_defers Try.func54, Try.ntmps54
  go_wp2_with fail
  have ha : Ab w (((w.alloc (.cells #[.slice none 0 0] 51)).alloc (.cells #[.int .i64 0] 34)).alloc (.cells #[.bool true, .slice A m.length c] 130)) := (((Ab.refl w).alloc _).alloc _).alloc _
  have hcr : Cr (((w.alloc (.cells #[.slice none 0 0] 51)).alloc (.cells #[.int .i64 0] 34)).alloc (.cells #[.bool true, .slice A m.length c] 130)) (w.heap.size + 1 + 1) w.heap.size (.slice A m.length c) m :=
    ⟨Bk.new (by simp), HH.out.ab ha (Nat.le_refl _), by omega⟩
  have hk0 : Bk (((w.alloc (.cells #[.slice none 0 0] 51)).alloc (.cells #[.int .i64 0] 34)).alloc (.cells #[.bool true, .slice A m.length c] 130)) w.heap.size 51 #[.slice none 0 0] := ((Bk.made w _ _).alloc _).alloc _
  have hk1 : Bk (((w.alloc (.cells #[.slice none 0 0] 51)).alloc (.cells #[.int .i64 0] 34)).alloc (.cells #[.bool true, .slice A m.length c] 130)) (w.heap.size + 1) 34 #[.int .i64 0] := (Bk.new (by simp)).alloc _
  generalize ((w.alloc (.cells #[.slice none 0 0] 51)).alloc (.cells #[.int .i64 0] 34)).alloc (.cells #[.bool true, .slice A m.length c] 130) = w1 at *
  have HW1 := Lib.hid hcr.lt
  rw [← List.append_nil m] at hcr
  refine (tx_rd w.heap.size 0 51 #[.slice none 0 0] m [] w1 (w.heap.size + 1 + 1) w.heap.size _ HP.out.1 hcr hk0 (by omega) (Nat.le_refl _) (fun k hk => by rw [Nat.zero_add]; show (Zc (.list (.pair .num (.pair (.pair .num .num) (.pair .text (.pair .num (.pair .num (.pair .text .data)))))))).toArray[k]? = _; rw [List.getElem?_toArray]) HP.out.2).mono ?_
  rintro e w2 ⟨rfl, v2, cs2, hc2, hb2, hs2, -, hm2, he2⟩
  obtain ⟨A0, q0, c0, rfl⟩ := leaves_Tx hs2 he2
  have hk1 := hm2.bk hk1 (by omega)
  have ha2 := hm2.ab ha (fun k e => by omega)
  obtain ⟨A9, c9, hv9, -⟩ := id hc2.src
  have hv9' : v2 = .slice A9 0 c9 := hv9
  subst hv9'
  have hbb := hc2.bytes
  have y0 : w2.cell? ⟨w.heap.size, 0, none⟩ = some (.slice A0 q0 c0) := hb2.cell rfl
  have f0 := hb2.free 0
  have z0 : w2.cell? ⟨w.heap.size + 1, 0, none⟩ = some (.int .i64 0) := hk1.cell rfl
  have g0 := hk1.free 0
  have H2 := Lib.hid (And.intro hb2 (And.intro hk1 (And.intro ha2 (And.intro hm2 he2))))
  clear hc2 hb2 hk1 ha2 he2 hv9 hm2 hk0 hcr ha hs2
  go_wp2_with fail
  have hmq : Mv (· = w.heap.size) w2 (w2.setCell ⟨w.heap.size, 0, none⟩ (.slice A0 q0 c0)) := ((Mv.refl _ w2).set (S := (· = w.heap.size)) (p := ⟨w.heap.size, 0, none⟩) rfl (.slice A0 q0 c0))
  have hm3 : Mv (fun k => k = w.heap.size ∨ k = w.heap.size + 1) w2 ((w2.setCell ⟨w.heap.size, 0, none⟩ (.slice A0 q0 c0)).setCell ⟨w.heap.size + 1, 0, none⟩ (.int .i64 0)) := (hmq.mono (fun _ _ e => .inl e)).set (p := ⟨w.heap.size + 1, 0, none⟩) (.inr rfl) _
  have hb3 : Bk ((w2.setCell ⟨w.heap.size, 0, none⟩ (.slice A0 q0 c0)).setCell ⟨w.heap.size + 1, 0, none⟩ (.int .i64 0)) w.heap.size 51 #[.slice A0 q0 c0] := ((H2.out.1.store 0 (.slice A0 q0 c0)).far (p := ⟨w.heap.size + 1, 0, none⟩) (by simp) (.int .i64 0))
  have he3 : Bk ((w2.setCell ⟨w.heap.size, 0, none⟩ (.slice A0 q0 c0)).setCell ⟨w.heap.size + 1, 0, none⟩ (.int .i64 0)) (w.heap.size + 1) 34 #[.int .i64 0] := (hmq.bk H2.out.2.1 (by omega)).store 0 (.int .i64 0)
  obtain ⟨w3, hw3⟩ : ∃ w3, ((w2.setCell ⟨w.heap.size, 0, none⟩ (.slice A0 q0 c0)).setCell ⟨w.heap.size + 1, 0, none⟩ (.int .i64 0)) = w3 := ⟨_, rfl⟩
  rw [hw3] at hm3 hb3 he3 ⊢
  have ha3 := hm3.ab H2.out.2.2.1 (fun k e => by omega)
  have hF : EncP w3 (fun k => w.heap.size ≤ k ∧ k < w3.heap.size) (.list (.pair .num (.pair (.pair .num .num) (.pair .text (.pair .num (.pair .num (.pair .text .data))))))) (fun k => (#[.slice A0 q0 c0] : Array Value)[k]?) m :=
    (EncP.congr (F' := fun k => w.heap.size ≤ k ∧ k < w3.heap.size) (fun k hk => ⟨⟨by have := HW1.out; omega, by have := hm3.size; omega⟩, fun o' => World.cell?_of_block (a := ⟨k, o', none⟩) (hm3.block k hk.2 (fun e => by have := HW1.out; omega))⟩) _ _ _ _ (fun k _ => by rw [Nat.zero_add]) H2.out.2.2.2.2)
  refine leaves_cons (f := 106) (args := #[.pointer (some ⟨w.heap.size, 0, none⟩), .pointer (some ⟨w.heap.size + 1, 0, none⟩)]) (by simp) (by simp [go_sem]) ?_
  refine (calm_Tx _ _ w3).mono ?_
  rintro e u' w4 ⟨rfl, rfl, rfl⟩
  have r0 : w3.cell? ⟨w.heap.size, 0, none⟩ = some (.slice A0 q0 c0) := hb3.cell rfl
  have rz : w3.cell? ⟨w.heap.size + 1, 0, none⟩ = some (.int .i64 0) := he3.cell rfl
  show Leaves _ _ _ _ [] .returning w3
  unfold Leaves
  exact ⟨.tuple #[.agg #[.slice A0 q0 c0], .int .i64 0], by simp [results, Try.results54, go_sem, r0, rz], A0, q0, c0, rfl, hF, ha3⟩
set_option maxRecDepth 100000 in
set_option maxHeartbeats 1000000 in
theorem calm_Strings (p q : Addr) (w : World) :
    CallsD Try.prog 107 #[.pointer (some p), .pointer (some q)] .returning w fun e u' w' => e = .returned (.tuple #[]) ∧ u' = .returning ∧ w = w' := by
  refine callsD_of_wpS Try.func107 rfl fun c₀ cs hu => ?_
  apply wpS_seq
  apply wpS_region
  simp [wpOpsS, go_sem, recoverD, hu, Try.ntmps107, Exit.thenS]
  refine wpS_cond (t := false) (by simp [Act.eval, Array.replicate]) ?_
  simp only [Bool.false_eq_true, if_false]
  apply wpS_of_wp
  refine wp_skip ?_
  exact ⟨rfl, .returning, by cases c₀; cases hu; rfl, _, results_none rfl _ _ _, rfl, rfl, rfl⟩
set_option maxRecDepth 100000 in
set_option maxHeartbeats 4000000 in
theorem read_Strings (m : List UInt8) (w : World) (h : Bs w w.heap.size v m) (hp : Par (.list .text) m) (hl : m.length ≤ 100000000) :
    Calls Try.prog 55 #[v, .func (.func 48) #[] #[]] w fun e w' => ∃ (A0 : Option Addr) (q0 c0 : Nat), e = .returned (.tuple #[.slice A0 q0 c0, .int .i64 0]) ∧ EncP w' (fun k => w.heap.size ≤ k ∧ k < w'.heap.size) (.list .text) (fun k => (#[.slice A0 q0 c0] : Array Value)[k]?) m ∧ Ab w w' := by
  have hmf : ∀ (fn : Fn) (first cap : Array Value) (w : World), (Instr.makeFunc fn first cap).run Try.prog w = .ok (.func fn first cap) w := fun _ _ _ _ => rfl
  have HH := Lib.hid h
  have HP := Lib.hid (And.intro hp hl)
  obtain ⟨A, c, rfl, -, -, -⟩ := id h
  clear h hp hl
  go_enter_defers Try.func55, Try.ntmps55
  go_wp2_with fail
  have ha : Ab w (((w.alloc (.cells #[.slice none 0 0] 52)).alloc (.cells #[.int .i64 0] 34)).alloc (.cells #[.bool true, .slice A m.length c] 130)) := (((Ab.refl w).alloc _).alloc _).alloc _
  have hcr : Cr (((w.alloc (.cells #[.slice none 0 0] 52)).alloc (.cells #[.int .i64 0] 34)).alloc (.cells #[.bool true, .slice A m.length c] 130)) (w.heap.size + 1 + 1) w.heap.size (.slice A m.length c) m :=
    ⟨Bk.new (by simp), HH.out.ab ha (Nat.le_refl _), by omega⟩
  have hk0 : Bk (((w.alloc (.cells #[.slice none 0 0] 52)).alloc (.cells #[.int .i64 0] 34)).alloc (.cells #[.bool true, .slice A m.length c] 130)) w.heap.size 52 #[.slice none 0 0] := ((Bk.made w _ _).alloc _).alloc _
  have hk1 : Bk (((w.alloc (.cells #[.slice none 0 0] 52)).alloc (.cells #[.int .i64 0] 34)).alloc (.cells #[.bool true, .slice A m.length c] 130)) (w.heap.size + 1) 34 #[.int .i64 0] := (Bk.new (by simp)).alloc _
  generalize ((w.alloc (.cells #[.slice none 0 0] 52)).alloc (.cells #[.int .i64 0] 34)).alloc (.cells #[.bool true, .slice A m.length c] 130) = w1 at *
  have HW1 := Lib.hid hcr.lt
  rw [← List.append_nil m] at hcr
  refine (texts_rd w.heap.size 0 52 #[.slice none 0 0] m [] w1 (w.heap.size + 1 + 1) w.heap.size _ HP.out.1 hcr hk0 (by omega) (Nat.le_refl _) (fun k hk => by rw [Nat.zero_add]; show (Zc (.list .text)).toArray[k]? = _; rw [List.getElem?_toArray]) HP.out.2).mono ?_
  rintro e w2 ⟨rfl, v2, cs2, hc2, hb2, hs2, -, hm2, he2⟩
  obtain ⟨A0, q0, c0, rfl⟩ := leaves_Strings hs2 he2
  have hk1 := hm2.bk hk1 (by omega)
  have ha2 := hm2.ab ha (fun k e => by omega)
  obtain ⟨A9, c9, hv9, -⟩ := id hc2.src
  have hv9' : v2 = .slice A9 0 c9 := hv9
  subst hv9'
  have hbb := hc2.bytes
  have y0 : w2.cell? ⟨w.heap.size, 0, none⟩ = some (.slice A0 q0 c0) := hb2.cell rfl
  have f0 := hb2.free 0
  have z0 : w2.cell? ⟨w.heap.size + 1, 0, none⟩ = some (.int .i64 0) := hk1.cell rfl
  have g0 := hk1.free 0
  have H2 := Lib.hid (And.intro hb2 (And.intro hk1 (And.intro ha2 (And.intro hm2 he2))))
  clear hc2 hb2 hk1 ha2 he2 hv9 hm2 hk0 hcr ha hs2
  go_wp2_with fail
  have hmq : Mv (· = w.heap.size) w2 (w2.setCell ⟨w.heap.size, 0, none⟩ (.slice A0 q0 c0)) := ((Mv.refl _ w2).set (S := (· = w.heap.size)) (p := ⟨w.heap.size, 0, none⟩) rfl (.slice A0 q0 c0))
  have hm3 : Mv (fun k => k = w.heap.size ∨ k = w.heap.size + 1) w2 ((w2.setCell ⟨w.heap.size, 0, none⟩ (.slice A0 q0 c0)).setCell ⟨w.heap.size + 1, 0, none⟩ (.int .i64 0)) := (hmq.mono (fun _ _ e => .inl e)).set (p := ⟨w.heap.size + 1, 0, none⟩) (.inr rfl) _
  have hb3 : Bk ((w2.setCell ⟨w.heap.size, 0, none⟩ (.slice A0 q0 c0)).setCell ⟨w.heap.size + 1, 0, none⟩ (.int .i64 0)) w.heap.size 52 #[.slice A0 q0 c0] := ((H2.out.1.store 0 (.slice A0 q0 c0)).far (p := ⟨w.heap.size + 1, 0, none⟩) (by simp) (.int .i64 0))
  have he3 : Bk ((w2.setCell ⟨w.heap.size, 0, none⟩ (.slice A0 q0 c0)).setCell ⟨w.heap.size + 1, 0, none⟩ (.int .i64 0)) (w.heap.size + 1) 34 #[.int .i64 0] := (hmq.bk H2.out.2.1 (by omega)).store 0 (.int .i64 0)
  obtain ⟨w3, hw3⟩ : ∃ w3, ((w2.setCell ⟨w.heap.size, 0, none⟩ (.slice A0 q0 c0)).setCell ⟨w.heap.size + 1, 0, none⟩ (.int .i64 0)) = w3 := ⟨_, rfl⟩
  rw [hw3] at hm3 hb3 he3 ⊢
  have ha3 := hm3.ab H2.out.2.2.1 (fun k e => by omega)
  have hF : EncP w3 (fun k => w.heap.size ≤ k ∧ k < w3.heap.size) (.list .text) (fun k => (#[.slice A0 q0 c0] : Array Value)[k]?) m :=
    (EncP.congr (F' := fun k => w.heap.size ≤ k ∧ k < w3.heap.size) (fun k hk => ⟨⟨by have := HW1.out; omega, by have := hm3.size; omega⟩, fun o' => World.cell?_of_block (a := ⟨k, o', none⟩) (hm3.block k hk.2 (fun e => by have := HW1.out; omega))⟩) _ _ _ _ (fun k _ => by rw [Nat.zero_add]) H2.out.2.2.2.2)
  refine leaves_cons (f := 107) (args := #[.pointer (some ⟨w.heap.size, 0, none⟩), .pointer (some ⟨w.heap.size + 1, 0, none⟩)]) (by simp) (by simp [go_sem]) ?_
  refine (calm_Strings _ _ w3).mono ?_
  rintro e u' w4 ⟨rfl, rfl, rfl⟩
  have r0 : w3.cell? ⟨w.heap.size, 0, none⟩ = some (.slice A0 q0 c0) := hb3.cell rfl
  have rz : w3.cell? ⟨w.heap.size + 1, 0, none⟩ = some (.int .i64 0) := he3.cell rfl
  show Leaves _ _ _ _ [] .returning w3
  unfold Leaves
  exact ⟨.tuple #[.slice A0 q0 c0, .int .i64 0], by simp [results, Try.results55, go_sem, r0, rz], A0, q0, c0, rfl, hF, ha3⟩
end Go.Proofs.Ytniodjigncicbaa.Dg

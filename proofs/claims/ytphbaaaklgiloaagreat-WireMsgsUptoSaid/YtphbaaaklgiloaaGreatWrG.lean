/- wire.ReadStrings of bytes whose first count is wrong. -/
import Derived.Test.YtphbaaaklgiloaaGreatWrF
namespace Go.Proofs.YtphbaaaklgiloaaGreat.Dg
open Go.RowKit
variable {w w' : World} {base B cb : Nat} {v : Value} {l : List UInt8}
set_option maxRecDepth 100000 in
set_option maxHeartbeats 1000000 in
theorem list_bad (p : Value) (w : World) (h : Cr w cb base v l) (hbad : cnt l = none) :
    Calls Tryz.prog 135 #[.pointer (some ⟨cb, 0, none⟩), p, .func (.func 136) #[] #[]] w fun e w' => e = .panicked wrong ∧ Gw cb w w' := by
  have hc := h.reads
  have HH := Lib.hid h
  have HB := Lib.hid hbad
  clear h hbad
  go_enter Tryz.func135, Tryz.ntmps135
  go_wp2_with fail
  refine (count_bad w HH.out HB.out).mono ?_
  rintro e w2 ⟨rfl, hg⟩
  exact ⟨rfl, rfl, hg⟩
set_option maxRecDepth 100000 in
set_option maxHeartbeats 1000000 in
theorem texts_bad (p : Value) (w : World) (h : Cr w cb base v l) (hbad : cnt l = none) :
    Calls Tryz.prog 60 #[.pointer (some ⟨cb, 0, none⟩), p] w fun e w' => e = .panicked wrong ∧ Gw cb w w' := by
  have HH := Lib.hid h
  have HB := Lib.hid hbad
  clear h hbad
  go_enter Tryz.func60, Tryz.ntmps60
  go_wp2_with fail
  refine (list_bad p w HH.out HB.out).mono ?_
  rintro e w2 ⟨rfl, hg⟩
  exact ⟨rfl, rfl, hg⟩
set_option maxRecDepth 100000 in
set_option maxHeartbeats 1000000 in
theorem catch_texts (p q : Addr) (hpq : p.block ≠ q.block) (x y : Value) (w : World) (hp : w.cell? p = some x) (hz : w.frozen? p = false) (hq : w.cell? q = some y) (hy : w.frozen? q = false) :
    CallsD Tryz.prog 134 #[.pointer (some p), .pointer (some q)] (.panicking wrong) w fun e u' w' =>
      e = .returned (.tuple #[]) ∧ u' = .panicking [{ v := .iface 196 (.agg #[]), recovered := true }] ∧ w' = (w.setCell p (.slice none 0 0)).setCell q (.int .i64 74) := by
  have hq2 : (w.setCell p (.slice none 0 0)).cell? q = some y := (World.cell?_of_block (a := q) (Below.heap_setCell w p _ q.block (Ne.symm hpq))).trans hq
  have hy2 : (w.setCell p (.slice none 0 0)).frozen? q = false := (World.frozen?_of_block (a := q) (Below.heap_setCell w p _ q.block (Ne.symm hpq))).trans hy
  refine callsD_of_wpS Tryz.func134 rfl fun c₀ cs hu => ?_
  apply wpS_seq
  apply wpS_region
  simp [wpOpsS, go_sem, recoverD, hu, wrong, Tryz.ntmps134, Exit.thenS]
  refine wpS_cond (t := true) (by simp [Act.eval, Array.replicate]) ?_
  simp only [if_true]
  apply wpS_seq
  apply wpS_region
  simp [wpOpsS, go_sem, Exit.thenS]
  apply wpS_region
  simp [wpOpsS, go_sem, hp, hz, hq2, hy2, bodyPostS, results, Tryz.results134]
set_option maxRecDepth 100000 in
set_option maxHeartbeats 1000000 in
theorem read_texts_bad (w : World) (h : Bs w w.heap.size v l) (hbad : cnt l = none) :
    Calls Tryz.prog 59 #[v, .func (.func 60) #[] #[]] w fun e w' => e = .returned (.tuple #[.slice none 0 0, .int .i64 74]) ∧ Ab w w' := by
  have hmf : ∀ (fn : Fn) (first cap : Array Value) (w : World), (Instr.makeFunc fn first cap).run Tryz.prog w = .ok (.func fn first cap) w := fun _ _ _ _ => rfl
  have HH := Lib.hid h
  have HB := Lib.hid hbad
  obtain ⟨A, c, rfl, -, -, -⟩ := id h
  clear h hbad
  go_enter_defers Tryz.func59, Tryz.ntmps59
  go_wp2_with fail
  have ha : Ab w (((w.alloc (.cells #[.slice none 0 0] 46)).alloc (.cells #[.int .i64 0] 38)).alloc (.cells #[.bool true, .slice A l.length c] 137)) := (((Ab.refl w).alloc _).alloc _).alloc _
  have hcr : Cr (((w.alloc (.cells #[.slice none 0 0] 46)).alloc (.cells #[.int .i64 0] 38)).alloc (.cells #[.bool true, .slice A l.length c] 137)) (w.heap.size + 1 + 1) w.heap.size (.slice A l.length c) l :=
    ⟨Bk.new (by simp), HH.out.ab ha (Nat.le_refl _), by omega⟩
  have hk0 : Bk (((w.alloc (.cells #[.slice none 0 0] 46)).alloc (.cells #[.int .i64 0] 38)).alloc (.cells #[.bool true, .slice A l.length c] 137)) w.heap.size 46 #[.slice none 0 0] := ((Bk.made w _ _).alloc _).alloc _
  have hk1 : Bk (((w.alloc (.cells #[.slice none 0 0] 46)).alloc (.cells #[.int .i64 0] 38)).alloc (.cells #[.bool true, .slice A l.length c] 137)) (w.heap.size + 1) 38 #[.int .i64 0] := (Bk.new (by simp)).alloc _
  generalize ((w.alloc (.cells #[.slice none 0 0] 46)).alloc (.cells #[.int .i64 0] 38)).alloc (.cells #[.bool true, .slice A l.length c] 137) = w1 at *
  refine (texts_bad _ w1 hcr HB.out).mono ?_
  rintro e w2 ⟨rfl, hg⟩
  have hk0 := hg.bk hk0 (by omega)
  have hk1 := hg.bk hk1 (by omega)
  have ha2 := hg.ab ha (by omega)
  refine leaves_cons (f := 134) (args := #[.pointer (some ⟨w.heap.size, 0, none⟩), .pointer (some ⟨w.heap.size + 1, 0, none⟩)]) (by simp) (by simp [go_sem]) ?_
  refine (catch_texts ⟨w.heap.size, 0, none⟩ ⟨w.heap.size + 1, 0, none⟩ (by simp) _ _ w2 (hk0.cell rfl) (hk0.free 0) (hk1.cell rfl) (hk1.free 0)).mono ?_
  rintro e u' w3 ⟨rfl, rfl, rfl⟩
  have hr0 : ((w2.setCell ⟨w.heap.size, 0, none⟩ (.slice none 0 0)).setCell ⟨w.heap.size + 1, 0, none⟩ (.int .i64 74)).cell? ⟨w.heap.size, 0, none⟩ = some (.slice none 0 0) := by
    rw [World.cell?_of_block (a := ⟨w.heap.size, 0, none⟩) (Below.heap_setCell _ ⟨w.heap.size + 1, 0, none⟩ _ w.heap.size (by simp))]
    exact (hk0.store 0 (.slice none 0 0)).cell rfl
  have hr1 : ((w2.setCell ⟨w.heap.size, 0, none⟩ (.slice none 0 0)).setCell ⟨w.heap.size + 1, 0, none⟩ (.int .i64 74)).cell? ⟨w.heap.size + 1, 0, none⟩ = some (.int .i64 74) :=
    ((hk1.far (p := ⟨w.heap.size, 0, none⟩) (by simp) _).store 0 (.int .i64 74)).cell rfl
  have ha3 : Ab w ((w2.setCell ⟨w.heap.size, 0, none⟩ (.slice none 0 0)).setCell ⟨w.heap.size + 1, 0, none⟩ (.int .i64 74)) := (ha2.set (by simp) _).set (by simp) _
  simp [Leaves, settle, results, Tryz.results59, go_sem, hr0, hr1, ha3]
set_option maxHeartbeats 1000000 in
theorem readStrings_bad (w : World) (h : Bs w w.heap.size v l) (hbad : cnt l = none) :
    Calls Tryz.prog 29 #[v] w fun e w' => e = .returned (.tuple #[.slice none 0 0, .int .i64 74]) ∧ Ab w w' := by
  have HH := Lib.hid h
  have HB := Lib.hid hbad
  obtain ⟨A, c, rfl, -, -, -⟩ := id h
  clear h hbad
  go_enter Tryz.func29, Tryz.ntmps29
  go_wp2_with fail
  refine (read_texts_bad w HH.out HB.out).mono ?_
  rintro e w2 ⟨rfl, hab⟩
  go_wp2_with fail
  go_ret2
  exact ⟨rfl, hab⟩
end Go.Proofs.YtphbaaaklgiloaaGreat.Dg

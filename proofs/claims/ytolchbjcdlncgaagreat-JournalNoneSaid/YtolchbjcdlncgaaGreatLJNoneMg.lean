/- Texts joined: DkN JnP JnQ LJNone. -/
import Derived.Test.YtolchbjcdlncgaaGreatMgJpF
import Derived.Test.YtolchbjcdlncgaaGreatMgDkJ
/- A disk that no call made. -/
namespace Go.Proofs.YtolchbjcdlncgaaGreat.Dg
open Go.RowKit
variable {w : World} {p x : Value} {a b : Int}
attribute [local go_sem ↓] Go.wp_at_zero Go.wp_at_succ
/-- nil, or a disk that was not made. -/
def Nr (w : World) (p : Value) : Prop := p = .pointer none ∨ ∃ g, p = .pointer (some ⟨g, 0, none⟩) ∧ w.cell? ⟨g, 0, none⟩ = some (.bool false)
theorem Nr.ready (h : Nr w p) : Calls Tryz.prog 45 #[p] w fun e w' => e = .returned (.bool false) ∧ w = w' := by
  rcases h with rfl | ⟨g, rfl, h⟩
  · exact ready_nil w
  · exact ready_any w g false h
theorem Nr.append_ (h : Nr w p) : Calls Tryz.prog 13 #[p, x] w fun e w' => e = .returned (.tuple #[.int .i64 0, .int .i64 14]) ∧ w = w' := by
  have H := Lib.hid h.ready
  clear h
  go_enter Tryz.func13, Tryz.ntmps13
  go_wp2_with (go_at_call 45; (with_reducible refine H.out.mono ?_); rintro e w2 ⟨rfl, rfl⟩)
  refine bodyPost_ret (v := .tuple #[.int .i64 0, .int .i64 14]) ?_ rfl ⟨rfl, rfl⟩
  simp [results, Tryz.results13, go_sem]
theorem Nr.read_ (h : Nr w p) : Calls Tryz.prog 51 #[p, .int .i64 a, .int .i64 b] w fun e w' => e = .returned (.tuple #[.slice none 0 0, .int .i64 14]) ∧ w = w' := by
  have H := Lib.hid h.ready
  clear h
  go_enter Tryz.func51, Tryz.ntmps51
  go_wp2_with (go_at_call 45; (with_reducible refine H.out.mono ?_); rintro e w2 ⟨rfl, rfl⟩)
  refine bodyPost_ret (v := .tuple #[.slice none 0 0, .int .i64 14]) ?_ rfl ⟨rfl, rfl⟩
  simp [results, Tryz.results51, go_sem]
theorem Nr.sync_ (h : Nr w p) : Calls Tryz.prog 15 #[p] w fun e w' => e = .returned (.tuple #[]) ∧ w = w' := by
  have H := Lib.hid h.ready
  clear h
  go_enter Tryz.func15, Tryz.ntmps15
  go_wp2_with (go_at_call 45; (with_reducible refine H.out.mono ?_); rintro e w2 ⟨rfl, rfl⟩)
  go_end0
  exact ⟨rfl, rfl⟩
theorem Nr.arm_ (h : Nr w p) : Calls Tryz.prog 38 #[p, .int .i64 a] w fun e w' => e = .returned (.tuple #[]) ∧ w = w' := by
  have H := Lib.hid h.ready
  clear h
  go_enter Tryz.func38, Tryz.ntmps38
  go_wp2_with (go_at_call 45; (with_reducible refine H.out.mono ?_); rintro e w2 ⟨rfl, rfl⟩)
  go_end0
  exact ⟨rfl, rfl⟩
theorem Nr.crash_ (h : Nr w p) : Calls Tryz.prog 29 #[p, .int .i64 a] w fun e w' => e = .returned (.tuple #[]) ∧ w = w' := by
  have H := Lib.hid h.ready
  clear h
  go_enter Tryz.func29, Tryz.ntmps29
  go_wp2_with (go_at_call 45; (with_reducible refine H.out.mono ?_); rintro e w2 ⟨rfl, rfl⟩)
  refine bodyPost_ret (v := .tuple #[]) ?_ rfl ⟨rfl, rfl⟩
  simp [results, Tryz.results29, go_sem]
theorem Nr.trim_ (h : Nr w p) : Calls Tryz.prog 58 #[p, .int .i64 a] w fun e w' => e = .returned (.int .i64 14) ∧ w = w' := by
  have H := Lib.hid h.ready
  clear h
  go_enter Tryz.func58, Tryz.ntmps58
  go_wp2_with (go_at_call 45; (with_reducible refine H.out.mono ?_); rintro e w2 ⟨rfl, rfl⟩)
  go_ret
  exact ⟨rfl, rfl⟩
theorem Nr.cut_ (h : Nr w p) : Calls Tryz.prog 72 #[p, .int .i64 a] w fun e w' => e = .returned (.int .i64 14) ∧ w = w' := by
  have H := Lib.hid h.ready
  clear h
  go_enter Tryz.func72, Tryz.ntmps72
  go_wp2_with (go_at_call 45; (with_reducible refine H.out.mono ?_); rintro e w2 ⟨rfl, rfl⟩)
  go_ret
  exact ⟨rfl, rfl⟩
theorem Nr.base_ (h : Nr w p) : Calls Tryz.prog 40 #[p] w fun e w' => e = .returned (.int .i64 0) ∧ w = w' := by
  have H := Lib.hid h.ready
  clear h
  go_enter Tryz.func40, Tryz.ntmps40
  go_wp2_with (go_at_call 45; (with_reducible refine H.out.mono ?_); rintro e w2 ⟨rfl, rfl⟩)
  go_ret
  exact ⟨rfl, rfl⟩
theorem Nr.end_ (h : Nr w p) : Calls Tryz.prog 41 #[p] w fun e w' => e = .returned (.int .i64 0) ∧ w = w' := by
  have H := Lib.hid h.ready
  clear h
  go_enter Tryz.func41, Tryz.ntmps41
  go_wp2_with (go_at_call 45; (with_reducible refine H.out.mono ?_); rintro e w2 ⟨rfl, rfl⟩)
  go_ret
  exact ⟨rfl, rfl⟩
theorem Nr.synced_ (h : Nr w p) : Calls Tryz.prog 43 #[p] w fun e w' => e = .returned (.int .i64 0) ∧ w = w' := by
  have H := Lib.hid h.ready
  clear h
  go_enter Tryz.func43, Tryz.ntmps43
  go_wp2_with (go_at_call 45; (with_reducible refine H.out.mono ?_); rintro e w2 ⟨rfl, rfl⟩)
  go_ret
  exact ⟨rfl, rfl⟩
end Go.Proofs.YtolchbjcdlncgaaGreat.Dg

/- A journal that no call made. -/
namespace Go.Proofs.YtolchbjcdlncgaaGreat.Dg
open Go.RowKit
variable {w : World} {p x : Value} {a b : Int}
attribute [local go_sem ↓] Go.wp_at_zero Go.wp_at_succ
/-- nil, or a journal that was not made. -/
def Nj (w : World) (p : Value) : Prop := p = .pointer none ∨ ∃ g, p = .pointer (some ⟨g, 0, none⟩) ∧ w.cell? ⟨g, 0, none⟩ = some (.pointer none)
theorem Nj.ready (h : Nj w p) : Calls Tryz.prog 50 #[p] w fun e w' => e = .returned (.bool false) ∧ w = w' := by
  rcases h with rfl | ⟨g, rfl, h⟩
  · exact jready_nil w
  · exact jready_none w g h
theorem Nj.ab {w' : World} (h : Nj w p) (k : Ab w w') (hk : ∀ g, p = .pointer (some ⟨g, 0, none⟩) → g < w.heap.size) : Nj w' p := by
  rcases h with rfl | ⟨g, rfl, h⟩
  · exact .inl rfl
  · exact .inr ⟨g, rfl, (k.cells g 0 (hk g rfl)).trans h⟩
theorem Nj.append_ (h : Nj w p) : Calls Tryz.prog 20 #[p, x] w fun e w' => e = .returned (.tuple #[.int .i64 0, .int .i64 14]) ∧ w = w' := by
  have H := Lib.hid h.ready
  clear h
  go_enter Tryz.func20, Tryz.ntmps20
  go_wp2_with (go_at_call 50; (with_reducible refine H.out.mono ?_); rintro e w2 ⟨rfl, rfl⟩)
  go_ret2
  exact ⟨rfl, rfl⟩
theorem Nj.read_ (h : Nj w p) : Calls Tryz.prog 21 #[p, .int .i64 a] w fun e w' => e = .returned (.tuple #[.slice none 0 0, .int .i64 14]) ∧ w = w' := by
  have H := Lib.hid h.ready
  clear h
  go_enter Tryz.func21, Tryz.ntmps21
  go_wp2_with (go_at_call 50; (with_reducible refine H.out.mono ?_); rintro e w2 ⟨rfl, rfl⟩)
  go_ret2
  exact ⟨rfl, rfl⟩
theorem Nj.trim_ (h : Nj w p) : Calls Tryz.prog 23 #[p, .int .i64 a] w fun e w' => e = .returned (.int .i64 14) ∧ w = w' := by
  have H := Lib.hid h.ready
  clear h
  go_enter Tryz.func23, Tryz.ntmps23
  go_wp2_with (go_at_call 50; (with_reducible refine H.out.mono ?_); rintro e w2 ⟨rfl, rfl⟩)
  go_ret
  exact ⟨rfl, rfl⟩
theorem Nj.sync_ (h : Nj w p) : Calls Tryz.prog 22 #[p] w fun e w' => e = .returned (.int .i64 14) ∧ w = w' := by
  have H := Lib.hid h.ready
  clear h
  go_enter Tryz.func22, Tryz.ntmps22
  go_wp2_with (go_at_call 50; (with_reducible refine H.out.mono ?_); rintro e w2 ⟨rfl, rfl⟩)
  go_ret
  exact ⟨rfl, rfl⟩
theorem Nj.first_ (h : Nj w p) : Calls Tryz.prog 24 #[p] w fun e w' => e = .returned (.int .i64 0) ∧ w = w' := by
  have H := Lib.hid h.ready
  clear h
  go_enter Tryz.func24, Tryz.ntmps24
  go_wp2_with (go_at_call 50; (with_reducible refine H.out.mono ?_); rintro e w2 ⟨rfl, rfl⟩)
  go_ret
  exact ⟨rfl, rfl⟩
theorem Nj.end_ (h : Nj w p) : Calls Tryz.prog 25 #[p] w fun e w' => e = .returned (.int .i64 0) ∧ w = w' := by
  have H := Lib.hid h.ready
  clear h
  go_enter Tryz.func25, Tryz.ntmps25
  go_wp2_with (go_at_call 50; (with_reducible refine H.out.mono ?_); rintro e w2 ⟨rfl, rfl⟩)
  go_ret
  exact ⟨rfl, rfl⟩
theorem Nj.synced_ (h : Nj w p) : Calls Tryz.prog 26 #[p] w fun e w' => e = .returned (.int .i64 0) ∧ w = w' := by
  have H := Lib.hid h.ready
  clear h
  go_enter Tryz.func26, Tryz.ntmps26
  go_wp2_with (go_at_call 50; (with_reducible refine H.out.mono ?_); rintro e w2 ⟨rfl, rfl⟩)
  go_ret
  exact ⟨rfl, rfl⟩
theorem Nj.count_ (h : Nj w p) : Calls Tryz.prog 27 #[p] w fun e w' => e = .returned (.int .i64 0) ∧ w = w' := by
  have H := Lib.hid h.ready
  clear h
  go_enter Tryz.func27, Tryz.ntmps27
  go_wp2_with (go_at_call 50; (with_reducible refine H.out.mono ?_); rintro e w2 ⟨rfl, rfl⟩)
  go_ret
  exact ⟨rfl, rfl⟩
theorem Nj.torn_ (h : Nj w p) : Calls Tryz.prog 18 #[p] w fun e w' => e = .returned (.int .i64 0) ∧ w = w' := by
  have H := Lib.hid h.ready
  clear h
  go_enter Tryz.func18, Tryz.ntmps18
  go_wp2_with (go_at_call 50; (with_reducible refine H.out.mono ?_); rintro e w2 ⟨rfl, rfl⟩)
  go_ret
  exact ⟨rfl, rfl⟩
theorem Nj.records_ (h : Nj w p) (hk : ∀ g, p = .pointer (some ⟨g, 0, none⟩) → g < w.heap.size) : Calls Tryz.prog 28 #[p] w fun e w' => e = .returned (recF w.heap.size) ∧ w' = w.alloc (.cells #[.slice none 0 0] 100) := by
  have H := Lib.hid (h.ab ((Ab.refl w).alloc (.cells #[.slice none 0 0] 100)) hk).ready
  clear h
  go_enter Tryz.func28, Tryz.ntmps28
  go_wp2_with (go_at_call 50; (with_reducible refine H.out.mono ?_); rintro e w2 ⟨rfl, rfl⟩)
  go_ret
  exact ⟨rfl, rfl⟩
/-- Open of no disk. -/
theorem Nr.open_ (h : Nr w p) : Calls Tryz.prog 19 #[p] w fun e w' => e = .returned (.tuple #[.pointer none, .int .i64 14]) ∧ w = w' := by
  have H := Lib.hid h
  clear h
  go_enter Tryz.func19, Tryz.ntmps19
  go_wp2_with (first | (go_at_call 40; (with_reducible refine (H.out.base_).mono ?_); rintro e wz ⟨rfl, rfl⟩) | (go_at_call 41; (with_reducible refine (H.out.end_).mono ?_); rintro e wz ⟨rfl, rfl⟩) | (go_at_call 51; (with_reducible refine (H.out.read_).mono ?_); rintro e wz ⟨rfl, rfl⟩))
  go_ret2
  exact ⟨rfl, rfl⟩
end Go.Proofs.YtolchbjcdlncgaaGreat.Dg

/- The walk through JournalNone. -/
namespace Go.Proofs.YtolchbjcdlncgaaGreat.Dg
open Go.RowKit Go.Shelf
variable {W w w' : World} {B : Nat} {v : Value} {l : List UInt8} {at_ : Int}
attribute [local go_sem ↓] Go.wp_at_zero Go.wp_at_succ
attribute [local go_sem] Oper.semAt_some
set_option maxRecDepth 100000 in
set_option maxHeartbeats 4000000 in
theorem none_walk (W : World) (v : Value) (at_ : Int) :
    Calls Tryz.prog 5 #[v, .int .i64 at_] W fun e w' => e = .returned (.bool true) ∧ Ab W w' := by
  refine (callsIn_wide (n := 2)).1 ?_
  refine callsIn_of_wp_marks Tryz.func5 rfl trivial ?_ rfl
  simp only [Tryz.ntmps5, List.size_toArray, List.length_cons, List.length_nil, Nat.reduceAdd, Nat.reduceSub, Array.replicate_succ, Array.replicate_zero, List.push_toArray, List.append_toArray, List.nil_append, List.cons_append]
  refine (wpIn_wide (n := 2)).2 ?_
  go_wp2_with fail
  have hb0 : Bk (((W.alloc (.cells #[.bool false] 4)).alloc (.cells #[.bool false, .int .i64 0, .int .i64 0, .int .i64 0, .slice none 0 0, .bool false, .int .i64 0] 53)).alloc (.cells #[.pointer none, .pointer (some ⟨W.heap.size + 1, 0, none⟩)] 32)) W.heap.size 4 #[.bool false] := ((Bk.made W _ _).alloc _).alloc _
  have hb1 : Bk (((W.alloc (.cells #[.bool false] 4)).alloc (.cells #[.bool false, .int .i64 0, .int .i64 0, .int .i64 0, .slice none 0 0, .bool false, .int .i64 0] 53)).alloc (.cells #[.pointer none, .pointer (some ⟨W.heap.size + 1, 0, none⟩)] 32)) (W.heap.size + 1) 53 #[.bool false, .int .i64 0, .int .i64 0, .int .i64 0, .slice none 0 0, .bool false, .int .i64 0] := (Bk.new (by simp)).alloc _
  have hb2 : Bk (((W.alloc (.cells #[.bool false] 4)).alloc (.cells #[.bool false, .int .i64 0, .int .i64 0, .int .i64 0, .slice none 0 0, .bool false, .int .i64 0] 53)).alloc (.cells #[.pointer none, .pointer (some ⟨W.heap.size + 1, 0, none⟩)] 32)) (W.heap.size + 1 + 1) 32 #[.pointer none, .pointer (some ⟨W.heap.size + 1, 0, none⟩)] := Bk.new (by simp)
  have hab : Ab W (((W.alloc (.cells #[.bool false] 4)).alloc (.cells #[.bool false, .int .i64 0, .int .i64 0, .int .i64 0, .slice none 0 0, .bool false, .int .i64 0] 53)).alloc (.cells #[.pointer none, .pointer (some ⟨W.heap.size + 1, 0, none⟩)] 32)) := (((Ab.refl W).alloc _).alloc _).alloc _
  generalize ((W.alloc (.cells #[.bool false] 4)).alloc (.cells #[.bool false, .int .i64 0, .int .i64 0, .int .i64 0, .slice none 0 0, .bool false, .int .i64 0] 53)).alloc (.cells #[.pointer none, .pointer (some ⟨W.heap.size + 1, 0, none⟩)] 32) = w3 at *
  have c0 : w3.cell? ⟨W.heap.size + 1 + 1, 0, none⟩ = some (.pointer none) := hb2.cell rfl
  have c1 : w3.cell? ⟨W.heap.size + 1 + 1, 1, none⟩ = some (.pointer (some ⟨W.heap.size + 1, 0, none⟩)) := hb2.cell rfl
  have HN0 := Lib.hid (show Nr w3 (.pointer none) from .inl rfl)
  have HN1 := Lib.hid (show Nr w3 (.pointer (some ⟨W.heap.size + 1, 0, none⟩)) from .inr ⟨_, rfl, hb1.cell rfl⟩)
  have HW := Lib.hid (And.intro hab hb0)
  clear hb0 hb1 hb2 hab
  refine wp_loop_rounds 3 ?_
  rw [rounds_succ]
  go_wp2_with (first | (go_at_call 19; (with_reducible refine HN0.out.open_.mono ?_); rintro e wz ⟨rfl, rfl⟩) | (go_at_call 12; (with_reducible refine (jnum_any 14 w3).mono ?_); rintro e wz ⟨rfl, rfl⟩))
  rw [rounds_succ]
  go_wp2_with (first | (go_at_call 19; (with_reducible refine HN1.out.open_.mono ?_); rintro e wz ⟨rfl, rfl⟩) | (go_at_call 12; (with_reducible refine (jnum_any 14 w3).mono ?_); rintro e wz ⟨rfl, rfl⟩))
  rw [rounds_succ]
  go_wp2_with fail
  have hbj : Bk ((w3.alloc (.cells #[.pointer none, .slice none 0 0, .int .i64 0] 59)).alloc (.cells #[.pointer none, .pointer (some ⟨w3.heap.size, 0, none⟩)] 44)) w3.heap.size 59 #[.pointer none, .slice none 0 0, .int .i64 0] := (Bk.made w3 _ _).alloc _
  have hbs : Bk ((w3.alloc (.cells #[.pointer none, .slice none 0 0, .int .i64 0] 59)).alloc (.cells #[.pointer none, .pointer (some ⟨w3.heap.size, 0, none⟩)] 44)) (w3.heap.size + 1) 44 #[.pointer none, .pointer (some ⟨w3.heap.size, 0, none⟩)] := Bk.new (by simp)
  have hab : Ab w3 ((w3.alloc (.cells #[.pointer none, .slice none 0 0, .int .i64 0] 59)).alloc (.cells #[.pointer none, .pointer (some ⟨w3.heap.size, 0, none⟩)] 44)) := ((Ab.refl w3).alloc _).alloc _
  generalize (w3.alloc (.cells #[.pointer none, .slice none 0 0, .int .i64 0] 59)).alloc (.cells #[.pointer none, .pointer (some ⟨w3.heap.size, 0, none⟩)] 44) = w5 at *
  have H5 := Lib.hid (And.intro (HW.out.1.trans hab) (And.intro (hab.bk HW.out.2) (And.intro hbj hbs)))
  have d0 : w5.cell? ⟨w3.heap.size + 1, 0, none⟩ = some (.pointer none) := hbs.cell rfl
  have HJ0 := Lib.hid (show Nj w5 (.pointer none) from .inl rfl)
  clear hbj hbs hab c0 c1 HN0 HN1 HW
  refine wp_loop_rounds 3 ?_
  rw [rounds_succ]
  go_wp2_with (first | (go_at_call 20; (with_reducible refine HJ0.out.append_.mono ?_); rintro e wz ⟨rfl, rfl⟩) | (go_at_call 21; (with_reducible refine HJ0.out.read_.mono ?_); rintro e wz ⟨rfl, rfl⟩) | (go_at_call 22; (with_reducible refine HJ0.out.sync_.mono ?_); rintro e wz ⟨rfl, rfl⟩) | (go_at_call 23; (with_reducible refine HJ0.out.trim_.mono ?_); rintro e wz ⟨rfl, rfl⟩) | (go_at_call 24; (with_reducible refine HJ0.out.first_.mono ?_); rintro e wz ⟨rfl, rfl⟩) | (go_at_call 25; (with_reducible refine HJ0.out.end_.mono ?_); rintro e wz ⟨rfl, rfl⟩) | (go_at_call 26; (with_reducible refine HJ0.out.synced_.mono ?_); rintro e wz ⟨rfl, rfl⟩) | (go_at_call 27; (with_reducible refine HJ0.out.count_.mono ?_); rintro e wz ⟨rfl, rfl⟩) | (go_at_call 18; (with_reducible refine HJ0.out.torn_.mono ?_); rintro e wz ⟨rfl, rfl⟩) | (go_at_call 12; (with_reducible refine (jnum_any 14 w5).mono ?_); rintro e wz ⟨rfl, rfl⟩))
  have HLT1 := Lib.hid (show ∀ g, (Value.pointer none) = .pointer (some ⟨g, 0, none⟩) → g < w5.heap.size from fun g h => by cases h)
  have hab1 : Ab w5 (w5.alloc (.cells #[.slice none 0 0] 100)) := (Ab.refl w5).alloc _
  have hbx1 : Bk (w5.alloc (.cells #[.slice none 0 0] 100)) w5.heap.size 100 #[.slice none 0 0] := Bk.made w5 _ _
  have hfn1 : ∀ wx : World, (binOp BinOp.eql 66 (.func (.func 61) #[] #[.pointer (some ⟨w5.heap.size, 0, none⟩)]) .nilFunc).run Tryz.prog wx = .ok (.bool false) wx := fun wx => by kernel_rfl
  refine (HJ0.out.records_ HLT1.out).mono ?_
  rintro e w6 ⟨rfl, rfl⟩
  unfold recF
  go_wp2_with fail
  generalize w5.alloc (.cells #[.slice none 0 0] 100) = w6 at *
  have HR1 := Lib.hid (And.intro hab1 hbx1)
  clear hab1 hbx1 hfn1
  refine range_all rfl (enters_of Tryz.func61 (by kernel_rfl) rfl) (fun _ => rfl) (Nat.le_refl _) (hands_any (rs := []) (B := 0) w6 w6 (Below.refl _ _) w5.heap.size none 0 w6.heap.size rfl HR1.out.2 [] (Rl.nil _ _ _) rfl (fun p hp => by cases hp))
    (fun pre X => Below w6.heap.size w6 X) (ownFrom_below (Nat.le_refl _) (Nat.le_refl _)) (fun pre x X X' i o o' h hl ho e => OkR.put h hl ho e) (Below.refl _ _) ?a1 ?as1 ?bo1 ?do1
  case as1 =>
    intro l x X K hK
    gi_wp2
    exact hK
  case bo1 =>
    rintro l pre x X - - ⟨-, -, hlt, -⟩
    exact absurd hlt (Nat.not_lt_zero _)
  case do1 =>
  rintro D1 xs1 X1 hD1 - hbX1 hK1
  have HX1 := Lib.hid (And.intro hD1 (And.intro (show Ab w6 X1 from hbX1) hK1))
  clear hD1 hbX1 hK1
  go_wp2_with fail
  have hab : Ab w5 X1 := HR1.out.1.trans HX1.out.2.1
  have d1 : X1.cell? ⟨w3.heap.size + 1, 1, none⟩ = some (.pointer (some ⟨w3.heap.size, 0, none⟩)) := (hab.bk H5.out.2.2.2).cell rfl
  have hbj := hab.bk H5.out.2.2.1
  have HJ1 := Lib.hid (show Nj X1 (.pointer (some ⟨w3.heap.size, 0, none⟩)) from .inr ⟨_, rfl, hbj.cell rfl⟩)
  have HLT2 := Lib.hid (show ∀ g, (Value.pointer (some ⟨w3.heap.size, 0, none⟩)) = .pointer (some ⟨g, 0, none⟩) → g < X1.heap.size from fun g h => by
    injection h with h; injection h with h; injection h with h; subst h; exact hbj.lt)
  have HA1 := Lib.hid hab
  clear hab hbj d0
  rw [rounds_succ]
  go_wp2_with (first | (go_at_call 20; (with_reducible refine HJ1.out.append_.mono ?_); rintro e wz ⟨rfl, rfl⟩) | (go_at_call 21; (with_reducible refine HJ1.out.read_.mono ?_); rintro e wz ⟨rfl, rfl⟩) | (go_at_call 22; (with_reducible refine HJ1.out.sync_.mono ?_); rintro e wz ⟨rfl, rfl⟩) | (go_at_call 23; (with_reducible refine HJ1.out.trim_.mono ?_); rintro e wz ⟨rfl, rfl⟩) | (go_at_call 24; (with_reducible refine HJ1.out.first_.mono ?_); rintro e wz ⟨rfl, rfl⟩) | (go_at_call 25; (with_reducible refine HJ1.out.end_.mono ?_); rintro e wz ⟨rfl, rfl⟩) | (go_at_call 26; (with_reducible refine HJ1.out.synced_.mono ?_); rintro e wz ⟨rfl, rfl⟩) | (go_at_call 27; (with_reducible refine HJ1.out.count_.mono ?_); rintro e wz ⟨rfl, rfl⟩) | (go_at_call 18; (with_reducible refine HJ1.out.torn_.mono ?_); rintro e wz ⟨rfl, rfl⟩) | (go_at_call 12; (with_reducible refine (jnum_any 14 X1).mono ?_); rintro e wz ⟨rfl, rfl⟩))
  have hab2 : Ab X1 (X1.alloc (.cells #[.slice none 0 0] 100)) := (Ab.refl X1).alloc _
  have hbx2 : Bk (X1.alloc (.cells #[.slice none 0 0] 100)) X1.heap.size 100 #[.slice none 0 0] := Bk.made X1 _ _
  have hfn2 : ∀ wx : World, (binOp BinOp.eql 66 (.func (.func 61) #[] #[.pointer (some ⟨X1.heap.size, 0, none⟩)]) .nilFunc).run Tryz.prog wx = .ok (.bool false) wx := fun wx => by kernel_rfl
  refine (HJ1.out.records_ HLT2.out).mono ?_
  rintro e y6 ⟨rfl, rfl⟩
  unfold recF
  go_wp2_with fail
  generalize X1.alloc (.cells #[.slice none 0 0] 100) = y6 at *
  have HR2 := Lib.hid (And.intro hab2 hbx2)
  clear hab2 hbx2 hfn2
  refine range_all rfl (enters_of Tryz.func61 (by kernel_rfl) rfl) (fun _ => rfl) (Nat.le_refl _) (hands_any (rs := []) (B := 0) y6 y6 (Below.refl _ _) X1.heap.size none 0 y6.heap.size rfl HR2.out.2 [] (Rl.nil _ _ _) rfl (fun p hp => by cases hp))
    (fun pre X => Below y6.heap.size y6 X) (ownFrom_below (Nat.le_refl _) (Nat.le_refl _)) (fun pre x X X' i o o' h hl ho e => OkR.put h hl ho e) (Below.refl _ _) ?a2 ?as2 ?bo2 ?do2
  case as2 =>
    intro l x X K hK
    gi_wp2
    exact hK
  case bo2 =>
    rintro l pre x X - - ⟨-, -, hlt, -⟩
    exact absurd hlt (Nat.not_lt_zero _)
  case do2 =>
  rintro D2 xs2 X2 hD2 - hbX2 hK2
  have HX2 := Lib.hid (And.intro hD2 (And.intro (show Ab y6 X2 from hbX2) hK2))
  clear hD2 hbX2 hK2
  go_wp2_with fail
  rw [rounds_succ]
  have ha25 : Ab w5 X2 := HA1.out.trans (HR2.out.1.trans HX2.out.2.1)
  have HA2 := Lib.hid ha25
  clear ha25 d1
  go_wp2_with fail
  refine (awake_any X2).mono ?_
  rintro e X3 ⟨rfl, ha3⟩
  have hbr := (HA2.out.trans ha3).bk H5.out.2.1
  have r0 : X3.cell? ⟨W.heap.size, 0, none⟩ = some (.bool false) := hbr.cell rfl
  have rz := hbr.free 0
  have h12 : Ab X1 X3 := (HR2.out.1.trans HX2.out.2.1).trans ha3
  have hD1 : X3.heap[D1]? = some (.deferred (some [])) := (Below.block h12 _ (Array.getElem?_eq_some_iff.1 HX1.out.2.2).1).trans HX1.out.2.2
  have hD2 : X3.heap[D2]? = some (.deferred (some [])) := (Below.block ha3 _ (Array.getElem?_eq_some_iff.1 HX2.out.2.2).1).trans HX2.out.2.2
  have hlt : D1 < D2 := Nat.lt_of_lt_of_le (Array.getElem?_eq_some_iff.1 HX1.out.2.2).1 (Nat.le_trans HR2.out.1.size HX2.out.1)
  have hW1 : W.heap.size ≤ D1 := Nat.le_trans H5.out.1.size (Nat.le_trans HR1.out.1.size HX1.out.1)
  have HE := Lib.hid (And.intro hD1 (And.intro hD2 (And.intro hlt (And.intro hW1 (H5.out.1.trans (HA2.out.trans ha3))))))
  clear hbr h12 hD1 hD2 hlt hW1 ha3
  go_wp2_with fail
  have hK2 := (KeepsOthers.setCell X3 ⟨W.heap.size, 0, none⟩ (.bool true)).same D2 _ HE.out.2.1 rfl
  have hK1' := (KeepsOthers.setCell X3 ⟨W.heap.size, 0, none⟩ (.bool true)).same D1 _ HE.out.1 rfl
  have hK1 : ((X3.setCell ⟨W.heap.size, 0, none⟩ (.bool true)).putObj D2 (.deferred none)).heap[D1]? = some (.deferred (some [])) := (World.putObj_heap_other (by have := HE.out.2.2.1; omega)).trans hK1'
  refine ⟨by simp, .inl ⟨_, _, rfl, run_takeDeferred hK2, by simp, .inl ⟨_, _, rfl, run_takeDeferred hK1, ?_⟩⟩⟩
  have hc4 := cell_kept (World.cell?_setCell_same' X3 ⟨W.heap.size, 0, none⟩ (.bool true) (by rw [r0]; rfl)) (grownBy_putObj' _ D2 (.deferred none)) (fun r e => by cases e; exact ⟨_, hK2, rfl⟩)
  have hc5 := cell_kept hc4 (grownBy_putObj' _ D1 (.deferred none)) (fun r e => by cases e; exact ⟨_, hK1, rfl⟩)
  refine ⟨.bool true, ?_, rfl, ?_⟩
  · simp [results, Tryz.f5, go_sem, hc5]
  · have h2 : W.heap.size ≤ D2 := Nat.le_trans HE.out.2.2.2.1 (Nat.le_of_lt HE.out.2.2.1)
    exact ((HE.out.2.2.2.2.set (Nat.le_refl _) _).trans_below (belowK_b (w := W) (Nat.le_refl _) _ D2 _ _ h2 hK2 rfl rfl)).trans_below (belowK_b (w := W) (Nat.le_refl _) _ D1 _ _ HE.out.2.2.2.1 hK1 rfl rfl)
end Go.Proofs.YtolchbjcdlncgaaGreat.Dg

/-
  JournalNone: a journal that no call made, and one of a disk that none made, answers just the document's numbers and nothing else, its iterator hands over nothing; and the document's example holds; the arguments read as before.
  No condition.
-/
namespace Go.Proofs.YtolchbjcdlncgaaGreat.journalNone
open Go.RowKit Go.ChangeShapes Go.WideShapes Go.ChangeAt Dg

set_option maxRecDepth 100000 in
theorem contract (H : Type) (enc : TypeId × Value → H) (W : World) (base : Nat) (args : Array Value) (ds gs : List (DataW H)) (before : List MemPlace)
    (hval : ∀ (j : Nat) t v, Tryz.f5.params[j]? = some t → args[j]? = some v → Value.okWide Tryz.prog W .any base t v)
    (hW : DataW.Whole enc Tryz.prog Tryz.f5.params.toList Rows.journalNoneSpec.vars false W args.toList ds gs before) :
    Calls Tryz.prog 5 args W fun e W' => ∃ v, e = .returned v ∧ Rows.journalNoneSpec.post enc Tryz.prog Tryz.f5 false true false false W args v W' := by
  have hW' := hW
  obtain ⟨p, q, hA0, hV, rfl, hfz, hnd⟩ := hW
  have hA : DataW.TrodAll enc Tryz.prog W 0 (fun _ => true) true Tryz.f5.params.toList args.toList ds p := hA0
  rw [Tryz.params5] at hA hval
  obtain ⟨v0, vs0, d0, ds0, p0, q0, hargs, rfl, rfl, h0, r0⟩ := trodAll_cons hA
  obtain ⟨v1, vs1, d1, ds1, p1, q1, rfl, rfl, rfl, h1, r1⟩ := trodAll_cons r0
  obtain ⟨rfl, rfl, rfl⟩ := trodAll_nil r1
  obtain rfl : args = #[v0, v1] := by cases args; simp_all
  obtain ⟨rfl, rfl⟩ := trodVars_none hV
  clear hA0
  simp only [List.append_nil] at hW'
  obtain ⟨n, hv1, -⟩ := open_int Tryz.underlying3 (hval 1 3 v1 rfl rfl) h1
  subst hv1
  refine (none_walk W v0 n).mono fun e W' ⟨he, hg⟩ => ?_
  subst he
  have h0' := Below.trod (by kernel_rfl) (by kernel_rfl) (of_decide_eq_true (by kernel_rfl)) h0 hg (fun x hx => hW'.lt x (List.mem_append_left _ hx))
  have h1' := Below.trod (by kernel_rfl) (by kernel_rfl) (of_decide_eq_true (by kernel_rfl)) h1 hg (fun x hx => hW'.lt x (List.mem_append_right _ hx))
  refine ⟨_, rfl, _, _, _, [], p0 ++ (p1 ++ []), [], hW', ?_, ?_, rfl, Below.frame hg _, fun h => by cases h⟩
  · exact trodAll_cons_mk (shut_bool Tryz.underlying4 _) trodAll_mk0
  · exact trodAll_cons_mk h0' (trodAll_cons_mk h1' trodAll_mk0)

theorem own : ownKnob Tryz.prog.godebug = none := by kernel_rfl
theorem laid_met (os : Os) : laidMet Tryz.prog Rows.journalNoneRow.laid ((laidWorld os).forCall (fun _ _ => 0) ⟨#[], #[.slice none 0 0, .int .i64 0], []⟩).memory :=
  laidMet_of_run' 8 (by kernel_rfl) (by kernel_rfl)
theorem reads (os : Os) {H : Type} (enc : TypeId × Value → H) : ∃ places, DataW.whole enc Tryz.prog ((laidWorld os).forCall (fun _ _ => 0) ⟨#[], #[.slice none 0 0, .int .i64 0], []⟩).memory Tryz.f5.params.toList Rows.journalNoneSpec.vars false #[Value.slice none 0 0, Value.int .i64 0].toList 8 = some ([.nil, .lit (.int .i64 0)], [], places) :=
  ⟨[], by kernel_rfl⟩

set_option maxRecDepth 100000 in
theorem lifted (os : Os) (started : os.Started) (H : Type) (enc : TypeId × Value → H) (F : Stop.Interp) :
    ReturnsInHanded {} Tryz.checked os 5 .any ((OpenSpec.ofChange Rows.journalNoneSpec).preRow enc Tryz.prog Tryz.f5 Rows.journalNoneRow.domain false Rows.journalNoneRow.laid) (((OpenSpec.ofChange Rows.journalNoneSpec).at F).post enc Tryz.prog Tryz.f5 false true false false) := by
  obtain ⟨places, hx⟩ := reads os enc
  refine returnsInHanded_of_row (C := Tryz.checked) (s := OpenSpec.ofChange Rows.journalNoneSpec) own started (by kernel_rfl) Tryz.func5
    (witness_row_at (enc := enc) (C := Tryz.checked) false (laidWorld os) #[.slice none 0 0, .int .i64 0] rfl (by kernel_rfl) (by kernel_rfl) (by kernel_rfl)
      (OpenSpec.preRow_of_cond 8 hx (by kernel_rfl) (fun k hk => by cases hk) (by kernel_rfl) (laid_met os))) ?_
  intro W base args ds gs before hval hW _ _ _ _ _ _
  exact contract H enc W base args ds gs before hval hW

set_option maxRecDepth 100000 in
theorem said : Rows.JournalNoneSaid :=
  OpenClaim.holds_of_cond 5 Tryz.f5 rfl rfl rfl rfl rfl rfl rfl ⟨rfl, rfl, rfl, rfl, rfl⟩ rfl rfl rfl rfl rfl (by kernel_rfl) Tryz.func5 (by kernel_rfl)
    (of_decide_eq_true (by kernel_rfl)) (by unfold Func.isWrapper; first | (rw [if_pos (by decide +kernel)]; kernel_rfl) | (rw [if_neg (by decide +kernel)]; exact ⟨rfl, rfl⟩))
    (fun os started H enc _ F => by rw [OpenClaim.pre_eq_preRow]; exact lifted os started H enc F)

end Go.Proofs.YtolchbjcdlncgaaGreat.journalNone

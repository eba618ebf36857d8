/- The walk through ExtentNone. -/
import Derived.Test.YtlbkfnmhcgildaaExQ
import Derived.Deep.RegionLaw
namespace Go.Proofs.Ytlbkfnmhcgildaa.Dg
open Go.RowKit Go.Shelf
variable {w w' : World} {base a s B : Nat} {v u : Value} {ps : List Pr} {l : List UInt8} {c : Cel}
attribute [local go_sem ↓] Go.wp_at_zero Go.wp_at_succ
attribute [local go_sem] Oper.semAt_some
theorem OkE.cells {n₀ : Nat} {pre : List Pr} {x : Pr} {X : World} {k : Nat} (h : OkE ps n₀ pre x X) (hk : ownE x k) : ∃ o : Obj, X.heap[k]? = some o ∧ o.isCells = true := by
  rcases h.2.2 with ⟨e, _⟩ | ⟨g, cap, cur, e, _, hgg, _⟩
  · unfold ownE at hk
    rw [e] at hk
    cases hk
  · unfold ownE at hk
    rw [e] at hk
    have : g = k := by simpa [Value.ownBlock] using hk
    subst this
    exact ⟨_, hgg, rfl⟩
theorem OkE.put {n₀ : Nat} {pre : List Pr} {x : Pr} {X X' : World} {i : Nat} {o o' : Obj} (h : OkE ps n₀ pre x X) (hl : X.heap[i]? = some o) (ho : o.isCells = false) (e : X' = X.putObj i o') : OkE ps n₀ pre x X' := by
  subst e
  exact ⟨h.1, ob_own h.2 (grownBy_putObj' _ i _) (fun r e => by cases e; exact ⟨_, hl, ho⟩)⟩
set_option maxRecDepth 100000 in
set_option maxHeartbeats 4000000 in
theorem none_walk5 (W : World) (k p q : Int) (A : Option Addr) (n c : Nat) (l : List UInt8) (hb : Bs W W.heap.size (.slice A n c) l) :
    Calls Try.prog 9 #[.agg #[.int .i64 k, .int .i64 p, .int .i64 q, .slice A n c]] W fun e w' => e = .returned (.bool true) ∧ Ab W w' := by
  have hb1 : Bk ((W.alloc (.cells #[.int .i64 k, .int .i64 p, .int .i64 q, .slice A n c] 72)).alloc (.cells #[.bool false] 4)) W.heap.size 72 #[.int .i64 k, .int .i64 p, .int .i64 q, .slice A n c] := (Bk.made W _ _).alloc _
  have hb2 : Bk ((W.alloc (.cells #[.int .i64 k, .int .i64 p, .int .i64 q, .slice A n c] 72)).alloc (.cells #[.bool false] 4)) (W.heap.size + 1) 4 #[.bool false] := Bk.new (by simp)
  have hab : Ab W ((W.alloc (.cells #[.int .i64 k, .int .i64 p, .int .i64 q, .slice A n c] 72)).alloc (.cells #[.bool false] 4)) := ((Ab.refl W).alloc _).alloc _
  refine (callsIn_wide (n := 2)).1 ?_
  refine callsIn_of_wp_marks Try.func9 rfl trivial ?_ rfl
  simp only [Try.ntmps9, List.size_toArray, List.length_cons, List.length_nil, Nat.reduceAdd, Nat.reduceSub, Array.replicate_succ, Array.replicate_zero, List.push_toArray, List.append_toArray, List.nil_append, List.cons_append]
  refine (wpIn_wide (n := 2)).2 ?_
  have HW := Lib.hid (And.intro hb1 (And.intro hb2 hab))
  have HB := Lib.hid hb
  clear hb hb1 hb2 hab
  have hfn : ∀ (b : Nat) (wx : World), (binOp BinOp.eql 88 (.func (.func 80) #[] #[.pointer (some ⟨b, 0, none⟩)]) .nilFunc).run Try.prog wx = .ok (.bool false) wx := fun b wx => by kernel_rfl
  go_wp2_with (first
    | (go_at_call 39; (with_reducible refine (read_nil _ _ _).mono ?_); rintro e w3 ⟨rfl, ha3⟩; have HA3 := Lib.hid ha3; clear ha3)
    | (go_at_call 42; (with_reducible refine (extents_nil _).mono ?_); rintro e w4 ⟨rfl, hx4, ha4⟩; unfold extF; have h4 := HW.out.2.2.trans (HA3.out.trans ha4); have hk4 := (HA3.out.trans ha4).bk HW.out.1; have c1 := hk4.cell (i := 1) rfl; have c2 := hk4.cell (i := 2) rfl; have c3 := hk4.cell (i := 3) rfl; have HA4 := Lib.hid (And.intro hx4 (And.intro h4 ((HA3.out.trans ha4).bk HW.out.2.1))); clear hx4 ha4 h4 hk4)
    | (go_at_call 31; (with_reducible refine (write_nil _ _ (HB.out.ab HA4.out.2.1 (Nat.le_refl _))).mono ?_); rintro e wz ⟨rfl, rfl⟩)
    | (go_at_call 40; (with_reducible refine (zero_nil _ _ _).mono ?_); rintro e wz ⟨rfl, rfl⟩)
    | (go_at_call 41; (with_reducible refine (trunc_nil _ _).mono ?_); rintro e wz ⟨rfl, rfl⟩)
    | (go_at_call 34; (with_reducible refine (exsize_nil _).mono ?_); rintro e wz ⟨rfl, rfl⟩)
    | (go_at_call 36; (with_reducible refine (bytes_nil _).mono ?_); rintro e w5 ⟨rfl, ha5⟩; have HA5 := Lib.hid ha5; clear ha5)
    | (go_at_call 30; (with_reducible refine (excopy_nil _).mono ?_); rintro e wz ⟨rfl, rfl⟩))
  have hh := ext_hands w5 w3.heap.size 0 (ps := []) (fun _ => False) (fun _ e => e.elim) (HA5.out.bk HA4.out.1) (Rl.nil _ _ _) (fun _ _ e => e) (fun _ _ _ _ e => e) (by simp) (fun _ h => by cases h)
  clear hfn c1 c2 c3
  refine range_some ?h1 ?h2 ?h3 hh ?h4 ?h5 (fun _ X => Ab w5 X) (fun _ _ => False) ?h6 ?h7 ?h8 (Ab.refl w5) ?a1 ?as1 ?bo1 ?do1 ?st1
  case h1 => rfl
  case h2 => exact enters_of Try.func80 (by kernel_rfl) rfl
  case h3 => exact fun _ => rfl
  case h4 => exact fun _ e => e.elim
  case h5 => exact fun _ _ _ _ h hk => h.cells hk
  case h6 => exact ownFrom_below (Nat.le_refl _) (Nat.le_refl _)
  case h7 => exact fun _ _ _ _ _ h => h.elim
  case h8 => exact fun _ _ _ _ _ _ _ h hl ho e => h.put hl ho e
  case as1 =>
    intro l x X K hK
    gi_wp2
    exact hK
  case st1 =>
    rintro D cd X hD h hK1
    exact h.elim
  case bo1 =>
    rintro l pre x X hl - ⟨⟨p, hp, -⟩, -⟩
    simp at hp
  case do1 =>
  rintro D xs X hD - hbX hK1
  have HX1 := Lib.hid (And.intro hD (And.intro (show Ab w5 X from hbX) hK1))
  clear hD hbX hK1 hh
  go_wp2_with (go_at_call 38; (with_reducible refine (exlives_any X).mono ?_); rintro e X3 ⟨rfl, ha3⟩; have hbr := (HX1.out.2.1.trans ha3).bk (HA5.out.bk HA4.out.2.2); have r0 : X3.cell? ⟨W.heap.size + 1, 0, none⟩ = some (.bool false) := hbr.cell rfl; have rz := hbr.free 0; have hD1 : X3.heap[D]? = some (.deferred (some [])) := (Below.block ha3 _ (Array.getElem?_eq_some_iff.1 HX1.out.2.2).1).trans HX1.out.2.2; have HE := Lib.hid (And.intro hD1 (HA4.out.2.1.trans (HA5.out.trans (HX1.out.2.1.trans ha3)))); clear ha3 hbr hD1)
  have hW1 : W.heap.size ≤ D := Nat.le_trans (HA4.out.2.1.trans HA5.out).size HX1.out.1
  have hK1 := (KeepsOthers.setCell X3 ⟨W.heap.size + 1, 0, none⟩ (.bool true)).same D _ HE.out.1 rfl
  refine ⟨by simp, .inl ⟨_, _, rfl, run_takeDeferred hK1, ?_⟩⟩
  have hc4 := cell_kept (World.cell?_setCell_same' X3 ⟨W.heap.size + 1, 0, none⟩ (.bool true) (by rw [r0]; rfl)) (grownBy_putObj' _ D (.deferred none)) (fun r e => by cases e; exact ⟨_, hK1, rfl⟩)
  refine ⟨.bool true, ?_, rfl, ?_⟩
  · simp [results, Try.f9, go_sem, hc4]
  · exact Below.trans (HE.out.2.set (by simp) _) (belowK_b (w := W) (Nat.le_refl _) _ D _ _ hW1 hK1 rfl rfl)
end Go.Proofs.Ytlbkfnmhcgildaa.Dg

/- The walk through DiskKeeps. -/
import Derived.Test.YtlenbcehahhmcaaKeA
import Derived.Deep.RegionLaw
import Derived.Deep.DrawnRows
namespace Go.Proofs.Ytlenbcehahhmcaa.diskKeeps
open Go.RowKit Dg
variable {A0 A1 : Option Addr} {c0 c1 : Nat} {ks ts : List UInt8}
attribute [local go_sem ↓] Go.wp_at_zero Go.wp_at_succ
theorem ow_lower {w : World} {base b' : Nat} {v : Value} {l : List UInt8} (h : Ow w base v l) (hb : b' ≤ base) : Ow w b' v l := by
  rcases h with h | ⟨g, cap, pre, post, h1, h2, h3⟩
  · exact .inl h
  · exact .inr ⟨g, cap, pre, post, h1, Nat.le_trans hb h2, h3⟩
theorem St.boxed {W w w1 : World} {g : Nat} {v : Value} {d : Dst} (ha : Ab W w) (h : St w w1 g v d) : St W w1 g v d := ⟨⟨h.1.1, ow_lower h.1.2.1 ha.size, Nat.le_trans ha.size h.1.2.2.1, h.1.2.2.2⟩, ha.trans h.2⟩
structure Nums (arm keep : Int) (K T N M E n : Nat) : Prop where
  n1 : 1 ≤ N
  n2 : N ≤ 67108864
  kn : K ≤ N
  ktn : K + T ≤ N
  ke : K + n = E
  nT : n ≤ T
  e2 : E ≤ 67108864
theorem wraps (K T M N : Nat) (hm : K + T = M) (hm2 : M + 1 = N) (hN : N ≤ 400000000000000) : IntKind.i64.wrap ((K : Int) + (T : Int)) = (M : Int) ∧ IntKind.i64.wrap ((M : Int) + 1) = (N : Int) ∧ (K : Int) + (T : Int) = (M : Int) ∧ (M : Int) + 1 = (N : Int) ∧ IntKind.i64.wrap (M : Int) = (M : Int) ∧ IntKind.i64.wrap (N : Int) = (N : Int) := by
  have h1 : (K : Int) + (T : Int) = (M : Int) := by omega
  have h2 : (M : Int) + 1 = (N : Int) := by omega
  rw [h1, h2]
  exact ⟨IntWalk.i64_in _ (by omega), IntWalk.i64_in _ (by omega), rfl, rfl, IntWalk.i64_in _ (by omega), IntWalk.i64_in _ (by omega)⟩
set_option maxRecDepth 100000 in
set_option maxHeartbeats 1000000 in
theorem walkBig (W : World) (arm keep : Int) (K T N M : Nat) (h2 : 67108864 < N) (hm : K + T = M) (hm2 : M + 1 = N) (hN : N ≤ 400000000000000) :
    Calls Try.prog 6 #[.slice A0 K c0, .slice A1 T c1, .agg #[.int .i64 arm, .int .i64 keep]] W (Post W) := by
  obtain ⟨e1, e2, e3, e4, e5, e6⟩ := wraps K T M N hm hm2 hN
  have h3 : 67108864 < (N : Int) := by omega
  have HB := Lib.hid h2
  clear h2 hm hm2 hN
  go_enter Try.func6, Try.ntmps6
  go_wp2_with fail
  go_quiet (fail)
  go_wp2_with (go_at_call 29; (with_reducible refine (k_big _ HB.out).mono ?_); rintro e w1 ⟨rfl, rfl⟩)
  go_ret
  exact ⟨rfl, ((Ab.refl W).alloc _).drewN _⟩
theorem step_bytes2 {w : World} {ops : Array Oper} {o : Oper} {a : Act} {K : Act → World → Prop} {Q : Exit → Act → World → Prop} {E : Prop} (hw : Region.wanted o (yielded ops a.tmps) = true) (s x : Operand) (tx : TypeId)
    (ho : o.op = .call { callee := .builtin .append, args := #[s, x], argTypes := #[30, tx] }) (v u : Value) (hs : a.eval s = v) (hx : a.eval x = u)
    (base : Nat) (l xs : List UInt8) (h : Ob w base v l) (hsrc : Src Try.prog 1 tx u xs.length (xs.map u8v) w) (hlen : l.length + xs.length ≤ 200000000000000) (hbase : base ≤ w.heap.size)
    (k : ∀ A n c w', Ob w' base (.slice A n c) (l ++ xs) → w.grownBy w' v.ownBlock → (∀ j, (Value.slice A n c).ownBlock = some j → v.ownBlock = some j ∨ w.heap.size ≤ j) → K (a.put o.dst (.slice A n c)) w') :
    if Region.wanted o (yielded ops a.tmps) = true then Oper.wp Try.prog o a w K Q else E := by
  rw [if_pos hw]
  obtain ⟨v', w', hr, h1, h2, h3⟩ := app_bytes (ty := o.type) h hsrc hlen hbase
  obtain ⟨A, n, c, rfl⟩ : ∃ A n c, v' = .slice A n c := by obtain ⟨A, c, h, -, -⟩ := h1.len_cap; exact ⟨A, _, c, h⟩
  unfold Oper.wp execOp
  simp only [ho, resolve, invoke, builtin, Sem.run_bind, Sem.run_pure, Result.andThen_ok, List.map_toArray, List.map_cons, List.map_nil, hs, hx, hr]
  exact k A n c w' h1 h2 (fun j hj => by
    rcases h3 with e | e
    · exact .inl (e ▸ hj)
    · rw [e] at hj; injection hj with hj; exact .inr (by omega))
/-- A list that grows in a row of its own, beside the disk. -/
theorem St.grown {W w w' : World} {g : Nat} {v u : Value} {d : Dst} {l : List UInt8} {b0 : Nat} (h : St W w g v d) (ho : Ob w b0 u l) (hb : W.heap.size ≤ b0) (hg : w.grownBy w' u.ownBlock) (hne : ∀ j, u.ownBlock = some j → ¬ Own g v j) : St W w' g v d := by
  have hm : Mv (fun j => u.ownBlock = some j) w w' := Mv.grown (Mv.refl _ w) hg (fun k hk => .inl hk)
  exact ⟨h.1.mv hm (fun k hk e => hne k e hk), hm.ab h.2 (fun k hk => Nat.le_trans hb (ho.blk k hk).1)⟩
theorem own_old {W w : World} {g : Nat} {v : Value} {d : Dst} (hs : St W w g v d) {k : Nat} (hk : w.heap.size ≤ k) : ¬ Own g v k := by
  intro h
  rcases h with rfl | h
  · have := hs.1.1.lt; omega
  · have := (hs.1.2.1.blk k h).2; omega
theorem k_same {w : World} {b1 b2 : Nat} {u1 u2 : Value} {l m : List UInt8} (h : Ob w b1 u1 (l ++ m)) (k : Ob w b2 u2 ([] ++ l ++ m)) :
    Calls Try.prog 42 #[u1, u2] w fun e w' => e = .returned (.bool true) ∧ w = w' := by
  refine (Same_any w h.bs k.bs).mono fun _ _ ⟨e, ew⟩ => ⟨?_, ew⟩
  rw [e]; simp
end Go.Proofs.Ytlenbcehahhmcaa.diskKeeps

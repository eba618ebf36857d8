/- wire: the number of bytes; the same bytes. -/
import Derived.Test.YtphbaaaklgiloaaGreatWrA
import Derived.Test.YtphbaaaklgiloaaGreatDgWi
import Derived.Laws.BytesArg
import Derived.Laws.Bits64
namespace Go.Proofs.YtphbaaaklgiloaaGreat.Dg
open Go.RowKit
variable {w w' : World} {base B : Nat} {v : Value} {l : List UInt8}
theorem or_byte (l : List UInt8) (x : UInt8) (h : l.length < 8) : bits .or .u64 (valL l : Int) (((x.toNat * 2 ^ (8 * l.length)) : Nat) : Int) = (valL (l ++ [x]) : Int) := by
  have h1 := valL_lt l
  have h2 := valL_lt (l ++ [x])
  rw [valL_snoc] at h2 ⊢
  have e : (l ++ [x]).length = l.length + 1 := by simp
  rw [e] at h2
  have hm : 2 ^ (8 * (l.length + 1)) ≤ 2 ^ 64 := Nat.pow_le_pow_right (by omega) (by omega)
  have hs := u64_or_nat (valL l) (x.toNat * 2 ^ (8 * l.length)) (by omega) (by rw [Nat.mul_comm]; omega)
  rw [hs, Nat.mul_comm, Nat.or_comm, ← Nat.two_pow_add_eq_or_of_lt h1]
  congr 1
  omega
theorem shl_byte (l : List UInt8) (j : Nat) (h : j < l.length) (x : UInt8) (h8 : l.length ≤ 8) : IntKind.u64.wrap (IntKind.u64.wrap (n8 x) * 2 ^ (8 * j)) = ((x.toNat * 2 ^ (8 * (l.take j).length) : Nat) : Int) := by
  have hx := x.toNat_lt
  have e : (l.take j).length = j := by rw [List.length_take]; omega
  rw [e]
  have hp : 2 ^ (8 * j) ≤ 2 ^ 56 := Nat.pow_le_pow_right (by omega) (by omega)
  have hm : x.toNat * 2 ^ (8 * j) ≤ 255 * 2 ^ 56 := Nat.mul_le_mul (by omega) hp
  have w1 : IntKind.u64.wrap (n8 x) = (x.toNat : Int) := by
    rw [IntKind.wrap_u64]; unfold n8; omega
  rw [w1, IntKind.wrap_u64]
  have : (x.toNat : Int) * 2 ^ (8 * j) = ((x.toNat * 2 ^ (8 * j) : Nat) : Int) := by push_cast; rfl
  rw [this]
  omega
set_option maxHeartbeats 400000 in
theorem same_any {C : Nat} {u : Value} {m : List UInt8} (w : World) (h : Bs w B v l) (k : Bs w C u m) :
    Calls Tryz.prog 7 #[v, u] w fun e w' => e = .returned (.bool (l == m)) ∧ w = w' := by
  have hc1 := conv_bs h
  have hc2 := conv_bs k
  obtain ⟨A, c, rfl, h1, h2, h3⟩ := h
  obtain ⟨A', c', rfl, k1, k2, k3⟩ := k
  clear h3 k3
  go_enter Tryz.func7, Tryz.ntmps7
  go_wp2
  go_ret
  exact ⟨rfl, rfl⟩
set_option maxHeartbeats 400000 in
theorem num_any (n : Int) (w : World) :
    Calls Tryz.prog 9 #[.int .i64 n] w fun e w' => e = .returned (.int .i64 n) ∧ w = w' := by
  go_enter Tryz.func9, Tryz.ntmps9
  go_wp2
  go_ret
  exact ⟨rfl, rfl⟩
set_option maxRecDepth 100000 in
set_option maxHeartbeats 1000000 in
theorem lowFirst_any (w : World) (h : Bs w B v l) (hl : l.length ≤ 8) :
    Calls Tryz.prog 139 #[v] w fun e w' => e = .returned (.int .u64 (valL l : Int)) ∧ w = w' := by
  obtain ⟨A, c, rfl, h1, h2, h3⟩ := h
  by_cases hx : l = []
  · subst hx
    clear h3
    go_enter Tryz.func139, Tryz.ntmps139
    go_wp2
    go_loop [3, 8] (fun n i => n = .int .u64 0 ∧ i = .int .i64 0) (fun _ _ => 0)
    case atStart => exact ⟨rfl, rfl⟩
    case round =>
      obtain ⟨rfl, rfl⟩ := hrel
      go_wp2
      go_ret
      exact ⟨rfl, rfl⟩
  · obtain ⟨b, off, rfl, hb, hc⟩ := h3 hx
    clear h3
    go_enter Tryz.func139, Tryz.ntmps139
    go_wp2
    go_loop [3, 8] (fun n i => ∃ j : Nat, j ≤ l.length ∧ i = .int .i64 (j : Int) ∧ n = .int .u64 (valL (l.take j) : Int)) (fun _ i => l.length - (intOf i).toNat)
    case atStart => exact ⟨0, Nat.zero_le _, rfl, rfl⟩
    case round =>
      obtain ⟨j, hj, rfl, rfl⟩ := hrel
      by_cases hlt : j < l.length
      · have hcell := hc j hlt
        have hnx : valL (l.take (j + 1)) = valL (l.take j ++ [l.getD j 0]) := by rw [take_next l j hlt]
        have hor := or_byte (l.take j) (l.getD j 0) (by rw [List.length_take]; omega)
        have HX := Lib.hid hnx
        have HO := Lib.hid hor
        clear hnx hor hc
        go_wp2_with fail
        go_round
        case rel => exact ⟨j + 1, by omega, by go_num, by rw [getElem_D l j hlt, shl_byte l j hlt (l.getD j 0) hl, HO.out, ← HX.out]⟩
        case measure => simp [intOf]; omega
      · go_wp2
        go_ret
        have : j = l.length := by omega
        subst this
        rw [List.take_length]
        exact ⟨rfl, rfl⟩
theorem Ob.shape (h : Ob w base v l) : ∃ A n c, v = .slice A n c := by
  obtain ⟨A, c, rfl, -, -⟩ := h.len_cap
  exact ⟨_, _, _, rfl⟩
/-- append of bytes at a plain list; the new value shows that it is a slice. -/
theorem wpList_bytes3 {ops : Array Oper} {rest : List Oper} {o : Oper} {a : Act} {Q : Exit → Act → World → Prop} (hgd : o.guard = none) (s x : Operand) (tx : TypeId)
    (ho : o.op = .call { callee := .builtin .append, args := #[s, x], argTypes := #[41, tx] }) (v u : Value) (hs : a.eval s = v) (hx : a.eval x = u)
    (base : Nat) (l xs : List UInt8) (h : Ob w base v l) (hsrc : Src Tryz.prog 1 tx u xs.length (xs.map u8v) w) (hlen : l.length + xs.length ≤ 200000000000000) (hbase : base ≤ w.heap.size)
    (k : ∀ A n c w', Ob w' base (.slice A n c) (l ++ xs) → Fr base w w' → wpList Tryz.prog ops Q rest (a.put o.dst (.slice A n c)) w') : wpList Tryz.prog ops Q (o :: rest) a w := by
  refine wpList_bytes hgd s x tx ho v u hs hx base l xs h hsrc hlen hbase fun v' w' h1 h2 _ => ?_
  obtain ⟨A, n, c, rfl⟩ := h1.shape
  exact k A n c w' h1 (h.grown h2)
/-- append at a step of a region that draws its order. -/
theorem step_bytes {ops : Array Oper} {o : Oper} {a : Act} {K : Act → World → Prop} {Q : Exit → Act → World → Prop} {E : Prop} (hgd : o.guard = none) (s x : Operand) (tx : TypeId)
    (ho : o.op = .call { callee := .builtin .append, args := #[s, x], argTypes := #[41, tx] }) (v u : Value) (hs : a.eval s = v) (hx : a.eval x = u)
    (base : Nat) (l xs : List UInt8) (h : Ob w base v l) (hsrc : Src Tryz.prog 1 tx u xs.length (xs.map u8v) w) (hlen : l.length + xs.length ≤ 200000000000000) (hbase : base ≤ w.heap.size)
    (k : ∀ A n c w', Ob w' base (.slice A n c) (l ++ xs) → Fr base w w' → K (a.put o.dst (.slice A n c)) w') :
    if Region.wanted o (yielded ops a.tmps) = true then Oper.wp Tryz.prog o a w K Q else E := by
  have hw : Region.wanted o (yielded ops a.tmps) = true := by simp [Region.wanted, hgd]
  rw [if_pos hw]
  obtain ⟨v', w', hr, h1, h2, h3⟩ := app_bytes (ty := o.type) h hsrc hlen hbase
  obtain ⟨A, n, c, rfl⟩ := h1.shape
  unfold Oper.wp execOp
  simp only [ho, resolve, invoke, builtin, Sem.run_bind, Sem.run_pure, Result.andThen_ok, List.map_toArray, List.map_cons, List.map_nil, hs, hx, hr]
  exact k A n c w' h1 (h.grown h2)
end Go.Proofs.YtphbaaaklgiloaaGreat.Dg

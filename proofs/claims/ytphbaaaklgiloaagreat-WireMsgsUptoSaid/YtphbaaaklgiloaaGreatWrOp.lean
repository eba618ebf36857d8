/- wire: values of package api that came in, opened: their bytes. Made by wip/gen_open.py. -/
import Derived.Test.YtphbaaaklgiloaaGreatWrN
import Derived.Test.YtphbaaaklgiloaaGreatDgOb
import Derived.Test.YtphbaaaklgiloaaGreatRows
import Derived.Deep.Slices
namespace Go.Proofs.YtphbaaaklgiloaaGreat.Dg
open Go.RowKit Go.ChangeShapes Go.WideShapes Go.ChangeAt Go.Deep
theorem sz_pos : ∀ s : Sch, 0 < s.sz
  | .num => Nat.one_pos
  | .word => Nat.one_pos
  | .bool => Nat.one_pos
  | .text => Nat.one_pos
  | .data => Nat.one_pos
  | .list _ => Nat.one_pos
  | .pair a b => by have := sz_pos a; simp only [Sch.sz]; omega
section
variable {H : Type} {enc : TypeId × Value → H} {W : World}
/-- A value of type T that reads has bytes, of shape s, not many. -/
def Opn (H : Type) (enc : TypeId × Value → H) (W : World) (T : TypeId) (s : Sch) : Prop := ∀ {fuel : Nat} {cs : List Value} {x : DataW H × List MemPlace}, DataW.trod enc Tryz.prog W 0 (fun _ => true) true fuel T cs = some x → (∀ y ∈ x.2, y.block < W.heap.size) →
  ∃ m, EncF W W.heap.size s (fun k => cs[k]?) m ∧ cs.length = s.sz ∧ m.length ≤ 8 * Rows.uptoBulk x.1
theorem op_num {T : TypeId} (ht : Tryz.prog.underlying T = some (.int .i64)) : Opn H enc W T .num := by
  intro fuel cs x hf _
  obtain ⟨n, rfl, rfl, -⟩ := DataW.trod_int ht hf
  exact ⟨numL n, ⟨n, rfl, rfl⟩, rfl, by rw [numL_length]; simp [Rows.uptoBulk]⟩
theorem op_word {T : TypeId} (ht : Tryz.prog.underlying T = some (.int .u32)) : Opn H enc W T .word := by
  intro fuel cs x hf _
  obtain ⟨n, rfl, rfl, hw⟩ := DataW.trod_int ht hf
  have hb := bounds_u32 hw
  refine ⟨lowL n.toNat 4, ⟨n.toNat, by omega, ?_, rfl⟩, rfl, by rw [lowL_length]; simp [Rows.uptoBulk]⟩
  show some (Value.int .u32 n) = some (.int .u32 (n.toNat : Int))
  rw [Int.toNat_of_nonneg (by omega)]
theorem op_boo {T : TypeId} (ht : Tryz.prog.underlying T = some .bool) : Opn H enc W T .bool := by
  intro fuel cs x hf _
  obtain ⟨b, rfl, rfl⟩ := DataW.trod_bool ht hf
  exact ⟨_, ⟨b, rfl, rfl⟩, rfl, by simp [Rows.uptoBulk]⟩
theorem op_text {T : TypeId} (ht : Tryz.prog.underlying T = some .string) : Opn H enc W T .text := by
  intro fuel cs x hf _
  obtain ⟨s, rfl, rfl, -⟩ := DataW.trod_string ht hf
  exact ⟨_, ⟨s, rfl, rfl⟩, rfl, by rw [textL, List.length_append, lowL_length]; simp only [Rows.uptoBulk]; omega⟩
theorem wbulk_one (d : DataW H) : 1 ≤ Rows.uptoBulk d := by
  cases d with
  | lit l => cases l <;> simp [Rows.uptoBulk]
  | _ => simp [Rows.uptoBulk]
theorem wbulk_length (l : List (DataW H)) : l.length ≤ Rows.uptoBulkAll l := by
  induction l with
  | nil => exact Nat.zero_le _
  | cons x r ih => have := wbulk_one x; simp only [Rows.uptoBulkAll, List.length_cons]; omega
theorem wbulk_append (l r : List (DataW H)) : Rows.uptoBulkAll (l ++ r) = Rows.uptoBulkAll l + Rows.uptoBulkAll r := by
  induction l with
  | nil => simp [Rows.uptoBulkAll]
  | cons x l ih => simp only [List.cons_append, Rows.uptoBulkAll, ih]; omega
theorem op_dat : Opn H enc W 41 .data := by
  intro fuel cs x hf hlt
  obtain ⟨A, n, c, l, rfl, hb, hd⟩ := open_bs3 hf hlt
  refine ⟨_, ⟨_, l, rfl, hb, rfl⟩, rfl, ?_⟩
  rw [dataL, List.length_append, lowL_length]
  rcases hd with rfl | ⟨es, sp, hx, he⟩
  · have := wbulk_one x.1; simp; omega
  · have := wbulk_length es
    rw [hx]
    simp only [Rows.uptoBulk]
    omega
theorem op_list {T E : TypeId} {s : Sch} (ht : Tryz.prog.underlying T = some (.slice E)) (hc : Tryz.prog.cellsOf E = s.sz) (h : Opn H enc W E s) : Opn H enc W T (.list s) := by
  intro fuel cs x hf hlt
  rcases open_slice ht hf with ⟨rfl, rfl⟩ | ⟨a, len, cap, m, k, D, Pl, rfl, -, hl, hm, hmm, rfl, hx⟩
  · exact ⟨_, ⟨none, 0, 0, [], rfl, Nat.le_refl _, by omega, rfl, fun h => absurd rfl h, rfl⟩, rfl, by simp [Rows.uptoBulk, lowL_length]⟩
  · simp only [if_true] at hmm
    subst hmm
    rw [hc] at hx hlt
    have each : ∀ i, i < len → ∃ t : List UInt8, EncF W W.heap.size s (fun k => W.cell? (a.add (i * s.sz + k))) t ∧ t.length ≤ 8 * Rows.uptoBulk (D i) := by
      intro i hi
      obtain ⟨cs', hcs, htr⟩ := hx i (by omega)
      obtain ⟨t, e1, e2, e3⟩ := h htr (fun y hy => hlt y (List.mem_append_right _ (List.mem_flatMap.2 ⟨i, List.mem_range.2 (by omega), hy⟩)))
      obtain ⟨-, hlen, hat⟩ := World.cells?_some hcs
      refine ⟨t, EncF.congr (fun _ _ _ => rfl) _ _ _ _ (fun k hk => ?_) e1, e3⟩
      have h1 := hat k (by omega)
      rw [Go.Deep.add_add] at h1
      exact h1
    obtain ⟨t, htt⟩ := choose_lt each
    have hfar : ∀ j, j ≤ len → (((List.range j).map t).flatten).length ≤ 8 * Rows.uptoBulkAll ((List.range j).map D) := by
      intro j
      induction j with
      | zero => intro _; exact Nat.zero_le _
      | succ j ih =>
        intro hj
        have h1 := ih (by omega)
        have h2 := (htt j (by omega)).2
        rw [List.range_succ, List.map_append, List.map_append, wbulk_append, List.flatten_append, List.length_append]
        simp only [List.map_cons, List.map_nil, List.flatten_cons, List.flatten_nil, List.append_nil, Rows.uptoBulkAll]
        omega
    refine ⟨lowL len 4 ++ ((List.range len).map t).flatten, ⟨some a, len, _, (List.range len).map t, rfl, hl, by unfold maxLen at hm; omega, by simp, fun h0 => ?_, rfl⟩, rfl, ?_⟩
    · obtain ⟨ab, ao, spot⟩ := a
      have hz : 0 < s.sz := sz_pos s
      have hspot : spot = none := by
        obtain ⟨cs', hcs, htr⟩ := hx 0 (by omega)
        obtain ⟨-, hlen, hat⟩ := World.cells?_some hcs
        have h1 := hat 0 (by omega)
        rw [Go.Deep.add_add] at h1
        have h2 := (List.getElem?_eq_getElem (l := cs') (i := 0) (by omega))
        rw [h2] at h1
        simpa [Addr.add] using World.cell?_spot h1
      subst hspot
      refine ⟨ab, ao, rfl, hlt (.cell ab (ao + 0)) (List.mem_append_left _ ?_), fun i hi => ?_⟩
      · simp only [MemPlace.row, List.mem_map, List.mem_range]
        exact ⟨0, Nat.mul_pos (by omega) hz, rfl⟩
      · have h1 := (htt i hi).1
        have e : ((List.range len).map t).getD i [] = t i := by
          rw [List.getD_eq_getElem?_getD, List.getElem?_map, List.getElem?_range hi]; rfl
        rw [e]
        refine EncF.congr (fun _ _ _ => rfl) _ _ _ _ (fun k hk => ?_) h1
        show W.cell? ⟨ab, ao + i * s.sz + k, none⟩ = W.cell? ((⟨ab, ao, none⟩ : Addr).add (i * s.sz + k))
        rw [Addr.add_lit, Nat.add_assoc]
    · have h1 := hfar len (Nat.le_refl _)
      rw [List.length_append, lowL_length]
      simp only [Rows.uptoBulk]
      omega
theorem enc_pair {w : World} {base : Nat} {a b : Sch} {A B : List Value} {m1 m2 : List UInt8} (hA : A.length = a.sz) (h1 : EncF w base a (fun k => A[k]?) m1) (h2 : EncF w base b (fun k => B[k]?) m2) : EncF w base (.pair a b) (fun k => (A ++ B)[k]?) (m1 ++ m2) :=
  ⟨m1, m2, EncF.congr (fun _ _ _ => rfl) _ _ _ _ (fun k hk => List.getElem?_append_left (by omega)) h1, EncF.congr (fun _ _ _ => rfl) _ _ _ _ (fun k _ => by
    show (A ++ B)[a.sz + k]? = B[k]?
    rw [List.getElem?_append_right (by omega), show a.sz + k - A.length = k by omega]) h2, rfl⟩
theorem op_int : Opn H enc W 3 .num := op_num Tryz.underlying3
theorem op_bool : Opn H enc W 4 .bool := op_boo Tryz.underlying4
set_option maxRecDepth 100000 in
theorem op_osd : Opn H enc W 216 (.pair .bool (.pair .bool (.pair .num (.pair .num (.pair .num .num))))) := by
  intro fuel cs x hf hlt
  obtain ⟨xs, mm, rfl, hx, hlen, hxl, hfs⟩ := DataW.trod_struct Tryz.underlying216 hf
  have hcells : Tryz.prog.cellsOf 216 = 6 := by kernel_rfl
  rw [hcells] at hlen
  match cs, hlen with
  | [c0, c1, c2, c3, c4, c5], _ =>
    match xs, hxl with
    | [x0, x1, x2, x3, x4, x5], _ =>
      subst hx
      have f0 : DataW.trod enc Tryz.prog W 0 (fun _ => true) true mm 4 [c0] = some x0 := hfs 0 _ rfl
      obtain ⟨m0, e0, -, b0⟩ := op_bool f0 (fun y hy => hlt y (by simp [hy]))
      have f1 : DataW.trod enc Tryz.prog W 0 (fun _ => true) true mm 4 [c1] = some x1 := hfs 1 _ rfl
      obtain ⟨m1, e1, -, b1⟩ := op_bool f1 (fun y hy => hlt y (by simp [hy]))
      have f2 : DataW.trod enc Tryz.prog W 0 (fun _ => true) true mm 3 [c2] = some x2 := hfs 2 _ rfl
      obtain ⟨m2, e2, -, b2⟩ := op_int f2 (fun y hy => hlt y (by simp [hy]))
      have f3 : DataW.trod enc Tryz.prog W 0 (fun _ => true) true mm 3 [c3] = some x3 := hfs 3 _ rfl
      obtain ⟨m3, e3, -, b3⟩ := op_int f3 (fun y hy => hlt y (by simp [hy]))
      have f4 : DataW.trod enc Tryz.prog W 0 (fun _ => true) true mm 3 [c4] = some x4 := hfs 4 _ rfl
      obtain ⟨m4, e4, -, b4⟩ := op_int f4 (fun y hy => hlt y (by simp [hy]))
      have f5 : DataW.trod enc Tryz.prog W 0 (fun _ => true) true mm 3 [c5] = some x5 := hfs 5 _ rfl
      obtain ⟨m5, e5, -, b5⟩ := op_int f5 (fun y hy => hlt y (by simp [hy]))
      refine ⟨m0 ++ (m1 ++ (m2 ++ (m3 ++ (m4 ++ (m5))))), enc_pair rfl e0 (enc_pair rfl e1 (enc_pair rfl e2 (enc_pair rfl e3 (enc_pair rfl e4 e5)))), rfl, ?_⟩
      simp only [List.length_append, List.map_cons, List.map_nil, Rows.uptoBulk, Rows.uptoBulkAll]
      omega
theorem op_losd : Opn H enc W 66 (.list (.pair .bool (.pair .bool (.pair .num (.pair .num (.pair .num .num)))))) := op_list Tryz.underlying66 (by kernel_rfl) op_osd
set_option maxRecDepth 100000 in
theorem op_pool : Opn H enc W 156 (.pair .num (.pair .num (.pair .num .num))) := by
  intro fuel cs x hf hlt
  obtain ⟨xs, mm, rfl, hx, hlen, hxl, hfs⟩ := DataW.trod_struct Tryz.underlying156 hf
  have hcells : Tryz.prog.cellsOf 156 = 4 := by kernel_rfl
  rw [hcells] at hlen
  match cs, hlen with
  | [c0, c1, c2, c3], _ =>
    match xs, hxl with
    | [x0, x1, x2, x3], _ =>
      subst hx
      have f0 : DataW.trod enc Tryz.prog W 0 (fun _ => true) true mm 3 [c0] = some x0 := hfs 0 _ rfl
      obtain ⟨m0, e0, -, b0⟩ := op_int f0 (fun y hy => hlt y (by simp [hy]))
      have f1 : DataW.trod enc Tryz.prog W 0 (fun _ => true) true mm 3 [c1] = some x1 := hfs 1 _ rfl
      obtain ⟨m1, e1, -, b1⟩ := op_int f1 (fun y hy => hlt y (by simp [hy]))
      have f2 : DataW.trod enc Tryz.prog W 0 (fun _ => true) true mm 3 [c2] = some x2 := hfs 2 _ rfl
      obtain ⟨m2, e2, -, b2⟩ := op_int f2 (fun y hy => hlt y (by simp [hy]))
      have f3 : DataW.trod enc Tryz.prog W 0 (fun _ => true) true mm 3 [c3] = some x3 := hfs 3 _ rfl
      obtain ⟨m3, e3, -, b3⟩ := op_int f3 (fun y hy => hlt y (by simp [hy]))
      refine ⟨m0 ++ (m1 ++ (m2 ++ (m3))), enc_pair rfl e0 (enc_pair rfl e1 (enc_pair rfl e2 e3)), rfl, ?_⟩
      simp only [List.length_append, List.map_cons, List.map_nil, Rows.uptoBulk, Rows.uptoBulkAll]
      omega
theorem op_lpool : Opn H enc W 67 (.list (.pair .num (.pair .num (.pair .num .num)))) := op_list Tryz.underlying67 (by kernel_rfl) op_pool
theorem op_lint : Opn H enc W 157 (.list .num) := op_list Tryz.underlying157 (by kernel_rfl) op_int
set_option maxRecDepth 100000 in
theorem op_bucket : Opn H enc W 159 (.pair .num (.pair .num (.pair (.list .num) (.list .num)))) := by
  intro fuel cs x hf hlt
  obtain ⟨xs, mm, rfl, hx, hlen, hxl, hfs⟩ := DataW.trod_struct Tryz.underlying159 hf
  have hcells : Tryz.prog.cellsOf 159 = 4 := by kernel_rfl
  rw [hcells] at hlen
  match cs, hlen with
  | [c0, c1, c2, c3], _ =>
    match xs, hxl with
    | [x0, x1, x2, x3], _ =>
      subst hx
      have f0 : DataW.trod enc Tryz.prog W 0 (fun _ => true) true mm 3 [c0] = some x0 := hfs 0 _ rfl
      obtain ⟨m0, e0, -, b0⟩ := op_int f0 (fun y hy => hlt y (by simp [hy]))
      have f1 : DataW.trod enc Tryz.prog W 0 (fun _ => true) true mm 3 [c1] = some x1 := hfs 1 _ rfl
      obtain ⟨m1, e1, -, b1⟩ := op_int f1 (fun y hy => hlt y (by simp [hy]))
      have f2 : DataW.trod enc Tryz.prog W 0 (fun _ => true) true mm 157 [c2] = some x2 := hfs 2 _ rfl
      obtain ⟨m2, e2, -, b2⟩ := op_lint f2 (fun y hy => hlt y (by simp [hy]))
      have f3 : DataW.trod enc Tryz.prog W 0 (fun _ => true) true mm 157 [c3] = some x3 := hfs 3 _ rfl
      obtain ⟨m3, e3, -, b3⟩ := op_lint f3 (fun y hy => hlt y (by simp [hy]))
      refine ⟨m0 ++ (m1 ++ (m2 ++ (m3))), enc_pair rfl e0 (enc_pair rfl e1 (enc_pair rfl e2 e3)), rfl, ?_⟩
      simp only [List.length_append, List.map_cons, List.map_nil, Rows.uptoBulk, Rows.uptoBulkAll]
      omega
theorem op_lbucket : Opn H enc W 68 (.list (.pair .num (.pair .num (.pair (.list .num) (.list .num))))) := op_list Tryz.underlying68 (by kernel_rfl) op_bucket
set_option maxRecDepth 100000 in
theorem op_map : Opn H enc W 70 (.pair .num (.pair (.list (.pair .bool (.pair .bool (.pair .num (.pair .num (.pair .num .num)))))) (.pair (.list (.pair .num (.pair .num (.pair .num .num)))) (.pair (.list (.pair .num (.pair .num (.pair (.list .num) (.list .num))))) .num)))) := by
  intro fuel cs x hf hlt
  obtain ⟨xs, mm, rfl, hx, hlen, hxl, hfs⟩ := DataW.trod_struct Tryz.underlying70 hf
  have hcells : Tryz.prog.cellsOf 70 = 5 := by kernel_rfl
  rw [hcells] at hlen
  match cs, hlen with
  | [c0, c1, c2, c3, c4], _ =>
    match xs, hxl with
    | [x0, x1, x2, x3, x4], _ =>
      subst hx
      have f0 : DataW.trod enc Tryz.prog W 0 (fun _ => true) true mm 3 [c0] = some x0 := hfs 0 _ rfl
      obtain ⟨m0, e0, -, b0⟩ := op_int f0 (fun y hy => hlt y (by simp [hy]))
      have f1 : DataW.trod enc Tryz.prog W 0 (fun _ => true) true mm 66 [c1] = some x1 := hfs 1 _ rfl
      obtain ⟨m1, e1, -, b1⟩ := op_losd f1 (fun y hy => hlt y (by simp [hy]))
      have f2 : DataW.trod enc Tryz.prog W 0 (fun _ => true) true mm 67 [c2] = some x2 := hfs 2 _ rfl
      obtain ⟨m2, e2, -, b2⟩ := op_lpool f2 (fun y hy => hlt y (by simp [hy]))
      have f3 : DataW.trod enc Tryz.prog W 0 (fun _ => true) true mm 68 [c3] = some x3 := hfs 3 _ rfl
      obtain ⟨m3, e3, -, b3⟩ := op_lbucket f3 (fun y hy => hlt y (by simp [hy]))
      have f4 : DataW.trod enc Tryz.prog W 0 (fun _ => true) true mm 3 [c4] = some x4 := hfs 4 _ rfl
      obtain ⟨m4, e4, -, b4⟩ := op_int f4 (fun y hy => hlt y (by simp [hy]))
      refine ⟨m0 ++ (m1 ++ (m2 ++ (m3 ++ (m4)))), enc_pair rfl e0 (enc_pair rfl e1 (enc_pair rfl e2 (enc_pair rfl e3 e4))), rfl, ?_⟩
      simp only [List.length_append, List.map_cons, List.map_nil, Rows.uptoBulk, Rows.uptoBulkAll]
      omega
set_option maxRecDepth 100000 in
theorem op_change : Opn H enc W 161 (.pair .num (.pair .num (.pair .num (.pair (.pair .num (.pair .num (.pair .num .num))) (.pair .num (.pair .num (.pair (.list .num) (.list .num)))))))) := by
  intro fuel cs x hf hlt
  obtain ⟨xs, mm, rfl, hx, hlen, hxl, hfs⟩ := DataW.trod_struct Tryz.underlying161 hf
  have hcells : Tryz.prog.cellsOf 161 = 11 := by kernel_rfl
  rw [hcells] at hlen
  match cs, hlen with
  | [c0, c1, c2, c3, c4, c5, c6, c7, c8, c9, c10], _ =>
    match xs, hxl with
    | [x0, x1, x2, x3, x4], _ =>
      subst hx
      have f0 : DataW.trod enc Tryz.prog W 0 (fun _ => true) true mm 3 [c0] = some x0 := hfs 0 _ rfl
      obtain ⟨m0, e0, -, b0⟩ := op_int f0 (fun y hy => hlt y (by simp [hy]))
      have f1 : DataW.trod enc Tryz.prog W 0 (fun _ => true) true mm 3 [c1] = some x1 := hfs 1 _ rfl
      obtain ⟨m1, e1, -, b1⟩ := op_int f1 (fun y hy => hlt y (by simp [hy]))
      have f2 : DataW.trod enc Tryz.prog W 0 (fun _ => true) true mm 3 [c2] = some x2 := hfs 2 _ rfl
      obtain ⟨m2, e2, -, b2⟩ := op_int f2 (fun y hy => hlt y (by simp [hy]))
      have f3 : DataW.trod enc Tryz.prog W 0 (fun _ => true) true mm 156 [c3, c4, c5, c6] = some x3 := hfs 3 _ rfl
      obtain ⟨m3, e3, -, b3⟩ := op_pool f3 (fun y hy => hlt y (by simp [hy]))
      have f4 : DataW.trod enc Tryz.prog W 0 (fun _ => true) true mm 159 [c7, c8, c9, c10] = some x4 := hfs 4 _ rfl
      obtain ⟨m4, e4, -, b4⟩ := op_bucket f4 (fun y hy => hlt y (by simp [hy]))
      refine ⟨m0 ++ (m1 ++ (m2 ++ (m3 ++ (m4)))), enc_pair rfl e0 (enc_pair rfl e1 (enc_pair rfl e2 (enc_pair rfl e3 e4))), rfl, ?_⟩
      simp only [List.length_append, List.map_cons, List.map_nil, Rows.uptoBulk, Rows.uptoBulkAll]
      omega
theorem op_lchange : Opn H enc W 28 (.list (.pair .num (.pair .num (.pair .num (.pair (.pair .num (.pair .num (.pair .num .num))) (.pair .num (.pair .num (.pair (.list .num) (.list .num))))))))) := op_list Tryz.underlying28 (by kernel_rfl) op_change
set_option maxRecDepth 100000 in
theorem op_inc : Opn H enc W 60 (.pair .num (.list (.pair .num (.pair .num (.pair .num (.pair (.pair .num (.pair .num (.pair .num .num))) (.pair .num (.pair .num (.pair (.list .num) (.list .num)))))))))) := by
  intro fuel cs x hf hlt
  obtain ⟨xs, mm, rfl, hx, hlen, hxl, hfs⟩ := DataW.trod_struct Tryz.underlying60 hf
  have hcells : Tryz.prog.cellsOf 60 = 2 := by kernel_rfl
  rw [hcells] at hlen
  match cs, hlen with
  | [c0, c1], _ =>
    match xs, hxl with
    | [x0, x1], _ =>
      subst hx
      have f0 : DataW.trod enc Tryz.prog W 0 (fun _ => true) true mm 3 [c0] = some x0 := hfs 0 _ rfl
      obtain ⟨m0, e0, -, b0⟩ := op_int f0 (fun y hy => hlt y (by simp [hy]))
      have f1 : DataW.trod enc Tryz.prog W 0 (fun _ => true) true mm 28 [c1] = some x1 := hfs 1 _ rfl
      obtain ⟨m1, e1, -, b1⟩ := op_lchange f1 (fun y hy => hlt y (by simp [hy]))
      refine ⟨m0 ++ (m1), enc_pair rfl e0 e1, rfl, ?_⟩
      simp only [List.length_append, List.map_cons, List.map_nil, Rows.uptoBulk, Rows.uptoBulkAll]
      omega
set_option maxRecDepth 100000 in
theorem op_version : Opn H enc W 30 (.pair .num .num) := by
  intro fuel cs x hf hlt
  obtain ⟨xs, mm, rfl, hx, hlen, hxl, hfs⟩ := DataW.trod_struct Tryz.underlying30 hf
  have hcells : Tryz.prog.cellsOf 30 = 2 := by kernel_rfl
  rw [hcells] at hlen
  match cs, hlen with
  | [c0, c1], _ =>
    match xs, hxl with
    | [x0, x1], _ =>
      subst hx
      have f0 : DataW.trod enc Tryz.prog W 0 (fun _ => true) true mm 3 [c0] = some x0 := hfs 0 _ rfl
      obtain ⟨m0, e0, -, b0⟩ := op_int f0 (fun y hy => hlt y (by simp [hy]))
      have f1 : DataW.trod enc Tryz.prog W 0 (fun _ => true) true mm 3 [c1] = some x1 := hfs 1 _ rfl
      obtain ⟨m1, e1, -, b1⟩ := op_int f1 (fun y hy => hlt y (by simp [hy]))
      refine ⟨m0 ++ (m1), enc_pair rfl e0 e1, rfl, ?_⟩
      simp only [List.length_append, List.map_cons, List.map_nil, Rows.uptoBulk, Rows.uptoBulkAll]
      omega
theorem op_errno : Opn H enc W 38 .num := op_num Tryz.underlying38
theorem op_string : Opn H enc W 9 .text := op_text Tryz.underlying9
set_option maxRecDepth 100000 in
theorem op_entry : Opn H enc W 40 (.pair (.pair .num .num) (.pair .bool (.pair .num (.pair .text (.pair .num .num))))) := by
  intro fuel cs x hf hlt
  obtain ⟨xs, mm, rfl, hx, hlen, hxl, hfs⟩ := DataW.trod_struct Tryz.underlying40 hf
  have hcells : Tryz.prog.cellsOf 40 = 7 := by kernel_rfl
  rw [hcells] at hlen
  match cs, hlen with
  | [c0, c1, c2, c3, c4, c5, c6], _ =>
    match xs, hxl with
    | [x0, x1, x2, x3, x4, x5], _ =>
      subst hx
      have f0 : DataW.trod enc Tryz.prog W 0 (fun _ => true) true mm 30 [c0, c1] = some x0 := hfs 0 _ rfl
      obtain ⟨m0, e0, -, b0⟩ := op_version f0 (fun y hy => hlt y (by simp [hy]))
      have f1 : DataW.trod enc Tryz.prog W 0 (fun _ => true) true mm 4 [c2] = some x1 := hfs 1 _ rfl
      obtain ⟨m1, e1, -, b1⟩ := op_bool f1 (fun y hy => hlt y (by simp [hy]))
      have f2 : DataW.trod enc Tryz.prog W 0 (fun _ => true) true mm 38 [c3] = some x2 := hfs 2 _ rfl
      obtain ⟨m2, e2, -, b2⟩ := op_errno f2 (fun y hy => hlt y (by simp [hy]))
      have f3 : DataW.trod enc Tryz.prog W 0 (fun _ => true) true mm 9 [c4] = some x3 := hfs 3 _ rfl
      obtain ⟨m3, e3, -, b3⟩ := op_string f3 (fun y hy => hlt y (by simp [hy]))
      have f4 : DataW.trod enc Tryz.prog W 0 (fun _ => true) true mm 3 [c5] = some x4 := hfs 4 _ rfl
      obtain ⟨m4, e4, -, b4⟩ := op_int f4 (fun y hy => hlt y (by simp [hy]))
      have f5 : DataW.trod enc Tryz.prog W 0 (fun _ => true) true mm 3 [c6] = some x5 := hfs 5 _ rfl
      obtain ⟨m5, e5, -, b5⟩ := op_int f5 (fun y hy => hlt y (by simp [hy]))
      refine ⟨m0 ++ (m1 ++ (m2 ++ (m3 ++ (m4 ++ (m5))))), enc_pair rfl e0 (enc_pair rfl e1 (enc_pair rfl e2 (enc_pair rfl e3 (enc_pair rfl e4 e5)))), rfl, ?_⟩
      simp only [List.length_append, List.map_cons, List.map_nil, Rows.uptoBulk, Rows.uptoBulkAll]
      omega
theorem op_lentry : Opn H enc W 33 (.list (.pair (.pair .num .num) (.pair .bool (.pair .num (.pair .text (.pair .num .num)))))) := op_list Tryz.underlying33 (by kernel_rfl) op_entry
set_option maxRecDepth 100000 in
theorem op_last : Opn H enc W 241 (.pair .num (.pair .num (.pair .num (.pair .num .num)))) := by
  intro fuel cs x hf hlt
  obtain ⟨xs, mm, rfl, hx, hlen, hxl, hfs⟩ := DataW.trod_struct Tryz.underlying241 hf
  have hcells : Tryz.prog.cellsOf 241 = 5 := by kernel_rfl
  rw [hcells] at hlen
  match cs, hlen with
  | [c0, c1, c2, c3, c4], _ =>
    match xs, hxl with
    | [x0, x1, x2, x3], _ =>
      subst hx
      have f0 : DataW.trod enc Tryz.prog W 0 (fun _ => true) true mm 3 [c0] = some x0 := hfs 0 _ rfl
      obtain ⟨m0, e0, -, b0⟩ := op_int f0 (fun y hy => hlt y (by simp [hy]))
      have f1 : DataW.trod enc Tryz.prog W 0 (fun _ => true) true mm 3 [c1] = some x1 := hfs 1 _ rfl
      obtain ⟨m1, e1, -, b1⟩ := op_int f1 (fun y hy => hlt y (by simp [hy]))
      have f2 : DataW.trod enc Tryz.prog W 0 (fun _ => true) true mm 38 [c2] = some x2 := hfs 2 _ rfl
      obtain ⟨m2, e2, -, b2⟩ := op_errno f2 (fun y hy => hlt y (by simp [hy]))
      have f3 : DataW.trod enc Tryz.prog W 0 (fun _ => true) true mm 30 [c3, c4] = some x3 := hfs 3 _ rfl
      obtain ⟨m3, e3, -, b3⟩ := op_version f3 (fun y hy => hlt y (by simp [hy]))
      refine ⟨m0 ++ (m1 ++ (m2 ++ (m3))), enc_pair rfl e0 (enc_pair rfl e1 (enc_pair rfl e2 e3)), rfl, ?_⟩
      simp only [List.length_append, List.map_cons, List.map_nil, Rows.uptoBulk, Rows.uptoBulkAll]
      omega
theorem op_llast : Opn H enc W 34 (.list (.pair .num (.pair .num (.pair .num (.pair .num .num))))) := op_list Tryz.underlying34 (by kernel_rfl) op_last
theorem op_uint32 : Opn H enc W 175 .word := op_word Tryz.underlying175
set_option maxRecDepth 100000 in
theorem op_item : Opn H enc W 177 (.pair .text (.pair (.pair .num .num) .word)) := by
  intro fuel cs x hf hlt
  obtain ⟨xs, mm, rfl, hx, hlen, hxl, hfs⟩ := DataW.trod_struct Tryz.underlying177 hf
  have hcells : Tryz.prog.cellsOf 177 = 4 := by kernel_rfl
  rw [hcells] at hlen
  match cs, hlen with
  | [c0, c1, c2, c3], _ =>
    match xs, hxl with
    | [x0, x1, x2], _ =>
      subst hx
      have f0 : DataW.trod enc Tryz.prog W 0 (fun _ => true) true mm 9 [c0] = some x0 := hfs 0 _ rfl
      obtain ⟨m0, e0, -, b0⟩ := op_string f0 (fun y hy => hlt y (by simp [hy]))
      have f1 : DataW.trod enc Tryz.prog W 0 (fun _ => true) true mm 30 [c1, c2] = some x1 := hfs 1 _ rfl
      obtain ⟨m1, e1, -, b1⟩ := op_version f1 (fun y hy => hlt y (by simp [hy]))
      have f2 : DataW.trod enc Tryz.prog W 0 (fun _ => true) true mm 175 [c3] = some x2 := hfs 2 _ rfl
      obtain ⟨m2, e2, -, b2⟩ := op_uint32 f2 (fun y hy => hlt y (by simp [hy]))
      refine ⟨m0 ++ (m1 ++ (m2)), enc_pair rfl e0 (enc_pair rfl e1 e2), rfl, ?_⟩
      simp only [List.length_append, List.map_cons, List.map_nil, Rows.uptoBulk, Rows.uptoBulkAll]
      omega
theorem op_litem : Opn H enc W 35 (.list (.pair .text (.pair (.pair .num .num) .word))) := op_list Tryz.underlying35 (by kernel_rfl) op_item
set_option maxRecDepth 100000 in
theorem op_state : Opn H enc W 37 (.pair .num (.pair (.pair .num .num) (.pair (.list (.pair (.pair .num .num) (.pair .bool (.pair .num (.pair .text (.pair .num .num)))))) (.pair (.list (.pair .num (.pair .num (.pair .num (.pair .num .num))))) (.list (.pair .text (.pair (.pair .num .num) .word))))))) := by
  intro fuel cs x hf hlt
  obtain ⟨xs, mm, rfl, hx, hlen, hxl, hfs⟩ := DataW.trod_struct Tryz.underlying37 hf
  have hcells : Tryz.prog.cellsOf 37 = 6 := by kernel_rfl
  rw [hcells] at hlen
  match cs, hlen with
  | [c0, c1, c2, c3, c4, c5], _ =>
    match xs, hxl with
    | [x0, x1, x2, x3, x4], _ =>
      subst hx
      have f0 : DataW.trod enc Tryz.prog W 0 (fun _ => true) true mm 3 [c0] = some x0 := hfs 0 _ rfl
      obtain ⟨m0, e0, -, b0⟩ := op_int f0 (fun y hy => hlt y (by simp [hy]))
      have f1 : DataW.trod enc Tryz.prog W 0 (fun _ => true) true mm 30 [c1, c2] = some x1 := hfs 1 _ rfl
      obtain ⟨m1, e1, -, b1⟩ := op_version f1 (fun y hy => hlt y (by simp [hy]))
      have f2 : DataW.trod enc Tryz.prog W 0 (fun _ => true) true mm 33 [c3] = some x2 := hfs 2 _ rfl
      obtain ⟨m2, e2, -, b2⟩ := op_lentry f2 (fun y hy => hlt y (by simp [hy]))
      have f3 : DataW.trod enc Tryz.prog W 0 (fun _ => true) true mm 34 [c4] = some x3 := hfs 3 _ rfl
      obtain ⟨m3, e3, -, b3⟩ := op_llast f3 (fun y hy => hlt y (by simp [hy]))
      have f4 : DataW.trod enc Tryz.prog W 0 (fun _ => true) true mm 35 [c5] = some x4 := hfs 4 _ rfl
      obtain ⟨m4, e4, -, b4⟩ := op_litem f4 (fun y hy => hlt y (by simp [hy]))
      refine ⟨m0 ++ (m1 ++ (m2 ++ (m3 ++ (m4)))), enc_pair rfl e0 (enc_pair rfl e1 (enc_pair rfl e2 (enc_pair rfl e3 e4))), rfl, ?_⟩
      simp only [List.length_append, List.map_cons, List.map_nil, Rows.uptoBulk, Rows.uptoBulkAll]
      omega
set_option maxRecDepth 100000 in
theorem op_pg : Opn H enc W 25 (.pair .num .num) := by
  intro fuel cs x hf hlt
  obtain ⟨xs, mm, rfl, hx, hlen, hxl, hfs⟩ := DataW.trod_struct Tryz.underlying25 hf
  have hcells : Tryz.prog.cellsOf 25 = 2 := by kernel_rfl
  rw [hcells] at hlen
  match cs, hlen with
  | [c0, c1], _ =>
    match xs, hxl with
    | [x0, x1], _ =>
      subst hx
      have f0 : DataW.trod enc Tryz.prog W 0 (fun _ => true) true mm 3 [c0] = some x0 := hfs 0 _ rfl
      obtain ⟨m0, e0, -, b0⟩ := op_int f0 (fun y hy => hlt y (by simp [hy]))
      have f1 : DataW.trod enc Tryz.prog W 0 (fun _ => true) true mm 3 [c1] = some x1 := hfs 1 _ rfl
      obtain ⟨m1, e1, -, b1⟩ := op_int f1 (fun y hy => hlt y (by simp [hy]))
      refine ⟨m0 ++ (m1), enc_pair rfl e0 e1, rfl, ?_⟩
      simp only [List.length_append, List.map_cons, List.map_nil, Rows.uptoBulk, Rows.uptoBulkAll]
      omega
theorem op_luint8 : Opn H enc W 41 .data := op_dat
set_option maxRecDepth 100000 in
theorem op_step : Opn H enc W 252 (.pair .num (.pair (.pair .num .num) (.pair .text (.pair .num (.pair .num (.pair .text .data)))))) := by
  intro fuel cs x hf hlt
  obtain ⟨xs, mm, rfl, hx, hlen, hxl, hfs⟩ := DataW.trod_struct Tryz.underlying252 hf
  have hcells : Tryz.prog.cellsOf 252 = 8 := by kernel_rfl
  rw [hcells] at hlen
  match cs, hlen with
  | [c0, c1, c2, c3, c4, c5, c6, c7], _ =>
    match xs, hxl with
    | [x0, x1, x2, x3, x4, x5, x6], _ =>
      subst hx
      have f0 : DataW.trod enc Tryz.prog W 0 (fun _ => true) true mm 3 [c0] = some x0 := hfs 0 _ rfl
      obtain ⟨m0, e0, -, b0⟩ := op_int f0 (fun y hy => hlt y (by simp [hy]))
      have f1 : DataW.trod enc Tryz.prog W 0 (fun _ => true) true mm 25 [c1, c2] = some x1 := hfs 1 _ rfl
      obtain ⟨m1, e1, -, b1⟩ := op_pg f1 (fun y hy => hlt y (by simp [hy]))
      have f2 : DataW.trod enc Tryz.prog W 0 (fun _ => true) true mm 9 [c3] = some x2 := hfs 2 _ rfl
      obtain ⟨m2, e2, -, b2⟩ := op_string f2 (fun y hy => hlt y (by simp [hy]))
      have f3 : DataW.trod enc Tryz.prog W 0 (fun _ => true) true mm 3 [c4] = some x3 := hfs 3 _ rfl
      obtain ⟨m3, e3, -, b3⟩ := op_int f3 (fun y hy => hlt y (by simp [hy]))
      have f4 : DataW.trod enc Tryz.prog W 0 (fun _ => true) true mm 3 [c5] = some x4 := hfs 4 _ rfl
      obtain ⟨m4, e4, -, b4⟩ := op_int f4 (fun y hy => hlt y (by simp [hy]))
      have f5 : DataW.trod enc Tryz.prog W 0 (fun _ => true) true mm 9 [c6] = some x5 := hfs 5 _ rfl
      obtain ⟨m5, e5, -, b5⟩ := op_string f5 (fun y hy => hlt y (by simp [hy]))
      have f6 : DataW.trod enc Tryz.prog W 0 (fun _ => true) true mm 41 [c7] = some x6 := hfs 6 _ rfl
      obtain ⟨m6, e6, -, b6⟩ := op_luint8 f6 (fun y hy => hlt y (by simp [hy]))
      refine ⟨m0 ++ (m1 ++ (m2 ++ (m3 ++ (m4 ++ (m5 ++ (m6)))))), enc_pair rfl e0 (enc_pair rfl e1 (enc_pair rfl e2 (enc_pair rfl e3 (enc_pair rfl e4 (enc_pair rfl e5 e6))))), rfl, ?_⟩
      simp only [List.length_append, List.map_cons, List.map_nil, Rows.uptoBulk, Rows.uptoBulkAll]
      omega
theorem op_lstep : Opn H enc W 81 (.list (.pair .num (.pair (.pair .num .num) (.pair .text (.pair .num (.pair .num (.pair .text .data))))))) := op_list Tryz.underlying81 (by kernel_rfl) op_step
set_option maxRecDepth 100000 in
theorem op_tx : Opn H enc W 83 (.list (.pair .num (.pair (.pair .num .num) (.pair .text (.pair .num (.pair .num (.pair .text .data))))))) := by
  intro fuel cs x hf hlt
  obtain ⟨xs, mm, rfl, hx, hlen, hxl, hfs⟩ := DataW.trod_struct Tryz.underlying83 hf
  have hcells : Tryz.prog.cellsOf 83 = 1 := by kernel_rfl
  rw [hcells] at hlen
  match cs, hlen with
  | [c0], _ =>
    match xs, hxl with
    | [x0], _ =>
      subst hx
      have f0 : DataW.trod enc Tryz.prog W 0 (fun _ => true) true mm 81 [c0] = some x0 := hfs 0 _ rfl
      obtain ⟨m0, e0, -, b0⟩ := op_lstep f0 (fun y hy => hlt y (by simp [hy]))
      refine ⟨m0, e0, rfl, ?_⟩
      simp only [List.map_cons, List.map_nil, Rows.uptoBulk, Rows.uptoBulkAll]
      omega
theorem op_lstring : Opn H enc W 46 (.list .text) := op_list Tryz.underlying46 (by kernel_rfl) op_string
end
end Go.Proofs.YtphbaaaklgiloaaGreat.Dg

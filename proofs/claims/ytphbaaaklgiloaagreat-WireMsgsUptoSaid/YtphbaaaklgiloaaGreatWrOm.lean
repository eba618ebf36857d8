/- wire: messages that came in, opened. Made by wip/gen_open2.py. -/
import Derived.Test.YtphbaaaklgiloaaGreatWrOp
namespace Go.Proofs.YtphbaaaklgiloaaGreat.Dg
open Go.RowKit Go.ChangeShapes Go.WideShapes Go.ChangeAt Go.Deep
section
variable {H : Type} {enc : TypeId × Value → H} {W : World}
theorem enc_last {w : World} {base : Nat} {a : Sch} {o n : Nat} {cs : List Value} {m : List UInt8} (hl : ((cs.drop o).take n).length = a.sz) (h : EncF w base a (fun k => ((cs.drop o).take n)[k]?) m) : EncF w base a (fun k => (cs.drop o)[k]?) m :=
  EncF.congr (fun _ _ _ => rfl) _ _ _ _ (fun k hk => by
    show (cs.drop o)[k]? = ((cs.drop o).take n)[k]?
    rw [List.length_take] at hl
    rw [List.getElem?_take_of_lt (by omega)]) h
theorem enc_step {w : World} {base : Nat} {a b : Sch} {o o' n : Nat} {cs : List Value} {m1 m2 : List UInt8} (hl : ((cs.drop o).take n).length = a.sz) (h1 : EncF w base a (fun k => ((cs.drop o).take n)[k]?) m1) (h2 : EncF w base b (fun k => (cs.drop o')[k]?) m2) (ho : o' = o + a.sz) : EncF w base (.pair a b) (fun k => (cs.drop o)[k]?) (m1 ++ m2) :=
  ⟨m1, m2, enc_last hl h1, EncF.congr (fun _ _ _ => rfl) _ _ _ _ (fun k _ => by
    show (cs.drop o)[a.sz + k]? = (cs.drop o')[k]?
    rw [ho, List.getElem?_drop, List.getElem?_drop, Nat.add_assoc]) h2, rfl⟩
theorem list_20 {α : Type} (l : List α) (h : l.length = 20) : ∃ x0 x1 x2 x3 x4 x5 x6 x7 x8 x9 x10 x11 x12 x13 x14 x15 x16 x17 x18 x19, l = [x0, x1, x2, x3, x4, x5, x6, x7, x8, x9, x10, x11, x12, x13, x14, x15, x16, x17, x18, x19] := by
  match l, h with
  | [x0, x1, x2, x3, x4, x5, x6, x7, x8, x9, x10, x11, x12, x13, x14, x15, x16, x17, x18, x19], _ => exact ⟨_, _, _, _, _, _, _, _, _, _, _, _, _, _, _, _, _, _, _, _, rfl⟩
set_option maxRecDepth 100000 in
set_option maxHeartbeats 8000000 in
theorem op_node : Opn H enc W 23 (.pair .num .num) := by
  intro fuel cs x hf hlt
  obtain ⟨xs, mm, rfl, hx, hlen, hxl, hfs⟩ := DataW.trod_struct Tryz.underlying23 hf
  have hcells : Tryz.prog.cellsOf 23 = 2 := by kernel_rfl
  rw [hcells] at hlen
  match cs, hlen with
  | [c0, c1], _ =>
    match xs, hxl with
    | [x0, x1], _ =>
      subst hx
      have f0 : DataW.trod enc Tryz.prog W 0 (fun _ => true) true mm 3 [c0] = some x0 := hfs 0 _ rfl
      obtain ⟨m0, e0, -, b0⟩ := op_int f0 (fun y hy => hlt y (by simp [hy]))
      have f1 : DataW.trod enc Tryz.prog W 0 (fun _ => true) true mm 3 [c1] = some x1 := hfs 1 _ rfl
      obtain ⟨m1, e1, -, b1⟩ := op_int f1 (fun y hy => hlt y (by simp [hy]))
      refine ⟨m0 ++ (m1), enc_pair rfl e0 e1, rfl, ?_⟩
      simp only [List.length_append, List.map_cons, List.map_nil, Rows.uptoBulk, Rows.uptoBulkAll]
      omega
set_option maxRecDepth 100000 in
set_option maxHeartbeats 8000000 in
theorem op_slot : Opn H enc W 148 (.pair .num (.pair .num .data)) := by
  intro fuel cs x hf hlt
  obtain ⟨xs, mm, rfl, hx, hlen, hxl, hfs⟩ := DataW.trod_struct Tryz.underlying148 hf
  have hcells : Tryz.prog.cellsOf 148 = 3 := by kernel_rfl
  rw [hcells] at hlen
  match cs, hlen with
  | [c0, c1, c2], _ =>
    match xs, hxl with
    | [x0, x1, x2], _ =>
      subst hx
      have f0 : DataW.trod enc Tryz.prog W 0 (fun _ => true) true mm 3 [c0] = some x0 := hfs 0 _ rfl
      obtain ⟨m0, e0, -, b0⟩ := op_int f0 (fun y hy => hlt y (by simp [hy]))
      have f1 : DataW.trod enc Tryz.prog W 0 (fun _ => true) true mm 3 [c1] = some x1 := hfs 1 _ rfl
      obtain ⟨m1, e1, -, b1⟩ := op_int f1 (fun y hy => hlt y (by simp [hy]))
      have f2 : DataW.trod enc Tryz.prog W 0 (fun _ => true) true mm 41 [c2] = some x2 := hfs 2 _ rfl
      obtain ⟨m2, e2, -, b2⟩ := op_luint8 f2 (fun y hy => hlt y (by simp [hy]))
      refine ⟨m0 ++ (m1 ++ (m2)), enc_pair rfl e0 (enc_pair rfl e1 e2), rfl, ?_⟩
      simp only [List.length_append, List.map_cons, List.map_nil, Rows.uptoBulk, Rows.uptoBulkAll]
      omega
theorem op_lslot : Opn H enc W 26 (.list (.pair .num (.pair .num .data))) := op_list Tryz.underlying26 (by kernel_rfl) op_slot
theorem op_linc : Opn H enc W 27 (.list (.pair .num (.list (.pair .num (.pair .num (.pair .num (.pair (.pair .num (.pair .num (.pair .num .num))) (.pair .num (.pair .num (.pair (.list .num) (.list .num))))))))))) := op_list Tryz.underlying27 (by kernel_rfl) op_inc
set_option maxRecDepth 100000 in
set_option maxHeartbeats 8000000 in
theorem op_info : Opn H enc W 32 (.pair .num (.pair (.pair .num .num) (.pair (.pair .num .num) .num))) := by
  intro fuel cs x hf hlt
  obtain ⟨xs, mm, rfl, hx, hlen, hxl, hfs⟩ := DataW.trod_struct Tryz.underlying32 hf
  have hcells : Tryz.prog.cellsOf 32 = 6 := by kernel_rfl
  rw [hcells] at hlen
  match cs, hlen with
  | [c0, c1, c2, c3, c4, c5], _ =>
    match xs, hxl with
    | [x0, x1, x2, x3], _ =>
      subst hx
      have f0 : DataW.trod enc Tryz.prog W 0 (fun _ => true) true mm 3 [c0] = some x0 := hfs 0 _ rfl
      obtain ⟨m0, e0, -, b0⟩ := op_int f0 (fun y hy => hlt y (by simp [hy]))
      have f1 : DataW.trod enc Tryz.prog W 0 (fun _ => true) true mm 30 [c1, c2] = some x1 := hfs 1 _ rfl
      obtain ⟨m1, e1, -, b1⟩ := op_version f1 (fun y hy => hlt y (by simp [hy]))
      have f2 : DataW.trod enc Tryz.prog W 0 (fun _ => true) true mm 30 [c3, c4] = some x2 := hfs 2 _ rfl
      obtain ⟨m2, e2, -, b2⟩ := op_version f2 (fun y hy => hlt y (by simp [hy]))
      have f3 : DataW.trod enc Tryz.prog W 0 (fun _ => true) true mm 3 [c5] = some x3 := hfs 3 _ rfl
      obtain ⟨m3, e3, -, b3⟩ := op_int f3 (fun y hy => hlt y (by simp [hy]))
      refine ⟨m0 ++ (m1 ++ (m2 ++ (m3))), enc_pair rfl e0 (enc_pair rfl e1 (enc_pair rfl e2 e3)), rfl, ?_⟩
      simp only [List.length_append, List.map_cons, List.map_nil, Rows.uptoBulk, Rows.uptoBulkAll]
      omega
set_option maxRecDepth 100000 in
set_option maxHeartbeats 8000000 in
theorem op_object : Opn H enc W 43 (.pair .text (.pair (.pair .num .num) .data)) := by
  intro fuel cs x hf hlt
  obtain ⟨xs, mm, rfl, hx, hlen, hxl, hfs⟩ := DataW.trod_struct Tryz.underlying43 hf
  have hcells : Tryz.prog.cellsOf 43 = 4 := by kernel_rfl
  rw [hcells] at hlen
  match cs, hlen with
  | [c0, c1, c2, c3], _ =>
    match xs, hxl with
    | [x0, x1, x2], _ =>
      subst hx
      have f0 : DataW.trod enc Tryz.prog W 0 (fun _ => true) true mm 9 [c0] = some x0 := hfs 0 _ rfl
      obtain ⟨m0, e0, -, b0⟩ := op_string f0 (fun y hy => hlt y (by simp [hy]))
      have f1 : DataW.trod enc Tryz.prog W 0 (fun _ => true) true mm 30 [c1, c2] = some x1 := hfs 1 _ rfl
      obtain ⟨m1, e1, -, b1⟩ := op_version f1 (fun y hy => hlt y (by simp [hy]))
      have f2 : DataW.trod enc Tryz.prog W 0 (fun _ => true) true mm 41 [c3] = some x2 := hfs 2 _ rfl
      obtain ⟨m2, e2, -, b2⟩ := op_luint8 f2 (fun y hy => hlt y (by simp [hy]))
      refine ⟨m0 ++ (m1 ++ (m2)), enc_pair rfl e0 (enc_pair rfl e1 e2), rfl, ?_⟩
      simp only [List.length_append, List.map_cons, List.map_nil, Rows.uptoBulk, Rows.uptoBulkAll]
      omega
set_option maxRecDepth 100000 in
set_option maxHeartbeats 8000000 in
theorem op_op : Opn H enc W 45 (.pair .num (.pair .text (.pair .data (.pair .num .num)))) := by
  intro fuel cs x hf hlt
  obtain ⟨xs, mm, rfl, hx, hlen, hxl, hfs⟩ := DataW.trod_struct Tryz.underlying45 hf
  have hcells : Tryz.prog.cellsOf 45 = 5 := by kernel_rfl
  rw [hcells] at hlen
  match cs, hlen with
  | [c0, c1, c2, c3, c4], _ =>
    match xs, hxl with
    | [x0, x1, x2, x3], _ =>
      subst hx
      have f0 : DataW.trod enc Tryz.prog W 0 (fun _ => true) true mm 3 [c0] = some x0 := hfs 0 _ rfl
      obtain ⟨m0, e0, -, b0⟩ := op_int f0 (fun y hy => hlt y (by simp [hy]))
      have f1 : DataW.trod enc Tryz.prog W 0 (fun _ => true) true mm 9 [c1] = some x1 := hfs 1 _ rfl
      obtain ⟨m1, e1, -, b1⟩ := op_string f1 (fun y hy => hlt y (by simp [hy]))
      have f2 : DataW.trod enc Tryz.prog W 0 (fun _ => true) true mm 41 [c2] = some x2 := hfs 2 _ rfl
      obtain ⟨m2, e2, -, b2⟩ := op_luint8 f2 (fun y hy => hlt y (by simp [hy]))
      have f3 : DataW.trod enc Tryz.prog W 0 (fun _ => true) true mm 30 [c3, c4] = some x3 := hfs 3 _ rfl
      obtain ⟨m3, e3, -, b3⟩ := op_version f3 (fun y hy => hlt y (by simp [hy]))
      refine ⟨m0 ++ (m1 ++ (m2 ++ (m3))), enc_pair rfl e0 (enc_pair rfl e1 (enc_pair rfl e2 e3)), rfl, ?_⟩
      simp only [List.length_append, List.map_cons, List.map_nil, Rows.uptoBulk, Rows.uptoBulkAll]
      omega
set_option maxRecDepth 100000 in
set_option maxHeartbeats 8000000 in
theorem op_msg : Opn H enc W 48 (.pair .num (.pair (.pair .num .num) (.pair (.pair .num .num) (.pair .num (.pair .num (.pair (.pair .num .num) (.pair .num (.pair .num (.pair .num (.pair (.list (.pair .num (.pair .num .data))) (.pair (.list (.pair .num (.list (.pair .num (.pair .num (.pair .num (.pair (.pair .num (.pair .num (.pair .num .num))) (.pair .num (.pair .num (.pair (.list .num) (.list .num))))))))))) (.pair (.list (.pair .num (.pair .num (.pair .num (.pair (.pair .num (.pair .num (.pair .num .num))) (.pair .num (.pair .num (.pair (.list .num) (.list .num))))))))) (.pair (.pair .num (.pair (.pair .num .num) (.pair (.pair .num .num) .num))) (.pair (.pair .num (.pair (.pair .num .num) (.pair (.list (.pair (.pair .num .num) (.pair .bool (.pair .num (.pair .text (.pair .num .num)))))) (.pair (.list (.pair .num (.pair .num (.pair .num (.pair .num .num))))) (.list (.pair .text (.pair (.pair .num .num) .word))))))) (.pair (.pair (.pair .num .num) (.pair .bool (.pair .num (.pair .text (.pair .num .num))))) (.pair (.pair .text (.pair (.pair .num .num) .data)) (.pair (.pair .num (.pair .text (.pair .data (.pair .num .num)))) (.pair (.list (.pair .text (.pair (.pair .num .num) .word))) (.pair (.list .text) .num))))))))))))))))))) := by
  intro fuel cs x hf hlt
  obtain ⟨xs, mm, rfl, hx, hlen, hxl, hfs⟩ := DataW.trod_struct Tryz.underlying48 hf
  have hcells : Tryz.prog.cellsOf 48 = 46 := by kernel_rfl
  rw [hcells] at hlen
  obtain ⟨x0, x1, x2, x3, x4, x5, x6, x7, x8, x9, x10, x11, x12, x13, x14, x15, x16, x17, x18, x19, rfl⟩ := list_20 xs hxl
  subst hx
  have f0 : DataW.trod enc Tryz.prog W 0 (fun _ => true) true mm 3 ((cs.drop 0).take (Tryz.prog.cellsOf 3)) = some x0 := hfs 0 _ rfl
  obtain ⟨m0, e0, l0, b0⟩ := op_int f0 (fun y hy => hlt y (by simp [hy]))
  have f1 : DataW.trod enc Tryz.prog W 0 (fun _ => true) true mm 23 ((cs.drop 1).take (Tryz.prog.cellsOf 23)) = some x1 := hfs 1 _ rfl
  obtain ⟨m1, e1, l1, b1⟩ := op_node f1 (fun y hy => hlt y (by simp [hy]))
  have f2 : DataW.trod enc Tryz.prog W 0 (fun _ => true) true mm 23 ((cs.drop 3).take (Tryz.prog.cellsOf 23)) = some x2 := hfs 2 _ rfl
  obtain ⟨m2, e2, l2, b2⟩ := op_node f2 (fun y hy => hlt y (by simp [hy]))
  have f3 : DataW.trod enc Tryz.prog W 0 (fun _ => true) true mm 3 ((cs.drop 5).take (Tryz.prog.cellsOf 3)) = some x3 := hfs 3 _ rfl
  obtain ⟨m3, e3, l3, b3⟩ := op_int f3 (fun y hy => hlt y (by simp [hy]))
  have f4 : DataW.trod enc Tryz.prog W 0 (fun _ => true) true mm 3 ((cs.drop 6).take (Tryz.prog.cellsOf 3)) = some x4 := hfs 4 _ rfl
  obtain ⟨m4, e4, l4, b4⟩ := op_int f4 (fun y hy => hlt y (by simp [hy]))
  have f5 : DataW.trod enc Tryz.prog W 0 (fun _ => true) true mm 25 ((cs.drop 7).take (Tryz.prog.cellsOf 25)) = some x5 := hfs 5 _ rfl
  obtain ⟨m5, e5, l5, b5⟩ := op_pg f5 (fun y hy => hlt y (by simp [hy]))
  have f6 : DataW.trod enc Tryz.prog W 0 (fun _ => true) true mm 3 ((cs.drop 9).take (Tryz.prog.cellsOf 3)) = some x6 := hfs 6 _ rfl
  obtain ⟨m6, e6, l6, b6⟩ := op_int f6 (fun y hy => hlt y (by simp [hy]))
  have f7 : DataW.trod enc Tryz.prog W 0 (fun _ => true) true mm 3 ((cs.drop 10).take (Tryz.prog.cellsOf 3)) = some x7 := hfs 7 _ rfl
  obtain ⟨m7, e7, l7, b7⟩ := op_int f7 (fun y hy => hlt y (by simp [hy]))
  have f8 : DataW.trod enc Tryz.prog W 0 (fun _ => true) true mm 3 ((cs.drop 11).take (Tryz.prog.cellsOf 3)) = some x8 := hfs 8 _ rfl
  obtain ⟨m8, e8, l8, b8⟩ := op_int f8 (fun y hy => hlt y (by simp [hy]))
  have f9 : DataW.trod enc Tryz.prog W 0 (fun _ => true) true mm 26 ((cs.drop 12).take (Tryz.prog.cellsOf 26)) = some x9 := hfs 9 _ rfl
  obtain ⟨m9, e9, l9, b9⟩ := op_lslot f9 (fun y hy => hlt y (by simp [hy]))
  have f10 : DataW.trod enc Tryz.prog W 0 (fun _ => true) true mm 27 ((cs.drop 13).take (Tryz.prog.cellsOf 27)) = some x10 := hfs 10 _ rfl
  obtain ⟨m10, e10, l10, b10⟩ := op_linc f10 (fun y hy => hlt y (by simp [hy]))
  have f11 : DataW.trod enc Tryz.prog W 0 (fun _ => true) true mm 28 ((cs.drop 14).take (Tryz.prog.cellsOf 28)) = some x11 := hfs 11 _ rfl
  obtain ⟨m11, e11, l11, b11⟩ := op_lchange f11 (fun y hy => hlt y (by simp [hy]))
  have f12 : DataW.trod enc Tryz.prog W 0 (fun _ => true) true mm 32 ((cs.drop 15).take (Tryz.prog.cellsOf 32)) = some x12 := hfs 12 _ rfl
  obtain ⟨m12, e12, l12, b12⟩ := op_info f12 (fun y hy => hlt y (by simp [hy]))
  have f13 : DataW.trod enc Tryz.prog W 0 (fun _ => true) true mm 37 ((cs.drop 21).take (Tryz.prog.cellsOf 37)) = some x13 := hfs 13 _ rfl
  obtain ⟨m13, e13, l13, b13⟩ := op_state f13 (fun y hy => hlt y (by simp [hy]))
  have f14 : DataW.trod enc Tryz.prog W 0 (fun _ => true) true mm 40 ((cs.drop 27).take (Tryz.prog.cellsOf 40)) = some x14 := hfs 14 _ rfl
  obtain ⟨m14, e14, l14, b14⟩ := op_entry f14 (fun y hy => hlt y (by simp [hy]))
  have f15 : DataW.trod enc Tryz.prog W 0 (fun _ => true) true mm 43 ((cs.drop 34).take (Tryz.prog.cellsOf 43)) = some x15 := hfs 15 _ rfl
  obtain ⟨m15, e15, l15, b15⟩ := op_object f15 (fun y hy => hlt y (by simp [hy]))
  have f16 : DataW.trod enc Tryz.prog W 0 (fun _ => true) true mm 45 ((cs.drop 38).take (Tryz.prog.cellsOf 45)) = some x16 := hfs 16 _ rfl
  obtain ⟨m16, e16, l16, b16⟩ := op_op f16 (fun y hy => hlt y (by simp [hy]))
  have f17 : DataW.trod enc Tryz.prog W 0 (fun _ => true) true mm 35 ((cs.drop 43).take (Tryz.prog.cellsOf 35)) = some x17 := hfs 17 _ rfl
  obtain ⟨m17, e17, l17, b17⟩ := op_litem f17 (fun y hy => hlt y (by simp [hy]))
  have f18 : DataW.trod enc Tryz.prog W 0 (fun _ => true) true mm 46 ((cs.drop 44).take (Tryz.prog.cellsOf 46)) = some x18 := hfs 18 _ rfl
  obtain ⟨m18, e18, l18, b18⟩ := op_lstring f18 (fun y hy => hlt y (by simp [hy]))
  have f19 : DataW.trod enc Tryz.prog W 0 (fun _ => true) true mm 38 ((cs.drop 45).take (Tryz.prog.cellsOf 38)) = some x19 := hfs 19 _ rfl
  obtain ⟨m19, e19, l19, b19⟩ := op_errno f19 (fun y hy => hlt y (by simp [hy]))
  have g19 := enc_last l19 e19
  have g18 := enc_step l18 e18 g19 rfl
  have g17 := enc_step l17 e17 g18 rfl
  have g16 := enc_step l16 e16 g17 rfl
  have g15 := enc_step l15 e15 g16 rfl
  have g14 := enc_step l14 e14 g15 rfl
  have g13 := enc_step l13 e13 g14 rfl
  have g12 := enc_step l12 e12 g13 rfl
  have g11 := enc_step l11 e11 g12 rfl
  have g10 := enc_step l10 e10 g11 rfl
  have g9 := enc_step l9 e9 g10 rfl
  have g8 := enc_step l8 e8 g9 rfl
  have g7 := enc_step l7 e7 g8 rfl
  have g6 := enc_step l6 e6 g7 rfl
  have g5 := enc_step l5 e5 g6 rfl
  have g4 := enc_step l4 e4 g5 rfl
  have g3 := enc_step l3 e3 g4 rfl
  have g2 := enc_step l2 e2 g3 rfl
  have g1 := enc_step l1 e1 g2 rfl
  have g0 := enc_step l0 e0 g1 rfl
  refine ⟨m0 ++ (m1 ++ (m2 ++ (m3 ++ (m4 ++ (m5 ++ (m6 ++ (m7 ++ (m8 ++ (m9 ++ (m10 ++ (m11 ++ (m12 ++ (m13 ++ (m14 ++ (m15 ++ (m16 ++ (m17 ++ (m18 ++ (m19))))))))))))))))))), g0, hlen, ?_⟩
  simp only [List.length_append, List.map_cons, List.map_nil, Rows.uptoBulk, Rows.uptoBulkAll]
  omega
end
end Go.Proofs.YtphbaaaklgiloaaGreat.Dg

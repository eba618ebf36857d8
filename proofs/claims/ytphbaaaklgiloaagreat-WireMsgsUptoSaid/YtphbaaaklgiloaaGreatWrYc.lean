/- wire.ReadMsg of bytes that are none: what is deferred. Made by wip/gen_msg.py. -/
import Derived.Test.YtphbaaaklgiloaaGreatWrG
import Derived.Test.YtphbaaaklgiloaaGreatDkA
import Derived.Deep.RegionLaw
import Derived.Great.Walk
namespace Go.Proofs.YtphbaaaklgiloaaGreat.Dg
open Go.RowKit
variable {v : Value}
theorem run_storeRowM {P : Program} (w : World) (g : Nat) (t ty : TypeId) (cur cs : Array Value) (hg : Bk w g t cur) (hs : cur.size = cs.size) (hi : (P.info? ty).map (·.size) = some cs.size) (h1 : ∀ u ∈ cs.toList, u.oneCell' = true) :
    (storeVar ty ⟨g, 0, none⟩ (.agg cs)).run P w = .ok () (w.setRow g cs) := by
  cases hq : P.info? ty with
  | none => simp [hq] at hi
  | some i =>
    have hsz : i.size = cs.size := by simpa [hq] using hi
    have hst := run_storeCells_at P g 0 t cs.toList 0 cur w hg (by simp; omega) h1
    have e : (cur.toList.take (0 + 0) ++ cs.toList ++ cur.toList.drop (0 + 0 + cs.toList.length)).toArray = cs := by
      rw [List.drop_eq_nil_of_le (by simp; omega)]; simp
    rw [e] at hst
    have hc : (Value.agg cs).cells = cs := rfl
    unfold storeVar
    simp [Sem.run_bind, sizeOf, typeInfo, hq, hsz, hc, hst]
theorem wpList_store_rowM {P : Program} {ops : Array Oper} {rest : List Oper} {o : Oper} {a : Act} {w : World} {Q : Exit → Act → World → Prop} (hgd : o.guard = none) (hdst : o.dst = none) (ty : TypeId) (p x : Operand) (ho : o.op = .store ty p x)
    (g : Nat) (hp : a.eval p = .pointer (some ⟨g, 0, none⟩)) (cs cur : Array Value) (hx : a.eval x = .agg cs) (t : TypeId) (hg : Bk w g t cur) (hs : cur.size = cs.size) (hi : (P.info? ty).map (·.size) = some cs.size) (h1 : ∀ u ∈ cs.toList, u.oneCell' = true)
    (h : ∀ w', w.setRow g cs = w' → wpList P ops Q rest a w') : wpList P ops Q (o :: rest) a w := by
  refine wpList_plain hgd fun K hK => ?_
  unfold Oper.wp execOp
  simp only [ho, hp, hx, Instr.storeAt, Instr.sureAddr, Sem.run_bind, Sem.run_pure, Result.andThen_ok, run_storeRowM w g t ty cur cs hg hs hi h1]
  have hput : a.put o.dst undef = a := by rw [hdst]; rfl
  show K (a.put o.dst undef) (w.setRow g cs)
  rw [hput]
  exact hK _ _ (h _ rfl)
theorem Bk.rowM {w : World} {g : Nat} {t : TypeId} {cs : Array Value} (h : Bk w g t cs) (ds : Array Value) : Bk (w.setRow g ds) g t ds := setRow_heap w g cs ds t (0, 0) h
theorem mv_rowM {w : World} {g : Nat} (ds : Array Value) : Mv (· = g) w (w.setRow g ds) :=
  ⟨rfl, rfl, rfl, by unfold World.setRow; simp, fun k _ hk => by unfold World.setRow; simp [Array.getElem?_modify, Ne.symm hk]⟩
theorem ones_zM : ∀ u ∈ (#[.int .i64 0, .int .i64 0, .int .i64 0, .int .i64 0, .int .i64 0, .int .i64 0, .int .i64 0, .int .i64 0, .int .i64 0, .int .i64 0, .int .i64 0, .int .i64 0, .slice none 0 0, .slice none 0 0, .slice none 0 0, .int .i64 0, .int .i64 0, .int .i64 0, .int .i64 0, .int .i64 0, .int .i64 0, .int .i64 0, .int .i64 0, .int .i64 0, .slice none 0 0, .slice none 0 0, .slice none 0 0, .int .i64 0, .int .i64 0, .bool false, .int .i64 0, .string ⟨#[]⟩, .int .i64 0, .int .i64 0, .string ⟨#[]⟩, .int .i64 0, .int .i64 0, .slice none 0 0, .int .i64 0, .string ⟨#[]⟩, .slice none 0 0, .int .i64 0, .int .i64 0, .slice none 0 0, .slice none 0 0, .int .i64 0] : Array Value).toList, u.oneCell' = true := by
  have h : (#[.int .i64 0, .int .i64 0, .int .i64 0, .int .i64 0, .int .i64 0, .int .i64 0, .int .i64 0, .int .i64 0, .int .i64 0, .int .i64 0, .int .i64 0, .int .i64 0, .slice none 0 0, .slice none 0 0, .slice none 0 0, .int .i64 0, .int .i64 0, .int .i64 0, .int .i64 0, .int .i64 0, .int .i64 0, .int .i64 0, .int .i64 0, .int .i64 0, .slice none 0 0, .slice none 0 0, .slice none 0 0, .int .i64 0, .int .i64 0, .bool false, .int .i64 0, .string ⟨#[]⟩, .int .i64 0, .int .i64 0, .string ⟨#[]⟩, .int .i64 0, .int .i64 0, .slice none 0 0, .int .i64 0, .string ⟨#[]⟩, .slice none 0 0, .int .i64 0, .int .i64 0, .slice none 0 0, .slice none 0 0, .int .i64 0] : Array Value).toList.all (fun u => u.oneCell') = true := by kernel_rfl
  exact fun u hu => List.all_eq_true.1 h u hu
/-- A block of noughts, as the program lays it. -/
def Lays (Z : Array Value) : Prop := ∀ (o : Oper) (ρ : Operand → Value) (w : World), o.op = .alloc 48 → (execOp ρ o).run Tryz.prog w = .ok (.value (.pointer (some ⟨w.heap.size, 0, none⟩))) (w.alloc (.cells Z 48))
set_option maxRecDepth 100000 in
theorem lays_zM : Lays #[.int .i64 0, .int .i64 0, .int .i64 0, .int .i64 0, .int .i64 0, .int .i64 0, .int .i64 0, .int .i64 0, .int .i64 0, .int .i64 0, .int .i64 0, .int .i64 0, .slice none 0 0, .slice none 0 0, .slice none 0 0, .int .i64 0, .int .i64 0, .int .i64 0, .int .i64 0, .int .i64 0, .int .i64 0, .int .i64 0, .int .i64 0, .int .i64 0, .slice none 0 0, .slice none 0 0, .slice none 0 0, .int .i64 0, .int .i64 0, .bool false, .int .i64 0, .string ⟨#[]⟩, .int .i64 0, .int .i64 0, .string ⟨#[]⟩, .int .i64 0, .int .i64 0, .slice none 0 0, .int .i64 0, .string ⟨#[]⟩, .slice none 0 0, .int .i64 0, .int .i64 0, .slice none 0 0, .slice none 0 0, .int .i64 0] := by
  intro o ρ w ho
  unfold execOp
  simp only [ho]
  rfl
set_option maxRecDepth 100000 in
set_option maxHeartbeats 16000000 in
theorem catch_MsgZ (Z : Array Value) (hZ : Z.size = 46) (hZ1 : ∀ u ∈ Z.toList, u.oneCell' = true) (hL : Lays Z) (a b : Nat) (hab : a ≠ b) (cs0 : Array Value) (hcs : cs0.size = 46) (w : World) (hb : Bk w a 48 cs0) (hq : Bk w b 38 #[.int .i64 0]) :
    CallsD Tryz.prog 91 #[.pointer (some ⟨a, 0, none⟩), .pointer (some ⟨b, 0, none⟩)] (.panicking wrong) w fun e u' w' =>
      e = .returned (.tuple #[]) ∧ u' = .panicking [{ v := .iface 196 (.agg #[]), recovered := true }] ∧ Bk w' a 48 Z ∧ Bk w' b 38 #[.int .i64 74] ∧ Mv (fun k => k = a ∨ k = b) w w' := by
  have hba := hb.alloc (.cells Z 48)
  have hqa := hq.alloc (.cells Z 48)
  have hka := Bk.made w 48 Z
  have hma : Mv (fun k => k = a ∨ k = b) w (w.alloc (.cells Z 48)) := Mv.of_ab ((Ab.refl w).alloc _)
  refine callsD_of_wpS Tryz.func91 rfl fun c₀ cs hu => ?_
  apply wpS_seq
  apply wpS_region
  simp [wpOpsS, go_sem, recoverD, hu, wrong, Tryz.ntmps91, Exit.thenS]
  refine wpS_cond (t := true) (by simp [Act.eval, Array.replicate]) ?_
  simp only [if_true]
  apply wpS_of_wp
  have H := Lib.hid (And.intro hba (And.intro hqa (And.intro hma hka)))
  clear hb hq hba hqa hma hka
  have hi : (Tryz.prog.info? 48).map (·.size) = some Z.size := by rw [hZ]; kernel_rfl
  have HL := Lib.hid (And.intro hL (And.intro hi hZ1))
  clear hL hi hZ1
  go_wp2_with (first
    | (refine Great.wpList_runTo rfl _ rfl _ _ (HL.out.1 _ _ _ rfl) ?_)
    | (refine wpList_load_row rfl 48 _ rfl w.heap.size rfl 48 Z (0, 0) _ H.out.2.2.2 Tryz.underlying48 rfl HL.out.2.1 ?_)
    | (refine wpList_store_rowM rfl rfl 48 _ _ rfl a rfl Z cs0 rfl 48 H.out.1 (by rw [hcs, hZ]) HL.out.2.1 HL.out.2.2 ?_; rintro w3 rfl; have yz := (((mv_rowM Z).bk H.out.2.1 (Ne.symm hab)) : Bk _ b _ _).cell (i := 0) (v := .int .i64 0) rfl; have fz := (((mv_rowM Z).bk H.out.2.1 (Ne.symm hab)) : Bk _ b _ _).free 0))
  exact ⟨rfl, .panicking [{ v := .iface 196 (.agg #[]), recovered := true }], by cases c₀; rfl, _, results_none rfl _ _ _, rfl, rfl, (Bk.rowM H.out.1 Z).far hab _,
    (((mv_rowM Z).bk H.out.2.1 (Ne.symm hab)) : Bk _ b _ _).store 0 _, (H.out.2.2.1.trans ((mv_rowM Z).mono fun k _ hk => .inl hk)).set (.inr rfl) _⟩
theorem catch_Msg (a b : Nat) (hab : a ≠ b) (cs0 : Array Value) (hcs : cs0.size = 46) (w : World) (hb : Bk w a 48 cs0) (hq : Bk w b 38 #[.int .i64 0]) :
    CallsD Tryz.prog 91 #[.pointer (some ⟨a, 0, none⟩), .pointer (some ⟨b, 0, none⟩)] (.panicking wrong) w fun e u' w' =>
      e = .returned (.tuple #[]) ∧ u' = .panicking [{ v := .iface 196 (.agg #[]), recovered := true }] ∧ Bk w' a 48 #[.int .i64 0, .int .i64 0, .int .i64 0, .int .i64 0, .int .i64 0, .int .i64 0, .int .i64 0, .int .i64 0, .int .i64 0, .int .i64 0, .int .i64 0, .int .i64 0, .slice none 0 0, .slice none 0 0, .slice none 0 0, .int .i64 0, .int .i64 0, .int .i64 0, .int .i64 0, .int .i64 0, .int .i64 0, .int .i64 0, .int .i64 0, .int .i64 0, .slice none 0 0, .slice none 0 0, .slice none 0 0, .int .i64 0, .int .i64 0, .bool false, .int .i64 0, .string ⟨#[]⟩, .int .i64 0, .int .i64 0, .string ⟨#[]⟩, .int .i64 0, .int .i64 0, .slice none 0 0, .int .i64 0, .string ⟨#[]⟩, .slice none 0 0, .int .i64 0, .int .i64 0, .slice none 0 0, .slice none 0 0, .int .i64 0] ∧ Bk w' b 38 #[.int .i64 74] ∧ Mv (fun k => k = a ∨ k = b) w w' :=
  catch_MsgZ #[.int .i64 0, .int .i64 0, .int .i64 0, .int .i64 0, .int .i64 0, .int .i64 0, .int .i64 0, .int .i64 0, .int .i64 0, .int .i64 0, .int .i64 0, .int .i64 0, .slice none 0 0, .slice none 0 0, .slice none 0 0, .int .i64 0, .int .i64 0, .int .i64 0, .int .i64 0, .int .i64 0, .int .i64 0, .int .i64 0, .int .i64 0, .int .i64 0, .slice none 0 0, .slice none 0 0, .slice none 0 0, .int .i64 0, .int .i64 0, .bool false, .int .i64 0, .string ⟨#[]⟩, .int .i64 0, .int .i64 0, .string ⟨#[]⟩, .int .i64 0, .int .i64 0, .slice none 0 0, .int .i64 0, .string ⟨#[]⟩, .slice none 0 0, .int .i64 0, .int .i64 0, .slice none 0 0, .slice none 0 0, .int .i64 0] rfl ones_zM lays_zM a b hab cs0 hcs w hb hq
end Go.Proofs.YtphbaaaklgiloaaGreat.Dg

/- wire: read[Msg] of what is right: a message's cells stay one row. Made by wip/gen_msg2.py. -/
import Derived.Test.YtphbaaaklgiloaaGreatWrMa
import Derived.Test.YtphbaaaklgiloaaGreatWrRm
import Derived.Test.YtphbaaaklgiloaaGreatWrYc
namespace Go.Proofs.YtphbaaaklgiloaaGreat.Dg
open Go.RowKit
attribute [local go_sem ↓] Go.wp_at_zero Go.wp_at_succ
variable {v : Value}
theorem EncP.cell {w : World} {F : Nat → Prop} : ∀ (s : Sch) (f : Nat → Option Value) (m : List UInt8), EncP w F s f m → ∀ k, k < s.sz → ∃ u, f k = some u ∧ u.oneCell' = true
  | .num, f, m, h, k, hk => by obtain ⟨n, h1, -⟩ := h; simp only [Sch.sz] at hk; rw [show k = 0 by omega]; exact ⟨_, h1, rfl⟩
  | .word, f, m, h, k, hk => by obtain ⟨n, -, h1, -⟩ := h; simp only [Sch.sz] at hk; rw [show k = 0 by omega]; exact ⟨_, h1, rfl⟩
  | .bool, f, m, h, k, hk => by obtain ⟨n, h1, -⟩ := h; simp only [Sch.sz] at hk; rw [show k = 0 by omega]; exact ⟨_, h1, rfl⟩
  | .text, f, m, h, k, hk => by obtain ⟨n, h1, -⟩ := h; simp only [Sch.sz] at hk; rw [show k = 0 by omega]; exact ⟨_, h1, rfl⟩
  | .data, f, m, h, k, hk => by obtain ⟨u, l, h1, ⟨A, c, rfl, -⟩, -⟩ := h; simp only [Sch.sz] at hk; rw [show k = 0 by omega]; exact ⟨_, h1, rfl⟩
  | .list _, f, m, h, k, hk => by obtain ⟨A, n, c, ms, h1, -⟩ := h; simp only [Sch.sz] at hk; rw [show k = 0 by omega]; exact ⟨_, h1, rfl⟩
  | .pair a b, f, m, h, k, hk => by
    obtain ⟨m1, m2, h1, h2, -⟩ := h
    simp only [Sch.sz] at hk
    by_cases c : k < a.sz
    · exact EncP.cell a f m1 h1 k c
    · obtain ⟨u, hu, hc⟩ := EncP.cell b _ m2 h2 (k - a.sz) (by omega)
      have e : a.sz + (k - a.sz) = k := by omega
      exact ⟨u, by rw [← e]; exact hu, hc⟩
theorem EncP.ones {w : World} {F : Nat → Prop} {s : Sch} {cs : Array Value} {m : List UInt8} (h : EncP w F s (fun k => cs[k]?) m) (hs : cs.size = s.sz) : ∀ u ∈ cs.toList, u.oneCell' = true := by
  intro u hu
  obtain ⟨k, hk⟩ := List.getElem?_of_mem hu
  obtain ⟨hlt, -⟩ := List.getElem?_eq_some_iff.1 hk
  obtain ⟨u', h1, h2⟩ := EncP.cell s _ m h k (by rw [← hs]; simpa using hlt)
  have e : cs[k]? = some u := by rw [← Array.getElem?_toList]; exact hk
  have e2 : cs[k]? = some u' := h1
  rw [e] at e2
  injection e2 with e2
  rw [e2]; exact h2
theorem sM_sz : sM.sz = 46 := rfl
theorem info_M : (Tryz.prog.info? 48).map (·.size) = some 46 := by kernel_rfl
set_option maxRecDepth 100000 in
set_option maxHeartbeats 1000000 in
theorem calm_Msg (p q : Addr) (w : World) :
    CallsD Tryz.prog 91 #[.pointer (some p), .pointer (some q)] .returning w fun e u' w' => e = .returned (.tuple #[]) ∧ u' = .returning ∧ w = w' := by
  refine callsD_of_wpS Tryz.func91 rfl fun c₀ cs hu => ?_
  apply wpS_seq
  apply wpS_region
  simp [wpOpsS, go_sem, recoverD, hu, Tryz.ntmps91, Exit.thenS]
  refine wpS_cond (t := false) (by simp [Act.eval, Array.replicate]) ?_
  simp only [Bool.false_eq_true, if_false]
  apply wpS_of_wp
  refine wp_skip ?_
  exact ⟨rfl, .returning, by cases c₀; cases hu; rfl, _, results_none rfl _ _ _, rfl, rfl, rfl⟩
def RdMsg (w : World) (m : List UInt8) (e : Ending) (w' : World) : Prop :=
  ∃ cs, cs.size = 46 ∧ e = .returned (.tuple #[.agg cs, .int .i64 0]) ∧ EncP w' (fun k => w.heap.size ≤ k ∧ k < w'.heap.size) sM (fun k => cs[k]?) m ∧ Ab w w'
set_option maxRecDepth 100000 in
set_option maxHeartbeats 8000000 in
theorem read_Msg (m : List UInt8) (w : World) (h : Bs w w.heap.size v m) (hp : Par sM m) (hl : m.length ≤ 100000000) :
    Calls Tryz.prog 35 #[v, .func (.func 33) #[] #[]] w (RdMsg w m) := by
  have hmf : ∀ (fn : Fn) (first cap : Array Value) (w : World), (Instr.makeFunc fn first cap).run Tryz.prog w = .ok (.func fn first cap) w := fun _ _ _ _ => rfl
  have HH := Lib.hid h
  have HP := Lib.hid (And.intro hp hl)
  obtain ⟨A, c, rfl, -, -, -⟩ := id h
  clear h hp hl
  go_enter_defers Tryz.func35, Tryz.ntmps35
  go_wp2_with fail
  obtain ⟨Z, hZ⟩ : ∃ Z : Array Value, #[.int .i64 0, .int .i64 0, .int .i64 0, .int .i64 0, .int .i64 0, .int .i64 0, .int .i64 0, .int .i64 0, .int .i64 0, .int .i64 0, .int .i64 0, .int .i64 0, .slice none 0 0, .slice none 0 0, .slice none 0 0, .int .i64 0, .int .i64 0, .int .i64 0, .int .i64 0, .int .i64 0, .int .i64 0, .int .i64 0, .int .i64 0, .int .i64 0, .slice none 0 0, .slice none 0 0, .slice none 0 0, .int .i64 0, .int .i64 0, .bool false, .int .i64 0, .string ⟨#[]⟩, .int .i64 0, .int .i64 0, .string ⟨#[]⟩, .int .i64 0, .int .i64 0, .slice none 0 0, .int .i64 0, .string ⟨#[]⟩, .slice none 0 0, .int .i64 0, .int .i64 0, .slice none 0 0, .slice none 0 0, .int .i64 0] = Z := ⟨_, rfl⟩
  have hZs : Z.size = 46 := by rw [← hZ]; rfl
  have hz0 : ∀ k, k < sM.sz → Z[0 + k]? = (Zc sM)[k]? := fun k hk => by rw [Nat.zero_add, ← hZ]; show (Zc sM).toArray[k]? = _; rw [List.getElem?_toArray]
  rw [hZ]
  clear hZ
  have ha : Ab w (((w.alloc (.cells Z 48)).alloc (.cells #[.int .i64 0] 38)).alloc (.cells #[.bool true, .slice A m.length c] 137)) := (((Ab.refl w).alloc _).alloc _).alloc _
  have hcr : Cr (((w.alloc (.cells Z 48)).alloc (.cells #[.int .i64 0] 38)).alloc (.cells #[.bool true, .slice A m.length c] 137)) (w.heap.size + 1 + 1) w.heap.size (.slice A m.length c) m :=
    ⟨Bk.new (by simp), HH.out.ab ha (Nat.le_refl _), by omega⟩
  have hk0 : Bk (((w.alloc (.cells Z 48)).alloc (.cells #[.int .i64 0] 38)).alloc (.cells #[.bool true, .slice A m.length c] 137)) w.heap.size 48 Z := ((Bk.made w _ _).alloc _).alloc _
  have hk1 : Bk (((w.alloc (.cells Z 48)).alloc (.cells #[.int .i64 0] 38)).alloc (.cells #[.bool true, .slice A m.length c] 137)) (w.heap.size + 1) 38 #[.int .i64 0] := (Bk.new (by simp)).alloc _
  generalize (((w.alloc (.cells Z 48)).alloc (.cells #[.int .i64 0] 38)).alloc (.cells #[.bool true, .slice A m.length c] 137)) = w1 at *
  have HW1 := Lib.hid hcr.lt
  rw [← List.append_nil m] at hcr
  refine (msg_rd w.heap.size 0 48 Z m [] w1 (w.heap.size + 1 + 1) w.heap.size _ HP.out.1 hcr hk0 (by omega) (Nat.le_refl _) hz0 HP.out.2).mono ?_
  rintro e w2 ⟨rfl, v2, cs2, hc2, hb2, hs2, -, hm2, he2⟩
  have hk1 := hm2.bk hk1 (by omega)
  have ha2 := hm2.ab ha (fun k e => by omega)
  obtain ⟨A9, c9, hv9, -⟩ := id hc2.src
  have hv9' : v2 = .slice A9 0 c9 := hv9
  subst hv9'
  have hbb := hc2.bytes
  have hs46 : cs2.size = 46 := hs2.trans hZs
  have hE : EncP w2 (fun k => w1.heap.size ≤ k ∧ k < w2.heap.size) sM (fun k => cs2[k]?) m := EncP.congr (fun b hb => ⟨hb, fun _ => rfl⟩) sM (fun k => cs2[0 + k]?) _ _ (fun k _ => by rw [Nat.zero_add]) he2
  have h1 := EncP.ones hE (by rw [hs46, sM_sz])
  have hi : (Tryz.prog.info? 48).map (·.size) = some cs2.size := by rw [hs46]; exact info_M
  have hmr := mv_rowM (w := w2) (g := w.heap.size) cs2
  have hkr : Bk (w2.setRow w.heap.size cs2) (w.heap.size + 1) 38 #[.int .i64 0] := hmr.bk hk1 (by omega)
  have z0 : (w2.setRow w.heap.size cs2).cell? ⟨w.heap.size + 1, 0, none⟩ = some (.int .i64 0) := hkr.cell rfl
  have g0 := hkr.free 0
  have zz : w2.cell? ⟨w.heap.size + 1, 0, none⟩ = some (.int .i64 0) := hk1.cell rfl
  have H2 := Lib.hid (And.intro hb2 (And.intro hkr (And.intro ha2 (And.intro hmr (And.intro hE (And.intro h1 hi))))))
  clear hc2 hb2 hk1 ha2 he2 hv9 hm2 hk0 hcr ha hs2 hE h1 hi hmr hkr
  go_wp2_with (first
    | (refine wpList_load_row rfl 48 _ rfl w.heap.size rfl 48 cs2 (0, 0) _ H2.out.1 Tryz.underlying48 rfl H2.out.2.2.2.2.2.2 ?_)
    | (refine wpList_store_rowM rfl rfl 48 _ _ rfl w.heap.size rfl cs2 cs2 rfl 48 H2.out.1 rfl H2.out.2.2.2.2.2.2 H2.out.2.2.2.2.2.1 ?_; rintro w3 rfl))
  have hm3 : Mv (fun k => k = w.heap.size ∨ k = w.heap.size + 1) w2 ((w2.setRow w.heap.size cs2).setCell ⟨w.heap.size + 1, 0, none⟩ (.int .i64 0)) := (H2.out.2.2.2.1.mono (fun _ _ e => .inl e)).set (p := ⟨w.heap.size + 1, 0, none⟩) (.inr rfl) _
  have hb3 : Bk ((w2.setRow w.heap.size cs2).setCell ⟨w.heap.size + 1, 0, none⟩ (.int .i64 0)) w.heap.size 48 cs2 := (Bk.rowM H2.out.1 cs2).far (p := ⟨w.heap.size + 1, 0, none⟩) (by simp) _
  have he3 : Bk ((w2.setRow w.heap.size cs2).setCell ⟨w.heap.size + 1, 0, none⟩ (.int .i64 0)) (w.heap.size + 1) 38 #[.int .i64 0] := H2.out.2.1.store 0 (.int .i64 0)
  obtain ⟨w3, hw3⟩ : ∃ w3, (w2.setRow w.heap.size cs2).setCell ⟨w.heap.size + 1, 0, none⟩ (.int .i64 0) = w3 := ⟨_, rfl⟩
  rw [hw3] at hm3 hb3 he3 ⊢
  have ha3 := hm3.ab H2.out.2.2.1 (fun k e => by omega)
  have hF : EncP w3 (fun k => w.heap.size ≤ k ∧ k < w3.heap.size) sM (fun k => cs2[k]?) m :=
    EncP.congr (F' := fun k => w.heap.size ≤ k ∧ k < w3.heap.size) (fun k hk => ⟨⟨by have := HW1.out; omega, by have := hm3.size; omega⟩, fun o' => World.cell?_of_block (a := ⟨k, o', none⟩) (hm3.block k hk.2 (fun e => by have := HW1.out; omega))⟩) _ _ _ _ (fun k _ => rfl) H2.out.2.2.2.2.1
  refine leaves_cons (f := 91) (args := #[.pointer (some ⟨w.heap.size, 0, none⟩), .pointer (some ⟨w.heap.size + 1, 0, none⟩)]) (by simp) (by simp [go_sem]) ?_
  refine (calm_Msg _ _ w3).mono ?_
  rintro e u' w4 ⟨rfl, rfl, rfl⟩
  have rz : w3.cell? ⟨w.heap.size + 1, 0, none⟩ = some (.int .i64 0) := he3.cell rfl
  have rr := run_loadVar_row (P := Tryz.prog) w3 w.heap.size 48 48 cs2 (0, 0) _ hb3 Tryz.underlying48 rfl H2.out.2.2.2.2.2.2
  have rz' : (loadVar 38 ⟨w.heap.size + 1, 0, none⟩).run Tryz.prog w3 = .ok (.int .i64 0) w3 := by simp [go_sem, rz]
  show Leaves _ _ _ _ [] .returning w3
  unfold Leaves
  exact ⟨.tuple #[.agg cs2, .int .i64 0], by simp [results, Tryz.results35, asAddr, rr, rz'], cs2, hs46, rfl, hF, ha3⟩
set_option maxRecDepth 100000 in
set_option maxHeartbeats 8000000 in
theorem wread_Msg (m : List UInt8) (w : World) (h : Bs w w.heap.size v m) (hp : Par sM m) (hl : m.length ≤ 100000000) :
    Calls Tryz.prog 8 #[v] w (RdMsg w m) := by
  obtain ⟨A, c, rfl, -, -, -⟩ := id h
  have HH := Lib.hid h
  clear h
  go_enter Tryz.func8, Tryz.ntmps8
  go_wp2_with fail
  obtain ⟨Z, hZ⟩ : ∃ Z : Array Value, #[.int .i64 0, .int .i64 0, .int .i64 0, .int .i64 0, .int .i64 0, .int .i64 0, .int .i64 0, .int .i64 0, .int .i64 0, .int .i64 0, .int .i64 0, .int .i64 0, .slice none 0 0, .slice none 0 0, .slice none 0 0, .int .i64 0, .int .i64 0, .int .i64 0, .int .i64 0, .int .i64 0, .int .i64 0, .int .i64 0, .int .i64 0, .int .i64 0, .slice none 0 0, .slice none 0 0, .slice none 0 0, .int .i64 0, .int .i64 0, .bool false, .int .i64 0, .string ⟨#[]⟩, .int .i64 0, .int .i64 0, .string ⟨#[]⟩, .int .i64 0, .int .i64 0, .slice none 0 0, .int .i64 0, .string ⟨#[]⟩, .slice none 0 0, .int .i64 0, .int .i64 0, .slice none 0 0, .slice none 0 0, .int .i64 0] = Z := ⟨_, rfl⟩
  have hZs : Z.size = 46 := by rw [← hZ]; rfl
  rw [hZ]
  clear hZ
  have ha1 : Ab w (w.alloc (.cells Z 48)) := (Ab.refl w).alloc _
  have hb1 : Bk (w.alloc (.cells Z 48)) w.heap.size 48 Z := Bk.made w _ _
  have hs1 : (w.alloc (.cells Z 48)).heap.size = w.heap.size + 1 := by simp
  have HH1 := Lib.hid ((HH.out.ab ha1 (Nat.le_refl _)).more ha1.size)
  obtain ⟨w1, hw1⟩ : ∃ w1, w.alloc (.cells Z 48) = w1 := ⟨_, rfl⟩
  rw [hw1] at HH1 hb1 ha1 hs1 ⊢
  have H1 := Lib.hid (And.intro hb1 (And.intro ha1 hs1))
  clear hb1 ha1 hw1 hs1
  refine (read_Msg m w1 HH1.out hp hl).mono ?_
  rintro e w2 ⟨cs, hcs, rfl, he2, ha2⟩
  have hb2 := ha2.bk H1.out.1
  have h1 := EncP.ones he2 (by rw [hcs, sM_sz])
  have hi : (Tryz.prog.info? 48).map (·.size) = some cs.size := by rw [hcs]; exact info_M
  have hsz : Z.size = cs.size := by rw [hZs, hcs]
  have H2 := Lib.hid (And.intro hb2 (And.intro (H1.out.2.1.trans ha2) (And.intro he2 (And.intro h1 (And.intro hi hsz)))))
  clear hb2 ha2 he2 h1 hi hsz
  go_wp2_with (refine wpList_store_rowM rfl rfl 48 _ _ rfl w.heap.size rfl cs Z rfl 48 H2.out.1 H2.out.2.2.2.2.2 H2.out.2.2.2.2.1 H2.out.2.2.2.1 ?_; rintro w3 rfl)
  have hm3 : Mv (· = w.heap.size) w2 (w2.setRow w.heap.size cs) := mv_rowM cs
  have hb3 : Bk (w2.setRow w.heap.size cs) w.heap.size 48 cs := Bk.rowM H2.out.1 cs
  obtain ⟨w3, hw3⟩ : ∃ w3, w2.setRow w.heap.size cs = w3 := ⟨_, rfl⟩
  rw [hw3] at hm3 hb3 ⊢
  have ha3 := hm3.ab H2.out.2.1 (fun k e => by omega)
  have hF : EncP w3 (fun k => w.heap.size ≤ k ∧ k < w3.heap.size) sM (fun k => cs[k]?) m :=
    EncP.congr (F' := fun k => w.heap.size ≤ k ∧ k < w3.heap.size) (fun k hk => ⟨⟨by have := H1.out.2.2; omega, by have := hm3.size; omega⟩, fun o' => World.cell?_of_block (a := ⟨k, o', none⟩) (hm3.block k hk.2 (fun e => by have := H1.out.2.2; omega))⟩) _ _ _ _ (fun k _ => rfl) H2.out.2.2.1
  have rr := run_loadVar_row (P := Tryz.prog) w3 w.heap.size 48 48 cs (0, 0) _ hb3 Tryz.underlying48 rfl H2.out.2.2.2.2.1
  exact ⟨rfl, .tuple #[.agg cs, .int .i64 0], by simp [results, Tryz.results8, asAddr, rr], cs, hcs, rfl, hF, ha3⟩
end Go.Proofs.YtphbaaaklgiloaaGreat.Dg

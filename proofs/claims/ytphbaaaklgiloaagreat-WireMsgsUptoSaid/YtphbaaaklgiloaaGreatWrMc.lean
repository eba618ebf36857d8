/- wire: ReadMsg of bytes that are one too many, or one too few. Made by wip/gen_msg3.py. -/
import Derived.Test.YtphbaaaklgiloaaGreatWrMb
import Derived.Test.YtphbaaaklgiloaaGreatWrYo
namespace Go.Proofs.YtphbaaaklgiloaaGreat.Dg
open Go.RowKit
attribute [local go_sem ↓] Go.wp_at_zero Go.wp_at_succ
variable {v : Value}
def RdBad (w : World) (e : Ending) (w' : World) : Prop := ∃ cs : Array Value, cs.size = 46 ∧ (∀ u ∈ cs.toList, u.oneCell' = true) ∧ e = .returned (.tuple #[.agg cs, .int .i64 74]) ∧ Ab w w'
set_option maxRecDepth 100000 in
set_option maxHeartbeats 8000000 in
theorem read_short (m : List UInt8) (w : World) (h : Bs w w.heap.size v (m.take (m.length - 1))) (hp : Par sM m) (hl : m.length ≤ 100000000) :
    Calls Tryz.prog 35 #[v, .func (.func 33) #[] #[]] w (RdBad w) := by
  obtain ⟨l, hlm⟩ : ∃ l, m.take (m.length - 1) = l := ⟨_, rfl⟩
  rw [hlm] at h
  have hmf : ∀ (fn : Fn) (first cap : Array Value) (w : World), (Instr.makeFunc fn first cap).run Tryz.prog w = .ok (.func fn first cap) w := fun _ _ _ _ => rfl
  have HH := Lib.hid h
  have HP := Lib.hid (And.intro hp hl)
  obtain ⟨A, c, rfl, -, -, -⟩ := id h
  clear h hp hl
  go_enter_defers Tryz.func35, Tryz.ntmps35
  go_wp2_with fail
  obtain ⟨Z, hZ⟩ : ∃ Z : Array Value, #[.int .i64 0, .int .i64 0, .int .i64 0, .int .i64 0, .int .i64 0, .int .i64 0, .int .i64 0, .int .i64 0, .int .i64 0, .int .i64 0, .int .i64 0, .int .i64 0, .slice none 0 0, .slice none 0 0, .slice none 0 0, .int .i64 0, .int .i64 0, .int .i64 0, .int .i64 0, .int .i64 0, .int .i64 0, .int .i64 0, .int .i64 0, .int .i64 0, .slice none 0 0, .slice none 0 0, .slice none 0 0, .int .i64 0, .int .i64 0, .bool false, .int .i64 0, .string ⟨#[]⟩, .int .i64 0, .int .i64 0, .string ⟨#[]⟩, .int .i64 0, .int .i64 0, .slice none 0 0, .int .i64 0, .string ⟨#[]⟩, .slice none 0 0, .int .i64 0, .int .i64 0, .slice none 0 0, .slice none 0 0, .int .i64 0] = Z := ⟨_, rfl⟩
  have hZs : Z.size = 46 := by rw [← hZ]; rfl
  have hz0 : ∀ k, k < sM.sz → Z[0 + k]? = (Zc sM)[k]? := fun k hk => by rw [Nat.zero_add, ← hZ]; show (Zc sM).toArray[k]? = _; rw [List.getElem?_toArray]
  have hZ1 : ∀ u ∈ Z.toList, u.oneCell' = true := by rw [← hZ]; exact ones_zM
  have hZL : Lays Z := by rw [← hZ]; exact lays_zM
  rw [hZ]
  clear hZ
  have ha : Ab w (((w.alloc (.cells Z 48)).alloc (.cells #[.int .i64 0] 38)).alloc (.cells #[.bool true, .slice A l.length c] 137)) := (((Ab.refl w).alloc _).alloc _).alloc _
  have hcr : Cr (((w.alloc (.cells Z 48)).alloc (.cells #[.int .i64 0] 38)).alloc (.cells #[.bool true, .slice A l.length c] 137)) (w.heap.size + 1 + 1) w.heap.size (.slice A l.length c) l :=
    ⟨Bk.new (by simp), HH.out.ab ha (Nat.le_refl _), by omega⟩
  have hk0 : Bk (((w.alloc (.cells Z 48)).alloc (.cells #[.int .i64 0] 38)).alloc (.cells #[.bool true, .slice A l.length c] 137)) w.heap.size 48 Z := ((Bk.made w _ _).alloc _).alloc _
  have hk1 : Bk (((w.alloc (.cells Z 48)).alloc (.cells #[.int .i64 0] 38)).alloc (.cells #[.bool true, .slice A l.length c] 137)) (w.heap.size + 1) 38 #[.int .i64 0] := (Bk.new (by simp)).alloc _
  generalize (((w.alloc (.cells Z 48)).alloc (.cells #[.int .i64 0] 38)).alloc (.cells #[.bool true, .slice A l.length c] 137)) = w1 at *
  have HW1 := Lib.hid hcr.lt
  rw [← hlm] at hcr
  refine (msg_short w.heap.size 0 48 Z m w1 (w.heap.size + 1 + 1) w.heap.size _ HP.out.1 hcr hk0 (by omega) (Nat.le_refl _) hz0 HP.out.2).mono ?_
  rintro e w2 ⟨rfl, cs2, hb2, hs2, hm2⟩
  have hk1 := hm2.bk hk1 (by omega)
  have ha2 := hm2.ab ha (fun k e => by omega)
  refine leaves_cons (f := 91) (args := #[.pointer (some ⟨w.heap.size, 0, none⟩), .pointer (some ⟨w.heap.size + 1, 0, none⟩)]) (by simp) (by simp [go_sem]) ?_
  refine (catch_MsgZ Z hZs hZ1 hZL w.heap.size (w.heap.size + 1) (by omega) cs2 (hs2.trans hZs) w2 hb2 hk1).mono ?_
  rintro e u' w3 ⟨rfl, rfl, hb3, he3, hm3⟩
  have ha3 := hm3.ab ha2 (fun k e => by omega)
  have rz : w3.cell? ⟨w.heap.size + 1, 0, none⟩ = some (.int .i64 74) := he3.cell rfl
  have hi : (Tryz.prog.info? 48).map (·.size) = some Z.size := by rw [hZs]; exact info_M
  have rr := run_loadVar_row (P := Tryz.prog) w3 w.heap.size 48 48 Z (0, 0) _ hb3 Tryz.underlying48 rfl hi
  have rz' : (loadVar 38 ⟨w.heap.size + 1, 0, none⟩).run Tryz.prog w3 = .ok (.int .i64 74) w3 := by simp [go_sem, rz]
  have hR : RdBad w (.returned (.tuple #[.agg Z, .int .i64 74])) w3 := ⟨Z, hZs, hZ1, rfl, ha3⟩
  simp [Leaves, settle, results, Tryz.results35, asAddr, rr, rz', hR]
set_option maxRecDepth 100000 in
set_option maxHeartbeats 8000000 in
theorem read_long (m : List UInt8) (x : UInt8) (w : World) (h : Bs w w.heap.size v (m ++ [x])) (hp : Par sM m) (hl : m.length ≤ 100000000) :
    Calls Tryz.prog 35 #[v, .func (.func 33) #[] #[]] w (RdBad w) := by
  obtain ⟨l, hlm⟩ : ∃ l, m ++ [x] = l := ⟨_, rfl⟩
  rw [hlm] at h
  have hmf : ∀ (fn : Fn) (first cap : Array Value) (w : World), (Instr.makeFunc fn first cap).run Tryz.prog w = .ok (.func fn first cap) w := fun _ _ _ _ => rfl
  have HH := Lib.hid h
  have HP := Lib.hid (And.intro hp hl)
  obtain ⟨A, c, rfl, -, -, -⟩ := id h
  clear h hp hl
  go_enter_defers Tryz.func35, Tryz.ntmps35
  go_wp2_with fail
  obtain ⟨Z, hZ⟩ : ∃ Z : Array Value, #[.int .i64 0, .int .i64 0, .int .i64 0, .int .i64 0, .int .i64 0, .int .i64 0, .int .i64 0, .int .i64 0, .int .i64 0, .int .i64 0, .int .i64 0, .int .i64 0, .slice none 0 0, .slice none 0 0, .slice none 0 0, .int .i64 0, .int .i64 0, .int .i64 0, .int .i64 0, .int .i64 0, .int .i64 0, .int .i64 0, .int .i64 0, .int .i64 0, .slice none 0 0, .slice none 0 0, .slice none 0 0, .int .i64 0, .int .i64 0, .bool false, .int .i64 0, .string ⟨#[]⟩, .int .i64 0, .int .i64 0, .string ⟨#[]⟩, .int .i64 0, .int .i64 0, .slice none 0 0, .int .i64 0, .string ⟨#[]⟩, .slice none 0 0, .int .i64 0, .int .i64 0, .slice none 0 0, .slice none 0 0, .int .i64 0] = Z := ⟨_, rfl⟩
  have hZs : Z.size = 46 := by rw [← hZ]; rfl
  have hz0 : ∀ k, k < sM.sz → Z[0 + k]? = (Zc sM)[k]? := fun k hk => by rw [Nat.zero_add, ← hZ]; show (Zc sM).toArray[k]? = _; rw [List.getElem?_toArray]
  have hZ1 : ∀ u ∈ Z.toList, u.oneCell' = true := by rw [← hZ]; exact ones_zM
  have hZL : Lays Z := by rw [← hZ]; exact lays_zM
  rw [hZ]
  clear hZ
  have ha : Ab w (((w.alloc (.cells Z 48)).alloc (.cells #[.int .i64 0] 38)).alloc (.cells #[.bool true, .slice A l.length c] 137)) := (((Ab.refl w).alloc _).alloc _).alloc _
  have hcr : Cr (((w.alloc (.cells Z 48)).alloc (.cells #[.int .i64 0] 38)).alloc (.cells #[.bool true, .slice A l.length c] 137)) (w.heap.size + 1 + 1) w.heap.size (.slice A l.length c) l :=
    ⟨Bk.new (by simp), HH.out.ab ha (Nat.le_refl _), by omega⟩
  have hk0 : Bk (((w.alloc (.cells Z 48)).alloc (.cells #[.int .i64 0] 38)).alloc (.cells #[.bool true, .slice A l.length c] 137)) w.heap.size 48 Z := ((Bk.made w _ _).alloc _).alloc _
  have hk1 : Bk (((w.alloc (.cells Z 48)).alloc (.cells #[.int .i64 0] 38)).alloc (.cells #[.bool true, .slice A l.length c] 137)) (w.heap.size + 1) 38 #[.int .i64 0] := (Bk.new (by simp)).alloc _
  generalize (((w.alloc (.cells Z 48)).alloc (.cells #[.int .i64 0] 38)).alloc (.cells #[.bool true, .slice A l.length c] 137)) = w1 at *
  have HW1 := Lib.hid hcr.lt
  rw [← hlm] at hcr
  refine (msg_rd w.heap.size 0 48 Z m [x] w1 (w.heap.size + 1 + 1) w.heap.size _ HP.out.1 hcr hk0 (by omega) (Nat.le_refl _) hz0 HP.out.2).mono ?_
  rintro e w2 ⟨rfl, v2, cs2, hc2, hb2, hs2, -, hm2, -⟩
  have hk1 := hm2.bk hk1 (by omega)
  have ha2 := hm2.ab ha (fun k e => by omega)
  obtain ⟨A9, c9, hv9, -⟩ := id hc2.src
  have hv9' : v2 = .slice A9 1 c9 := hv9
  subst hv9'
  have hbb := hc2.bytes
  clear hc2 hv9 hm2 hk0 hcr ha
  go_wp2_with fail
  refine leaves_cons (f := 91) (args := #[.pointer (some ⟨w.heap.size, 0, none⟩), .pointer (some ⟨w.heap.size + 1, 0, none⟩)]) (by simp) (by simp [go_sem]) ?_
  refine (catch_MsgZ Z hZs hZ1 hZL w.heap.size (w.heap.size + 1) (by omega) cs2 (hs2.trans hZs) w2 hb2 hk1).mono ?_
  rintro e u' w3 ⟨rfl, rfl, hb3, he3, hm3⟩
  have ha3 := hm3.ab ha2 (fun k e => by omega)
  have rz : w3.cell? ⟨w.heap.size + 1, 0, none⟩ = some (.int .i64 74) := he3.cell rfl
  have hi : (Tryz.prog.info? 48).map (·.size) = some Z.size := by rw [hZs]; exact info_M
  have rr := run_loadVar_row (P := Tryz.prog) w3 w.heap.size 48 48 Z (0, 0) _ hb3 Tryz.underlying48 rfl hi
  have rz' : (loadVar 38 ⟨w.heap.size + 1, 0, none⟩).run Tryz.prog w3 = .ok (.int .i64 74) w3 := by simp [go_sem, rz]
  have hR : RdBad w (.returned (.tuple #[.agg Z, .int .i64 74])) w3 := ⟨Z, hZs, hZ1, rfl, ha3⟩
  simp [Leaves, settle, results, Tryz.results35, asAddr, rr, rz', hR]
set_option maxRecDepth 100000 in
set_option maxHeartbeats 8000000 in
theorem wread_bad (l : List UInt8) (w : World) (h : Bs w w.heap.size v l) (hr : ∀ w1, Bs w1 w1.heap.size v l → Calls Tryz.prog 35 #[v, .func (.func 33) #[] #[]] w1 (RdBad w1)) :
    Calls Tryz.prog 8 #[v] w (RdBad w) := by
  obtain ⟨A, c, rfl, -, -, -⟩ := id h
  have HH := Lib.hid (And.intro h hr)
  clear h hr
  go_enter Tryz.func8, Tryz.ntmps8
  go_wp2_with fail
  obtain ⟨Z, hZ⟩ : ∃ Z : Array Value, #[.int .i64 0, .int .i64 0, .int .i64 0, .int .i64 0, .int .i64 0, .int .i64 0, .int .i64 0, .int .i64 0, .int .i64 0, .int .i64 0, .int .i64 0, .int .i64 0, .slice none 0 0, .slice none 0 0, .slice none 0 0, .int .i64 0, .int .i64 0, .int .i64 0, .int .i64 0, .int .i64 0, .int .i64 0, .int .i64 0, .int .i64 0, .int .i64 0, .slice none 0 0, .slice none 0 0, .slice none 0 0, .int .i64 0, .int .i64 0, .bool false, .int .i64 0, .string ⟨#[]⟩, .int .i64 0, .int .i64 0, .string ⟨#[]⟩, .int .i64 0, .int .i64 0, .slice none 0 0, .int .i64 0, .string ⟨#[]⟩, .slice none 0 0, .int .i64 0, .int .i64 0, .slice none 0 0, .slice none 0 0, .int .i64 0] = Z := ⟨_, rfl⟩
  have hZs : Z.size = 46 := by rw [← hZ]; rfl
  rw [hZ]
  clear hZ
  have ha1 : Ab w (w.alloc (.cells Z 48)) := (Ab.refl w).alloc _
  have hb1 : Bk (w.alloc (.cells Z 48)) w.heap.size 48 Z := Bk.made w _ _
  have hs1 : (w.alloc (.cells Z 48)).heap.size = w.heap.size + 1 := by simp
  have HH1 := Lib.hid ((HH.out.1.ab ha1 (Nat.le_refl _)).more ha1.size)
  obtain ⟨w1, hw1⟩ : ∃ w1, w.alloc (.cells Z 48) = w1 := ⟨_, rfl⟩
  rw [hw1] at HH1 hb1 ha1 hs1 ⊢
  have H1 := Lib.hid (And.intro hb1 (And.intro ha1 hs1))
  clear hb1 ha1 hw1 hs1
  refine (HH.out.2 w1 HH1.out).mono ?_
  rintro e w2 ⟨cs, hcs, h1, rfl, ha2⟩
  have hb2 := ha2.bk H1.out.1
  have hi : (Tryz.prog.info? 48).map (·.size) = some cs.size := by rw [hcs]; exact info_M
  have hsz : Z.size = cs.size := by rw [hZs, hcs]
  have H2 := Lib.hid (And.intro hb2 (And.intro (H1.out.2.1.trans ha2) (And.intro h1 (And.intro hi hsz))))
  clear hb2 ha2 h1 hi hsz
  go_wp2_with (refine wpList_store_rowM rfl rfl 48 _ _ rfl w.heap.size rfl cs Z rfl 48 H2.out.1 H2.out.2.2.2.2 H2.out.2.2.2.1 H2.out.2.2.1 ?_; rintro w3 rfl)
  have hm3 : Mv (· = w.heap.size) w2 (w2.setRow w.heap.size cs) := mv_rowM cs
  have hb3 : Bk (w2.setRow w.heap.size cs) w.heap.size 48 cs := Bk.rowM H2.out.1 cs
  obtain ⟨w3, hw3⟩ : ∃ w3, w2.setRow w.heap.size cs = w3 := ⟨_, rfl⟩
  rw [hw3] at hm3 hb3 ⊢
  have ha3 := hm3.ab H2.out.2.1 (fun k e => by omega)
  have rr := run_loadVar_row (P := Tryz.prog) w3 w.heap.size 48 48 cs (0, 0) _ hb3 Tryz.underlying48 rfl H2.out.2.2.2.1
  exact ⟨rfl, .tuple #[.agg cs, .int .i64 74], by simp [results, Tryz.results8, asAddr, rr], cs, hcs, H2.out.2.2.1, rfl, ha3⟩
theorem wread_short (m : List UInt8) (w : World) (h : Bs w w.heap.size v (m.take (m.length - 1))) (hp : Par sM m) (hl : m.length ≤ 100000000) : Calls Tryz.prog 8 #[v] w (RdBad w) :=
  wread_bad _ w h fun w1 h1 => read_short m w1 h1 hp hl
theorem wread_long (m : List UInt8) (x : UInt8) (w : World) (h : Bs w w.heap.size v (m ++ [x])) (hp : Par sM m) (hl : m.length ≤ 100000000) : Calls Tryz.prog 8 #[v] w (RdBad w) :=
  wread_bad _ w h fun w1 h1 => read_long m x w1 h1 hp hl
end Go.Proofs.YtphbaaaklgiloaaGreat.Dg

/- The program's map: runs are put in the place of others. -/
import Derived.Test.YtniodjigncicbaaExF
import Derived.Test.YtniodjigncicbaaExG
namespace Go.Proofs.Ytniodjigncicbaa.Dg
open Go.RowKit
variable {w w' : World} {base a s : Nat} {v : Value} {ps : List Pr} {l : List UInt8}
attribute [local go_sem ↓] Go.wp_at_zero Go.wp_at_succ
theorem Og.head {e : TypeId} {z n c : Nat} {A : Option Addr} {xs : List Value} (h : Og e z w base (.slice A n c) n xs) (k : Nat) (hk : k ≤ n) : Og e z w base (.slice A k c) k (xs.take (k * z)) := by
  have h1 := h.1
  have hks := Nat.mul_le_mul_right z hk
  refine ⟨by rw [List.length_take]; omega, ?_⟩
  rcases h.2 with ⟨hv, h0⟩ | ⟨g, cap, pre, post, hv, hb, hg, hn, hs, hm⟩
  · injection hv with ha hn hc
    have : k = 0 := by omega
    subst ha; subst hc; subst this
    exact .inl ⟨rfl, rfl⟩
  · injection hv with ha hn' hc'
    subst ha; subst hc'
    refine .inr ⟨g, c, pre, xs.drop (k * z) ++ post, rfl, hb, ?_, by omega, ?_, hm⟩
    · rw [hg]
      congr 2
      rw [List.append_assoc pre, List.append_assoc pre, ← List.append_assoc (xs.take _), List.take_append_drop]
    · rw [List.length_append, List.length_drop]; omega
theorem Og.src {P : Program} {TS T : TypeId} {z n : Nat} {xs : List Value} (hk : P.underlying TS = some (.slice T)) (h : Og T z w base v n xs) (h1 : ∀ u ∈ xs, u.oneCell' = true) : Src P z TS v n xs w := by
  rcases h.2 with ⟨rfl, rfl⟩ | ⟨g, cap, pre, post, rfl, hb, hg, hn, hs, hm⟩
  · have : xs = [] := List.eq_nil_of_length_eq_zero (by simpa using h.1)
    subst this
    exact Src.ofNil w hk 0
  · refine Src.ofSlice w hk ⟨g, pre.length, none⟩ n cap xs h.1 (fun j u hu => ?_) h1
    rw [Addr.add_lit, cell_of_row w g _ _ _ _ hg, List.getElem?_toArray, List.append_assoc, List.getElem?_append_right (by omega), Nat.add_sub_cancel_left,
      List.getElem?_append_left (List.getElem?_eq_some_iff.1 hu).1, hu]
theorem prV_one (h : ∀ p ∈ ps, Ob w base p.val p.bytes) : ∀ u ∈ prV ps, u.oneCell' = true := by
  intro u hu
  unfold prV at hu
  obtain ⟨p, hp, hu⟩ := List.mem_flatMap.1 hu
  simp only [List.mem_cons, List.not_mem_nil, or_false] at hu
  rcases hu with rfl | rfl
  · rfl
  · obtain ⟨A, c, hv, -, -⟩ := (h p hp).len_cap
    rw [hv]; rfl
theorem prV_take (ps : List Pr) (k : Nat) : prV (ps.take k) = (prV ps).take (k * 2) := by
  conv => rhs; rw [← List.take_append_drop k ps, prV_append]
  rcases Nat.lt_or_ge ps.length k with h | h
  · rw [List.take_of_length_le (show ps.length ≤ k by omega), List.drop_of_length_le (show ps.length ≤ k by omega), show prV ([] : List Pr) = [] from rfl, List.append_nil, List.take_of_length_le (by rw [prV_length]; omega)]
  · rw [List.take_left' (by rw [prV_length, List.length_take, Nat.min_eq_left h])]
theorem prV_drop (ps : List Pr) (k : Nat) (h : k ≤ ps.length) : prV (ps.drop k) = (prV ps).drop (k * 2) := by
  conv => rhs; rw [← List.take_append_drop k ps, prV_append]
  rw [List.drop_left' (by rw [prV_length, List.length_take, Nat.min_eq_left h])]
def ReplPost (w : World) (base a s : Nat) (rs : List Pr) (e : Ending) (w' : World) : Prop :=
  e = .returned (.tuple #[]) ∧ ∃ v', Bk w' a 109 #[.bool true, .int .i64 (s : Int), v'] ∧ Rl 218 w' base v' rs ∧ Mv (fun k => k = a) w w'
theorem repl_post {A A3 : Option Addr} {c c3 : Nat} {u : Value} {qs : List Pr} {w3 : World} {i j : Nat} (h : Ex w base a (.slice A ps.length c) ps s) (hu : Rl 218 w base u qs) (hbase : base ≤ w.heap.size)
    (ho : Og 218 2 w3 w.heap.size (.slice A3 [i, qs.length, ps.length - j].sum c3) [i, qs.length, ps.length - j].sum [prV (ps.take i), prV qs, prV (ps.drop j)].flatten) (hab : Ab w w3) :
    ReplPost w base a s (ps.take i ++ (qs ++ ps.drop j)) (.returned (.tuple #[])) (w3.setCell ⟨a, 2, none⟩ (.slice A3 [i, qs.length, ps.length - j].sum c3)) := by
  have hb3 := hab.bk h.blk
  have hm : Mv (fun k => k = a) w3 (w3.setCell ⟨a, 2, none⟩ (.slice A3 [i, qs.length, ps.length - j].sum c3)) := Mv.set (S := fun k => k = a) (Mv.refl _ _) (p := ⟨a, 2, none⟩) rfl _
  have e1 : [prV (ps.take i), prV qs, prV (ps.drop j)].flatten = prV (ps.take i ++ (qs ++ ps.drop j)) := by
    rw [prV_append, prV_append]; simp
  have e2 : [i, qs.length, ps.length - j].sum = (ps.take i ++ (qs ++ ps.drop j)).length := by
    have h1 := ho.1
    rw [e1, prV_length] at h1
    omega
  have hr : Rl 218 w3 base (.slice A3 [i, qs.length, ps.length - j].sum c3) (ps.take i ++ (qs ++ ps.drop j)) := by
    refine ⟨by rw [← e2, ← e1]; exact ho.lower hbase, fun p hp => ?_⟩
    rcases List.mem_append.1 hp with hp | hp
    · exact (h.row.own p (List.mem_of_mem_take hp)).ab hab
    · rcases List.mem_append.1 hp with hp | hp
      · exact (hu.own p hp).ab hab
      · exact (h.row.own p (List.mem_of_mem_drop hp)).ab hab
  exact ⟨rfl, _, hb3.store 2 _, hr.mv hm (fun k cs hk e => absurd (bk_type (e ▸ hk) hb3) (by decide)) (fun k cs hk e => absurd (bk_type (e ▸ hk) hb3) (by decide)), (Mv.of_ab hab).trans (hm.mono fun _ _ e => e)⟩
set_option maxRecDepth 100000 in
set_option maxHeartbeats 4000000 in
theorem replace_any {u : Value} {qs : List Pr} (w : World) (h : Ex w base a v ps s) (i j : Nat) (hi : i ≤ ps.length) (hj : j ≤ ps.length) (hu : Rl 218 w base u qs) (hq : qs.length ≤ 100) (hbase : base ≤ w.heap.size) :
    Calls Try.prog 111 #[.pointer (some ⟨a, 0, none⟩), .int .i64 (i : Int), .int .i64 (j : Int), u] w (ReplPost w base a s (ps.take i ++ (qs ++ ps.drop j))) := by
  obtain ⟨-, -, h2⟩ := h.cells
  have hfz := h.blk.free 2
  obtain ⟨A, c, rfl, hc1, hc2⟩ := h.row.row.len_cap
  obtain ⟨Au, cu, rfl, hu1, hu2⟩ := hu.row.len_cap
  have hlen := h.len
  have hs1 := fun wx => runT_head Try.underlying107 sizeRun A ps.length c i (by omega) wx
  have hs2 := fun wx => runT_tail Try.underlying107 sizeRun A ps.length c j hj wx
  have g1 := h.row.row.head i hi
  have g2 := h.row.row.cut j hj
  rw [← prV_take] at g1
  rw [← prV_drop ps j hj] at g2
  generalize winS 2 A c j = A2 at hs2 g2
  have HC := Lib.hid (fun (wx : World) (g : Nat) (hx : Ab w wx) (hb : Bk wx g 107 #[.slice A i c, .slice Au qs.length cu, .slice A2 (ps.length - j) (c - j)]) =>
    concatR_any wx g 3 [.slice A i c, .slice Au qs.length cu, .slice A2 (ps.length - j) (c - j)] [i, qs.length, ps.length - j] [prV (ps.take i), prV qs, prV (ps.drop j)] hb rfl rfl rfl
      (fun k hk => by
        match k, hk with
        | 0, _ => exact ⟨⟨A, c, rfl⟩, fun wy hy => (g1.ab (hx.trans hy)).src Try.underlying107 (prV_one (fun p hp => h.row.own p (List.mem_of_mem_take hp)))⟩
        | 1, _ => exact ⟨⟨Au, cu, rfl⟩, fun wy hy => (hu.row.ab (hx.trans hy)).src Try.underlying107 (prV_one hu.own)⟩
        | 2, _ => exact ⟨⟨A2, c - j, rfl⟩, fun wy hy => (g2.ab (hx.trans hy)).src Try.underlying107 (prV_one (fun p hp => h.row.own p (List.mem_of_mem_drop hp)))⟩
        | k + 3, hk => exact absurd hk (by omega))
      (by simp; omega) (by omega)
      (fun k hk => by
        match k, hk with
        | 0, _ => exact g1.1
        | 1, _ => exact hu.row.1
        | 2, _ => exact g2.1
        | k + 3, hk => exact absurd hk (by omega)))
  have HE := Lib.hid h
  have HU := Lib.hid hu
  have i1 : (0 : Int) ≤ (i : Int) := by omega
  clear g1 g2 h hu hc1 hc2 hu1 hu2
  go_enter Try.func111, Try.ntmps111
  go_wp2_with fail
  go_region_with (go_at_call 138; refine (HC.out _ _ (by repeat (first | exact Ab.refl _ | refine Ab.alloc ?_ _ | refine Ab.drew ?_)) (by first | exact Bk.made _ _ _ | exact (Bk.made _ _ _).drew)).mono ?_; rintro e w3 ⟨A3, c3, rfl, ho3, ha3⟩; have ha9 := Ab.trans (show Ab w _ by repeat (first | exact Ab.refl _ | refine Ab.alloc ?_ _ | refine Ab.drew ?_)) ha3; have hd := (ha9.cells a 2 HE.out.blk.lt).trans h2; have hz := (ha9.frees a 2 HE.out.blk.lt).trans hfz; have H3 := Lib.hid (And.intro ho3 ha9); clear ho3 ha3 ha9)
  all_goals
    go_end0
    exact repl_post HE.out HU.out hbase (H3.out.1.lower (by simp)) H3.out.2
end Go.Proofs.Ytniodjigncicbaa.Dg

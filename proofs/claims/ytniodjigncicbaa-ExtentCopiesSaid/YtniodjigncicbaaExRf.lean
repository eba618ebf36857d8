/- The reference's object: Copy. -/
import Derived.Test.YtniodjigncicbaaExRd
import Derived.Test.YtniodjigncicbaaExH
import Derived.Deep.RegionHeld3
namespace Go.Proofs.Ytniodjigncicbaa.Dg
open Go.RowKit
variable {w w' : World} {base b s : Nat} {v u vd vh : Value} {c : Cel} {l : List UInt8}
attribute [local go_sem ↓] Go.wp_at_zero Go.wp_at_succ
theorem Og.empty {e : TypeId} {z g : Nat} (h : Bk w g e #[]) (hb : base ≤ g) : Og e z w base (.slice (some ⟨g, 0, none⟩) 0 0) 0 [] :=
  ⟨by simp, .inr ⟨g, 0, [], [], rfl, hb, h, Nat.le_refl _, by simp, by unfold maxLen; omega⟩⟩
theorem step_ogn {ops : Array Oper} {o : Oper} {ac : Act} {K : Act → World → Prop} {Q : Exit → Act → World → Prop} {E : Prop} {TS T : TypeId} {z : Value} {zs by_ : Nat} (hw : Region.wanted o (yielded ops ac.tmps) = true) (sl x : Operand)
    (ho : o.op = .call { callee := .builtin .append, args := #[sl, x], argTypes := #[TS, TS] }) (v y : Value) (hs : ac.eval sl = v) (hx : ac.eval x = y)
    (hk : Try.prog.underlying TS = some (.slice T)) (hinfo : (Try.prog.info? T).map (fun i => (i.zero, i.size, i.bytes)) = some (some z, zs, by_)) (hz : z.cells.size = zs)
    (base n : Nat) (xs : List Value) (m : Nat) (news : List Value) (h : Og T zs w base v n xs) (hsrc : Src Try.prog zs TS y m news w) (hlen : n + m ≤ 1000000 ∧ by_ ≤ 1000000) (hbase : base ≤ w.heap.size)
    (k : ∀ A c w', Og T zs w' base (.slice A (n + m) c) (n + m) (xs ++ news) → w.grownBy w' v.ownBlock → (Value.ownBlock (.slice A (n + m) c) = v.ownBlock ∨ Value.ownBlock (.slice A (n + m) c) = some w.heap.size) → K (ac.put o.dst (.slice A (n + m) c)) w') : if Region.wanted o (yielded ops ac.tmps) = true then Oper.wp Try.prog o ac w K Q else E := by
  rw [if_pos hw]
  obtain ⟨i0, hi, hz0, hz1, hz2⟩ := info_parts hinfo
  have hb : (n + m + (n + m) / 4 + 192) * by_ ≤ 2000000 * 1000000 := Nat.mul_le_mul (by omega) hlen.2
  obtain ⟨v', w', hr, h1, h2, h3⟩ := og_app (P := Try.prog) w base TS TS o.type T i0 _ zs by_ hk hi hz0 hz1 hz2 hz h hsrc (by unfold maxLen; omega) (by omega) hbase
  obtain ⟨A, c, rfl, -, -⟩ := h1.len_cap
  unfold Oper.wp execOp
  simp only [ho, resolve, invoke, builtin, Sem.run_bind, Sem.run_pure, Result.andThen_ok, List.map_toArray, List.map_cons, List.map_nil, hs, hx, hr]
  exact k A c w' h1 h2 h3
theorem step_cp8 {W : World} {g n : Nat} {news : List Value} {ops : Array Oper} {o : Oper} {ac : Act} {K : Act → World → Prop} {Q : Exit → Act → World → Prop} {E : Prop} (hw : Region.wanted o (yielded ops ac.tmps) = true) (sl x : Operand)
    (ho : o.op = .call { callee := .builtin .append, args := #[sl, x], argTypes := #[30, 30] }) (y : Value) (hs : ac.eval sl = .slice (some ⟨g, 0, none⟩) 0 0) (hx : ac.eval x = y)
    (hW : Ab W w) (hg : W.heap.size ≤ g) (h : Bk w g 5 #[]) (hsrc : ∀ wx, Ab W wx → Src Try.prog 1 30 y n news wx) (hlen : n ≤ 4096)
    (k : ∀ A c w', Og 5 1 w' W.heap.size (.slice A n c) n news → Ab W w' → (∀ j t cs, Bk w j t cs → t ≠ 5 → Bk w' j t cs) → K (ac.put o.dst (.slice A n c)) w') : if Region.wanted o (yielded ops ac.tmps) = true then Oper.wp Try.prog o ac w K Q else E := by
  refine step_ogn hw sl x ho _ y hs hx Try.underlying30 info8 rfl W.heap.size 0 [] n news (Og.empty h hg) (hsrc w hW) ⟨by omega, by omega⟩ (Ab.size hW) ?_
  intro A c w' h1 h2 h3
  rw [List.nil_append] at h1
  have hz : 0 + n = n := Nat.zero_add n
  rw [hz] at h1 ⊢
  refine k A c w' h1 (grown_ab hW h2 (fun k hk => by injection hk with hk; rw [← hk]; exact hg)) (fun j t cs hb ht => hb.grown h2 (fun e => ?_))
  injection e with e
  subst e
  exact ht (bk_type hb h)
theorem step_cpB {W : World} {g n : Nat} {news : List Value} {ops : Array Oper} {o : Oper} {ac : Act} {K : Act → World → Prop} {Q : Exit → Act → World → Prop} {E : Prop} (hw : Region.wanted o (yielded ops ac.tmps) = true) (sl x : Operand)
    (ho : o.op = .call { callee := .builtin .append, args := #[sl, x], argTypes := #[68, 68] }) (y : Value) (hs : ac.eval sl = .slice (some ⟨g, 0, none⟩) 0 0) (hx : ac.eval x = y)
    (hW : Ab W w) (hg : W.heap.size ≤ g) (h : Bk w g 4 #[]) (hsrc : ∀ wx, Ab W wx → Src Try.prog 1 68 y n news wx) (hlen : n ≤ 4096)
    (k : ∀ A c w', Og 4 1 w' W.heap.size (.slice A n c) n news → Ab W w' → (∀ j t cs, Bk w j t cs → t ≠ 4 → Bk w' j t cs) → K (ac.put o.dst (.slice A n c)) w') : if Region.wanted o (yielded ops ac.tmps) = true then Oper.wp Try.prog o ac w K Q else E := by
  refine step_ogn hw sl x ho _ y hs hx Try.underlying68 infoBool rfl W.heap.size 0 [] n news (Og.empty h hg) (hsrc w hW) ⟨by omega, by omega⟩ (Ab.size hW) ?_
  intro A c w' h1 h2 h3
  rw [List.nil_append] at h1
  have hz : 0 + n = n := Nat.zero_add n
  rw [hz] at h1 ⊢
  refine k A c w' h1 (grown_ab hW h2 (fun k hk => by injection hk with hk; rw [← hk]; exact hg)) (fun j t cs hb ht => hb.grown h2 (fun e => ?_))
  injection e with e
  subst e
  exact ht (bk_type hb h)
theorem bV_one (l : List Bool) : ∀ u ∈ bV l, u.oneCell' = true := by
  intro u hu
  unfold bV at hu
  obtain ⟨x, -, rfl⟩ := List.mem_map.1 hu
  rfl
theorem u8_one (l : List UInt8) : ∀ u ∈ l.map u8v, u.oneCell' = true := by
  intro u hu
  obtain ⟨x, -, rfl⟩ := List.mem_map.1 hu
  rfl
theorem Rf.lower {b' : Nat} (h : Rf w base b vd vh c s) (hb : b' ≤ base) : Rf w b' b vd vh c s := ⟨h.blk, h.dat.lower hb, h.has.lower hb, Nat.le_trans hb h.le, h.up, h.max⟩
theorem Og.kp {T T2 : TypeId} {z n : Nat} {xs : List Value} (h : Og T z w base v n xs) (hk : ∀ j t cs, Bk w j t cs → t ≠ T2 → Bk w' j t cs) (hne : T ≠ T2) : Og T z w' base v n xs := by
  refine ⟨h.1, ?_⟩
  rcases h.2 with h0 | ⟨g, cap, pre, post, rfl, hb, hg, hr⟩
  · exact .inl h0
  · exact .inr ⟨g, cap, pre, post, rfl, hb, hk g T _ hg hne, hr⟩
theorem rcopy_end {W : World} (hd : Og 5 1 w W.heap.size vd s ((datR c s).map u8v)) (hh : Og 4 1 w W.heap.size vh s (bV (hasR c s))) (hab : Ab W w) {v1 v2 : Value} (h : Rf W base b v1 v2 c s) :
    ∃ b' vd' vh', Ending.returned (.pointer (some ⟨w.heap.size, 0, none⟩)) = .returned (.pointer (some ⟨b', 0, none⟩)) ∧ Rf (w.alloc (.cells #[vd, vh] 70)) W.heap.size b' vd' vh' c s ∧ Ab W (w.alloc (.cells #[vd, vh] 70)) :=
  ⟨w.heap.size, vd, vh, rfl, ⟨Bk.made _ _ _, hd.ab ((Ab.refl w).alloc _), hh.ab ((Ab.refl w).alloc _), hab.size, h.up, h.max⟩, hab.alloc _⟩
set_option maxRecDepth 100000 in
set_option maxHeartbeats 4000000 in
theorem rcopy_any (w : World) (h : Rf w base b vd vh c s) :
    Calls Try.prog 31 #[.pointer (some ⟨b, 0, none⟩)] w fun e w' => ∃ b' vd' vh', e = .returned (.pointer (some ⟨b', 0, none⟩)) ∧ Rf w' w.heap.size b' vd' vh' c s ∧ Ab w w' := by
  obtain ⟨A, cp, rfl, -, -⟩ := h.dat.len_cap
  obtain ⟨A2, cp2, rfl, -, -⟩ := h.has.len_cap
  have hS : ∀ wx, Ab w wx → wx.cell? ⟨b, 0, none⟩ = some (.slice A s cp) ∧ wx.cell? ⟨b, 1, none⟩ = some (.slice A2 s cp2) := fun wx hx => ⟨(h.ab hx).blk.cell rfl, (h.ab hx).blk.cell rfl⟩
  have q0 := (hS w (Ab.refl w)).1
  have q1 := (hS w (Ab.refl w)).2
  have HS := Lib.hid hS
  have HE := Lib.hid h
  have HM := Lib.hid h.max
  have H8 := Lib.hid (fun wx (hx : Ab w wx) => Og.src Try.underlying30 (h.dat.ab hx) (u8_one _))
  have HBo := Lib.hid (fun wx (hx : Ab w wx) => Og.src Try.underlying68 (h.has.ab hx) (bV_one _))
  clear h hS
  go_enter Try.func31, Try.ntmps31
  go_wp2_with fail
  go_region_held3 (fun wx => wx.cell? ⟨b, 0, none⟩ = some (.slice A s cp) ∧ wx.cell? ⟨b, 1, none⟩ = some (.slice A2 s cp2)) (exact HS.out _ (by repeat (first | with_reducible exact Ab.refl _ | with_reducible assumption | with_reducible refine Ab.drew ?_ | with_reducible refine Ab.alloc ?_ _)))
    (first
      | (refine step_cp8 (W := w) (by rfl) _ _ (by rfl) _ (by rfl) (by rfl) (by repeat (first | with_reducible exact Ab.refl _ | with_reducible assumption | with_reducible refine Ab.drew ?_ | with_reducible refine Ab.alloc ?_ _)) (by first | with_reducible exact Nat.le_refl _ | exact Ab.size (by with_reducible assumption) | (simp; done) | (simp; omega)) (by repeat (first | with_reducible assumption | with_reducible exact Bk.made _ _ _ | exact Bk.new (by first | (with_reducible rfl) | (simp; done)) | with_reducible refine Bk.drew ?_ | with_reducible refine Bk.alloc ?_ _ | (with_reducible refine kp6 _ _ _ ?_ (by decide)))) H8.out HM.out ?_; intro A5 c5 w5 ho5 ab5 kp5)
      | (refine step_cpB (W := w) (by rfl) _ _ (by rfl) _ (by rfl) (by rfl) (by repeat (first | with_reducible exact Ab.refl _ | with_reducible assumption | with_reducible refine Ab.drew ?_ | with_reducible refine Ab.alloc ?_ _)) (by first | with_reducible exact Nat.le_refl _ | exact Ab.size (by with_reducible assumption) | (simp; done) | (simp; omega)) (by repeat (first | with_reducible assumption | with_reducible exact Bk.made _ _ _ | exact Bk.new (by first | (with_reducible rfl) | (simp; done)) | with_reducible refine Bk.drew ?_ | with_reducible refine Bk.alloc ?_ _ | (with_reducible refine kp5 _ _ _ ?_ (by decide)))) HBo.out HM.out ?_; intro A6 c6 w6 ho6 ab6 kp6))
  all_goals go_wp2_with fail
  all_goals go_ret
  all_goals first
    | exact rcopy_end ((ho5.ab (by repeat (first | with_reducible exact Ab.refl _ | with_reducible refine Ab.drew ?_ | with_reducible refine Ab.alloc ?_ _))).kp kp6 (by decide)) ho6 ab6 HE.out
    | exact rcopy_end ho5 ((ho6.ab (by repeat (first | with_reducible exact Ab.refl _ | with_reducible refine Ab.drew ?_ | with_reducible refine Ab.alloc ?_ _))).kp kp5 (by decide)) ab5 HE.out
end Go.Proofs.Ytniodjigncicbaa.Dg

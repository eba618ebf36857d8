/- What Read reads, of runs; bytes that are copied into bytes of the call's own. -/
import Derived.Test.YtniodjigncicbaaExL
import Derived.Laws.CopyRow
namespace Go.Proofs.Ytniodjigncicbaa.Dg
open Go.RowKit Go.Shelf
variable {w w' : World} {base a s B : Nat} {v : Value} {ps : List Pr} {l xs m : List UInt8}
/-- n bytes from a place on, of runs. -/
def readC (c : Cel) (at_ n : Nat) : List UInt8 := (List.range n).map fun i => (c (at_ + i)).getD 0
theorem readC_length (c : Cel) (at_ n : Nat) : (readC c at_ n).length = n := by simp [readC]
theorem readC_get (c : Cel) (at_ n i : Nat) : (readC c at_ n)[i]? = if i < n then some ((c (at_ + i)).getD 0) else none := by
  unfold readC
  by_cases h : i < n
  · simp [h]
  · simp [h]
theorem readC_ext {c c' : Cel} {at_ n : Nat} (h : ∀ i, i < n → c (at_ + i) = c' (at_ + i)) : readC c at_ n = readC c' at_ n := by
  unfold readC; exact List.map_congr_left fun i hi => by rw [h i (List.mem_range.1 hi)]
theorem readC_nil (at_ n : Nat) : readC (cellR []) at_ n = List.replicate n 0 := by
  apply List.ext_getElem?
  intro i
  rw [readC_get, List.getElem?_replicate]
  rfl
/-- One run more is copied. -/
theorem readC_next {R : List Rn} {f at_ n : Nat} {bs : List UInt8} (hR : Ris (R ++ [(f, bs)])) (h1 : f < at_ + n) (h2 : at_ < f + bs.length) :
    readC (cellR (R ++ [(f, bs)])) at_ n = (readC (cellR R) at_ n).take (f - at_) ++ ((bs.drop (at_ - f)).take (min (bs.length - (at_ - f)) (n - (f - at_))) ++ (readC (cellR R) at_ n).drop (f - at_ + min (bs.length - (at_ - f)) (n - (f - at_)))) := by
  have hout : ∀ p, f ≤ p → cellR R p = none := fun p hp => cellR_none R p fun q hq => .inr (by have := ((ris_append R [(f, bs)]).1 hR).2.2 q hq (f, bs) (by simp); omega)
  have hl1 : ((readC (cellR R) at_ n).take (f - at_)).length = f - at_ := by rw [List.length_take, readC_length]; omega
  have hl2 : ((bs.drop (at_ - f)).take (min (bs.length - (at_ - f)) (n - (f - at_)))).length = min (bs.length - (at_ - f)) (n - (f - at_)) := by rw [List.length_take, List.length_drop]; omega
  apply List.ext_getElem?
  intro i
  rw [readC_get]
  by_cases hi1 : i < f - at_
  · rw [List.getElem?_append_left (by omega), List.getElem?_take_of_lt hi1, readC_get, cellR_append, cellR_one, if_neg (show ¬ f ≤ at_ + i by omega), Option.or_none]
  · rw [List.getElem?_append_right (by omega), hl1]
    by_cases hi2 : i < f - at_ + min (bs.length - (at_ - f)) (n - (f - at_))
    · rw [List.getElem?_append_left (by omega), List.getElem?_take_of_lt (by omega), List.getElem?_drop, if_pos (by omega), cellR_append, hout (at_ + i) (by omega), Option.none_or, cellR_one, if_pos (by omega),
        show at_ - f + (i - (f - at_)) = at_ + i - f by omega, List.getElem?_eq_getElem (by omega)]
      rfl
    · rw [List.getElem?_append_right (by omega), hl2, List.getElem?_drop, readC_get, show f - at_ + min (bs.length - (at_ - f)) (n - (f - at_)) + (i - (f - at_) - min (bs.length - (at_ - f)) (n - (f - at_))) = i by omega]
      by_cases hi3 : i < n
      · rw [if_pos hi3, if_pos hi3, cellR_append, cellR_one, hout (at_ + i) (by omega), Option.none_or, if_pos (by omega), List.getElem?_eq_none (by omega)]
      · rw [if_neg hi3, if_neg hi3]
theorem readC_past {R : List Rn} {f at_ n : Nat} {bs : List UInt8} (h2 : f + bs.length ≤ at_) : readC (cellR (R ++ [(f, bs)])) at_ n = readC (cellR R) at_ n :=
  readC_ext fun i _ => by rw [cellR_append, cellR_none [(f, bs)] _ (fun q hq => by rw [List.mem_singleton.1 hq]; exact .inr (Nat.le_trans h2 (Nat.le_add_right _ _))), Option.or_none]
theorem readC_rest {R Q : List Rn} {at_ n : Nat} (h : ∀ q ∈ Q, at_ + n ≤ q.1) : readC (cellR (R ++ Q)) at_ n = readC (cellR R) at_ n :=
  readC_ext fun i hi => by rw [cellR_append, cellR_none Q _ (fun q hq => .inl (by have := h q hq; omega)), Option.or_none]
/-- copy into bytes of the call's own, from a place on. -/
theorem copy_ob {ty : TypeId} {g n c o : Nat} {u : Value} (h : Ob w base (.slice (some ⟨g, 0, none⟩) n c) m) (hm : m.length = n) (ho : o ≤ n) (hu : Bs w B u xs) (hx : xs ≠ []) :
    ∃ w', (Builtin.copy_ #[30, 30] ty #[.slice (some ⟨g, o, none⟩) (n - o) (c - o), u]).run Try.prog w = .ok (goInt ((min xs.length (n - o) : Nat) : Int)) w' ∧
      Ob w' base (.slice (some ⟨g, 0, none⟩) n c) (m.take o ++ (xs.take (min xs.length (n - o)) ++ m.drop (o + min xs.length (n - o)))) ∧ Mv (fun k => k = g) w w' := by
  obtain ⟨A, cu, rfl, hc1, hc2, hc3⟩ := hu
  obtain ⟨b, off, rfl, hb, hc⟩ := hc3 hx
  obtain ⟨k, hk⟩ : ∃ k, min xs.length (n - o) = k := ⟨_, rfl⟩
  have hcl : ((xs.take k).map u8v).length = k := by rw [List.length_map, List.length_take]; omega
  rcases h.2 with ⟨hv, _⟩ | ⟨g', cap, cur, hv, hbg, hgg, hn, hcm, hs, ht⟩
  · cases hv
  · injection hv with ha hn' hc'
    injection ha with ha
    injection ha with ha _
    subst ha; subst hc'
    rw [Nat.mul_one] at hs ht
    have hr := run_copy_row (P := Try.prog) w 30 30 ty 5 g o (n - o) (c - o) ⟨b, off, none⟩ xs.length cu cur 5 ((xs.take k).map u8v) Try.underlying30 (by kernel_rfl) hgg
      (by rw [hcl, ← hk]) (fun j u hj => by
        have hj1 : j < k := by have := (List.getElem?_eq_some_iff.1 hj).1; rw [hcl] at this; exact this
        have hj2 : j < xs.length := by omega
        rw [Addr.add_lit, hc j hj2]
        rw [List.getElem?_map, List.getElem?_take_of_lt hj1, List.getElem?_eq_getElem hj2] at hj
        rw [List.getD_eq_getElem?_getD, List.getElem?_eq_getElem hj2]
        exact hj) (by rw [hcl]; omega) (one_u8 _)
    rw [hcl] at hr
    rw [hk]
    refine ⟨_, hr, ⟨by simp, .inr ⟨g, c, _, by rw [← hm]; simp; omega, hbg, setRow_heap w g cur _ _ _ hgg, by simp; omega, hcm, ?_, ?_⟩⟩, ⟨rfl, rfl, rfl, by simp, fun j _ hj => setRow_other w g j _ hj⟩⟩
    · simp only [List.size_toArray, List.length_append, List.length_take, List.length_drop, Array.length_toList, hcl]; omega
    · have hM : (m.map u8v).length = n := by rw [List.length_map, hm]
      have e1 : (m.take o ++ (xs.take k ++ m.drop (o + k))).length = n := by simp only [List.length_append, List.length_take, List.length_drop]; omega
      rw [Nat.mul_one, e1]
      have e2 : cur.toList = m.map u8v ++ cur.toList.drop n := by
        rw [← hm, ← ht, hm]
        conv => lhs; rw [← List.take_append_drop n cur.toList]
      have r1 : (m.take o ++ (xs.take k ++ m.drop (o + k))).map u8v = (m.map u8v).take o ++ ((xs.take k).map u8v ++ (m.map u8v).drop (o + k)) := by
        rw [List.map_append, List.map_append, List.map_take, List.map_drop]
      have t1 : (m.map u8v ++ cur.toList.drop n).take o = (m.map u8v).take o := List.take_append_of_le_length (by omega)
      have t2 : (m.map u8v ++ cur.toList.drop n).drop (o + k) = (m.map u8v).drop (o + k) ++ cur.toList.drop n := List.drop_append_of_le_length (by omega)
      rw [r1]
      show (cur.toList.take o ++ (xs.take k).map u8v ++ cur.toList.drop (o + k)).take n = _
      conv => lhs; rw [e2]
      rw [t1, t2, ← List.append_assoc, List.append_assoc _ _ ((m.map u8v).drop (o + k))]
      exact List.take_left' (by simp only [List.length_append, List.length_take, List.length_drop, hcl, hM]; omega)
end Go.Proofs.Ytniodjigncicbaa.Dg

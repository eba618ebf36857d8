/- Engine.Crc. -/
import Derived.Test.YtphbaaaklgiloaaGreatDgG
namespace Go.Proofs.YtphbaaaklgiloaaGreat.Dg
open Go.RowKit
theorem Engn.keep {w w' : World} {g : Nat} {n : Int} (h : Engn w g n) (hw : w'.heap[g]? = w.heap[g]?) : Engn w' g n := h.elim (fun h => .inl (h.keep hw)) (fun h => .inr (h.keep hw))
theorem Engn.ab {w w' : World} {g : Nat} {n : Int} (h : Engn w g n) (hb : Ab w w') : Engn w' g n := h.elim (fun h => .inl (h.ab hb)) (fun h => .inr (h.ab hb))
theorem Engn.lt {w : World} {g : Nat} {n : Int} (h : Engn w g n) : g < w.heap.size := h.elim (fun h => h.lt) (fun h => h.lt)
theorem Engn.tick {w : World} {g : Nat} {n : Int} (h : Engn w g n) (m : Int) : Engn (w.setCell ⟨g, 260, none⟩ (.int .i64 m)) g m := h.elim (fun h => .inl (h.setCount _)) (fun h => .inr (h.setCount _))
set_option maxRecDepth 100000 in
set_option maxHeartbeats 1600000 in
/-- Crc: the answer, one call more, the table made. -/
theorem Crc_at (g : Nat) (v : Value) (l : List UInt8) (w : World) {n : Int} (h : Engn w g n) (hn : 0 ≤ n ∧ n < 1000000) (hv : ∀ w2 : World, Gw g w w2 → Bs w2 w2.heap.size v l) :
    Calls Tryz.prog 95 #[.pointer (some ⟨g, 0, none⟩), v] w fun e w' => e = .returned (.int .u32 (n32 (crcL l))) ∧ Engn w' g (n + 1) ∧ Gw g w w' := by
  have hnot := m_not
  have hmf := m_fun
  have HV := Lib.hid hv
  clear hv
  go_enter Tryz.func95, Tryz.ntmps95
  go_wp2_with fail
  obtain ⟨d, m, tab, he⟩ := h.eng
  refine (eng_ready_any g _ he).mono ?_
  rintro e w1 ⟨rfl, rfl⟩
  go_wp2_with fail
  refine (add_eng g _ he hn).mono ?_
  rintro e w1 ⟨rfl, hw⟩
  have h1 : Engn w1 g (n + 1) := by subst hw; exact h.elim (fun h => .inl (h.setCount _)) (fun h => .inr (h.setCount _))
  have g1 : Gw g w w1 := by subst hw; exact (Gw.refl g w).set 260 _
  clear hw he h
  go_wp2_with fail
  refine (do_any g _ h1).mono ?_
  rintro e w2 ⟨rfl, h2, g2⟩
  have g3 := g1.trans g2
  clear g1 g2 h1
  go_wp2_with fail
  refine (crc_any g _ v l _ h2 (HV.out _ g3)).mono ?_
  rintro e w3 ⟨rfl, rfl⟩
  go_wp2_with fail
  go_ret
  exact ⟨rfl, .inr h2, g3⟩
end Go.Proofs.YtphbaaaklgiloaaGreat.Dg

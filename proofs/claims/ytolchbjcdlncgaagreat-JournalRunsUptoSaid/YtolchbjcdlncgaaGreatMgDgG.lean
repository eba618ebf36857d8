/- Texts joined: DgG DgXc. -/
import Derived.Test.YtolchbjcdlncgaaGreatMgDgC
/- doSlow, Do, Engine.Crc. -/
namespace Go.Proofs.YtolchbjcdlncgaaGreat.Dg
open Go.RowKit
set_option maxRecDepth 100000 in
set_option maxHeartbeats 1600000 in
theorem slow_eng (g : Nat) (w : World) {n : Int} {tab : Nat → UInt32} (h : Eng w g 0 0 tab n) :
    Calls Tryz.prog 92 #[.pointer (some ⟨g, 1, none⟩), .func (.func 86) #[.pointer (some ⟨g, 0, none⟩)] #[]] w fun e w' =>
      e = .returned (.tuple #[]) ∧ Eng w' g 1 0 crcTab n ∧ Gw g w w' := by
  have hl0 := h.lock
  have hf0 := h.free 2
  have h1 := h.setLock 1
  have g1 : Gw g w (w.setCell ⟨g, 2, none⟩ (.int .i32 1)) := (Gw.refl g w).set 2 _
  clear h
  go_enter_defers Tryz.func92, Tryz.ntmps92
  go_wp2_with (go_at_call 96; refine (locked ⟨g, 2, none⟩ _ hl0 hf0).mono ?_; rintro e w' ⟨rfl, rfl⟩)
  clear hl0 hf0
  generalize w.setCell ⟨g, 2, none⟩ (.int .i32 1) = w1 at *
  have hl := run_call_load (P := Tryz.prog) Tryz.func95 (by kernel_rfl) (by kernel_rfl) (by kernel_rfl) .u32 (by kernel_rfl) h1.done
  have hnot := m_not
  go_wp2_with (first | (go_at_call 86; fail) | (go_at_call 91; go_in))
  clear hl
  refine (fill_any g _ h1).mono ?_
  rintro e w2 ⟨rfl, h2, g2⟩
  have g3 := g1.trans g2
  clear h1 g1 g2
  go_wp2
  refine leaves_cons (f := 98) (args := #[.pointer (some ⟨g, 1, none⟩), .bool true]) (by simp) (by simp [go_sem]) ?_
  refine (stored ⟨g, 1, none⟩ (.int .u32 0) .returning _ h2.done (h2.free 1)).mono ?_
  rintro e u' w'' ⟨rfl, rfl, rfl⟩
  have h3 := h2.drew.setDone 1
  refine leaves_cons (f := 97) (args := #[.pointer (some ⟨g, 2, none⟩)]) (by simp [settle]) (by simp [go_sem]) ?_
  refine (unlocked ⟨g, 2, none⟩ _ _ h3.lock (h3.free 2)).mono ?_
  rintro e u' w'' ⟨rfl, rfl, rfl⟩
  have h4 := h3.setLock 0
  have g4 := ((g3.drew).set 1 (.int .u32 1)).set 2 (.int .i32 0)
  simp [Leaves, settle, results, Tryz.results92]
  exact ⟨h4, g4⟩
set_option maxRecDepth 100000 in
set_option maxHeartbeats 1600000 in
theorem do_eng (g : Nat) (w : World) {n : Int} {tab : Nat → UInt32} (h : Eng w g 0 0 tab n) :
    Calls Tryz.prog 85 #[.pointer (some ⟨g, 1, none⟩), .func (.func 86) #[.pointer (some ⟨g, 0, none⟩)] #[]] w fun e w' =>
      e = .returned (.tuple #[]) ∧ Eng w' g 1 0 crcTab n ∧ Gw g w w' := by
  have hl := run_call_load (P := Tryz.prog) Tryz.func95 (by kernel_rfl) (by kernel_rfl) (by kernel_rfl) .u32 (by kernel_rfl) h.done
  have hnot := m_not
  go_enter Tryz.func85, Tryz.ntmps85
  go_wp2_with (first | (go_at_call 92; refine (slow_eng g _ h).mono ?_; rintro e w2 ⟨rfl, h2, g2⟩) | (go_at_call 91; go_in))
  go_end0
  exact ⟨rfl, h2, g2⟩
set_option maxRecDepth 100000 in
set_option maxHeartbeats 1600000 in
theorem do_again (g : Nat) (w : World) {n : Int} {tab : Nat → UInt32} (h : Eng w g 1 0 tab n) (fv : Value) :
    Calls Tryz.prog 85 #[.pointer (some ⟨g, 1, none⟩), fv] w fun e w' => e = .returned (.tuple #[]) ∧ w = w' := by
  have hl := run_call_load (P := Tryz.prog) Tryz.func95 (by kernel_rfl) (by kernel_rfl) (by kernel_rfl) .u32 (by kernel_rfl) h.done
  have hnot := m_not
  clear h
  go_enter Tryz.func85, Tryz.ntmps85
  go_wp2
  go_end0
  exact ⟨rfl, rfl⟩
/-- An engine, asked before or not: the table is noughts' or the true one. -/
def Engn (w : World) (g : Nat) (n : Int) : Prop := Eng w g 0 0 noTab n ∨ Eng w g 1 0 crcTab n
theorem Engn.eng {w : World} {g : Nat} {n : Int} (h : Engn w g n) : ∃ d m tab, Eng w g d m tab n := by rcases h with h | h <;> exact ⟨_, _, _, h⟩
theorem do_any (g : Nat) (w : World) {n : Int} (h : Engn w g n) :
    Calls Tryz.prog 85 #[.pointer (some ⟨g, 1, none⟩), .func (.func 86) #[.pointer (some ⟨g, 0, none⟩)] #[]] w fun e w' =>
      e = .returned (.tuple #[]) ∧ Eng w' g 1 0 crcTab n ∧ Gw g w w' := by
  rcases h with h | h
  · exact do_eng g w h
  · exact (do_again g w h _).mono fun e w' ⟨he, hw⟩ => ⟨he, hw ▸ h, hw ▸ Gw.refl g w⟩
def crcL (l : List UInt8) : UInt32 := ~~~ (crcT crcTab 0xffffffff l)
theorem crc_any (g B : Nat) (v : Value) (l : List UInt8) (w : World) {d m n : Int} (h : Eng w g d m crcTab n) (hv : Bs w B v l) :
    Calls Tryz.prog 87 #[.pointer (some ⟨g, 0, none⟩), v] w fun e w' => e = .returned (.int .u32 (n32 (crcL l))) ∧ w = w' := by
  obtain ⟨A, c, rfl, h1, h2, h3⟩ := hv
  rcases l with _ | ⟨x, xs⟩
  · exact crc_nil c g A w
  · obtain ⟨b, off, rfl, hb, hc⟩ := h3 (by simp)
    exact crc_some b off c g (x :: xs) (by omega) w h hc
set_option maxRecDepth 100000 in
set_option maxHeartbeats 1600000 in
/-- Crc: the answer, one call more, the table made. -/
theorem Crc_eng (g B : Nat) (v : Value) (l : List UInt8) (w : World) {n : Int} (h : Engn w g n) (hn : 0 ≤ n ∧ n < 1000000) (hv : Bs w B v l) (hB : B ≤ g) (hs : B ≤ w.heap.size) :
    Calls Tryz.prog 75 #[.pointer (some ⟨g, 0, none⟩), v] w fun e w' => e = .returned (.int .u32 (n32 (crcL l))) ∧ Engn w' g (n + 1) ∧ Gw g w w' := by
  have hnot := m_not
  have hmf := m_fun
  go_enter Tryz.func75, Tryz.ntmps75
  go_wp2_with fail
  obtain ⟨d, m, tab, he⟩ := h.eng
  refine (eng_ready_any g _ he).mono ?_
  rintro e w1 ⟨rfl, rfl⟩
  go_wp2_with fail
  refine (add_eng g _ he hn).mono ?_
  rintro e w1 ⟨rfl, hw⟩
  have h1 : Engn w1 g (n + 1) := by subst hw; exact h.elim (fun h => .inl (h.setCount _)) (fun h => .inr (h.setCount _))
  have g1 : Gw g w w1 := by subst hw; exact (Gw.refl g w).set 260 _
  clear hw he h
  go_wp2_with fail
  refine (do_any g _ h1).mono ?_
  rintro e w2 ⟨rfl, h2, g2⟩
  have g3 := g1.trans g2
  clear g1 g2 h1
  go_wp2_with fail
  refine (crc_any g B v l _ h2 (hv.gw g3 hs hB)).mono ?_
  rintro e w3 ⟨rfl, rfl⟩
  go_wp2_with fail
  go_ret
  exact ⟨rfl, .inr h2, g3⟩
set_option maxHeartbeats 400000 in
theorem Crc_nil (v : Value) (w : World) :
    Calls Tryz.prog 75 #[.pointer none, v] w fun e w' => e = .returned (.int .u32 0) ∧ w = w' := by
  have hnot := m_not
  go_enter Tryz.func75, Tryz.ntmps75
  go_wp2_with fail
  refine (eng_ready_nil _).mono ?_
  rintro e w1 ⟨rfl, rfl⟩
  go_wp2_with fail
  go_ret
  exact ⟨rfl, rfl⟩
end Go.Proofs.YtolchbjcdlncgaaGreat.Dg

/- Engine.Crc. -/
namespace Go.Proofs.YtolchbjcdlncgaaGreat.Dg
open Go.RowKit
theorem Engn.keep {w w' : World} {g : Nat} {n : Int} (h : Engn w g n) (hw : w'.heap[g]? = w.heap[g]?) : Engn w' g n := h.elim (fun h => .inl (h.keep hw)) (fun h => .inr (h.keep hw))
theorem Engn.ab {w w' : World} {g : Nat} {n : Int} (h : Engn w g n) (hb : Ab w w') : Engn w' g n := h.elim (fun h => .inl (h.ab hb)) (fun h => .inr (h.ab hb))
theorem Engn.lt {w : World} {g : Nat} {n : Int} (h : Engn w g n) : g < w.heap.size := h.elim (fun h => h.lt) (fun h => h.lt)
theorem Engn.tick {w : World} {g : Nat} {n : Int} (h : Engn w g n) (m : Int) : Engn (w.setCell ⟨g, 260, none⟩ (.int .i64 m)) g m := h.elim (fun h => .inl (h.setCount _)) (fun h => .inr (h.setCount _))
set_option maxRecDepth 100000 in
set_option maxHeartbeats 1600000 in
/-- Crc: the answer, one call more, the table made. -/
theorem Crc_at (g : Nat) (v : Value) (l : List UInt8) (w : World) {n : Int} (h : Engn w g n) (hn : 0 ≤ n ∧ n < 1000000) (hv : ∀ w2 : World, Gw g w w2 → Bs w2 w2.heap.size v l) :
    Calls Tryz.prog 75 #[.pointer (some ⟨g, 0, none⟩), v] w fun e w' => e = .returned (.int .u32 (n32 (crcL l))) ∧ Engn w' g (n + 1) ∧ Gw g w w' := by
  have hnot := m_not
  have hmf := m_fun
  have HV := Lib.hid hv
  clear hv
  go_enter Tryz.func75, Tryz.ntmps75
  go_wp2_with fail
  obtain ⟨d, m, tab, he⟩ := h.eng
  refine (eng_ready_any g _ he).mono ?_
  rintro e w1 ⟨rfl, rfl⟩
  go_wp2_with fail
  refine (add_eng g _ he hn).mono ?_
  rintro e w1 ⟨rfl, hw⟩
  have h1 : Engn w1 g (n + 1) := by subst hw; exact h.elim (fun h => .inl (h.setCount _)) (fun h => .inr (h.setCount _))
  have g1 : Gw g w w1 := by subst hw; exact (Gw.refl g w).set 260 _
  clear hw he h
  go_wp2_with fail
  refine (do_any g _ h1).mono ?_
  rintro e w2 ⟨rfl, h2, g2⟩
  have g3 := g1.trans g2
  clear g1 g2 h1
  go_wp2_with fail
  refine (crc_any g _ v l _ h2 (HV.out _ g3)).mono ?_
  rintro e w3 ⟨rfl, rfl⟩
  go_wp2_with fail
  go_ret
  exact ⟨rfl, .inr h2, g3⟩
end Go.Proofs.YtolchbjcdlncgaaGreat.Dg

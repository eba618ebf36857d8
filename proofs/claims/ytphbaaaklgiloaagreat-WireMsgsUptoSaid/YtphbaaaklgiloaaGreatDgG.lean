/- doSlow, Do, Engine.Crc. -/
import Derived.Test.YtphbaaaklgiloaaGreatDgF
namespace Go.Proofs.YtphbaaaklgiloaaGreat.Dg
open Go.RowKit
set_option maxRecDepth 100000 in
set_option maxHeartbeats 1600000 in
theorem slow_eng (g : Nat) (w : World) {n : Int} {tab : Nat → UInt32} (h : Eng w g 0 0 tab n) :
    Calls Tryz.prog 157 #[.pointer (some ⟨g, 1, none⟩), .func (.func 151) #[.pointer (some ⟨g, 0, none⟩)] #[]] w fun e w' =>
      e = .returned (.tuple #[]) ∧ Eng w' g 1 0 crcTab n ∧ Gw g w w' := by
  have hl0 := h.lock
  have hf0 := h.free 2
  have h1 := h.setLock 1
  have g1 : Gw g w (w.setCell ⟨g, 2, none⟩ (.int .i32 1)) := (Gw.refl g w).set 2 _
  clear h
  go_enter_defers Tryz.func157, Tryz.ntmps157
  go_wp2_with (go_at_call 160; refine (locked ⟨g, 2, none⟩ _ hl0 hf0).mono ?_; rintro e w' ⟨rfl, rfl⟩)
  clear hl0 hf0
  generalize w.setCell ⟨g, 2, none⟩ (.int .i32 1) = w1 at *
  have hl := run_call_load (P := Tryz.prog) Tryz.func159 (by kernel_rfl) (by kernel_rfl) (by kernel_rfl) .u32 (by kernel_rfl) h1.done
  have hnot := m_not
  go_wp2_with (first | (go_at_call 151; fail) | (go_at_call 156; go_in))
  clear hl
  refine (fill_any g _ h1).mono ?_
  rintro e w2 ⟨rfl, h2, g2⟩
  have g3 := g1.trans g2
  clear h1 g1 g2
  go_wp2
  refine leaves_cons (f := 162) (args := #[.pointer (some ⟨g, 1, none⟩), .bool true]) (by simp) (by simp [go_sem]) ?_
  refine (stored ⟨g, 1, none⟩ (.int .u32 0) .returning _ h2.done (h2.free 1)).mono ?_
  rintro e u' w'' ⟨rfl, rfl, rfl⟩
  have h3 := h2.drew.setDone 1
  refine leaves_cons (f := 161) (args := #[.pointer (some ⟨g, 2, none⟩)]) (by simp [settle]) (by simp [go_sem]) ?_
  refine (unlocked ⟨g, 2, none⟩ _ _ h3.lock (h3.free 2)).mono ?_
  rintro e u' w'' ⟨rfl, rfl, rfl⟩
  have h4 := h3.setLock 0
  have g4 := ((g3.drew).set 1 (.int .u32 1)).set 2 (.int .i32 0)
  simp [Leaves, settle, results, Tryz.results157]
  exact ⟨h4, g4⟩
set_option maxRecDepth 100000 in
set_option maxHeartbeats 1600000 in
theorem do_eng (g : Nat) (w : World) {n : Int} {tab : Nat → UInt32} (h : Eng w g 0 0 tab n) :
    Calls Tryz.prog 150 #[.pointer (some ⟨g, 1, none⟩), .func (.func 151) #[.pointer (some ⟨g, 0, none⟩)] #[]] w fun e w' =>
      e = .returned (.tuple #[]) ∧ Eng w' g 1 0 crcTab n ∧ Gw g w w' := by
  have hl := run_call_load (P := Tryz.prog) Tryz.func159 (by kernel_rfl) (by kernel_rfl) (by kernel_rfl) .u32 (by kernel_rfl) h.done
  have hnot := m_not
  go_enter Tryz.func150, Tryz.ntmps150
  go_wp2_with (first | (go_at_call 157; refine (slow_eng g _ h).mono ?_; rintro e w2 ⟨rfl, h2, g2⟩) | (go_at_call 156; go_in))
  go_end0
  exact ⟨rfl, h2, g2⟩
set_option maxRecDepth 100000 in
set_option maxHeartbeats 1600000 in
theorem do_again (g : Nat) (w : World) {n : Int} {tab : Nat → UInt32} (h : Eng w g 1 0 tab n) (fv : Value) :
    Calls Tryz.prog 150 #[.pointer (some ⟨g, 1, none⟩), fv] w fun e w' => e = .returned (.tuple #[]) ∧ w = w' := by
  have hl := run_call_load (P := Tryz.prog) Tryz.func159 (by kernel_rfl) (by kernel_rfl) (by kernel_rfl) .u32 (by kernel_rfl) h.done
  have hnot := m_not
  clear h
  go_enter Tryz.func150, Tryz.ntmps150
  go_wp2
  go_end0
  exact ⟨rfl, rfl⟩
/-- An engine, asked before or not: the table is noughts' or the true one. -/
def Engn (w : World) (g : Nat) (n : Int) : Prop := Eng w g 0 0 noTab n ∨ Eng w g 1 0 crcTab n
theorem Engn.eng {w : World} {g : Nat} {n : Int} (h : Engn w g n) : ∃ d m tab, Eng w g d m tab n := by rcases h with h | h <;> exact ⟨_, _, _, h⟩
theorem do_any (g : Nat) (w : World) {n : Int} (h : Engn w g n) :
    Calls Tryz.prog 150 #[.pointer (some ⟨g, 1, none⟩), .func (.func 151) #[.pointer (some ⟨g, 0, none⟩)] #[]] w fun e w' =>
      e = .returned (.tuple #[]) ∧ Eng w' g 1 0 crcTab n ∧ Gw g w w' := by
  rcases h with h | h
  · exact do_eng g w h
  · exact (do_again g w h _).mono fun e w' ⟨he, hw⟩ => ⟨he, hw ▸ h, hw ▸ Gw.refl g w⟩
def crcL (l : List UInt8) : UInt32 := ~~~ (crcT crcTab 0xffffffff l)
theorem crc_any (g B : Nat) (v : Value) (l : List UInt8) (w : World) {d m n : Int} (h : Eng w g d m crcTab n) (hv : Bs w B v l) :
    Calls Tryz.prog 152 #[.pointer (some ⟨g, 0, none⟩), v] w fun e w' => e = .returned (.int .u32 (n32 (crcL l))) ∧ w = w' := by
  obtain ⟨A, c, rfl, h1, h2, h3⟩ := hv
  rcases l with _ | ⟨x, xs⟩
  · exact crc_nil c g A w
  · obtain ⟨b, off, rfl, hb, hc⟩ := h3 (by simp)
    exact crc_some b off c g (x :: xs) (by omega) w h hc
set_option maxRecDepth 100000 in
set_option maxHeartbeats 1600000 in
/-- Crc: the answer, one call more, the table made. -/
theorem Crc_eng (g B : Nat) (v : Value) (l : List UInt8) (w : World) {n : Int} (h : Engn w g n) (hn : 0 ≤ n ∧ n < 1000000) (hv : Bs w B v l) (hB : B ≤ g) (hs : B ≤ w.heap.size) :
    Calls Tryz.prog 95 #[.pointer (some ⟨g, 0, none⟩), v] w fun e w' => e = .returned (.int .u32 (n32 (crcL l))) ∧ Engn w' g (n + 1) ∧ Gw g w w' := by
  have hnot := m_not
  have hmf := m_fun
  go_enter Tryz.func95, Tryz.ntmps95
  go_wp2_with fail
  obtain ⟨d, m, tab, he⟩ := h.eng
  refine (eng_ready_any g _ he).mono ?_
  rintro e w1 ⟨rfl, rfl⟩
  go_wp2_with fail
  refine (add_eng g _ he hn).mono ?_
  rintro e w1 ⟨rfl, hw⟩
  have h1 : Engn w1 g (n + 1) := by subst hw; exact h.elim (fun h => .inl (h.setCount _)) (fun h => .inr (h.setCount _))
  have g1 : Gw g w w1 := by subst hw; exact (Gw.refl g w).set 260 _
  clear hw he h
  go_wp2_with fail
  refine (do_any g _ h1).mono ?_
  rintro e w2 ⟨rfl, h2, g2⟩
  have g3 := g1.trans g2
  clear g1 g2 h1
  go_wp2_with fail
  refine (crc_any g B v l _ h2 (hv.gw g3 hs hB)).mono ?_
  rintro e w3 ⟨rfl, rfl⟩
  go_wp2_with fail
  go_ret
  exact ⟨rfl, .inr h2, g3⟩
set_option maxHeartbeats 400000 in
theorem Crc_nil (v : Value) (w : World) :
    Calls Tryz.prog 95 #[.pointer none, v] w fun e w' => e = .returned (.int .u32 0) ∧ w = w' := by
  have hnot := m_not
  go_enter Tryz.func95, Tryz.ntmps95
  go_wp2_with fail
  refine (eng_ready_nil _).mono ?_
  rintro e w1 ⟨rfl, rfl⟩
  go_wp2_with fail
  go_ret
  exact ⟨rfl, rfl⟩
end Go.Proofs.YtphbaaaklgiloaaGreat.Dg

/- wire: a value that came in: its cells. Made by wip/gen_laww.py. -/
import Derived.Test.YtniodjigncicbaaWrOp
import Derived.Test.YtniodjigncicbaaWrYt
namespace Go.Proofs.Ytniodjigncicbaa.Dg
open Go.RowKit
theorem EncF.encP {w : World} {base : Nat} : ∀ (s : Sch) (f : Nat → Option Value) (m : List UInt8), EncF w base s f m → EncP w (fun b => b < base) s f m
  | .num, _, _, h => h
  | .word, _, _, h => h
  | .bool, _, _, h => h
  | .text, _, _, h => h
  | .data, f, m, h => by
    obtain ⟨v, l, h1, ⟨A, c, hv, h2, h3, h4⟩, h5⟩ := h
    refine ⟨v, l, h1, ⟨A, c, hv, h2, h3, fun hn => ?_⟩, h5⟩
    obtain ⟨b, off, hA, hb, hc⟩ := h4 hn
    exact ⟨b, off, hA, hb, hc⟩
  | .pair a b, f, m, h => by
    obtain ⟨m1, m2, h1, h2, h3⟩ := h
    exact ⟨m1, m2, EncF.encP a f m1 h1, EncF.encP b _ m2 h2, h3⟩
  | .list s, f, m, h => by
    obtain ⟨A, n, c, ms, h1, h2, h3, h4, h5, h6⟩ := h
    refine ⟨A, n, c, ms, h1, h2, h3, h4, fun hn => ?_, h6⟩
    obtain ⟨b, o, hA, hb, hi⟩ := h5 hn
    exact ⟨b, o, hA, hb, fun i hin => EncF.encP s _ _ (hi i hin)⟩
theorem leavesF_Map {w : World} {base : Nat} {cs : Array Value} {m : List UInt8} (hs : cs.toList.length = 5) (h : EncF w base (.pair .num (.pair (.list (.pair .bool (.pair .bool (.pair .num (.pair .num (.pair .num .num)))))) (.pair (.list (.pair .num (.pair .num (.pair .num .num)))) (.pair (.list (.pair .num (.pair .num (.pair (.list .num) (.list .num))))) .num)))) (fun k => cs.toList[k]?) m) : ∃ (x0 : Int) (A1 : Option Addr) (q1 c1 : Nat) (A2 : Option Addr) (q2 c2 : Nat) (A3 : Option Addr) (q3 c3 : Nat) (x4 : Int), cs = #[.int .i64 x0, .slice A1 q1 c1, .slice A2 q2 c2, .slice A3 q3 c3, .int .i64 x4] ∧ EncF w base (.pair .num (.pair (.list (.pair .bool (.pair .bool (.pair .num (.pair .num (.pair .num .num)))))) (.pair (.list (.pair .num (.pair .num (.pair .num .num)))) (.pair (.list (.pair .num (.pair .num (.pair (.list .num) (.list .num))))) .num)))) (fun k => (#[.int .i64 x0, .slice A1 q1 c1, .slice A2 q2 c2, .slice A3 q3 c3, .int .i64 x4] : Array Value)[k]?) m := by
  have h1 : EncF w base (.pair .num (.pair (.list (.pair .bool (.pair .bool (.pair .num (.pair .num (.pair .num .num)))))) (.pair (.list (.pair .num (.pair .num (.pair .num .num)))) (.pair (.list (.pair .num (.pair .num (.pair (.list .num) (.list .num))))) .num)))) (fun k => cs[k]?) m := EncF.congr (fun _ _ _ => rfl) _ _ _ _ (fun k _ => (Array.getElem?_toList ..).symm) h
  obtain ⟨x0, A1, q1, c1, A2, q2, c2, A3, q3, c3, x4, rfl⟩ := leaves_Map (by rw [← Array.length_toList]; exact hs) (EncP.congr (F' := fun b => b < base) (fun _ hb => ⟨hb, fun _ => rfl⟩) _ _ (fun k => cs[0 + k]?) _ (fun k _ => by rw [Nat.zero_add]) (EncF.encP _ _ _ h1))
  exact ⟨_, _, _, _, _, _, _, _, _, _, _, rfl, h1⟩
theorem leavesF_Inc {w : World} {base : Nat} {cs : Array Value} {m : List UInt8} (hs : cs.toList.length = 2) (h : EncF w base (.pair .num (.list (.pair .num (.pair .num (.pair .num (.pair (.pair .num (.pair .num (.pair .num .num))) (.pair .num (.pair .num (.pair (.list .num) (.list .num)))))))))) (fun k => cs.toList[k]?) m) : ∃ (x0 : Int) (A1 : Option Addr) (q1 c1 : Nat), cs = #[.int .i64 x0, .slice A1 q1 c1] ∧ EncF w base (.pair .num (.list (.pair .num (.pair .num (.pair .num (.pair (.pair .num (.pair .num (.pair .num .num))) (.pair .num (.pair .num (.pair (.list .num) (.list .num)))))))))) (fun k => (#[.int .i64 x0, .slice A1 q1 c1] : Array Value)[k]?) m := by
  have h1 : EncF w base (.pair .num (.list (.pair .num (.pair .num (.pair .num (.pair (.pair .num (.pair .num (.pair .num .num))) (.pair .num (.pair .num (.pair (.list .num) (.list .num)))))))))) (fun k => cs[k]?) m := EncF.congr (fun _ _ _ => rfl) _ _ _ _ (fun k _ => (Array.getElem?_toList ..).symm) h
  obtain ⟨x0, A1, q1, c1, rfl⟩ := leaves_Inc (by rw [← Array.length_toList]; exact hs) (EncP.congr (F' := fun b => b < base) (fun _ hb => ⟨hb, fun _ => rfl⟩) _ _ (fun k => cs[0 + k]?) _ (fun k _ => by rw [Nat.zero_add]) (EncF.encP _ _ _ h1))
  exact ⟨_, _, _, _, rfl, h1⟩
theorem leavesF_State {w : World} {base : Nat} {cs : Array Value} {m : List UInt8} (hs : cs.toList.length = 6) (h : EncF w base (.pair .num (.pair (.pair .num .num) (.pair (.list (.pair (.pair .num .num) (.pair .bool (.pair .num (.pair .text (.pair .num .num)))))) (.pair (.list (.pair .num (.pair .num (.pair .num (.pair .num .num))))) (.list (.pair .text (.pair (.pair .num .num) .word))))))) (fun k => cs.toList[k]?) m) : ∃ (x0 : Int) (x1 : Int) (x2 : Int) (A3 : Option Addr) (q3 c3 : Nat) (A4 : Option Addr) (q4 c4 : Nat) (A5 : Option Addr) (q5 c5 : Nat), cs = #[.int .i64 x0, .int .i64 x1, .int .i64 x2, .slice A3 q3 c3, .slice A4 q4 c4, .slice A5 q5 c5] ∧ EncF w base (.pair .num (.pair (.pair .num .num) (.pair (.list (.pair (.pair .num .num) (.pair .bool (.pair .num (.pair .text (.pair .num .num)))))) (.pair (.list (.pair .num (.pair .num (.pair .num (.pair .num .num))))) (.list (.pair .text (.pair (.pair .num .num) .word))))))) (fun k => (#[.int .i64 x0, .int .i64 x1, .int .i64 x2, .slice A3 q3 c3, .slice A4 q4 c4, .slice A5 q5 c5] : Array Value)[k]?) m := by
  have h1 : EncF w base (.pair .num (.pair (.pair .num .num) (.pair (.list (.pair (.pair .num .num) (.pair .bool (.pair .num (.pair .text (.pair .num .num)))))) (.pair (.list (.pair .num (.pair .num (.pair .num (.pair .num .num))))) (.list (.pair .text (.pair (.pair .num .num) .word))))))) (fun k => cs[k]?) m := EncF.congr (fun _ _ _ => rfl) _ _ _ _ (fun k _ => (Array.getElem?_toList ..).symm) h
  obtain ⟨x0, x1, x2, A3, q3, c3, A4, q4, c4, A5, q5, c5, rfl⟩ := leaves_State (by rw [← Array.length_toList]; exact hs) (EncP.congr (F' := fun b => b < base) (fun _ hb => ⟨hb, fun _ => rfl⟩) _ _ (fun k => cs[0 + k]?) _ (fun k _ => by rw [Nat.zero_add]) (EncF.encP _ _ _ h1))
  exact ⟨_, _, _, _, _, _, _, _, _, _, _, _, rfl, h1⟩
theorem leavesF_Tx {w : World} {base : Nat} {cs : Array Value} {m : List UInt8} (hs : cs.toList.length = 1) (h : EncF w base (.list (.pair .num (.pair (.pair .num .num) (.pair .text (.pair .num (.pair .num (.pair .text .data))))))) (fun k => cs.toList[k]?) m) : ∃ (A0 : Option Addr) (q0 c0 : Nat), cs = #[.slice A0 q0 c0] ∧ EncF w base (.list (.pair .num (.pair (.pair .num .num) (.pair .text (.pair .num (.pair .num (.pair .text .data))))))) (fun k => (#[.slice A0 q0 c0] : Array Value)[k]?) m := by
  have h1 : EncF w base (.list (.pair .num (.pair (.pair .num .num) (.pair .text (.pair .num (.pair .num (.pair .text .data))))))) (fun k => cs[k]?) m := EncF.congr (fun _ _ _ => rfl) _ _ _ _ (fun k _ => (Array.getElem?_toList ..).symm) h
  obtain ⟨A0, q0, c0, rfl⟩ := leaves_Tx (by rw [← Array.length_toList]; exact hs) (EncP.congr (F' := fun b => b < base) (fun _ hb => ⟨hb, fun _ => rfl⟩) _ _ (fun k => cs[0 + k]?) _ (fun k _ => by rw [Nat.zero_add]) (EncF.encP _ _ _ h1))
  exact ⟨_, _, _, rfl, h1⟩
theorem leavesF_Strings {w : World} {base : Nat} {cs : Array Value} {m : List UInt8} (hs : cs.toList.length = 1) (h : EncF w base (.list .text) (fun k => cs.toList[k]?) m) : ∃ (A0 : Option Addr) (q0 c0 : Nat), cs = #[.slice A0 q0 c0] ∧ EncF w base (.list .text) (fun k => (#[.slice A0 q0 c0] : Array Value)[k]?) m := by
  have h1 : EncF w base (.list .text) (fun k => cs[k]?) m := EncF.congr (fun _ _ _ => rfl) _ _ _ _ (fun k _ => (Array.getElem?_toList ..).symm) h
  obtain ⟨A0, q0, c0, rfl⟩ := leaves_Strings (by rw [← Array.length_toList]; exact hs) (EncP.congr (F' := fun b => b < base) (fun _ hb => ⟨hb, fun _ => rfl⟩) _ _ (fun k => cs[0 + k]?) _ (fun k _ => by rw [Nat.zero_add]) (EncF.encP _ _ _ h1))
  exact ⟨_, _, _, rfl, h1⟩
end Go.Proofs.Ytniodjigncicbaa.Dg

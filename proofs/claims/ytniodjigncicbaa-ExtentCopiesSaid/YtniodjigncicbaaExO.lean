/- The program's map: Bytes, Extents; what Extents' iterator hands over. -/
import Derived.Test.YtniodjigncicbaaExN
namespace Go.Proofs.Ytniodjigncicbaa.Dg
open Go.RowKit Go.Shelf
variable {w w' : World} {base a s B : Nat} {v : Value} {ps : List Pr} {l xs m : List UInt8} {c : Cel}
attribute [local go_sem ↓] Go.wp_at_zero Go.wp_at_succ
attribute [local go_sem] Oper.semAt_some
theorem readC_dat (c : Cel) (s : Nat) : readC c 0 s = datR c s := by unfold readC datR; simp only [Nat.zero_add]
theorem readX_any (w : World) (h : ExC w base a c s) (at_ n : Int) (h63 : at_ ≤ 9223372036854775807 ∧ n ≤ 9223372036854775807) (hbase : base ≤ w.heap.size) :
    Calls Try.prog 64 #[.pointer (some ⟨a, 0, none⟩), .int .i64 at_, .int .i64 n] w fun e w' => ∃ A k, e = .returned (.tuple #[.slice A (gotC c s at_ n).length k, .int .i64 (gotE at_ n)]) ∧ Ob w' w.heap.size (.slice A (gotC c s at_ n).length k) (gotC c s at_ n) ∧ Ab w w' := by
  obtain ⟨v, ps, h, rfl⟩ := h
  exact exread_any w h at_ n h63 hbase
theorem sizeX_any (w : World) (h : ExC w base a c s) :
    Calls Try.prog 30 #[.pointer (some ⟨a, 0, none⟩)] w fun e w' => e = .returned (.int .i64 (s : Int)) ∧ w = w' := by
  obtain ⟨v, ps, h, rfl⟩ := h
  exact exsize_any w h
theorem copyX_any (w : World) (h : ExC w base a c s) (hb : base ≤ w.heap.size) :
    Calls Try.prog 28 #[.pointer (some ⟨a, 0, none⟩)] w fun e w' => e = .returned (.pointer (some ⟨w.heap.size, 0, none⟩)) ∧ ExC w' base w.heap.size c s ∧ Ab w w' := by
  obtain ⟨v, ps, h, rfl⟩ := h
  exact (excopy_any w h hb).mono fun _ _ ⟨h1, h2, h3⟩ => ⟨h1, ⟨v, ps, h2, rfl⟩, h3⟩
set_option maxHeartbeats 1000000 in
theorem bytesX_any (w : World) (h : ExC w base a c s) (hbase : base ≤ w.heap.size) :
    Calls Try.prog 27 #[.pointer (some ⟨a, 0, none⟩)] w fun e w' => ∃ A k, e = .returned (.slice A s k) ∧ Ob w' w.heap.size (.slice A s k) (datR c s) ∧ Ab w w' := by
  have hm := h.cells.2.2.2.2
  have e1 : gotC c s 0 s = datR c s := by
    unfold gotC
    rw [if_neg (by omega), show (min (s : Int) ((s : Int) - 0)).toNat = s by omega]
    exact readC_dat c s
  have hR := readX_any w h 0 s ⟨by omega, by omega⟩ hbase
  have hE : gotE 0 s = 0 := by unfold gotE; rw [if_neg (by omega)]
  rw [e1, hE, datR_length] at hR
  have HS := Lib.hid (sizeX_any w h)
  have HR := Lib.hid hR
  clear hR e1 hE hm h
  go_enter Try.func27, Try.ntmps27
  go_wp2_with (first | (go_at_call 30; (with_reducible refine HS.out.mono ?_); rintro e w2 ⟨rfl, rfl⟩) | (go_at_call 64; (with_reducible refine HR.out.mono ?_); rintro e w3 ⟨A3, k3, rfl, ho3, ha3⟩; have H3 := Lib.hid (And.intro ho3 ha3); clear ho3 ha3))
  go_ret
  exact ⟨A3, k3, rfl, H3.out.1, H3.out.2⟩
theorem bytes_nil (w : World) :
    Calls Try.prog 27 #[.pointer none] w fun e w' => e = .returned (.slice none 0 0) ∧ Ab w w' := by
  go_enter Try.func27, Try.ntmps27
  go_wp2_with (first | (go_at_call 30; (with_reducible refine (exsize_nil _).mono ?_); rintro e w2 ⟨rfl, rfl⟩) | (go_at_call 64; (with_reducible refine (read_nil _ _ _).mono ?_); rintro e w3 ⟨rfl, ha3⟩))
  go_ret
  exact ⟨rfl, ha3⟩
def extF (b : Nat) : Value := .func (.func 117) #[] #[.pointer (some ⟨b, 0, none⟩)]
theorem extents_any (w : World) (h : Ex w base a v ps s) :
    Calls Try.prog 67 #[.pointer (some ⟨a, 0, none⟩)] w fun e w' => e = .returned (extF w.heap.size) ∧ Bk w' w.heap.size 107 #[v] ∧ Ab w w' := by
  obtain ⟨h0, h1, h2⟩ := h.cells
  have hal := h.blk.lt
  obtain ⟨A, c, rfl, -, -⟩ := h.row.row.len_cap
  have hb := Bk.made w 107 #[.slice none 0 0]
  have hab : Ab w (w.alloc (.cells #[.slice none 0 0] 107)) := (Ab.refl w).alloc _
  have k2 := (hab.cells a 2 hal).trans h2
  have k0 := (hab.cells a 0 hal).trans h0
  have H0 := Lib.hid k0
  clear h h0 h1 h2 k0
  go_enter Try.func67, Try.ntmps67
  go_wp2_with (go_at_call 66; (with_reducible refine (exready_any _ a true H0.out).mono ?_); rintro e w2 ⟨rfl, rfl⟩)
  go_ret
  exact ⟨rfl, Bk.made w _ _, (Ab.refl w).alloc _⟩
theorem extents_nil (w : World) :
    Calls Try.prog 67 #[.pointer none] w fun e w' => e = .returned (extF w.heap.size) ∧ Bk w' w.heap.size 107 #[.slice none 0 0] ∧ Ab w w' := by
  go_enter Try.func67, Try.ntmps67
  go_wp2_with (go_at_call 66; (with_reducible refine (exready_nil _).mono ?_); rintro e w2 ⟨rfl, rfl⟩)
  go_ret
  exact ⟨rfl, Bk.made w _ _, (Ab.refl w).alloc _⟩
end Go.Proofs.Ytniodjigncicbaa.Dg

/- wire.Msg: a message's cells stay one row. -/
import Derived.Test.YtphbaaaklgiloaaGreatWrY
import Derived.Test.YtphbaaaklgiloaaGreatWrPm
import Derived.Laws.Rows
namespace Go.Proofs.YtphbaaaklgiloaaGreat.Dg
open Go.RowKit
attribute [local go_sem ↓] Go.wp_at_zero Go.wp_at_succ
/-- A message's shape. -/
def sM : Sch := (.pair .num (.pair (.pair .num .num) (.pair (.pair .num .num) (.pair .num (.pair .num (.pair (.pair .num .num) (.pair .num (.pair .num (.pair .num (.pair (.list (.pair .num (.pair .num .data))) (.pair (.list (.pair .num (.list (.pair .num (.pair .num (.pair .num (.pair (.pair .num (.pair .num (.pair .num .num))) (.pair .num (.pair .num (.pair (.list .num) (.list .num))))))))))) (.pair (.list (.pair .num (.pair .num (.pair .num (.pair (.pair .num (.pair .num (.pair .num .num))) (.pair .num (.pair .num (.pair (.list .num) (.list .num))))))))) (.pair (.pair .num (.pair (.pair .num .num) (.pair (.pair .num .num) .num))) (.pair (.pair .num (.pair (.pair .num .num) (.pair (.list (.pair (.pair .num .num) (.pair .bool (.pair .num (.pair .text (.pair .num .num)))))) (.pair (.list (.pair .num (.pair .num (.pair .num (.pair .num .num))))) (.list (.pair .text (.pair (.pair .num .num) .word))))))) (.pair (.pair (.pair .num .num) (.pair .bool (.pair .num (.pair .text (.pair .num .num))))) (.pair (.pair .text (.pair (.pair .num .num) .data)) (.pair (.pair .num (.pair .text (.pair .data (.pair .num .num)))) (.pair (.list (.pair .text (.pair (.pair .num .num) .word))) (.pair (.list .text) .num)))))))))))))))))))
set_option maxRecDepth 100000 in
set_option maxHeartbeats 2000000 in
theorem written_Msg (cs : Array Value) (m : List UInt8) (w : World) (h : EncF w w.heap.size sM (fun k => cs[k]?) m) (hl : m.length ≤ 100000000) :
    Calls Tryz.prog 32 #[.agg cs, .func (.func 33) #[] #[]] w fun e w' => ∃ v', e = .returned v' ∧ Ob w' w.heap.size v' m ∧ Ab w w' := by
  have HH := Lib.hid h
  have HL := Lib.hid hl
  clear h hl
  go_enter Tryz.func32, Tryz.ntmps32
  go_wp2_with fail
  have ha : Ab w ((w.alloc (.cells cs 48)).alloc (.cells #[.bool false, .slice none 0 0] 137)) := ((Ab.refl w).alloc _).alloc _
  have hb : Bk ((w.alloc (.cells cs 48)).alloc (.cells #[.bool false, .slice none 0 0] 137)) w.heap.size 48 cs := (Bk.made w _ _).alloc _
  have hc : Cw ((w.alloc (.cells cs 48)).alloc (.cells #[.bool false, .slice none 0 0] 137)) (w.heap.size + 1) (w.heap.size + 1) (.slice none 0 0) [] := by
    have h := Cw.made (w.alloc (.cells cs 48))
    have e : (w.alloc (.cells cs 48)).heap.size = w.heap.size + 1 := by simp
    rw [e] at h
    exact h
  generalize (w.alloc (.cells cs 48)).alloc (.cells #[.bool false, .slice none 0 0] 137) = w1 at *
  have hat : At w1 (w.heap.size + 1) sM w.heap.size 0 m := ⟨by omega, EncF.more (EncF.congr (fun b o hlt => ha.cells b o hlt) _ _ _ _ (fun k _ => by rw [mem, Nat.zero_add, hb.get]) HH.out) (by omega)⟩
  refine (msg_s w.heap.size 0 m w1 (w.heap.size + 1) (w.heap.size + 1) _ [] hat hc (by have := HL.out; simp only [List.length_nil]; omega)).mono ?_
  rintro e w2 ⟨rfl, v2, hc2, hf2⟩
  have hab := hf2.ab ha (by omega) (by omega)
  obtain ⟨A9, q9, c9, rfl⟩ := hc2.own.shape
  have hb2 := hc2.bytes
  have H2 := Lib.hid (And.intro (hc2.own.lower (Nat.le_succ w.heap.size)) hab)
  clear hc2 hf2 hab hat hc hb ha
  go_wp2_with fail
  go_ret
  exact ⟨_, rfl, by simpa using H2.out.1, H2.out.2⟩
set_option maxHeartbeats 1000000 in
theorem wire_Msg (cs : Array Value) (hcs : cs.size = 46) (m : List UInt8) (w : World) (h : EncF w w.heap.size sM (fun k => cs[k]?) m) (hl : m.length ≤ 100000000) :
    Calls Tryz.prog 5 #[.agg cs] w fun e w' => ∃ v', e = .returned v' ∧ Ob w' w.heap.size v' m ∧ Ab w w' := by
  have HH := Lib.hid h
  have HK := Lib.hid (And.intro (Bk.made w 48 cs) (show (Tryz.prog.info? 48).map (·.size) = some cs.size by rw [hcs]; kernel_rfl))
  clear h
  go_enter Tryz.func5, Tryz.ntmps5
  go_wp2_with (refine wpList_load_row rfl 48 _ rfl w.heap.size rfl 48 cs (0, 0) _ HK.out.1 Tryz.underlying48 rfl HK.out.2 ?_)
  have ha1 : Ab w (w.alloc (.cells cs 48)) := (Ab.refl w).alloc _
  have hs1 := ha1.size
  refine (written_Msg cs m _ ((HH.out.ab ha1 (Nat.le_refl _)).more hs1) hl).mono ?_
  rintro e w2 ⟨v2, rfl, ho2, ha2⟩
  have H2 := Lib.hid (And.intro (ho2.lower hs1) (ha1.trans ha2))
  clear ho2 ha2
  go_wp2_with fail
  go_ret
  exact ⟨v2, rfl, H2.out.1, H2.out.2⟩
end Go.Proofs.YtphbaaaklgiloaaGreat.Dg

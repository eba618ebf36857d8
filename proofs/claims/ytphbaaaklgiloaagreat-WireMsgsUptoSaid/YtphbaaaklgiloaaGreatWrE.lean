/- wire.Strings. -/
import Derived.Test.YtphbaaaklgiloaaGreatWrD
namespace Go.Proofs.YtphbaaaklgiloaaGreat.Dg
open Go.RowKit
variable {w w' : World} {base B cb : Nat} {v : Value} {l : List UInt8}
theorem Ts.ab {ss : List ByteArray} (h : Ts w base v ss) (hb : Ab w w') (hB : base ≤ w.heap.size) : Ts w' base v ss := by
  obtain ⟨A, c, hv, h1, h2, h3⟩ := h
  refine ⟨A, c, hv, h1, h2, fun hn => ?_⟩
  obtain ⟨b, off, hA, hlt, hc⟩ := h3 hn
  exact ⟨b, off, hA, hlt, fun i hi => (hb.cells b _ (by omega)).trans (hc i hi)⟩
theorem Ts.more {ss : List ByteArray} (h : Ts w base v ss) {b' : Nat} (hB : base ≤ b') : Ts w b' v ss := by
  obtain ⟨A, c, hv, h1, h2, h3⟩ := h
  refine ⟨A, c, hv, h1, h2, fun hn => ?_⟩
  obtain ⟨b, off, hA, hlt, hc⟩ := h3 hn
  exact ⟨b, off, hA, by omega, hc⟩
/-- A new coder that writes. -/
theorem Cw.made (w : World) : Cw (w.alloc (.cells #[.bool false, .slice none 0 0] 137)) w.heap.size w.heap.size (.slice none 0 0) [] :=
  ⟨Bk.made w _ _, Ob.nil _ _, Nat.le_refl _⟩
theorem Fw.ab {W : World} (h : Fw cb base w w') (hW : Ab W w) (hb : W.heap.size ≤ base) (hc : W.heap.size ≤ cb) : Ab W w' :=
  ⟨h.os.trans hW.1, h.tape.trans hW.2, h.output.trans hW.3, Nat.le_trans (Below.size hW) h.size, fun k hk => (h.block k (Nat.lt_of_lt_of_le hk (Below.size hW)) (by omega) (.inl (by omega))).trans (Below.block hW k hk)⟩
set_option maxHeartbeats 1000000 in
theorem texts_w (ss : List ByteArray) (p : Addr) (u : Value) (w : World) (hcell : w.cell? p = some u) (hp : p.block < base) (hts : Ts w base u ss) (h : Cw w cb base v l) (hl : l.length + (textsL ss).length ≤ 1000000000000) :
    Calls Tryz.prog 60 #[.pointer (some ⟨cb, 0, none⟩), .pointer (some p)] w fun e w' => e = .returned (.tuple #[]) ∧ ∃ v', Cw w' cb base v' (l ++ textsL ss) ∧ Fw cb base w w' := by
  go_enter Tryz.func60, Tryz.ntmps60
  go_wp2_with fail
  refine (listw_any ss p u w hcell hp hts h hl).mono ?_
  rintro e w2 ⟨rfl, v2, hc2, hf2⟩
  have H2 := Lib.hid (And.intro hc2 hf2)
  clear hc2 hf2
  go_wp2_with fail
  go_end0
  exact ⟨rfl, v2, H2.out.1, H2.out.2⟩
set_option maxRecDepth 100000 in
set_option maxHeartbeats 1000000 in
theorem written_texts (ss : List ByteArray) (u : Value) (w : World) (hts : Ts w w.heap.size u ss) (hl : (textsL ss).length ≤ 1000000000000) :
    Calls Tryz.prog 92 #[u, .func (.func 60) #[] #[]] w fun e w' => ∃ v', e = .returned v' ∧ Ob w' w.heap.size v' (textsL ss) ∧ Ab w w' := by
  have HT := Lib.hid hts
  obtain ⟨A, c, rfl, h1, h2, -⟩ := hts
  go_enter Tryz.func92, Tryz.ntmps92
  go_wp2_with fail
  have hw : ∀ o : Obj, Ab w (w.alloc o) := fun o => (Ab.refl w).alloc o
  refine (texts_w (base := w.heap.size + 1) (cb := w.heap.size + 1) (v := .slice none 0 0) (l := []) ss ⟨w.heap.size, 0, none⟩ (.slice A ss.length c) _ (by simp [go_sem]) (by simp) ?ts ?cw (by simpa using hl)).mono ?_
  case ts => exact ((HT.out.ab (hw _) (Nat.le_refl _)).ab ((Ab.refl _).alloc _) (by simp)).more (by omega)
  case cw =>
    have h := Cw.made (w.alloc (.cells #[.slice A ss.length c] 46))
    have e : (w.alloc (.cells #[.slice A ss.length c] 46)).heap.size = w.heap.size + 1 := by simp
    rw [e] at h
    exact h
  rintro e w3 ⟨rfl, v3, hc3, hf3⟩
  have hab := hf3.ab ((hw (.cells #[.slice A ss.length c] 46)).alloc (.cells #[.bool false, .slice none 0 0] 137)) (by omega) (by omega)
  have hb3 := hc3.bytes
  have H3 := Lib.hid (And.intro (hc3.own.lower (Nat.le_succ w.heap.size)) hab)
  clear hc3 hf3 hab HT hw
  go_wp2_with fail
  go_ret
  exact ⟨v3, rfl, by simpa using H3.out.1, H3.out.2⟩
set_option maxHeartbeats 1000000 in
theorem strings_any (ss : List ByteArray) (u : Value) (w : World) (hts : Ts w w.heap.size u ss) (hl : (textsL ss).length ≤ 1000000000000) :
    Calls Tryz.prog 36 #[u] w fun e w' => ∃ v', e = .returned v' ∧ Ob w' w.heap.size v' (textsL ss) ∧ Ab w w' := by
  obtain ⟨A, c, hu, -, -, -⟩ := id hts
  have HT := Lib.hid hts
  subst hu
  clear hts
  go_enter Tryz.func36, Tryz.ntmps36
  go_wp2_with fail
  refine (written_texts ss _ w HT.out hl).mono ?_
  rintro e w2 ⟨v2, rfl, ho2, ha2⟩
  have H2 := Lib.hid (And.intro ho2 ha2)
  clear ho2 ha2
  go_wp2_with fail
  go_ret
  exact ⟨v2, rfl, H2.out.1, H2.out.2⟩
end Go.Proofs.YtphbaaaklgiloaaGreat.Dg

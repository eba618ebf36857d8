/- wire: the coder's other small functions, writing. -/
import Derived.Test.YtphbaaaklgiloaaGreatWrN
import Derived.Deep.RegionLaw
import Derived.Deep.DrawnRows
import Derived.Deep.RegionHeld3
namespace Go.Proofs.YtphbaaaklgiloaaGreat.Dg
open Go.RowKit
variable {w w' : World} {base cb : Nat} {v : Value} {l : List UInt8}
set_option maxRecDepth 100000 in
set_option maxHeartbeats 1000000 in
theorem word_w (n : Nat) (hn : n < 4294967296) (b o : Nat) (w : World) (hc : w.cell? ⟨b, o, none⟩ = some (.int .u32 (n : Int))) (h : Cw w cb base v l) (hl : l.length ≤ 1000000000000) :
    Calls Tryz.prog 145 #[.pointer (some ⟨cb, 0, none⟩), .pointer (some ⟨b, o, none⟩)] w (WrPost w cb base l (lowL n 4)) := by
  have hr := h.reads
  have HC := Lib.hid h
  have hwr : IntKind.u64.wrap (n : Int) = (n : Int) := by rw [IntKind.wrap_u64]; omega
  have HN := Lib.hid hn
  clear h hn
  go_enter Tryz.func145, Tryz.ntmps145
  go_wp2_with fail
  refine (put_any n (by have := HN.out; omega) 4 (by omega) w HC.out (by omega)).mono ?_
  rintro e w2 ⟨rfl, v2, hc2, hf2⟩
  have H2 := Lib.hid (And.intro hc2 hf2)
  clear hc2 hf2
  go_wp2_with fail
  go_end0
  exact ⟨rfl, v2, H2.out.1, H2.out.2⟩
set_option maxRecDepth 100000 in
set_option maxHeartbeats 1000000 in
theorem truth_w (t : Bool) (b o : Nat) (w : World) (hc : w.cell? ⟨b, o, none⟩ = some (.bool t)) (h : Cw w cb base v l) (hl : l.length ≤ 1000000000000) :
    Calls Tryz.prog 144 #[.pointer (some ⟨cb, 0, none⟩), .pointer (some ⟨b, o, none⟩)] w (WrPost w cb base l [if t then 1 else 0]) := by
  have hr := h.reads
  have HC := Lib.hid h
  clear h
  cases t
  · go_enter Tryz.func144, Tryz.ntmps144
    go_wp2_with fail
    refine (put_any 0 (by omega) 1 (by omega) w HC.out (by omega)).mono ?_
    rintro e w2 ⟨rfl, v2, hc2, hf2⟩
    have H2 := Lib.hid (And.intro hc2 hf2)
    clear hc2 hf2
    go_wp2_with fail
    go_end0
    exact ⟨rfl, v2, H2.out.1, H2.out.2⟩
  · go_enter Tryz.func144, Tryz.ntmps144
    go_wp2_with fail
    refine (put_any 1 (by omega) 1 (by omega) w HC.out (by omega)).mono ?_
    rintro e w2 ⟨rfl, v2, hc2, hf2⟩
    have H2 := Lib.hid (And.intro hc2 hf2)
    clear hc2 hf2
    go_wp2_with fail
    go_end0
    exact ⟨rfl, v2, H2.out.1, H2.out.2⟩
set_option maxHeartbeats 1000000 in
theorem errno_w (n : Int) (b o : Nat) (w : World) (hc : w.cell? ⟨b, o, none⟩ = some (.int .i64 n)) (h : Cw w cb base v l) (hl : l.length ≤ 1000000000000) :
    Calls Tryz.prog 78 #[.pointer (some ⟨cb, 0, none⟩), .pointer (some ⟨b, o, none⟩)] w (WrPost w cb base l (numL n)) := by
  have HC := Lib.hid h
  have HV := Lib.hid hc
  clear h hc
  go_enter Tryz.func78, Tryz.ntmps78
  go_wp2_with fail
  refine (number_w n b o w HV.out HC.out hl).mono ?_
  rintro e w2 ⟨rfl, v2, hc2, hf2⟩
  have H2 := Lib.hid (And.intro hc2 hf2)
  clear hc2 hf2
  go_wp2_with fail
  go_end0
  exact ⟨rfl, v2, H2.out.1, H2.out.2⟩
attribute [local go_sem ↓] Go.wp_at_zero Go.wp_at_succ
set_option maxRecDepth 100000 in
set_option maxHeartbeats 1000000 in
theorem data_w (u : Value) (m : List UInt8) (hs : m.length ≤ 140737488351232) (p : Addr) (hp : p.block < base) (w : World) (hcell0 : w.cell? p = some u) (hu : Bs w base u m) (h : Cw w cb base v l) (hl : l.length ≤ 1000000000000) :
    Calls Tryz.prog 143 #[.pointer (some ⟨cb, 0, none⟩), .pointer (some p)] w (WrPost w cb base l (dataL m)) := by
  obtain ⟨A, c, rfl, -, hcm, -⟩ := id hu
  have hm9 : m.length ≤ 9223372036854775807 := by omega
  have hcell : w.cell? p = some (.slice A m.length c) := hcell0
  have HU := Lib.hid hu
  clear hcell0 hu
  have hc := h.reads
  have HC := Lib.hid h
  have hle := h.le
  have hlt := h.lt
  clear h
  go_enter Tryz.func143, Tryz.ntmps143
  go_wp2_with fail
  refine (put_any m.length (by omega) 4 (by omega) w HC.out (by omega)).mono ?_
  rintro e w2 ⟨rfl, v2, hc2, hf2⟩
  obtain ⟨A2, n2, c2, rfl⟩ := hc2.own.shape
  have hcell2 : w2.cell? p = some (.slice A m.length c) := (World.cell?_of_block (a := p) (hf2.below hle p.block hp (by omega))).trans hcell
  have hb2 := hc2.bytes
  have hf := hc2.free 1
  have H2 := Lib.hid (And.intro hc2 hf2)
  have HBW := Lib.hid (show base ≤ w2.heap.size by have := hc2.lt; omega)
  have hls : (l ++ lowL m.length 4).length + m.length ≤ 200000000000000 := by rw [List.length_append, lowL_length]; omega
  have HLS := Lib.hid hls
  have hb2u : Bs w2 base (.slice A m.length c) m := HU.out.keep fun b o hlt2 => World.cell?_of_block (a := ⟨b, o, none⟩) (hf2.below hle b hlt2 (by omega))
  have HU2 := Lib.hid hb2u
  clear hls hb2u
  clear hc2 hf2 HC hc hcell
  go_wp2_with fail
  go_region_law ((refine step_bytes (by rfl) _ _ _ (by rfl) _ _ (by rfl) (by rfl) base _ m H2.out.1.own (src_bs Tryz.underlying41 HU2.out.drew) HLS.out HBW.out ?_; intro A3 n3 c3 w3 ho3 hf3; (have hb3 : Bk w3 cb 137 #[.bool false, .slice A2 n2 c2] := (hf3.block cb H2.out.1.lt (.inr H2.out.1.not_row)).trans H2.out.1.blk); (have hc3 := hb3.cell (i := 1) (v := .slice A2 n2 c2) rfl); (have hz3 := hb3.free 1); clear hb3))
  all_goals
    have H3 := Lib.hid (Cw.more (w := w2.drew) H2.out.1.drew hf3 ho3)
    have HF := Lib.hid H2.out.2.drew
    clear ho3 hf3 H2
    go_wp2
    go_end0
    exact ⟨rfl, _, by rw [dataL, ← List.append_assoc]; exact H3.out.1, HF.out.trans H3.out.2⟩
/-- A function of the coder that goes over a value of shape s. -/
def Wrs (f : Nat) (s : Sch) : Prop := ∀ (b o : Nat) (m : List UInt8) (w : World) (cb base : Nat) (v : Value) (l : List UInt8), At w base s b o m → Cw w cb base v l → l.length + m.length ≤ 900000000000 →
  Calls Tryz.prog f #[.pointer (some ⟨cb, 0, none⟩), .pointer (some ⟨b, o, none⟩)] w (WrPost w cb base l m)
theorem At.num {b o : Nat} {m : List UInt8} (h : At w base .num b o m) : ∃ n : Int, w.cell? ⟨b, o, none⟩ = some (.int .i64 n) ∧ m = numL n := h.2
theorem number_s : Wrs 63 .num := by
  intro b o m w cb base v l h hc hl
  obtain ⟨n, h1, rfl⟩ := h.num
  exact number_w n b o w h1 hc (by omega)
theorem errno_s : Wrs 78 .num := by
  intro b o m w cb base v l h hc hl
  obtain ⟨n, h1, rfl⟩ := h.num
  exact errno_w n b o w h1 hc (by omega)
theorem word_s : Wrs 145 .word := by
  intro b o m w cb base v l h hc hl
  obtain ⟨n, h0, h1, rfl⟩ := h.2
  exact word_w n h0 b o w h1 hc (by omega)
theorem truth_s : Wrs 144 .bool := by
  intro b o m w cb base v l h hc hl
  obtain ⟨t, h1, rfl⟩ := h.2
  exact truth_w t b o w h1 hc (by omega)
theorem text_s : Wrs 136 .text := by
  intro b o m w cb base v l h hc hl
  obtain ⟨s, h1, rfl⟩ := h.2
  have e : s.data.toList.length = s.size := by rw [Array.length_toList]; rfl
  exact textw_any s (by rw [textL, List.length_append, e] at hl; omega) ⟨b, o, none⟩ h.1 w h1 hc (by omega)
theorem data_s : Wrs 143 .data := by
  intro b o m w cb base v l h hc hl
  obtain ⟨u, k, h1, h2, rfl⟩ := h.2
  exact data_w u k (by rw [dataL, List.length_append] at hl; omega) ⟨b, o, none⟩ h.1 w h1 h2 hc (by omega)
end Go.Proofs.YtphbaaaklgiloaaGreat.Dg

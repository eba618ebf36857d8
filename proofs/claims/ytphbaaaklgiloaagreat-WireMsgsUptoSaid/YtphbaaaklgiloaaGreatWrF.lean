/- wire: a coder that reads; bytes that are none of a writer's. -/
import Derived.Test.YtphbaaaklgiloaaGreatWrB
import Derived.Test.YtphbaaaklgiloaaGreatDgE
import Derived.Recover
import Derived.Laws.Entries
import Derived.WalkLawsBesides
namespace Go.Proofs.YtphbaaaklgiloaaGreat.Dg
open Go.RowKit
variable {w w' : World} {base B cb : Nat} {v : Value} {l : List UInt8}
/-- Block cb is a coder that reads: l is left; the bytes lie below base. -/
structure Cr (w : World) (cb base : Nat) (v : Value) (l : List UInt8) : Prop where
  blk : Bk w cb 137 #[.bool true, v]
  src : Bs w base v l
  le : base ≤ cb
theorem Cr.lt (h : Cr w cb base v l) : cb < w.heap.size := h.blk.lt
theorem Cr.reads (h : Cr w cb base v l) : w.cell? ⟨cb, 0, none⟩ = some (.bool true) := h.blk.cell rfl
theorem Cr.bytes (h : Cr w cb base v l) : w.cell? ⟨cb, 1, none⟩ = some v := h.blk.cell rfl
theorem Cr.free (h : Cr w cb base v l) (i : Nat) : w.frozen? ⟨cb, i, none⟩ = false := h.blk.free i
theorem Cr.next {u : Value} {m : List UInt8} (h : Cr w cb base v l) (hb : Bs w base u m) : Cr (w.setCell ⟨cb, 1, none⟩ u) cb base u m :=
  ⟨h.blk.store 1 u, hb.keep fun b o hlt => World.cell?_of_block (a := ⟨b, o, none⟩) (Below.heap_setCell w ⟨cb, 1, none⟩ u b (by have := h.le; show b ≠ cb; omega)), h.le⟩
/-- The panic of wrong bytes. -/
def wrong : List PanicEntry := [{ v := .iface 196 (.agg #[]), recovered := false }]
set_option maxRecDepth 100000 in
set_option maxHeartbeats 1000000 in
theorem take_short (n : Nat) (w : World) (h : Cr w cb base v l) (hn : l.length < n) :
    Calls Tryz.prog 140 #[.pointer (some ⟨cb, 0, none⟩), .int .i64 (n : Int)] w fun e w' => e = .panicked wrong ∧ w = w' := by
  obtain ⟨A, c, hv, h1, h2, h3⟩ := id h.src
  subst hv
  have hc := h.bytes
  clear h h3
  go_enter Tryz.func140, Tryz.ntmps140
  go_wp2
  exact ⟨rfl, rfl, rfl⟩
set_option maxRecDepth 100000 in
set_option maxHeartbeats 1000000 in
/-- The next n bytes: just the coder's own cell turns. -/
theorem take_any (n : Nat) (w : World) (h : Cr w cb base v l) (hn : n ≤ l.length) :
    Calls Tryz.prog 140 #[.pointer (some ⟨cb, 0, none⟩), .int .i64 (n : Int)] w fun e w' => ∃ u v', e = .returned u ∧ Bs w' base u (l.take n) ∧ w' = w.setCell ⟨cb, 1, none⟩ v' ∧ Cr w' cb base v' (l.drop n) := by
  obtain ⟨A, c, hv, h1, h2, h3⟩ := id h.src
  subst hv
  have hc := h.bytes
  have hf := h.free 1
  have hnn : ¬ l.length < n := by omega
  have hsh := fun wx => run_slice_head A l.length c n (n : Int) rfl (by omega) wx
  have hst := fun wx => run_slice_tail A l.length c n hn wx
  have HT := Lib.hid (take_bs h.src n hn)
  have HC := Lib.hid (cutB h.src n hn rfl)
  have HH := Lib.hid h
  generalize (if c = n then A else Option.map (fun x => x.add n) A) = A2 at *
  clear h h3
  go_enter Tryz.func140, Tryz.ntmps140
  go_wp2
  go_ret
  refine ⟨_, _, rfl, ?_, rfl, HH.out.next HC.out⟩
  exact HT.out.keep fun b o hlt => World.cell?_of_block (a := ⟨b, o, none⟩) (Below.heap_setCell w ⟨cb, 1, none⟩ _ b (by have := HH.out.le; show b ≠ cb; omega))
/-- What is left behind a count, if it is right. -/
def cnt (l : List UInt8) : Option (Nat × List UInt8) :=
  if l.length < 4 ∨ (l.drop 4).length < valL (l.take 4) then none else some (valL (l.take 4), l.drop 4)
set_option maxRecDepth 100000 in
set_option maxHeartbeats 1000000 in
theorem count_bad (w : World) (h : Cr w cb base v l) (hbad : cnt l = none) :
    Calls Tryz.prog 142 #[.pointer (some ⟨cb, 0, none⟩)] w fun e w' => e = .panicked wrong ∧ Gw cb w w' := by
  have HH := Lib.hid h
  by_cases h4 : l.length < 4
  · clear h hbad
    go_enter Tryz.func142, Tryz.ntmps142
    go_wp2_with fail
    refine (take_short 4 w HH.out h4).mono ?_
    rintro e w2 ⟨rfl, rfl⟩
    exact ⟨rfl, rfl, Gw.refl _ _⟩
  · have hb2 : (l.drop 4).length < valL (l.take 4) := by
      unfold cnt at hbad
      split at hbad
      · rcases ‹_ ∨ _› with h | h
        · exact absurd h h4
        · exact h
      · cases hbad
    have h44 : 4 ≤ l.length := by omega
    have hlt := valL_lt (l.take 4)
    rw [List.length_take, show min 4 l.length = 4 by omega] at hlt
    clear h hbad h4
    go_enter Tryz.func142, Tryz.ntmps142
    go_wp2_with fail
    refine (take_any 4 w HH.out h44).mono ?_
    rintro e w2 ⟨u, v2, rfl, hu, hw, hc2⟩
    have hg : Gw cb w w2 := by subst hw; exact (Gw.refl cb w).set 1 _
    clear hw
    go_wp2_with fail
    refine (lowFirst_any w2 hu (by rw [List.length_take]; omega)).mono ?_
    rintro e w3 ⟨rfl, rfl⟩
    generalize valL (l.take 4) = k at *
    generalize l.drop 4 = m at *
    obtain ⟨A2, c2, hv2, hm1, hm2, -⟩ := id hc2.src
    subst hv2
    have hb := hc2.bytes
    have hm3 : m.length ≤ 9223372036854775807 := by omega
    have hwr : IntKind.u64.wrap (m.length : Int) = (m.length : Int) := by rw [IntKind.wrap_u64]; omega
    have hk0 : (m.length : Int) < (k : Int) := by omega
    clear hc2 hu hlt HH
    go_wp2
    exact ⟨rfl, rfl, hg⟩
end Go.Proofs.YtphbaaaklgiloaaGreat.Dg

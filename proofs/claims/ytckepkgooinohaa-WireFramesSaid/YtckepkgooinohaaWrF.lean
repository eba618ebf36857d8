/- wire: a coder that reads; bytes that are none of a writer's. -/
import Derived.Test.YtckepkgooinohaaWrB
import Derived.Test.YtckepkgooinohaaDgE
import Derived.Recover
import Derived.Laws.Entries
import Derived.WalkLawsBesides
namespace Go.Proofs.Ytckepkgooinohaa.Dg
open Go.RowKit
variable {w w' : World} {base B cb : Nat} {v : Value} {l : List UInt8}
/-- Block cb is a coder that reads: l is left; the bytes lie below base. -/
structure Cr (w : World) (cb base : Nat) (v : Value) (l : List UInt8) : Prop where
  blk : Bk w cb 135 #[.bool true, v]
  src : Bs w base v l
  le : base ≤ cb
theorem Cr.lt (h : Cr w cb base v l) : cb < w.heap.size := h.blk.lt
theorem Cr.reads (h : Cr w cb base v l) : w.cell? ⟨cb, 0, none⟩ = some (.bool true) := h.blk.cell rfl
theorem Cr.bytes (h : Cr w cb base v l) : w.cell? ⟨cb, 1, none⟩ = some v := h.blk.cell rfl
theorem Cr.free (h : Cr w cb base v l) (i : Nat) : w.frozen? ⟨cb, i, none⟩ = false := h.blk.free i
theorem Cr.next {u : Value} {m : List UInt8} (h : Cr w cb base v l) (hb : Bs w base u m) : Cr (w.setCell ⟨cb, 1, none⟩ u) cb base u m :=
  ⟨h.blk.store 1 u, hb.keep fun b o hlt => World.cell?_of_block (a := ⟨b, o, none⟩) (Below.heap_setCell w ⟨cb, 1, none⟩ u b (by have := h.le; show b ≠ cb; omega)), h.le⟩
/-- The panic of wrong bytes. -/
def wrong : List PanicEntry := [{ v := .iface 169 (.agg #[]), recovered := false }]
set_option maxRecDepth 100000 in
set_option maxHeartbeats 1000000 in
theorem take_short (n : Nat) (w : World) (h : Cr w cb base v l) (hn : l.length < n) :
    Calls Try.prog 108 #[.pointer (some ⟨cb, 0, none⟩), .int .i64 (n : Int)] w fun e w' => e = .panicked wrong ∧ w = w' := by
  obtain ⟨A, c, hv, h1, h2, h3⟩ := id h.src
  subst hv
  have hc := h.bytes
  clear h h3
  go_enter Try.func108, Try.ntmps108
  go_wp2
  exact ⟨rfl, rfl, rfl⟩
theorem cutB {A : Option Addr} {c n : Nat} (h : Bs w B (.slice A l.length c) l) (k : Nat) (hk : k ≤ l.length) (hn : n = l.length - k) :
    Bs w B (.slice (if c = k then A else Option.map (fun x => x.add k) A) n (c - k)) (l.drop k) := by
  obtain ⟨A', c', hv, h1, h2, h3⟩ := h
  injection hv with ha _ hc'
  subst ha hc'
  refine ⟨_, _, by rw [List.length_drop, hn], by rw [List.length_drop]; omega, by omega, fun hne => ?_⟩
  have hlt : k < l.length := by
    rcases Nat.lt_or_ge k l.length with h | h
    · exact h
    · exact absurd (List.drop_eq_nil_of_le h) hne
  have hl : l ≠ [] := by intro e; subst e; simp at hlt
  obtain ⟨b, off, rfl, hb, hc⟩ := h3 hl
  have hck : ¬ c = k := by omega
  refine ⟨b, off + k, by rw [if_neg hck, Option.map_some, Addr.add_lit], hb, fun i hi => ?_⟩
  rw [List.length_drop] at hi
  rw [Nat.add_assoc, hc (k + i) (by omega)]
  congr 2
  rw [List.getD_eq_getElem?_getD, List.getD_eq_getElem?_getD, List.getElem?_drop]
theorem run_slice_tail (A : Option Addr) (n c k : Nat) (hk : k ≤ n) (w : World) :
    (Instr.slice 25 (.slice A n c) (some (.int .i64 (k : Int))) none none).run Try.prog w = .ok (.slice (if c = k then A else Option.map (fun x => x.add k) A) (n - k) (c - k)) w := by
  have h1 : (0 : Int) ≤ (k : Int) := by omega
  simp [Instr.slice, Instr.sliceBounds, Instr.sliceBound, asIntOf, run_underlying Try.underlying25, h1, Sem.run_bind]
  omega
set_option maxRecDepth 100000 in
set_option maxHeartbeats 1000000 in
/-- The next n bytes: just the coder's own cell turns. -/
theorem take_any (n : Nat) (w : World) (h : Cr w cb base v l) (hn : n ≤ l.length) :
    Calls Try.prog 108 #[.pointer (some ⟨cb, 0, none⟩), .int .i64 (n : Int)] w fun e w' => ∃ u v', e = .returned u ∧ Bs w' base u (l.take n) ∧ w' = w.setCell ⟨cb, 1, none⟩ v' ∧ Cr w' cb base v' (l.drop n) := by
  obtain ⟨A, c, hv, h1, h2, h3⟩ := id h.src
  subst hv
  have hc := h.bytes
  have hf := h.free 1
  have hnn : ¬ l.length < n := by omega
  have hsh := fun wx => run_slice_head A l.length c n (n : Int) rfl (by omega) wx
  have hst := fun wx => run_slice_tail A l.length c n hn wx
  have HT := Lib.hid (take_bs h.src n hn)
  have HC := Lib.hid (cutB h.src n hn rfl)
  have HH := Lib.hid h
  generalize (if c = n then A else Option.map (fun x => x.add n) A) = A2 at *
  clear h h3
  go_enter Try.func108, Try.ntmps108
  go_wp2
  go_ret
  refine ⟨_, _, rfl, ?_, rfl, HH.out.next HC.out⟩
  exact HT.out.keep fun b o hlt => World.cell?_of_block (a := ⟨b, o, none⟩) (Below.heap_setCell w ⟨cb, 1, none⟩ _ b (by have := HH.out.le; show b ≠ cb; omega))
/-- What is left behind a count, if it is right. -/
def cnt (l : List UInt8) : Option (Nat × List UInt8) :=
  if l.length < 4 ∨ (l.drop 4).length < valL (l.take 4) then none else some (valL (l.take 4), l.drop 4)
set_option maxRecDepth 100000 in
set_option maxHeartbeats 1000000 in
theorem count_bad (w : World) (h : Cr w cb base v l) (hbad : cnt l = none) :
    Calls Try.prog 110 #[.pointer (some ⟨cb, 0, none⟩)] w fun e w' => e = .panicked wrong ∧ Gw cb w w' := by
  have HH := Lib.hid h
  by_cases h4 : l.length < 4
  · clear h hbad
    go_enter Try.func110, Try.ntmps110
    go_wp2_with fail
    refine (take_short 4 w HH.out h4).mono ?_
    rintro e w2 ⟨rfl, rfl⟩
    exact ⟨rfl, rfl, Gw.refl _ _⟩
  · have hb2 : (l.drop 4).length < valL (l.take 4) := by
      unfold cnt at hbad
      split at hbad
      · rcases ‹_ ∨ _› with h | h
        · exact absurd h h4
        · exact h
      · cases hbad
    have h44 : 4 ≤ l.length := by omega
    have hlt := valL_lt (l.take 4)
    rw [List.length_take, show min 4 l.length = 4 by omega] at hlt
    clear h hbad h4
    go_enter Try.func110, Try.ntmps110
    go_wp2_with fail
    refine (take_any 4 w HH.out h44).mono ?_
    rintro e w2 ⟨u, v2, rfl, hu, hw, hc2⟩
    have hg : Gw cb w w2 := by subst hw; exact (Gw.refl cb w).set 1 _
    clear hw
    go_wp2_with fail
    refine (lowFirst_any w2 hu (by rw [List.length_take]; omega)).mono ?_
    rintro e w3 ⟨rfl, rfl⟩
    generalize valL (l.take 4) = k at *
    generalize l.drop 4 = m at *
    obtain ⟨A2, c2, hv2, hm1, hm2, -⟩ := id hc2.src
    subst hv2
    have hb := hc2.bytes
    have hm3 : m.length ≤ 9223372036854775807 := by omega
    have hwr : IntKind.u64.wrap (m.length : Int) = (m.length : Int) := by rw [IntKind.wrap_u64]; omega
    have hk0 : (m.length : Int) < (k : Int) := by omega
    clear hc2 hu hlt HH
    go_wp2
    exact ⟨rfl, rfl, hg⟩
end Go.Proofs.Ytckepkgooinohaa.Dg

/- wire: a coder that writes; texts and lists of texts written. -/
import Derived.Test.YtphbaaaklgiloaaGreatWrB
import Derived.Deep.RegionLaw
import Derived.Deep.DrawnRows
namespace Go.Proofs.YtphbaaaklgiloaaGreat.Dg
open Go.RowKit
variable {w w' : World} {base B cb : Nat} {v : Value} {l : List UInt8}
/-- Block cb is a coder that writes; it has written l into rows of its own, from base on. -/
structure Cw (w : World) (cb base : Nat) (v : Value) (l : List UInt8) : Prop where
  blk : Bk w cb 137 #[.bool false, v]
  own : Ob w base v l
  le : base ≤ cb
/-- No block is another one, but the coder and rows of bytes from base on; and new ones. -/
structure Fw (cb base : Nat) (w w' : World) : Prop where
  os : w'.os = w.os
  tape : w'.tape = w.tape
  output : w'.output = w.output
  size : w.heap.size ≤ w'.heap.size
  block : ∀ k, k < w.heap.size → k ≠ cb → (k < base ∨ ∀ cs, w.heap[k]? ≠ some (.cells cs 5 (0, 0))) → w'.heap[k]? = w.heap[k]?
theorem Fw.refl (cb base : Nat) (w : World) : Fw cb base w w := ⟨rfl, rfl, rfl, Nat.le_refl _, fun _ _ _ _ => rfl⟩
theorem Fw.trans {a b c : World} (h : Fw cb base a b) (k : Fw cb base b c) : Fw cb base a c :=
  ⟨k.os.trans h.os, k.tape.trans h.tape, k.output.trans h.output, Nat.le_trans h.size k.size, fun i hi hn hc => by
    have e := h.block i hi hn hc
    exact (k.block i (Nat.lt_of_lt_of_le hi h.size) hn (by rw [e]; exact hc)).trans e⟩
theorem Fw.of_fr (h : Fr base w w') : Fw cb base w w' := ⟨h.os, h.tape, h.output, h.size, fun k hk _ hc => h.block k hk hc⟩
theorem Fw.of_ab (h : Ab w w') : Fw cb base w w' := Fw.of_fr (Fr.of_ab h)
theorem Fw.set (h : Fw cb base w w') (i : Nat) (u : Value) : Fw cb base w (w'.setCell ⟨cb, i, none⟩ u) :=
  ⟨h.os, h.tape, h.output, by simpa using h.size, fun k hk hn hc => (Below.heap_setCell w' ⟨cb, i, none⟩ u k hn).trans (h.block k hk hn hc)⟩
/-- What lies below base is as it was. -/
theorem Fw.below (h : Fw cb base w w') (hb : base ≤ cb) : ∀ k, k < base → k < w.heap.size → w'.heap[k]? = w.heap[k]? := fun k hk hw => h.block k hw (by omega) (.inl hk)
theorem Cw.lt (h : Cw w cb base v l) : cb < w.heap.size := h.blk.lt
theorem Cw.reads (h : Cw w cb base v l) : w.cell? ⟨cb, 0, none⟩ = some (.bool false) := h.blk.cell rfl
theorem Cw.bytes (h : Cw w cb base v l) : w.cell? ⟨cb, 1, none⟩ = some v := h.blk.cell rfl
theorem Cw.free (h : Cw w cb base v l) (i : Nat) : w.frozen? ⟨cb, i, none⟩ = false := h.blk.free i
theorem Cw.not_row (h : Cw w cb base v l) : ∀ cs, w.heap[cb]? ≠ some (.cells cs 5 (0, 0)) := by
  intro cs e
  have hb : w.heap[cb]? = some (.cells #[.bool false, v] 137 (0, 0)) := h.blk
  rw [hb] at e
  injection e with e
  injection e with _ e
  exact absurd e (by decide)
theorem Cw.drew (h : Cw w cb base v l) : Cw w.drew cb base v l := ⟨h.blk.drew, h.own, h.le⟩
theorem Fw.drew (h : Fw cb base w w') : Fw cb base w w'.drew := ⟨h.os, h.tape, h.output, h.size, h.block⟩
theorem Cw.ab (h : Cw w cb base v l) (hb : Ab w w') : Cw w' cb base v l := ⟨hb.bk h.blk, h.own.ab hb, h.le⟩
/-- More bytes behind the old ones, stored back. -/
theorem Cw.more {v2 : Value} {m : List UInt8} (h : Cw w cb base v l) (hf : Fr base w w') (ho : Ob w' base v2 m) : Cw (w'.setCell ⟨cb, 1, none⟩ v2) cb base v2 m ∧ Fw cb base w (w'.setCell ⟨cb, 1, none⟩ v2) := by
  have hb' : Bk w' cb 137 #[.bool false, v] := (hf.block cb h.lt (.inr h.not_row)).trans h.blk
  have hc : Cw w' cb base v2 m → True := fun _ => trivial
  have hn : v2.ownBlock ≠ some cb := by
    intro e
    rcases ho.2 with ⟨rfl, _⟩ | ⟨g, cap, cur, rfl, hg0, hg, _⟩
    · simp [Value.ownBlock] at e
    · have : g = cb := by simpa [Value.ownBlock] using e
      subst this
      have hb2 : w'.heap[g]? = some (.cells #[.bool false, v] 137 (0, 0)) := hb'
      rw [hb2] at hg
      injection hg with hg
      injection hg with _ hg
      exact absurd hg (by decide)
  refine ⟨⟨hb'.store 1 v2, ?_, h.le⟩, (Fw.of_fr hf).set 1 v2⟩
  exact ho.kept (row := some cb) ⟨rfl, rfl, rfl, by simp, fun k _ hk => Below.heap_setCell w' ⟨cb, 1, none⟩ v2 k (fun e => hk (by rw [e]))⟩ (.inr hn)
set_option maxRecDepth 100000 in
set_option maxHeartbeats 1000000 in
theorem put_any (n : Nat) (hn : n < 18446744073709551616) (k : Nat) (hk : k ≤ 8) (w : World) (h : Cw w cb base v l) (hl : l.length ≤ 150000000000000) :
    Calls Tryz.prog 141 #[.pointer (some ⟨cb, 0, none⟩), .int .u64 (n : Int), .int .i64 (k : Int)] w fun e w' => e = .returned (.tuple #[]) ∧ ∃ v', Cw w' cb base v' (l ++ lowL n k) ∧ Fw cb base w w' := by
  have hc := h.bytes
  have HN := Lib.hid hn
  have HC := Lib.hid h
  have hlt := h.lt
  have hle := h.le
  clear hn h
  go_enter Tryz.func141, Tryz.ntmps141
  go_wp2_with fail
  refine (appendLow_any n HN.out k hk w v l base HC.out.own (by omega) hl).mono ?_
  rintro e w2 ⟨v2, rfl, ho2, hf2⟩
  obtain ⟨A2, n2, c2, rfl⟩ := ho2.shape
  have hb' : Bk w2 cb 137 #[.bool false, v] := (hf2.block cb HC.out.lt (.inr HC.out.not_row)).trans HC.out.blk
  have hc2 := hb'.cell (i := 1) (v := v) rfl
  have hf := hb'.free 1
  have H2 := Lib.hid (HC.out.more hf2 ho2)
  clear ho2 hf2 hb'
  go_wp2_with fail
  go_end0
  exact ⟨rfl, _, H2.out.1, H2.out.2⟩
/-- A text behind them. -/
def textL (s : List UInt8) : List UInt8 := lowL s.length 4 ++ s
attribute [local go_sem ↓] Go.wp_at_zero Go.wp_at_succ
set_option maxRecDepth 100000 in
set_option maxHeartbeats 1000000 in
theorem textw_any (s : ByteArray) (hs : s.size ≤ 140737488351232) (p : Addr) (hp : p.block < base) (w : World) (hcell : w.cell? p = some (.string s)) (h : Cw w cb base v l) (hl : l.length ≤ 1000000000000) :
    Calls Tryz.prog 136 #[.pointer (some ⟨cb, 0, none⟩), .pointer (some p)] w fun e w' => e = .returned (.tuple #[]) ∧ ∃ v', Cw w' cb base v' (l ++ textL s.data.toList) ∧ Fw cb base w w' := by
  have hc := h.reads
  have HC := Lib.hid h
  have hle := h.le
  have hlt := h.lt
  clear h
  go_enter Tryz.func136, Tryz.ntmps136
  go_wp2_with fail
  refine (put_any s.size (by omega) 4 (by omega) w HC.out (by omega)).mono ?_
  rintro e w2 ⟨rfl, v2, hc2, hf2⟩
  obtain ⟨A2, n2, c2, rfl⟩ := hc2.own.shape
  have hcell2 : w2.cell? p = some (.string s) := (World.cell?_of_block (a := p) (hf2.below hle p.block hp (by omega))).trans hcell
  have hb2 := hc2.bytes
  have hf := hc2.free 1
  have H2 := Lib.hid (And.intro hc2 hf2)
  have HBW := Lib.hid (show base ≤ w2.heap.size by have := hc2.lt; omega)
  have esz : s.data.toList.length = s.size := by rw [Array.length_toList]; rfl
  have hls : (l ++ lowL s.size 4).length + s.data.toList.length ≤ 200000000000000 := by rw [List.length_append, lowL_length, esz]; omega
  have HLS := Lib.hid hls
  have HE := Lib.hid esz
  clear hls esz
  clear hc2 hf2 HC hc hcell
  go_wp2_with fail
  go_region_law ((refine step_bytes (by rfl) _ _ _ (by rfl) _ _ (by rfl) (by rfl) base _ s.data.toList H2.out.1.own (src_text Tryz.underlying9 s _) HLS.out HBW.out ?_; intro A3 n3 c3 w3 ho3 hf3; (have hb3 : Bk w3 cb 137 #[.bool false, .slice A2 n2 c2] := (hf3.block cb H2.out.1.lt (.inr H2.out.1.not_row)).trans H2.out.1.blk); (have hc3 := hb3.cell (i := 1) (v := .slice A2 n2 c2) rfl); (have hz3 := hb3.free 1); clear hb3))
  all_goals
    have H3 := Lib.hid (Cw.more (w := w2.drew) H2.out.1.drew hf3 ho3)
    have HF := Lib.hid H2.out.2.drew
    clear ho3 hf3 H2
    go_wp2
    go_end0
    exact ⟨rfl, _, by rw [textL, HE.out, ← List.append_assoc]; exact H3.out.1, HF.out.trans H3.out.2⟩
/-- Texts behind each other. -/
def catL (ss : List ByteArray) : List UInt8 := (ss.map fun s => textL s.data.toList).flatten
def textsL (ss : List ByteArray) : List UInt8 := lowL ss.length 4 ++ catL ss
theorem catL_take (ss : List ByteArray) (k : Nat) (h : k < ss.length) : catL (ss.take (k + 1)) = catL (ss.take k) ++ textL (ss.getD k ByteArray.empty).data.toList := by
  unfold catL
  rw [List.take_succ_eq_append_getElem h, List.map_append, List.flatten_append]
  simp [List.getD_eq_getElem?_getD, List.getElem?_eq_getElem h]
theorem catL_take_le (ss : List ByteArray) (k : Nat) : (catL (ss.take k)).length ≤ (catL ss).length := by
  unfold catL
  conv => rhs; rw [← List.take_append_drop k ss, List.map_append, List.flatten_append, List.length_append]
  omega
/-- A slice of texts below base. -/
def Ts (w : World) (base : Nat) (v : Value) (ss : List ByteArray) : Prop :=
  ∃ A c, v = .slice A ss.length c ∧ ss.length ≤ c ∧ c ≤ 9223372036854775807 ∧ (ss ≠ [] → ∃ b off, A = some ⟨b, off, none⟩ ∧ b < base ∧ ∀ i, i < ss.length → w.cell? ⟨b, off + i, none⟩ = some (.string (ss.getD i ByteArray.empty)))
theorem size_le_cat (ss : List ByteArray) (k : Nat) (h : k < ss.length) : (ss.getD k ByteArray.empty).size + (catL (ss.take k)).length ≤ (catL ss).length := by
  have h1 := catL_take ss k h
  have h2 := catL_take_le ss (k + 1)
  have e : (ss.getD k ByteArray.empty).data.toList.length = (ss.getD k ByteArray.empty).size := by rw [Array.length_toList]; rfl
  rw [h1, List.length_append, textL, List.length_append, e] at h2
  omega
theorem length_le_cat : ∀ ss : List ByteArray, ss.length ≤ (catL ss).length
  | [] => by simp
  | s :: ss => by
    have h := length_le_cat ss
    unfold catL at h ⊢
    simp only [List.map_cons, List.flatten_cons, List.length_append, List.length_cons, textL, lowL_length] at h ⊢
    omega
set_option maxRecDepth 100000 in
set_option maxHeartbeats 2000000 in
theorem listw_any (ss : List ByteArray) (p : Addr) (u : Value) (w : World) (hcell : w.cell? p = some u) (hp : p.block < base) (hts : Ts w base u ss) (h : Cw w cb base v l) (hl : l.length + (textsL ss).length ≤ 1000000000000) :
    Calls Tryz.prog 135 #[.pointer (some ⟨cb, 0, none⟩), .pointer (some p), .func (.func 136) #[] #[]] w fun e w' => e = .returned (.tuple #[]) ∧ ∃ v', Cw w' cb base v' (l ++ textsL ss) ∧ Fw cb base w w' := by
  obtain ⟨A, c, rfl, hn1, hn2, hA⟩ := id hts
  have hlen : (textsL ss).length = 4 + (catL ss).length := by rw [textsL, List.length_append, lowL_length]
  have hss : ss.length ≤ 1000000000000 := by
    have := length_le_cat ss
    omega
  have hc := h.reads
  have HC := Lib.hid h
  have HA := Lib.hid hA
  have HT := Lib.hid hlen
  have hle := h.le
  have hlt := h.lt
  clear h hts hA hlen
  go_enter Tryz.func135, Tryz.ntmps135
  go_wp2_with fail
  refine (put_any ss.length (by omega) 4 (by omega) w HC.out (by omega)).mono ?_
  rintro e w2 ⟨rfl, v2, hc2, hf2⟩
  have hpw : p.block < w.heap.size := by omega
  have hcell2 : w2.cell? p = some (.slice A ss.length c) := (World.cell?_of_block (a := p) (hf2.below hle p.block hp hpw)).trans hcell
  have H2 := Lib.hid (And.intro hc2 hf2)
  have HCL := Lib.hid hcell
  clear hc2 hf2 HC hc hcell
  go_wp2_with fail
  go_loopw [46] (fun i wr => ∃ j : Nat, j ≤ ss.length ∧ i = .int .i64 (j : Int) ∧ ∃ v', Cw wr cb base v' (l ++ lowL ss.length 4 ++ catL (ss.take j)) ∧ Fw cb base w wr) (fun i _ => ss.length - (intOf i).toNat)
  case atStart => exact ⟨0, Nat.zero_le _, rfl, _, by simpa [catL] using H2.out.1, H2.out.2⟩
  case round =>
    obtain ⟨j, hj, rfl, v3, hc3, hf3⟩ := hrel
    have hcell3 : wr.cell? p = some (.slice A ss.length c) := (World.cell?_of_block (a := p) (hf3.below hle p.block hp hpw)).trans (by first | assumption | exact HCL.out)
    have H3 := Lib.hid (And.intro hc3 hf3)
    by_cases hlt2 : j < ss.length
    · have hne : ss ≠ [] := by intro e; subst e; simp at hlt2
      obtain ⟨b, off, rfl, hb, hcs⟩ := HA.out hne
      have hitem : wr.cell? ⟨b, off + j, none⟩ = some (.string (ss.getD j ByteArray.empty)) := (World.cell?_of_block (a := ⟨b, off + j, none⟩) (hf3.below hle b hb (by omega))).trans (hcs j hlt2)
      have hsz := size_le_cat ss j hlt2
      have HS := Lib.hid (catL_take ss j hlt2)
      have HI := Lib.hid hitem
      have hj0 : (0 : Int) ≤ (j : Int) := by omega
      have hj1 : (j : Int) < (ss.length : Int) := by omega
      have hT := HT.out
      have hlen3 : (l ++ lowL ss.length 4 ++ catL (ss.take j)).length ≤ 1000000000000 := by rw [List.length_append, List.length_append, lowL_length]; omega
      have HL3 := Lib.hid hlen3
      have hs1 : (ss.getD j ByteArray.empty).size ≤ 140737488351232 := by omega
      clear hc3 hf3 hcs hlen3 hitem hT hsz
      go_wp2_with fail
      refine (textw_any (ss.getD j ByteArray.empty) hs1 ⟨b, off + j, none⟩ hb wr HI.out H3.out.1 HL3.out).mono ?_
      rintro e w4 ⟨rfl, v4, hc4, hf4⟩
      have H4 := Lib.hid (And.intro hc4 hf4)
      clear hc4 hf4
      go_wp2_with fail
      go_roundw
      case rel => exact ⟨j + 1, by omega, by go_num, v4, by rw [HS.out, ← List.append_assoc]; exact H4.out.1, H3.out.2.trans H4.out.2⟩
      case measure => simp [intOf]; omega
    · clear hc3 hf3
      go_wp2_with fail
      go_end0
      have : j = ss.length := by omega
      subst this
      exact ⟨rfl, v3, by rw [textsL, ← List.append_assoc]; simpa using H3.out.1, H3.out.2⟩
end Go.Proofs.YtphbaaaklgiloaaGreat.Dg

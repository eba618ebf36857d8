/- append of bytes onto a slice of the call's own. -/
import Derived.Test.YtphbaaaklgiloaaGreatApp
namespace Go.Proofs.YtphbaaaklgiloaaGreat.Dg
open Go.RowKit
/-- A byte as a cell. -/
def u8v (x : UInt8) : Value := .int .u8 (n8 x)
/-- A slice of bytes of the call's own. -/
def Ob (w : World) (base : Nat) (v : Value) (l : List UInt8) : Prop := w.ownsRow base 5 1 v l.length (l.map u8v)
variable {w w' : World} {base : Nat} {v : Value} {l : List UInt8}
theorem info8 : (Tryz.prog.info? 5).map (fun i => (i.zero, i.size, i.bytes)) = some (some (.int .u8 0), 1, 1) := by kernel_rfl
theorem Ob.nil (w : World) (base : Nat) : Ob w base (.slice none 0 0) [] := World.ownsRow_nil w base _ 1
theorem Ob.len_cap (h : Ob w base v l) : ∃ A c, v = .slice A l.length c ∧ l.length ≤ c ∧ c ≤ maxLen := by
  rcases h.2 with ⟨rfl, h0⟩ | ⟨g, cap, cur, rfl, hb, hg, hn, hm, _⟩
  · exact ⟨none, 0, by rw [h0], by omega, by simp [maxLen]⟩
  · exact ⟨_, _, rfl, hn, hm⟩
theorem Ob.kept {row : Option Nat} (h : Ob w base v l) (hg : w.grownBy w' row) (hne : v.ownBlock = none ∨ v.ownBlock ≠ row) : Ob w' base v l := World.ownsRow.kept h hg hne
theorem Ob.ab (h : Ob w base v l) (hb : Ab w w') : Ob w' base v l := by
  refine ⟨h.1, ?_⟩
  rcases h.2 with hn | ⟨g, cap, cur, rfl, hbg, hgg, rest⟩
  · exact .inl hn
  · exact .inr ⟨g, cap, cur, rfl, hbg, (Below.block hb g (Array.getElem?_eq_some_iff.1 hgg).1).trans hgg, rest⟩
theorem Ob.alloc (h : Ob w base v l) (o : Obj) : Ob (w.alloc o) base v l := World.ownsRow.alloc h o
theorem Ob.drew (h : Ob w base v l) : Ob w.drew base v l := h
theorem Ob.lower (h : Ob w base v l) {b' : Nat} (hb : b' ≤ base) : Ob w b' v l := by
  refine ⟨h.1, ?_⟩
  rcases h.2 with hn | ⟨g, cap, cur, rfl, hbg, rest⟩
  · exact .inl hn
  · exact .inr ⟨g, cap, cur, rfl, by omega, rest⟩
theorem Ob.blk (h : Ob w base v l) : ∀ k, v.ownBlock = some k → base ≤ k ∧ k < w.heap.size := World.ownsRow.lt h
/-- A byte changes. -/
theorem map_set_u8 (l : List UInt8) (k : Nat) (x : UInt8) : (l.set k x).map u8v = (l.map u8v).set k (u8v x) := List.map_set
theorem src_text {P : Program} {tx : TypeId} (hk : P.underlying tx = some .string) (s : ByteArray) (w : World) : Src P 1 tx (.string s) s.data.toList.length (s.data.toList.map u8v) w := by
  have h := Src.ofString (P := P) w hk s
  have e : s.data.toList.length = s.size := by rw [Array.length_toList]; rfl
  rw [e]
  exact h
/-- w' is w but for new blocks and what the call has made since base. -/
theorem grown_ab {W : World} (hW : Ab W w) {row : Option Nat} (hg : w.grownBy w' row) (hr : ∀ k, row = some k → W.heap.size ≤ k) : Ab W w' :=
  ⟨hg.os.trans hW.1, hg.tape.trans hW.2, hg.output.trans hW.3, Nat.le_trans (Below.size hW) hg.size, fun k hk => (hg.block k (Nat.lt_of_lt_of_le hk (Below.size hW)) (fun e => by have := hr k e.symm; omega)).trans (Below.block hW k hk)⟩
theorem app_bytes {tx ty : TypeId} (h : Ob w base v l) {x : Value} {xs : List UInt8} (hs : Src Tryz.prog 1 tx x xs.length (xs.map u8v) w) (hlen : l.length + xs.length ≤ 200000000000000) (hbase : base ≤ w.heap.size) :
    ∃ v' w', (Builtin.append_ #[41, tx] ty #[v, x]).run Tryz.prog w = .ok v' w' ∧ Ob w' base v' (l ++ xs) ∧ w.grownBy w' v.ownBlock ∧ (v'.ownBlock = v.ownBlock ∨ v'.ownBlock = some w.heap.size) := by
  obtain ⟨i0, hi, hz0, hz1, hz2⟩ := info_parts info8
  obtain ⟨v', w', hr, ho, hg, hb⟩ := app_own (P := Tryz.prog) w base 41 tx ty 5 i0 (.int .u8 0) 1 1 Tryz.underlying41 hi hz0 hz1 hz2 rfl h hs (by unfold maxLen; omega) (by omega) hbase
  refine ⟨v', w', hr, ?_, hg, hb⟩
  unfold Ob
  rw [List.length_append, List.map_append]
  exact ho
end Go.Proofs.YtphbaaaklgiloaaGreat.Dg

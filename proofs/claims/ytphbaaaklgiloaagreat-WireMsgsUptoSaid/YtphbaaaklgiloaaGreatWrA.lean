/- wire: what changes no block but rows of bytes of the call's own; numbers as bytes, the lowest first. -/
import Derived.Test.YtphbaaaklgiloaaGreatDgAq
import Derived.IntWalk
import Derived.Outline
import Derived.Lib.Hide
namespace Go.Proofs.YtphbaaaklgiloaaGreat.Dg
open Go.RowKit
/-- No block is another one, but rows of bytes from base on; and new ones. -/
structure Fr (base : Nat) (w w' : World) : Prop where
  os : w'.os = w.os
  tape : w'.tape = w.tape
  output : w'.output = w.output
  size : w.heap.size ≤ w'.heap.size
  block : ∀ k, k < w.heap.size → (k < base ∨ ∀ cs, w.heap[k]? ≠ some (.cells cs 5 (0, 0))) → w'.heap[k]? = w.heap[k]?
variable {w w' : World} {base : Nat} {v : Value} {l : List UInt8}
theorem Fr.refl (base : Nat) (w : World) : Fr base w w := ⟨rfl, rfl, rfl, Nat.le_refl _, fun _ _ _ => rfl⟩
theorem Fr.trans {a b c : World} (h : Fr base a b) (k : Fr base b c) : Fr base a c :=
  ⟨k.os.trans h.os, k.tape.trans h.tape, k.output.trans h.output, Nat.le_trans h.size k.size, fun i hi hc => by
    have e := h.block i hi hc
    exact (k.block i (Nat.lt_of_lt_of_le hi h.size) (by rw [e]; exact hc)).trans e⟩
theorem Fr.of_ab (h : Ab w w') : Fr base w w' := ⟨h.1, h.2, h.3, Below.size h, fun k hk _ => Below.block h k hk⟩
theorem Fr.alloc (h : Fr base w w') (o : Obj) : Fr base w (w'.alloc o) := h.trans (Fr.of_ab ((Ab.refl _).alloc o))
theorem Fr.drew (h : Fr base w w') : Fr base w w'.drew := ⟨h.os, h.tape, h.output, h.size, h.block⟩
theorem Fr.ab {W : World} (h : Fr base w w') (hW : Ab W w) (hb : W.heap.size ≤ base) : Ab W w' :=
  ⟨h.os.trans hW.1, h.tape.trans hW.2, h.output.trans hW.3, Nat.le_trans (Below.size hW) h.size, fun k hk => (h.block k (Nat.lt_of_lt_of_le hk (Below.size hW)) (.inl (by omega))).trans (Below.block hW k hk)⟩
theorem Ob.grown (h : Ob w base v l) (hg : w.grownBy w' v.ownBlock) : Fr base w w' :=
  ⟨hg.os, hg.tape, hg.output, hg.size, fun k hk hc => hg.block k hk fun e => by
    rcases h.2 with ⟨rfl, _⟩ | ⟨g, cap, cur, rfl, hb, hgg, _⟩
    · simp [Value.ownBlock] at e
    · have : k = g := by simpa [Value.ownBlock] using e
      subst this
      rcases hc with hc | hc
      · omega
      · exact hc _ hgg⟩
/-- The lowest k bytes of a number, the lowest first. -/
def lowL (n : Nat) (k : Nat) : List UInt8 := (List.range k).map fun i => UInt8.ofNat (n / 2 ^ (8 * i))
theorem lowL_length (n k : Nat) : (lowL n k).length = k := by simp [lowL]
theorem lowL_succ (n k : Nat) : lowL n (k + 1) = lowL n k ++ [UInt8.ofNat (n / 2 ^ (8 * k))] := by simp [lowL, List.range_succ]
theorem byte_of (n : Nat) : ((n : Int) % 256) = n8 (UInt8.ofNat n) := by
  unfold n8; rw [UInt8.toNat_ofNat']; omega

set_option maxRecDepth 100000 in
set_option maxHeartbeats 1000000 in
theorem appendLow_any (n : Nat) (hn : n < 18446744073709551616) (k : Nat) (hk : k ≤ 8) (w : World) (v : Value) (l : List UInt8) (base : Nat) (h : Ob w base v l) (hb : base ≤ w.heap.size) (hl : l.length ≤ 150000000000000) :
    Calls Tryz.prog 93 #[v, .int .u64 (n : Int), .int .i64 (k : Int)] w fun e w' => ∃ v', e = .returned v' ∧ Ob w' base v' (l ++ lowL n k) ∧ Fr base w w' := by
  have HN := Lib.hid hn
  clear hn
  go_enter Tryz.func93, Tryz.ntmps93
  go_wp2
  go_loopw [0, 9] (fun b i wr => ∃ j : Nat, j ≤ k ∧ i = .int .i64 (j : Int) ∧ Ob wr base b (l ++ lowL n j) ∧ Fr base w wr) (fun _ i _ => k - (intOf i).toNat)
  case atStart => exact ⟨0, Nat.zero_le _, rfl, by simpa [lowL] using h, Fr.refl _ _⟩
  case round =>
    obtain ⟨j, hj, rfl, ho, hf⟩ := hrel
    by_cases hlt : j < k
    · have HO := Lib.hid ho
      have HF := Lib.hid hf
      have hbs := hf.size
      clear ho hf h
      have hx : ((n : Int) / 2 ^ (8 * j) % 256) = n8 (UInt8.ofNat (n / 2 ^ (8 * j))) := by
        rw [← byte_of]; norm_cast
      have HX := Lib.hid hx
      clear hx
      have hj8 : (lowL n j).length = j := lowL_length n j
      go_wp2_with (at_builtin; refine wpList_bytes rfl _ _ _ rfl _ _ rfl rfl base (l ++ lowL n j) [UInt8.ofNat (n / 2 ^ (8 * j))] ?ap1 ?ap2 ?ap3 ?ap4 ?_)
      case ap1 => exact HO.out.alloc _
      case ap2 => exact src_one Tryz.underlying41 (by rw [← HX.out]; simp [go_sem]) 1
      case ap3 => rw [List.length_append, hj8]; simp; omega
      case ap4 => simp; omega
      intro v2 w2 ho2 hg2 hbl2
      have hf2 := (HF.out.alloc (.cells #[.int .u8 ((n : Int) / 2 ^ (8 * j) % 256)] 5)).trans ((HO.out.alloc _).grown hg2)
      have HH := Lib.hid (And.intro ho2 hf2)
      clear ho2 hg2 hbl2 hf2
      go_wp2_with fail
      go_roundw
      case rel => exact ⟨j + 1, by omega, by go_num, by rw [lowL_succ]; exact HH.out.1, HH.out.2⟩
      case measure => simp [intOf]; omega
    · go_wp2
      go_ret
      have : j = k := by omega
      subst this
      exact ⟨_, rfl, ho, hf⟩

/-- The number of bytes, the lowest first. -/
def valL : List UInt8 → Nat
  | [] => 0
  | x :: xs => x.toNat + 256 * valL xs
theorem valL_snoc (x : UInt8) : ∀ l : List UInt8, valL (l ++ [x]) = valL l + 2 ^ (8 * l.length) * x.toNat
  | [] => by simp [valL]
  | y :: ys => by
    have e : 2 ^ (8 * (ys.length + 1)) = 256 * 2 ^ (8 * ys.length) := by rw [Nat.mul_add, Nat.pow_add]; omega
    rw [List.cons_append, valL, valL_snoc x ys, valL, List.length_cons, e]
    rw [Nat.mul_add, Nat.mul_assoc]; omega
theorem valL_lt : ∀ l : List UInt8, valL l < 2 ^ (8 * l.length)
  | [] => by simp [valL]
  | y :: ys => by
    have e : 2 ^ (8 * (ys.length + 1)) = 256 * 2 ^ (8 * ys.length) := by rw [Nat.mul_add, Nat.pow_add]; omega
    have h := valL_lt ys
    have hy := y.toNat_lt
    rw [valL, List.length_cons, e]
    omega
theorem lowL_cons (n k : Nat) : lowL n (k + 1) = UInt8.ofNat n :: lowL (n / 256) k := by
  unfold lowL
  rw [List.range_succ_eq_map, List.map_cons, List.map_map]
  congr 1
  · simp
  · apply List.map_congr_left
    intro i _
    show UInt8.ofNat (n / 2 ^ (8 * (i + 1))) = UInt8.ofNat (n / 256 / 2 ^ (8 * i))
    rw [Nat.div_div_eq_div_mul, Nat.mul_add, Nat.pow_add, Nat.mul_comm (2 ^ (8 * i))]
theorem valL_lowL : ∀ (k n : Nat), valL (lowL n k) = n % 2 ^ (8 * k)
  | 0, n => by simp [lowL, valL, Nat.mod_one]
  | k + 1, n => by
    rw [lowL_cons, valL, valL_lowL k (n / 256), UInt8.toNat_ofNat']
    have e : 2 ^ (8 * (k + 1)) = 256 * 2 ^ (8 * k) := by rw [Nat.mul_add, Nat.pow_add]; omega
    rw [e, Nat.mod_mul, show (2 : Nat) ^ 8 = 256 from rfl]
theorem lowL_valL : ∀ (l : List UInt8), lowL (valL l) l.length = l
  | [] => by simp [lowL]
  | x :: xs => by
    have hx := x.toNat_lt
    rw [List.length_cons, lowL_cons, valL]
    have e : (x.toNat + 256 * valL xs) / 256 = valL xs := by omega
    rw [e, lowL_valL xs]
    congr 1
    apply UInt8.toNat_inj.1
    rw [UInt8.toNat_ofNat']
    omega
end Go.Proofs.YtphbaaaklgiloaaGreat.Dg

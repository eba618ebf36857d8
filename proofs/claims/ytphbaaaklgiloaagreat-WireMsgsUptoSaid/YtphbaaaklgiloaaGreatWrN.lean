/- wire: what lies in memory, by its bytes; the coder's small functions, writing. -/
import Derived.Test.YtphbaaaklgiloaaGreatWrD
import Derived.Test.YtphbaaaklgiloaaGreatDgAq
import Derived.Laws.Bits64
namespace Go.Proofs.YtphbaaaklgiloaaGreat.Dg
open Go.RowKit
/-- The shapes of values. -/
inductive Sch where
  | num | word | bool | text | data
  | pair (a b : Sch)
  | list (s : Sch)
/-- How many cells. -/
def Sch.sz : Sch → Nat
  | .pair a b => a.sz + b.sz
  | _ => 1
/-- A number's bytes. -/
def numL (n : Int) : List UInt8 := lowL (n % 18446744073709551616).toNat 8
def dataL (m : List UInt8) : List UInt8 := lowL m.length 4 ++ m
/-- The cells f hold a value of shape s whose bytes are m; what it points to lies below base. -/
def EncF (w : World) (base : Nat) : Sch → (Nat → Option Value) → List UInt8 → Prop
  | .num, f, m => ∃ n : Int, f 0 = some (.int .i64 n) ∧ m = numL n
  | .word, f, m => ∃ n : Nat, n < 4294967296 ∧ f 0 = some (.int .u32 (n : Int)) ∧ m = lowL n 4
  | .bool, f, m => ∃ t : Bool, f 0 = some (.bool t) ∧ m = [if t then 1 else 0]
  | .text, f, m => ∃ s : ByteArray, f 0 = some (.string s) ∧ m = textL s.data.toList
  | .data, f, m => ∃ v l, f 0 = some v ∧ Bs w base v l ∧ m = dataL l
  | .pair a b, f, m => ∃ m1 m2, EncF w base a f m1 ∧ EncF w base b (fun k => f (a.sz + k)) m2 ∧ m = m1 ++ m2
  | .list s, f, m => ∃ (A : Option Addr) (n c : Nat) (ms : List (List UInt8)), f 0 = some (.slice A n c) ∧ n ≤ c ∧ c ≤ 9223372036854775807 ∧ ms.length = n ∧
      (n ≠ 0 → ∃ b o, A = some ⟨b, o, none⟩ ∧ b < base ∧ ∀ i, i < n → EncF w base s (fun k => w.cell? ⟨b, o + i * s.sz + k, none⟩) (ms.getD i [])) ∧ m = lowL n 4 ++ ms.flatten
/-- Cells in memory. -/
def mem (w : World) (b o : Nat) : Nat → Option Value := fun k => w.cell? ⟨b, o + k, none⟩
variable {w w' : World} {base cb : Nat} {v : Value} {l : List UInt8}
theorem EncF.congr {w w' : World} {base : Nat} (hw : ∀ b o, b < base → w'.cell? ⟨b, o, none⟩ = w.cell? ⟨b, o, none⟩) : ∀ (s : Sch) (f f' : Nat → Option Value) (m : List UInt8), (∀ k, k < s.sz → f' k = f k) → EncF w base s f m → EncF w' base s f' m
  | .num, f, f', m, hf, h => by obtain ⟨n, h1, h2⟩ := h; exact ⟨n, (hf 0 (by simp [Sch.sz])).trans h1, h2⟩
  | .word, f, f', m, hf, h => by obtain ⟨n, h0, h1, h2⟩ := h; exact ⟨n, h0, (hf 0 (by simp [Sch.sz])).trans h1, h2⟩
  | .bool, f, f', m, hf, h => by obtain ⟨n, h1, h2⟩ := h; exact ⟨n, (hf 0 (by simp [Sch.sz])).trans h1, h2⟩
  | .text, f, f', m, hf, h => by obtain ⟨n, h1, h2⟩ := h; exact ⟨n, (hf 0 (by simp [Sch.sz])).trans h1, h2⟩
  | .data, f, f', m, hf, h => by obtain ⟨v, l, h1, h2, h3⟩ := h; exact ⟨v, l, (hf 0 (by simp [Sch.sz])).trans h1, h2.keep hw, h3⟩
  | .pair a b, f, f', m, hf, h => by
    obtain ⟨m1, m2, h1, h2, h3⟩ := h
    exact ⟨m1, m2, EncF.congr hw a f f' m1 (fun k hk => hf k (by simp only [Sch.sz]; omega)) h1, EncF.congr hw b _ _ m2 (fun k hk => hf (a.sz + k) (by simp only [Sch.sz]; omega)) h2, h3⟩
  | .list s, f, f', m, hf, h => by
    obtain ⟨A, n, c, ms, h1, h2, h3, h4, h5, h6⟩ := h
    refine ⟨A, n, c, ms, (hf 0 (by simp [Sch.sz])).trans h1, h2, h3, h4, fun hn => ?_, h6⟩
    obtain ⟨b, o, hA, hb, hi⟩ := h5 hn
    exact ⟨b, o, hA, hb, fun i hin => EncF.congr hw s _ _ _ (fun k _ => hw b _ hb) (hi i hin)⟩
/-- In memory, below base. -/
def At (w : World) (base : Nat) (s : Sch) (b o : Nat) (m : List UInt8) : Prop := b < base ∧ EncF w base s (mem w b o) m
theorem At.keep {s : Sch} {b o : Nat} {m : List UInt8} (h : At w base s b o m) (hw : ∀ k, k < base → w'.heap[k]? = w.heap[k]?) : At w' base s b o m :=
  ⟨h.1, EncF.congr (fun b' o' hb => World.cell?_of_block (a := ⟨b', o', none⟩) (hw b' hb)) s _ _ m (fun k _ => World.cell?_of_block (a := ⟨b, o + k, none⟩) (hw b h.1)) h.2⟩
theorem At.fst {a b : Sch} {g o : Nat} {m : List UInt8} (h : At w base (.pair a b) g o m) : ∃ m1 m2, At w base a g o m1 ∧ At w base b g (o + a.sz) m2 ∧ m = m1 ++ m2 := by
  obtain ⟨hb, m1, m2, h1, h2, h3⟩ := h
  refine ⟨m1, m2, ⟨hb, h1⟩, ⟨hb, ?_⟩, h3⟩
  have e : mem w g (o + a.sz) = fun k => mem w g o (a.sz + k) := by
    funext k; unfold mem; rw [Nat.add_assoc]
  rw [e]; exact h2
/-- What a function of the coder does when it writes: the value's bytes come behind. -/
def WrPost (w : World) (cb base : Nat) (l m : List UInt8) (e : Ending) (w' : World) : Prop :=
  e = .returned (.tuple #[]) ∧ ∃ v', Cw w' cb base v' (l ++ m) ∧ Fw cb base w w'
/-- All below base stays, the heap being greater. -/
theorem Fw.old (h : Fw cb base w w') (hb : base ≤ cb) (hs : base ≤ w.heap.size) : ∀ k, k < base → w'.heap[k]? = w.heap[k]? := fun k hk => h.below hb k hk (by omega)
theorem numL_length (n : Int) : (numL n).length = 8 := lowL_length _ _
set_option maxRecDepth 100000 in
set_option maxHeartbeats 1000000 in
theorem number_w (n : Int) (b o : Nat) (w : World) (hc : w.cell? ⟨b, o, none⟩ = some (.int .i64 n)) (h : Cw w cb base v l) (hl : l.length ≤ 1000000000000) :
    Calls Tryz.prog 63 #[.pointer (some ⟨cb, 0, none⟩), .pointer (some ⟨b, o, none⟩)] w (WrPost w cb base l (numL n)) := by
  have hr := h.reads
  have HC := Lib.hid h
  obtain ⟨k, hk⟩ : ∃ k : Nat, (n % 18446744073709551616).toNat = k := ⟨_, rfl⟩
  have hk64 : k < 18446744073709551616 := by omega
  have hwr : IntKind.u64.wrap n = (k : Int) := by rw [IntKind.wrap_u64]; omega
  have HK := Lib.hid hk
  have HK6 := Lib.hid hk64
  clear h hk hk64
  go_enter Tryz.func63, Tryz.ntmps63
  go_wp2_with fail
  refine (put_any k HK6.out 8 (by omega) w HC.out (by omega)).mono ?_
  rintro e w2 ⟨rfl, v2, hc2, hf2⟩
  have H2 := Lib.hid (And.intro hc2 hf2)
  clear hc2 hf2
  go_wp2_with fail
  go_end0
  exact ⟨rfl, v2, by rw [numL, HK.out]; exact H2.out.1, H2.out.2⟩
def numsL (ns : List Int) : List UInt8 := (ns.map numL).flatten
theorem numsL_take (ns : List Int) (k : Nat) (h : k < ns.length) : numsL (ns.take (k + 1)) = numsL (ns.take k) ++ numL (ns.getD k 0) := by
  unfold numsL
  rw [List.take_succ_eq_append_getElem h, List.map_append, List.flatten_append]
  simp [List.getD_eq_getElem?_getD, List.getElem?_eq_getElem h]
theorem numsL_length : ∀ ns : List Int, (numsL ns).length = 8 * ns.length
  | [] => rfl
  | n :: ns => by
    have := numsL_length ns
    unfold numsL at this ⊢
    simp only [List.map_cons, List.flatten_cons, List.length_append, numL_length, List.length_cons] at this ⊢
    omega
def ptrV (p : Nat × Nat) : Value := .pointer (some ⟨p.1, p.2, none⟩)
set_option maxRecDepth 100000 in
set_option maxHeartbeats 1000000 in
theorem numbers_w (ps : List (Nat × Nat)) (ns : List Int) (nb : Nat) (w : World) (hk : Bk w nb 140 (ps.map ptrV).toArray) (hlen : ps.length = ns.length) (hshort : ns.length ≤ 100)
    (hcs : ∀ i, i < ns.length → (ps.getD i (0, 0)).1 < base ∧ w.cell? ⟨(ps.getD i (0, 0)).1, (ps.getD i (0, 0)).2, none⟩ = some (.int .i64 (ns.getD i 0)))
    (h : Cw w cb base v l) (hl : l.length + 800 ≤ 1000000000000) :
    Calls Tryz.prog 65 #[.pointer (some ⟨cb, 0, none⟩), .slice (some ⟨nb, 0, none⟩) ns.length ns.length] w (WrPost w cb base l (numsL ns)) := by
  have hne : nb ≠ cb := by
    intro e; subst e
    have h1 : w.heap[nb]? = some (.cells (ps.map ptrV).toArray 140 (0, 0)) := hk
    have h2 : w.heap[nb]? = some (.cells #[.bool false, v] 137 (0, 0)) := h.blk
    rw [h1] at h2
    injection h2 with h2
    injection h2 with _ h2
    exact absurd h2 (by decide)
  have hrow : ∀ cs, w.heap[nb]? ≠ some (.cells cs 5 (0, 0)) := by
    intro cs e
    have h1 : w.heap[nb]? = some (.cells (ps.map ptrV).toArray 140 (0, 0)) := hk
    rw [h1] at e
    injection e with e
    injection e with _ e
    exact absurd e (by decide)
  have hle := h.le
  have hlt := h.lt
  have HC := Lib.hid h
  have HP := Lib.hid hcs
  have HK := Lib.hid (And.intro hk (And.intro hne (And.intro hrow hlen)))
  clear h hcs hk hne hrow hlen
  go_enter Tryz.func65, Tryz.ntmps65
  go_wp2_with fail
  go_loopw [8] (fun i wr => ∃ j : Nat, j ≤ ns.length ∧ i = .int .i64 (j : Int) ∧ ∃ v', Cw wr cb base v' (l ++ numsL (ns.take j)) ∧ Fw cb base w wr) (fun i _ => ns.length - (intOf i).toNat)
  case atStart => exact ⟨0, Nat.zero_le _, rfl, v, by simpa [numsL] using HC.out, Fw.refl _ _ _⟩
  case round =>
    obtain ⟨j, hj, rfl, v3, hc3, hf3⟩ := hrel
    have H3 := Lib.hid (And.intro hc3 hf3)
    by_cases hlt2 : j < ns.length
    · obtain ⟨hpb, hpc⟩ := HP.out j hlt2
      have hblk : Bk wr nb 140 (ps.map ptrV).toArray := (hf3.block nb HK.out.1.lt HK.out.2.1 (.inr HK.out.2.2.1)).trans HK.out.1
      have hpj : wr.cell? ⟨nb, j, none⟩ = some (ptrV (ps.getD j (0, 0))) := by
        refine hblk.cell ?_
        have hjp : j < ps.length := by rw [HK.out.2.2.2]; exact hlt2
        rw [List.getElem?_toArray, List.getElem?_map, List.getElem?_eq_getElem hjp, List.getD_eq_getElem?_getD, List.getElem?_eq_getElem hjp]; rfl
      generalize ps.getD j (0, 0) = pj at *
      have hval : wr.cell? ⟨pj.1, pj.2, none⟩ = some (.int .i64 (ns.getD j 0)) := (World.cell?_of_block (a := ⟨pj.1, pj.2, none⟩) (hf3.old hle (by omega) pj.1 hpb)).trans hpc
      have HS := Lib.hid (numsL_take ns j hlt2)
      have HV := Lib.hid hval
      have hpj' : wr.cell? ⟨nb, j, none⟩ = some (.pointer (some ⟨pj.1, pj.2, none⟩)) := hpj
      have hj0 : (0 : Int) ≤ (j : Int) := by omega
      have hj1 : (j : Int) < (ns.length : Int) := by omega
      have hlen3 : (l ++ numsL (ns.take j)).length ≤ 1000000000000 := by rw [List.length_append, numsL_length, List.length_take]; omega
      have HL3 := Lib.hid hlen3
      clear hc3 hf3 hblk hpj hval hpc hpb hlen3
      go_wp2_with fail
      refine (number_w (ns.getD j 0) pj.1 pj.2 wr HV.out H3.out.1 HL3.out).mono ?_
      rintro e w4 ⟨rfl, v4, hc4, hf4⟩
      have H4 := Lib.hid (And.intro hc4 hf4)
      clear hc4 hf4
      go_wp2_with fail
      go_roundw
      case rel => exact ⟨j + 1, by omega, by go_num, v4, by rw [HS.out, ← List.append_assoc]; exact H4.out.1, H3.out.2.trans H4.out.2⟩
      case measure => simp [intOf]; omega
    · clear hc3 hf3
      go_wp2_with fail
      go_end0
      have : j = ns.length := by omega
      subst this
      exact ⟨rfl, v3, by simpa using H3.out.1, H3.out.2⟩
end Go.Proofs.YtphbaaaklgiloaaGreat.Dg

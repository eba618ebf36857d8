/- The reference's SHA-256: its constants are the standard's; rows that are filled. -/
import Derived.Test.YtpikhfgpdebomaaDoorRsD
import Derived.Test.YtpikhfgpdebomaaDoorRsB
import Derived.Test.YtpikhfgpdebomaaDoorRsM
import Derived.Test.YtpikhfgpdebomaaDoorDgAq
import Derived.Test.YtpikhfgpdebomaaDoorDkA
namespace Go.Proofs.YtpikhfgpdebomaaDoor.Dg
open Go.RowKit
theorem sq_h0 : ∀ i : Fin 8, IntKind.u32.wrap (sqF (((prm 310).getD i.val 0 : Nat) : Int) 36) = n32 (h0 i.val) := by decide +kernel
theorem cb_kk : ∀ i : Fin 64, IntKind.u32.wrap (cbF (((prm 310).getD i.val 0 : Nat) : Int) 35) = n32 (kk i.val) := by decide +kernel
/-- A row of numbers that is filled, since W. -/
def Fil (W w : World) (b : Nat) (t : TypeId) (n : Nat) (f : Nat → UInt32) (k : Nat) : Prop := Ab W w ∧ ∃ cs, Bk w b t cs ∧ U32s cs n (fun j => if j < k then f j else 0)
variable {W w w' : World} {b n k : Nat} {t : TypeId} {f : Nat → UInt32}
theorem Fil.abw (h : Fil W w b t n f k) (ha : Ab w w') : Fil W w' b t n f k := by
  obtain ⟨h1, cs, h2, h3⟩ := h
  exact ⟨h1.trans ha, cs, ha.bk h2, h3⟩
theorem Fil.put (h : Fil W w b t n f k) (hk : k < n) (hb : W.heap.size ≤ b) : Fil W (w.setCell ⟨b, k, none⟩ (.int .u32 (n32 (f k)))) b t n f (k + 1) := by
  obtain ⟨h1, cs, h2, h3⟩ := h
  refine ⟨h1.set hb _, _, h2.store k _, ?_⟩
  have := h3.put (g' := fun j => if j < k + 1 then f j else 0) k hk (fun j _ hj => by
    by_cases c : j < k
    · show (if j < k + 1 then f j else 0) = if j < k then f j else 0
      rw [if_pos c, if_pos (by omega)]
    · show (if j < k + 1 then f j else 0) = if j < k then f j else 0
      rw [if_neg c, if_neg (by omega)])
  rw [show (if k < k + 1 then f k else 0) = f k from if_pos (by omega)] at this
  exact this
theorem Fil.cell (h : Fil W w b t n f k) (hk : k < n) : w.cell? ⟨b, k, none⟩ = some (.int .u32 0) ∧ w.frozen? ⟨b, k, none⟩ = false := by
  obtain ⟨h1, cs, h2, h3⟩ := h
  have : w.cell? ⟨b, k, none⟩ = some (.int .u32 (n32 (if k < k then f k else 0))) := h2.cell (h3.2 k hk)
  rw [if_neg (Nat.lt_irrefl k)] at this
  exact ⟨this, h2.free k⟩
theorem Fil.all (h : Fil W w b t n f n) : Ab W w ∧ ∃ cs, Bk w b t cs ∧ U32s cs n f := by
  obtain ⟨h1, cs, h2, h3⟩ := h
  exact ⟨h1, cs, h2, h3.eqv fun i hi => if_pos hi⟩
theorem zeros32' {cs : Array Value} {n : Nat} (h : cs = Array.replicate n (.int .u32 0)) : U32s cs n fun _ => 0 := by subst h; exact ⟨by simp, fun i hi => by simp [hi]; rfl⟩
theorem Fil.start {cs : Array Value} (ha : Ab W w) (hb : Bk w b t cs) (h : cs = Array.replicate n (.int .u32 0)) (f : Nat → UInt32) : Fil W w b t n f 0 :=
  ⟨ha, _, hb, (zeros32' h).eqv fun i _ => (if_neg (Nat.not_lt_zero i)).symm⟩
/-- Bytes of the call's own, where only other blocks turn. -/
theorem Ob.gw {base g : Nat} {v : Value} {l : List UInt8} (h : Ob w base v l) (hg : Gw g w w') (hne : g < base) : Ob w' base v l := by
  refine ⟨h.1, ?_⟩
  rcases h.2 with hn | ⟨g', cap, cur, hv, hb, hr, rest⟩
  · exact .inl hn
  · exact .inr ⟨g', cap, cur, hv, hb, (hg.5 g' (Array.getElem?_eq_some_iff.1 hr).1 (by simp; omega)).trans hr, rest⟩
theorem Ob.own {base : Nat} {v : Value} {l : List UInt8} (h : Ob w base v l) : ∀ k, v.ownBlock = some k → base ≤ k := by
  intro k hk
  rcases h.2 with ⟨rfl, -⟩ | ⟨g', cap, cur, rfl, hb, -⟩
  · simp [Value.ownBlock] at hk
  · have : g' = k := by simpa [Value.ownBlock] using hk
    omega
/-- Bytes that grow in a row of the call's own, since W. -/
def Gr (W w : World) (A : Option Addr) (n c : Nat) (m : List UInt8) : Prop := m.length = n ∧ Ob w W.heap.size (.slice A n c) m ∧ Ab W w
theorem Gr.of {v : Value} {m : List UInt8} (ho : Ob w W.heap.size v m) (ha : Ab W w) : ∃ A n c, v = .slice A n c ∧ Gr W w A n c m := by
  obtain ⟨A, c, rfl, -, -⟩ := ho.len_cap
  exact ⟨A, _, c, rfl, rfl, ho, ha⟩
theorem Gr.next {v v' : Value} {m m' : List UInt8} (ho : Ob w W.heap.size v m) (ha : Ab W w) (hg : w.grownBy w' v.ownBlock) (ho' : Ob w' W.heap.size v' m') : ∃ A n c, v' = .slice A n c ∧ Gr W w' A n c m' :=
  Gr.of ho' (grown_ab ha hg fun k hk => ho.own k hk)
theorem pad_more {n z : Nat} (h : z < padZ n) : ((n + 1 + z : Nat) : Int) % 64 ≠ 56 := by
  unfold padZ at h
  omega
theorem pad_done {n z : Nat} (h : z = padZ n) : ((n + 1 + z : Nat) : Int) % 64 = 56 := by
  unfold padZ at h
  omega
theorem padZ_lt (n : Nat) : padZ n < 64 := by unfold padZ; omega
theorem lenB_take (x : UInt64) (j : Nat) (h : j < 8) : (lenB x).take (j + 1) = (lenB x).take j ++ [lb x (7 - j)] := by
  rw [take_next _ _ (by rw [lenB_len]; exact h), lenB_at _ _ h]
/-- A whole row that is loaded, at a step of a region that only reads so far. -/
theorem still_load_row {P : Program} {rest : List Oper} {opa : Array Oper} {o : Oper} {a : Act} {Q : Act → Prop} (hgd : o.guard = none) (ty : TypeId) (x : Operand) (ho : o.op = .load ty x)
    (g : Nat) (hx : a.eval x = .pointer (some ⟨g, 0, none⟩)) (t : TypeId) (cs : Array Value) (hg : Bk w g t cs) (d : TypeDesc) (hu : P.underlying ty = some d) (hd : (match d with | .struct _ | .array _ _ => true | _ => false) = true) (hi : (P.info? ty).map (·.size) = some cs.size)
    (h : wpStill P opa w Q rest (a.put o.dst (.agg cs))) : wpStill P opa w Q (o :: rest) a := by
  refine wpStill_step (fun K hK => ?_)
  have hw : Region.wanted o (yielded opa a.tmps) = true := by simp [Region.wanted, hgd]
  rw [if_pos hw]
  unfold Oper.still execOp
  simp only [ho, hx, Instr.loadAt, Instr.sureAddr, Sem.run_bind, Sem.run_pure, Result.andThen_ok, run_loadVar_row w g t ty cs (0, 0) d hg hu hd hi]
  exact ⟨rfl, hK _ h⟩
theorem index8 (cs : Array Value) (k : Nat) (v : Value) (hk : k < 8) (h : cs[k]? = some v) (w : World) : (Instr.index 57 (.agg cs) (.int .i64 k)).run Tryd.prog w = .ok v w := by
  have hs : (sizeOf 28).run Tryd.prog w = .ok 1 w := by kernel_rfl
  have hk2 : (0 : Int) ≤ (k : Int) ∧ (k : Int) < 8 := by omega
  simp [Instr.index, asIntOf, run_underlying Tryd.underlying57, part, hs, hk2, h, Sem.run_bind]
  intro hx; omega
/-- The first m bytes of a chain are out. -/
def cbN (h : Nat → UInt32) (m j : Nat) : UInt8 := if j < m then cb h j else 0
def Out (W w : World) (b : Nat) (h : Nat → UInt32) (m : Nat) : Prop := Ab W w ∧ ∃ cur, Bk w b 30 cur ∧ U8s cur 32 (cbN h m)
theorem Out.put {h : Nat → UInt32} {m : Nat} (ho : Out W w b h m) (hb : W.heap.size ≤ b) (y : UInt8) (hy : cb h m = y) : Out W (w.setCell ⟨b, m, none⟩ (.int .u8 (n8 y))) b h (m + 1) := by
  obtain ⟨h1, cur, h2, h3⟩ := ho
  refine ⟨h1.set hb _, _, h2.store m _, (h3.set m y).eqv fun j _ => ?_⟩
  unfold cbN
  by_cases e : j = m
  · subst e; rw [if_pos rfl, if_pos (by omega), hy]
  · rw [if_neg e]
    by_cases c : j < m
    · rw [if_pos c, if_pos (by omega)]
    · rw [if_neg c, if_neg (by omega)]
theorem Out.cell {h : Nat → UInt32} {m : Nat} (ho : Out W w b h m) (hm : m < 32) : ∃ x, w.cell? ⟨b, m, none⟩ = some (.int .u8 x) ∧ w.frozen? ⟨b, m, none⟩ = false := by
  obtain ⟨h1, cur, h2, h3⟩ := ho
  exact ⟨_, h2.cell (h3.2 m hm), h2.free m⟩
theorem cb_0 (h : Nat → UInt32) (k : Nat) : cb h (4 * k) = (h k >>> 24).toUInt8 := by unfold cb; rw [if_pos (by omega), show 4 * k / 4 = k by omega]
theorem cb_1 (h : Nat → UInt32) (k : Nat) : cb h (4 * k + 1) = (h k >>> 16).toUInt8 := by unfold cb; rw [if_neg (by omega), if_pos (by omega), show (4 * k + 1) / 4 = k by omega]
theorem cb_2 (h : Nat → UInt32) (k : Nat) : cb h (4 * k + 2) = (h k >>> 8).toUInt8 := by unfold cb; rw [if_neg (by omega), if_neg (by omega), if_pos (by omega), show (4 * k + 2) / 4 = k by omega]
theorem cb_3 (h : Nat → UInt32) (k : Nat) : cb h (4 * k + 3) = (h k).toUInt8 := by unfold cb; rw [if_neg (by omega), if_neg (by omega), if_neg (by omega), show (4 * k + 3) / 4 = k by omega]
theorem lenB_grown {A : Option Addr} {n c z j : Nat} {l : List UInt8} {x : UInt64} (h : Gr W w A n c (l ++ ([128] ++ (List.replicate z 0 ++ (lenB x).take j)) ++ [lb x (7 - j)])) (hj : j < 8) : Gr W w A n c (l ++ ([128] ++ (List.replicate z 0 ++ (lenB x).take (j + 1)))) := by
  rw [lenB_take x j hj]
  simpa using h
theorem lenB_grow2 {A : Option Addr} {n c z j : Nat} {l m : List UInt8} {x : UInt64} (h : Gr W w A n c m) (e : m = l ++ ([128] ++ (List.replicate z 0 ++ (lenB x).take j)) ++ [lb x (7 - j)]) (hj : j < 8) : Gr W w A n c (l ++ ([128] ++ (List.replicate z 0 ++ (lenB x).take (j + 1)))) := by
  subst e
  exact lenB_grown h hj
theorem gr_len {A : Option Addr} {n c z j : Nat} {l : List UInt8} {x : UInt64} (h : Gr W w A n c (l ++ ([128] ++ (List.replicate z 0 ++ (lenB x).take j)))) (hj : j ≤ 8) : n = l.length + 1 + z + j := by
  rw [← h.1]
  simp only [List.length_append, List.length_cons, List.length_nil, List.length_replicate, List.length_take, lenB_len]
  omega
end Go.Proofs.YtpikhfgpdebomaaDoor.Dg

/- Arrays in memory and by value; the small functions of SHA-256. -/
import Derived.Test.YtpikhfgpdebomaaDoorDgG
import Derived.Laws.CopyOwn
namespace Go.Proofs.YtpikhfgpdebomaaDoor.Dg
open Go.RowKit
/-- An array of n numbers of 32 bits. -/
def U32s (cs : Array Value) (n : Nat) (f : Nat → UInt32) : Prop := cs.size = n ∧ ∀ i, i < n → cs[i]? = some (.int .u32 (n32 (f i)))
def U8s (cs : Array Value) (n : Nat) (f : Nat → UInt8) : Prop := cs.size = n ∧ ∀ i, i < n → cs[i]? = some (.int .u8 (n8 (f i)))
/-- Each value fills one cell. -/
def Ones (cs : Array Value) : Prop := ∀ v ∈ cs.toList, v.oneCell' = true
theorem ones_of {cs : Array Value} {n : Nat} {p : Nat → Value} (hs : cs.size = n) (h : ∀ i, i < n → cs[i]? = some (p i)) (hp : ∀ i, (p i).oneCell' = true) : Ones cs := by
  intro v hv
  obtain ⟨i, hi, rfl⟩ := List.mem_iff_getElem.1 hv
  have hi' : i < cs.size := by simpa using hi
  have := h i (by omega)
  rw [Array.getElem?_eq_getElem hi'] at this
  rw [Array.getElem_toList, Option.some.inj this]
  exact hp i
theorem U32s.ones {cs : Array Value} {n : Nat} {f : Nat → UInt32} (h : U32s cs n f) : Ones cs := ones_of h.1 h.2 fun _ => rfl
theorem U8s.ones {cs : Array Value} {n : Nat} {f : Nat → UInt8} (h : U8s cs n f) : Ones cs := ones_of h.1 h.2 fun _ => rfl
theorem U32s.eqv {cs : Array Value} {n : Nat} {f f' : Nat → UInt32} (h : U32s cs n f) (e : ∀ i, i < n → f i = f' i) : U32s cs n f' := ⟨h.1, fun i hi => by rw [h.2 i hi, e i hi]⟩
theorem U8s.eqv {cs : Array Value} {n : Nat} {f f' : Nat → UInt8} (h : U8s cs n f) (e : ∀ i, i < n → f i = f' i) : U8s cs n f' := ⟨h.1, fun i hi => by rw [h.2 i hi, e i hi]⟩
theorem U32s.set {cs : Array Value} {n : Nat} {f : Nat → UInt32} (h : U32s cs n f) (k : Nat) (x : UInt32) : U32s (cs.setIfInBounds k (.int .u32 (n32 x))) n (fun i => if i = k then x else f i) := by
  refine ⟨by simp [h.1], fun i hi => ?_⟩
  by_cases hik : i = k
  · subst hik; show _ = some (Value.int .u32 (n32 (if i = i then x else f i))); rw [if_pos rfl]; exact set_eq (by have := h.1; omega)
  · show _ = some (Value.int .u32 (n32 (if i = k then x else f i))); rw [if_neg hik]; exact set_ne (by omega) (h.2 i hi)
theorem U8s.set {cs : Array Value} {n : Nat} {f : Nat → UInt8} (h : U8s cs n f) (k : Nat) (x : UInt8) : U8s (cs.setIfInBounds k (.int .u8 (n8 x))) n (fun i => if i = k then x else f i) := by
  refine ⟨by simp [h.1], fun i hi => ?_⟩
  by_cases hik : i = k
  · subst hik; show _ = some (Value.int .u8 (n8 (if i = i then x else f i))); rw [if_pos rfl]; exact set_eq (by have := h.1; omega)
  · show _ = some (Value.int .u8 (n8 (if i = k then x else f i))); rw [if_neg hik]; exact set_ne (by omega) (h.2 i hi)
/-- A whole row is stored over a block. -/
theorem Bk.row {w : World} {g : Nat} {t : TypeId} {cs : Array Value} (h : Bk w g t cs) (ds : Array Value) : Bk (w.setRow g ds) g t ds := setRow_heap w g cs ds t (0, 0) h
theorem row_far {w : World} {g b : Nat} (ds : Array Value) (hne : b ≠ g) : (w.setRow g ds).heap[b]? = w.heap[b]? := by
  unfold World.setRow; simp [Array.getElem?_modify, Ne.symm hne]
theorem Bk.row_far {w : World} {g b : Nat} {t : TypeId} {cs : Array Value} (h : Bk w b t cs) (hne : b ≠ g) (ds : Array Value) : Bk (w.setRow g ds) b t cs := (Dg.row_far ds hne).trans h
theorem row_size {w : World} {g : Nat} (ds : Array Value) : (w.setRow g ds).heap.size = w.heap.size := by unfold World.setRow; simp
theorem Ab.row {w w1 : World} (h : Ab w w1) {g : Nat} (hg : w.heap.size ≤ g) (ds : Array Value) : Ab w (w1.setRow g ds) := below_setRow h hg ds
theorem Gw.row {w w' : World} {g : Nat} (h : Gw g w w') (ds : Array Value) : Gw g w (w'.setRow g ds) :=
  ⟨h.1, h.2, h.3, by rw [row_size]; exact h.4, fun k hk hne => (Dg.row_far ds (by simpa using hne)).trans (h.5 k hk hne)⟩
theorem run_storeRow {P : Program} (w : World) (g : Nat) (t ty : TypeId) (cur cs : Array Value) (hg : Bk w g t cur) (hs : cur.size = cs.size) (hi : (P.info? ty).map (·.size) = some cs.size) (h1 : Ones cs) :
    (storeVar ty ⟨g, 0, none⟩ (.agg cs)).run P w = .ok () (w.setRow g cs) := by
  cases hq : P.info? ty with
  | none => simp [hq] at hi
  | some i =>
    have hsz : i.size = cs.size := by simpa [hq] using hi
    have hst := run_storeCells_at (P := P) g 0 t cs.toList 0 cur w hg (by simp; omega) h1
    have e : (cur.toList.take (0 + 0) ++ cs.toList ++ cur.toList.drop (0 + 0 + cs.toList.length)).toArray = cs := by
      rw [List.drop_eq_nil_of_le (by simp; omega)]; simp
    rw [e] at hst
    have hc : (Value.agg cs).cells = cs := rfl
    unfold storeVar
    simp [Sem.run_bind, sizeOf, typeInfo, hq, hsz, hc, hst]
/-- The walk's law for a whole array that is stored. -/
theorem wpList_store_row {P : Program} {ops : Array Oper} {rest : List Oper} {o : Oper} {a : Act} {w : World} {Q : Exit → Act → World → Prop} (hgd : o.guard = none) (hdst : o.dst = none) (ty : TypeId) (p x : Operand) (ho : o.op = .store ty p x)
    (g : Nat) (hp : a.eval p = .pointer (some ⟨g, 0, none⟩)) (cs cur : Array Value) (hx : a.eval x = .agg cs) (t : TypeId) (hg : Bk w g t cur) (hs : cur.size = cs.size) (hi : (P.info? ty).map (·.size) = some cs.size) (h1 : Ones cs)
    (h : ∀ w', w.setRow g cs = w' → wpList P ops Q rest a w') : wpList P ops Q (o :: rest) a w := by
  refine wpList_plain hgd fun K hK => ?_
  unfold Oper.wp execOp
  simp only [ho, hp, hx, Instr.storeAt, Instr.sureAddr, Sem.run_bind, Sem.run_pure, Result.andThen_ok, run_storeRow w g t ty cur cs hg hs hi h1]
  have hput : a.put o.dst undef = a := by rw [hdst]; rfl
  show K (a.put o.dst undef) (w.setRow g cs)
  rw [hput]
  exact hK _ _ (h _ rfl)
end Go.Proofs.YtpikhfgpdebomaaDoor.Dg

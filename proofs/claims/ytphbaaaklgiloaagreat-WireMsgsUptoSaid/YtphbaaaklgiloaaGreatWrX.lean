/- wire: fields that are read, joined; a list's row that has grown. -/
import Derived.Test.YtphbaaaklgiloaaGreatWrW
namespace Go.Proofs.YtphbaaaklgiloaaGreat.Dg
open Go.RowKit
variable {w w1 w2 w3 w' wr wx : World} {base cb B b o n j : Nat} {v u : Value} {l m rest : List UInt8} {T E : TypeId} {cs : Array Value} {s : Sch} {ms : List (List UInt8)} {xs : List Value}
theorem szL_append (fs gs : List Sch) : szL (fs ++ gs) = szL fs + szL gs := by
  induction fs with
  | nil => simp [szL]
  | cons a r ih => simp only [List.cons_append, szL, ih]; omega
theorem EncL.append {F : Nat → Prop} : ∀ (fs gs : List Sch) (f : Nat → Option Value) (ms ns : List (List UInt8)), EncL w F fs f ms → EncL w F gs (fun k => f (szL fs + k)) ns → EncL w F (fs ++ gs) f (ms ++ ns)
  | [], gs, f, ms, ns, h, h1 => by
    obtain rfl : ms = [] := h
    simpa [szL] using h1
  | t :: fs, gs, f, ms, ns, h, h1 => by
    obtain ⟨m', r, rfl, h2, h3⟩ := h
    refine ⟨m', r ++ ns, rfl, h2, EncL.append fs gs _ r ns h3 ?_⟩
    simpa [szL, Nat.add_assoc] using h1
theorem Rst.join {fs gs : List Sch} {ms ns : List (List UInt8)} {v1 v2 : Value} {cs1 cs2 : Array Value} {rest1 : List UInt8} (h : Rst fs ms b o T cs rest1 w cb base w1 v1 cs1) (hcb : cb < w.heap.size) (hbw : b < w.heap.size) (hk : Rst gs ns b (o + szL fs) T cs1 rest w1 cb base w2 v2 cs2) :
    Rst (fs ++ gs) (ms ++ ns) b o T cs rest w cb base w2 v2 cs2 := by
  have hs1 := h.mv.size
  have hs2 := hk.mv.size
  refine ⟨hk.cr, hk.bk, hk.size.trans h.size, fun k hk' => ?_, h.mv.trans hk.mv, EncL.append fs gs _ ms ns ?_ ?_⟩
  · rw [szL_append] at hk'
    rw [hk.out k (by omega), h.out k (by omega)]
  · have hF : ∀ k, (w.heap.size ≤ k ∧ k < w1.heap.size) → (w.heap.size ≤ k ∧ k < w2.heap.size) ∧ ∀ o', w2.cell? ⟨k, o', none⟩ = w1.cell? ⟨k, o', none⟩ := fun k hk' =>
      ⟨⟨hk'.1, by omega⟩, fun o' => World.cell?_of_block (a := ⟨k, o', none⟩) (hk.mv.block k hk'.2 (fun e => by omega))⟩
    exact EncL.congr hF fs _ _ ms (fun k hk' => hk.out (o + k) (by omega)) h.enc
  · have hF : ∀ k, (w1.heap.size ≤ k ∧ k < w2.heap.size) → (w.heap.size ≤ k ∧ k < w2.heap.size) ∧ ∀ o', w2.cell? ⟨k, o', none⟩ = w2.cell? ⟨k, o', none⟩ := fun k hk' => ⟨⟨by omega, hk'.2⟩, fun _ => rfl⟩
    exact EncL.congr hF gs _ _ ns (fun k _ => by show cs2[o + (szL fs + k)]? = cs2[o + szL fs + k]?; rw [Nat.add_assoc]) hk.enc
theorem Rst.nums {fs : List Sch} {ms : List (List UInt8)} {v1 : Value} {cs1 : Array Value} (n : Nat) (hn : n ≤ 100) (ns : List (List UInt8)) (hns : ns.length = n) (h8 : ∀ x ∈ ns, x.length = 8) (h : Rst fs ms b o T cs (ns.flatten ++ rest) w cb base w1 v1 cs1)
    (hcb : cb < w.heap.size) (hbw : b < w.heap.size) (hne : b ≠ cb) (hle : base ≤ b) (hz : ∀ i, i < n → cs1[o + szL fs + i]? = some (.int .i64 0)) (ps : List (Nat × Nat)) (hps : ps = (List.range n).map fun i => (b, o + szL fs + i)) :
    Calls Tryz.prog 65 #[.pointer (some ⟨cb, 0, none⟩), .slice (some ⟨w1.heap.size, 0, none⟩) n n] (w1.alloc (.cells (ps.map ptrV).toArray 140)).drew fun e w' => e = .returned (.tuple #[]) ∧ ∃ v' cs', Rst (fs ++ List.replicate n .num) (ms ++ ns) b o T cs rest w cb base w' v' cs' := by
  have hs1 := h.mv.size
  have ha : Ab w1 (w1.alloc (.cells (ps.map ptrV).toArray 140)).drew := ((Ab.refl w1).alloc _).drew
  have hb1 : b < w1.heap.size := by omega
  have hc1 : cb < w1.heap.size := by omega
  have h2 := h.ab ha
  refine (numbers_rd n hn w1.heap.size ps (by rw [hps]; simp) (fun i hi => ?_) ns hns h8 _ (Bk.made w1 _ _).drew h2.cr h2.bk hne hle (by omega) (by omega) hz).mono ?_
  · rw [hps, List.getD_eq_getElem?_getD, List.getElem?_map, List.getElem?_range hi]; rfl
  · rintro e w' ⟨he, v', cs', hx⟩
    exact ⟨he, v', cs', h2.join hcb hbw hx⟩
/-- Where the slice's own cell stands while its row grows. -/
theorem Lr.grown (h : Lr s E b o T cs ms rest w cb base j n u xs wr) (hbw : b < w.heap.size) (hg : wr.grownBy w2 u.ownBlock) : w2.cell? ⟨b, o, none⟩ = some u ∧ w2.frozen? ⟨b, o, none⟩ = false := by
  obtain ⟨cs', h1, -, -, h2⟩ := h.bk
  have hb2 : Bk w2 b T cs' := h1.grown hg (fun e => by have := (h.og.blk b e).1; omega)
  exact ⟨hb2.cell h2, hb2.free o⟩
theorem drop_flat (hjm : j < ms.length) : (ms.drop j).flatten ++ rest = ms.getD j [] ++ ((ms.drop (j + 1)).flatten ++ rest) := by
  rw [List.drop_eq_getElem_cons hjm, List.flatten_cons, List.append_assoc, List.getD_eq_getElem?_getD, List.getElem?_eq_getElem hjm]
  rfl
theorem Lr.cr' (h : Lr s E b o T cs ms rest w cb base j n u xs wr) (hjm : j < ms.length) : ∃ v', Cr wr cb base v' (ms.getD j [] ++ ((ms.drop (j + 1)).flatten ++ rest)) := by
  obtain ⟨v', h1⟩ := h.cr
  rw [drop_flat hjm] at h1
  exact ⟨v', h1⟩
theorem getD_mem (hjm : j < ms.length) : ms.getD j [] ∈ ms := by
  rw [List.getD_eq_getElem?_getD, List.getElem?_eq_getElem hjm]
  exact List.getElem_mem hjm
end Go.Proofs.YtphbaaaklgiloaaGreat.Dg

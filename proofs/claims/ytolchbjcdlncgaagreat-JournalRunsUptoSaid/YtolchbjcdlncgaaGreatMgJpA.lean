/- Texts joined: JpA. -/
import Derived.Test.YtolchbjcdlncgaaGreatMgDkX
import Derived.Test.YtolchbjcdlncgaaGreatMgJnN
import Derived.Test.YtolchbjcdlncgaaGreatMgRjC
/- The pair: the program's disk and journal, and the document's. -/
namespace Go.Proofs.YtolchbjcdlncgaaGreat.Dg
open Go.RowKit
variable {W w w' : World} {gp g gj gk g2 torn torn' B C : Nat} {v v2 row u y : Value} {rs : List (List UInt8)} {d r : Dst} {l m : List UInt8}
attribute [local go_sem ↓] Go.wp_at_zero Go.wp_at_succ
theorem jnum_any (n : Int) (w : World) :
    Calls Tryz.prog 12 #[.int .i64 n] w fun e w' => e = .returned (.int .i64 n) ∧ w = w' := by
  go_enter Tryz.func12, Tryz.ntmps12
  go_wp2
  go_ret
  exact ⟨rfl, rfl⟩
set_option maxHeartbeats 400000 in
theorem jsame_any (w : World) (h : Bs w B u l) (k : Bs w C y m) :
    Calls Tryz.prog 34 #[u, y] w fun e w' => e = .returned (.bool (l == m)) ∧ w = w' := by
  have hc1 := conv_bs h
  have hc2 := conv_bs k
  obtain ⟨A, c, rfl, h1, h2, h3⟩ := h
  obtain ⟨A', c', rfl, k1, k2, k3⟩ := k
  clear h3 k3
  go_enter Tryz.func34, Tryz.ntmps34
  go_wp2
  go_ret
  exact ⟨rfl, rfl⟩
/-- The blocks of the document's side. -/
def RAll (gk g2 : Nat) (v2 : Value) (k : Nat) : Prop := Own g2 v2 k ∨ k = gk
/-- The pair in block gp. -/
structure Pw (W w : World) (gp g gj gk g2 : Nat) (row v v2 : Value) (d r : Dst) (torn torn' : Nat) (rs : List (List UInt8)) : Prop where
  jt : Jt w W.heap.size gj g row torn v d rs
  rt : Rt w W.heap.size gk g2 v2 r torn' rs
  al : Al d r
  apart : ∀ k, JAll gj g row v k → ¬ RAll gk g2 v2 k
  blk : Bk w gp 47 #[.pointer (some ⟨g, 0, none⟩), .pointer (some ⟨gj, 0, none⟩), .pointer (some ⟨g2, 0, none⟩), .pointer (some ⟨gk, 0, none⟩)]
  le : W.heap.size ≤ gp
  ab : Ab W w
theorem Pw.still (h : Pw W w gp g gj gk g2 row v v2 d r torn torn' rs) (k : Ab w w') : Pw W w' gp g gj gk g2 row v v2 d r torn torn' rs :=
  ⟨h.jt.ab k, h.rt.ab k, h.al, h.apart, k.bk h.blk, h.le, h.ab.trans k⟩
theorem Al.same (h : Al d r) : r.base = d.base ∧ r.synced = d.synced ∧ r.bytes = d.bytes ∧ r.fin = d.fin ∧ r.size = d.size := by
  obtain ⟨L, rfl, -⟩ := h
  exact ⟨rfl, rfl, rfl, rfl, rfl⟩
/-- What is read of the pair in any world behind. -/
theorem Pw.cells (h : Pw W w gp g gj gk g2 row v v2 d r torn torn' rs) : w.cell? ⟨gp, 0, none⟩ = some (.pointer (some ⟨g, 0, none⟩)) ∧ w.cell? ⟨gp, 1, none⟩ = some (.pointer (some ⟨gj, 0, none⟩)) ∧
    w.cell? ⟨gp, 2, none⟩ = some (.pointer (some ⟨g2, 0, none⟩)) ∧ w.cell? ⟨gp, 3, none⟩ = some (.pointer (some ⟨gk, 0, none⟩)) ∧
    w.cell? ⟨g2, 1, none⟩ = some (.int .i64 (d.base : Int)) ∧ w.cell? ⟨g2, 2, none⟩ = some (.int .i64 (d.synced : Int)) ∧ w.cell? ⟨gk, 1, none⟩ = some (.int .i64 (torn' : Int)) := by
  obtain ⟨-, c1, c2, -, -⟩ := h.rt.rj.rk.cells
  rw [h.al.same.1] at c1
  rw [h.al.same.2.1] at c2
  exact ⟨h.blk.cell rfl, h.blk.cell rfl, h.blk.cell rfl, h.blk.cell rfl, c1, c2, h.rt.rj.blk.cell rfl⟩
theorem Pw.lt (h : Pw W w gp g gj gk g2 row v v2 d r torn torn' rs) : gp < w.heap.size := h.blk.lt
theorem Pw.apart_p (h : Pw W w gp g gj gk g2 row v v2 d r torn torn' rs) : ¬ JAll gj g row v gp ∧ ¬ RAll gk g2 v2 gp := by
  refine ⟨fun e => ?_, fun e => ?_⟩
  · rcases e with (e | e) | e | e
    · exact absurd (Bk.inj h.blk (e ▸ h.jt.dk.1)) (by decide)
    · rcases h.jt.dk.2.1 with ⟨rfl, _⟩ | ⟨g', cap, pre, post, rfl, _, hg, _⟩
      · simp [Value.ownBlock] at e
      · have : g' = gp := by simpa [Value.ownBlock] using e
        subst this
        exact absurd (Bk.inj h.blk hg) (by decide)
    · exact absurd (Bk.inj h.blk (e ▸ h.jt.jb.blk)) (by decide)
    · exact absurd (h.jt.jb.row.type e h.blk) (by decide)
  · rcases e with (e | e) | e
    · exact absurd (Bk.inj h.blk (e ▸ h.rt.rj.rk.1)) (by decide)
    · exact absurd (h.rt.rj.rk.2.1.type e h.blk) (by decide)
    · exact absurd (Bk.inj h.blk (e ▸ h.rt.rj.blk)) (by decide)
theorem Rj.all_ge {base : Nat} (h : Rj w base gk g2 v2 r torn) {k : Nat} (hk : RAll gk g2 v2 k) : base ≤ k ∧ k < w.heap.size := by
  rcases hk with (rfl | hk) | rfl
  · exact ⟨h.rk.2.2.1, h.rk.1.lt⟩
  · exact h.rk.2.1.blk k hk
  · exact ⟨h.le, h.blk.lt⟩
theorem Rt.mv {S : Nat → Prop} {base : Nat} (h : Rt w base gk g2 v2 r torn rs) (hm : Mv S w w') (hn : ∀ k, RAll gk g2 v2 k → ¬ S k) : Rt w' base gk g2 v2 r torn rs :=
  ⟨⟨h.rj.rk.mv hm (fun k hk => hn k (.inl hk)), hm.bk h.rj.blk (hn gk (.inr rfl)), h.rj.le⟩, h.bytes, h.small⟩
theorem Jt.mv {S : Nat → Prop} {base : Nat} (h : Jt w base gj g row torn v d rs) (hm : Mv S w w') (hn : ∀ k, JAll gj g row v k → ¬ S k) : Jt w' base gj g row torn v d rs :=
  ⟨h.dk.mv hm (fun k hk => hn k (.inl hk)), h.jb.mv hm (fun k hk => hn k (.inr hk)), h.bytes, h.small⟩
/-- Records, both sides the same. -/
theorem Told.get {T : TypeId} {base a : Nat} {s : Value} (h : Told T w base s a rs) : ∃ ps, Rl T w base s ps ∧ ps.length = rs.length ∧ ∀ k, (hk : k < ps.length) → ps[k].at_ = plc a rs k ∧ ps[k].bytes = rs.getD k [] := h
theorem Bs.put {i : Nat} {o o' : Obj} (h : Bs w B u l) (hl : w.heap[i]? = some o) (ho : o.isCells = false) : Bs (w.putObj i o') B u l := by
  obtain ⟨A, c, hv, h1, h2, h3⟩ := h
  refine ⟨A, c, hv, h1, h2, fun hn => ?_⟩
  obtain ⟨b, off, hA, hb, hc⟩ := h3 hn
  exact ⟨b, off, hA, hb, fun k hk => cell_kept (hc k hk) (grownBy_putObj' w i o') (fun r e => by cases e; exact ⟨o, hl, ho⟩)⟩
theorem ab_keeps (h : Ab w w') : KeepsOthers w w' := ⟨h.size, fun k _ hk _ => (Below.block h k (Array.getElem?_eq_some_iff.1 hk).1).trans hk⟩
theorem Ab.trans_below {w3 : World} (h : Ab w w') (k : Below w.heap.size w' w3) : Ab w w3 := Below.trans h k
/-- What is handed over in a round of the iterator. -/
def OkR (ps : List Pr) (pre : List Pr) (x : Pr) (W : World) : Prop :=
  x.at_ = (ps.getD pre.length ⟨0, .slice none 0 0, []⟩).at_ ∧ x.bytes = (ps.getD pre.length ⟨0, .slice none 0 0, []⟩).bytes ∧ pre.length < ps.length ∧ Bs W W.heap.size x.val x.bytes
theorem OkR.put {ps pre : List Pr} {x : Pr} {i : Nat} {o o' : Obj} (h : OkR ps pre x w) (hl : w.heap[i]? = some o) (ho : o.isCells = false) (e : w' = w.putObj i o') : OkR ps pre x w' := by
  subst e
  exact ⟨h.1, h.2.1, h.2.2.1, (h.2.2.2.put hl ho).more (grownBy_putObj' w i o').size⟩
theorem getD_pr (ps : List Pr) (k : Nat) (h : k < ps.length) : ps.getD k ⟨0, .slice none 0 0, []⟩ = ps[k] := by rw [List.getD_eq_getElem?_getD, List.getElem?_eq_getElem h]; rfl
end Go.Proofs.YtolchbjcdlncgaaGreat.Dg

/- Texts joined: JrH JrF JrG LJRuns. -/
import Derived.Test.YtolchbjcdlncgaaGreatRows
import Derived.Deep.Slices
import Derived.Test.YtolchbjcdlncgaaGreatMgJrA
import Derived.Test.YtolchbjcdlncgaaGreatMgDgW
/- Operations that came in; how far they go. -/
namespace Go.Proofs.YtolchbjcdlncgaaGreat.Dg
open Go.RowKit
/-- The operations that came in. -/
structure Ops (W : World) (bb off n : Nat) (K N : Nat → Int) (Z : Nat → Value) (L : Nat → List UInt8) : Prop where
  lt : 0 < n → bb < W.heap.size
  c0 : ∀ i, i < n → W.cell? ⟨bb, off + i * 3, none⟩ = some (.int .u8 (K i))
  c1 : ∀ i, i < n → W.cell? ⟨bb, off + (i * 3 + 1), none⟩ = some (.int .i64 (N i))
  c2 : ∀ i, i < n → W.cell? ⟨bb, off + (i * 3 + 2), none⟩ = some (Z i)
  k0 : ∀ i, i < n → 0 ≤ K i
  n9 : ∀ i, i < n → N i ≤ 9223372036854775807
  bs : ∀ i, i < n → Bs W W.heap.size (Z i) (L i)
/-- How far the first j operations go. -/
def farL (L : Nat → List UInt8) : Nat → Nat
  | 0 => 0
  | j + 1 => farL L j + (8 + (L j).length)
theorem farL_mono (L : Nat → List UInt8) {i j : Nat} (h : i ≤ j) : farL L i ≤ farL L j := by
  induction j with
  | zero => have : i = 0 := by omega
            subst this; exact Nat.le_refl _
  | succ j ih =>
    by_cases e : i = j + 1
    · subst e; exact Nat.le_refl _
    · have := ih (by omega)
      show _ ≤ farL L j + (8 + (L j).length)
      omega
end Go.Proofs.YtolchbjcdlncgaaGreat.Dg

/- JournalRuns' walk. -/
namespace Go.Proofs.YtolchbjcdlncgaaGreat.Dg
open Go.RowKit
variable {W w w' : World} {gp g gj gk g2 torn torn' B C base b : Nat} {v v' v2 row row' u y pj pk a c z : Value} {rs rs' : List (List UInt8)} {d r d' r' : Dst} {l m : List UInt8}
attribute [local go_sem ↓] Go.wp_at_zero Go.wp_at_succ
theorem jdo_any {k n : Int} {z : Value} (h : Pw W w gp g gj gk g2 row v v2 d r torn torn' rs) (hk : 0 ≤ k) (hn : n ≤ 9223372036854775807) (hz : Bs W W.heap.size z l) (hl : l.length ≤ 100000000000000) (hf : d.fin ≤ 1099511627776) :
    Calls Tryz.prog 8 #[.pointer (some ⟨gp, 0, none⟩), .agg #[.int .u8 k, .int .i64 n, z]] w (DoPost W gp g g2 d l.length) := by
  have e : k.tmod 8 = k % 8 := Int.tmod_eq_emod_of_nonneg hk
  have : k.tmod 8 = 0 ∨ k.tmod 8 = 1 ∨ k.tmod 8 = 2 ∨ k.tmod 8 = 3 ∨ k.tmod 8 = 4 ∨ k.tmod 8 = 5 ∨ k.tmod 8 = 6 ∨ k.tmod 8 = 7 := by omega
  rcases this with h0 | h0 | h0 | h0 | h0 | h0 | h0 | h0
  · exact do_append h (.inl h0) hz hl hf
  · exact do_append h (.inr (.inl h0)) hz hl hf
  · exact do_append h (.inr (.inr h0)) hz hl hf
  · exact do_sync h h0 hf _
  · exact do_read h h0 _
  · exact do_trim h h0 hf _
  · exact do_crash h h0 hn hf _
  · exact do_arm h h0 hn hf _
/-- The pair, somewhere. -/
def Somewhere (W w : World) (gp g g2 f : Nat) : Prop := ∃ gj gk row v v2 d r t t' rs, Pw W w gp g gj gk g2 row v v2 d r t t' rs ∧ d.fin ≤ f
set_option maxRecDepth 100000 in
set_option maxHeartbeats 2000000 in
theorem runs_walk (size : Int) (A : Option Addr) (n cap : Nat) (K N : Nat → Int) (Z : Nat → Value) (L : Nat → List UInt8) (w : World) (hn : n ≤ cap) (hcap : cap ≤ 9223372036854775807) (hops : n ≠ 0 → ∃ bb off, A = some ⟨bb, off, none⟩ ∧ Ops w bb off n K N Z L) (hfar : farL L n ≤ 1099511627776) :
    Calls Tryz.prog 3 #[.int .i64 size, .slice A n cap] w fun e w' => e = .returned (.bool true) ∧ Ab w w' := by
  go_enter Tryz.func3, Tryz.ntmps3
  go_wp2_with fail
  refine (pready_any w size).mono ?_
  rintro e w1 (⟨hs, rfl, ha1⟩ | ⟨hs, gp, rfl, g, gj, gk, g2, row, v, v2, hp⟩)
  · go_wp2_with (go_at_call 7; (refine (awake_any w1).mono ?_); rintro e w8 ⟨rfl, ha8⟩; (have H8 := Lib.hid (ha1.trans ha8)); clear ha8)
    go_ret
    exact ⟨rfl, H8.out⟩
  have H1 := Lib.hid (show Somewhere w w1 gp g g2 0 from ⟨_, _, _, _, _, _, _, _, _, _, hp, Nat.le_refl _⟩)
  have HO := Lib.hid (And.intro hops hfar)
  clear hp hops hfar
  go_wp2_with fail
  go_loopw [24] (fun i wr => ∃ j : Nat, j ≤ n ∧ i = .int .i64 (j : Int) ∧ Somewhere w wr gp g g2 (farL L j)) (fun i _ => n - (intOf i).toNat)
  case atStart => exact ⟨0, Nat.zero_le _, rfl, H1.out⟩
  case round =>
    obtain ⟨j, hj, rfl, hsw⟩ := hrel
    by_cases hlt : j < n
    · obtain ⟨gj1, gk1, row1, v1, v21, d1, r1, t1, t1', rs1, hp1, hf1⟩ := hsw
      obtain ⟨bb, off, rfl, ho⟩ := HO.out.1 (by omega)
      have hb := ho.lt (by omega)
      have k0 := (hp1.ab.cells bb (off + j * 3) hb).trans (ho.c0 j hlt)
      have k1 := (hp1.ab.cells bb (off + (j * 3 + 1)) hb).trans (ho.c1 j hlt)
      have k2 := (hp1.ab.cells bb (off + (j * 3 + 2)) hb).trans (ho.c2 j hlt)
      rw [← Nat.add_assoc] at k1 k2
      have hbs := ho.bs j hlt
      obtain ⟨Az, cz, hzj, -, -, -⟩ := id hbs
      rw [hzj] at hbs k2
      have hp4 := hp1.still ((Ab.refl wr).alloc (.cells #[.int .u8 (K j), .int .i64 (N j), .slice Az (L j).length cz] 29))
      have hbox := Bk.made wr 29 #[.int .u8 (K j), .int .i64 (N j), .slice Az (L j).length cz]
      have x0 : (wr.alloc (.cells #[.int .u8 (K j), .int .i64 (N j), .slice Az (L j).length cz] 29)).cell? ⟨wr.heap.size, 0, none⟩ = some (.int .u8 (K j)) := hbox.cell rfl
      have x1 : (wr.alloc (.cells #[.int .u8 (K j), .int .i64 (N j), .slice Az (L j).length cz] 29)).cell? ⟨wr.heap.size, 1, none⟩ = some (.int .i64 (N j)) := hbox.cell rfl
      have x2 : (wr.alloc (.cells #[.int .u8 (K j), .int .i64 (N j), .slice Az (L j).length cz] 29)).cell? ⟨wr.heap.size, 2, none⟩ = some (.slice Az (L j).length cz) := hbox.cell rfl
      have hm1 : farL L (j + 1) ≤ 1099511627776 := Nat.le_trans (farL_mono L (by omega)) HO.out.2
      have hm2 : farL L (j + 1) = farL L j + (8 + (L j).length) := rfl
      have HC := Lib.hid (jdo_any hp4 (ho.k0 j hlt) (ho.n9 j hlt) hbs (by omega) (by omega))
      have HF1 := Lib.hid (And.intro hf1 hm2)
      have HLT := Lib.hid hlt
      have hi0 : (0 : Int) ≤ (j : Int) := by omega
      have hi1 : (j : Int) < (n : Int) := by omega
      clear hp1 hp4 hbox ho hb hf1 hm1 hm2
      go_wp2_with fail
      refine HC.out.mono ?_
      rintro e w5 ⟨rfl, gj2, gk2, row2, v3, v4, d2, r2, t2, t2', rs2, hp5, hf5⟩
      have hf6 : d2.fin ≤ farL L (j + 1) := by have := HF1.out; omega
      have H5 := Lib.hid (And.intro hp5 hf6)
      clear hp5 hf5 hf6 k0 k1 k2 x0 x1 x2 hi0 hbs
      go_wp2_with fail
      refine (alike_any H5.out.1).mono ?_
      rintro e w6 ⟨rfl, ha6⟩
      have H6 := Lib.hid (show Somewhere w w6 gp g g2 (farL L (j + 1)) from ⟨_, _, _, _, _, _, _, _, _, _, H5.out.1.still ha6, H5.out.2⟩)
      clear ha6
      go_wp2_with fail
      go_roundw
      case rel => exact ⟨j + 1, HLT.out, by go_num, H6.out⟩
      case measure => have h9 := HLT.out; clear hi1; simp [intOf]; omega
    · have HS := Lib.hid hsw
      clear hsw
      go_wp2_with (go_at_call 7; (refine (awake_any wr).mono ?_); rintro e w8 ⟨rfl, ha8⟩; (have H8 := Lib.hid ha8); clear ha8)
      go_ret
      obtain ⟨_, _, _, _, _, _, _, _, _, _, hp, -⟩ := HS.out
      exact ⟨rfl, hp.ab.trans H8.out⟩
end Go.Proofs.YtolchbjcdlncgaaGreat.Dg

/- A list of operations that came in, opened. -/
namespace Go.Proofs.YtolchbjcdlncgaaGreat.Dg
open Go.RowKit Go.ChangeShapes Go.WideShapes Go.ChangeAt Go.Deep
section
variable {H : Type} {enc : TypeId × Value → H} {W : World}
theorem bulk_one {H : Type} (d : DataW H) : 1 ≤ Rows.uptoBulk d := by
  cases d with
  | lit l => cases l <;> simp [Rows.uptoBulk]
  | _ => simp [Rows.uptoBulk]
theorem bulk_length {H : Type} (l : List (DataW H)) : l.length ≤ Rows.uptoBulkAll l := by
  induction l with
  | nil => exact Nat.zero_le _
  | cons x r ih => have := bulk_one x; simp only [Rows.uptoBulkAll, List.length_cons]; omega
theorem bulk_append {H : Type} (l r : List (DataW H)) : Rows.uptoBulkAll (l ++ r) = Rows.uptoBulkAll l + Rows.uptoBulkAll r := by
  induction l with
  | nil => simp [Rows.uptoBulkAll]
  | cons x l ih => simp only [List.cons_append, Rows.uptoBulkAll, ih]; omega
theorem op_row : Tryz.prog.cellsOf 3 = 1 ∧ Tryz.prog.cellsOf 5 = 1 ∧ Tryz.prog.cellsOf 27 = 1 ∧ Tryz.prog.cellsOf 29 = 3 := ⟨by kernel_rfl, by kernel_rfl, by kernel_rfl, by kernel_rfl⟩
set_option maxRecDepth 100000 in
/-- An operation's three cells. -/
theorem open_op {fuel : Nat} {cs : List Value} {x : DataW H × List MemPlace} (hf : DataW.trod enc Tryz.prog W 0 (fun _ => true) true fuel 29 cs = some x) (hlt : ∀ y ∈ x.2, y.block < W.heap.size) :
    ∃ k n A m c, ∃ l : List UInt8, cs = [.int .u8 k, .int .i64 n, .slice A m c] ∧ (Lit.int .u8 k).wf = true ∧ (Lit.int .i64 n).wf = true ∧ Bs W W.heap.size (.slice A m c) l ∧ l.length + 1 ≤ Rows.uptoBulk x.1 := by
  obtain ⟨xs, m, rfl, hx, hlen, hxl, hfs⟩ := DataW.trod_struct Tryz.underlying29 hf
  rw [op_row.2.2.2] at hlen
  match cs, hlen with
  | [c0, c1, c2], _ =>
    match xs, hxl with
    | [x0, x1, x2], _ =>
      have f0 : DataW.trod enc Tryz.prog W 0 (fun _ => true) true m 5 [c0] = some x0 := hfs 0 _ rfl
      have f1 : DataW.trod enc Tryz.prog W 0 (fun _ => true) true m 3 [c1] = some x1 := hfs 1 _ rfl
      have f2 : DataW.trod enc Tryz.prog W 0 (fun _ => true) true m 27 [c2] = some x2 := hfs 2 _ rfl
      obtain ⟨k, h0, e0, w0⟩ := DataW.trod_int Tryz.underlying5 f0
      obtain ⟨a, h1, e1, w1⟩ := DataW.trod_int Tryz.underlying3 f1
      subst hx
      obtain ⟨A, n, c, l, h3, hb, hd⟩ := open_bs3 f2 (fun y hy => hlt y (by simp [hy]))
      injection h0 with h0
      injection h1 with h1
      injection h3 with h3
      subst h0; subst h1; subst h3; subst e0; subst e1
      refine ⟨k, a, A, n, c, l, rfl, w0, w1, hb, ?_⟩
      show l.length + 1 ≤ _
      simp only [List.map_cons, List.map_nil, Rows.uptoBulk, Rows.uptoBulkAll]
      rcases hd with rfl | ⟨es, sp, he, hes⟩
      · simp
      · rw [he]
        have := bulk_length es
        simp only [Rows.uptoBulk]
        omega
set_option maxRecDepth 100000 in
theorem open_ops {fuel : Nat} {cs : List Value} {x : DataW H × List MemPlace} (hf : DataW.trod enc Tryz.prog W 0 (fun _ => true) true fuel 22 cs = some x) (hlt : ∀ y ∈ x.2, y.block < W.heap.size) :
    ∃ A n cap K N Z L, cs = [.slice A n cap] ∧ n ≤ cap ∧ cap ≤ 9223372036854775807 ∧ (n ≠ 0 → ∃ bb off, A = some ⟨bb, off, none⟩ ∧ Ops W bb off n K N Z L) ∧ farL L n ≤ 8 * Rows.uptoBulk x.1 := by
  rcases open_slice Tryz.underlying22 hf with ⟨h, -⟩ | ⟨a, len, cap, m, k, D, Pl, h, -, hl, hm, hmm, rfl, hx⟩
  · exact ⟨none, 0, 0, fun _ => 0, fun _ => 0, fun _ => .nilIface, fun _ => [], h, Nat.le_refl _, by omega, fun h => absurd rfl h, Nat.zero_le _⟩
  · simp only [if_true] at hmm
    subst hmm
    rw [op_row.2.2.2] at hx hlt
    have each : ∀ i, i < len → ∃ t : Int × Int × Value × List UInt8, W.cell? (a.add (i * 3)) = some (.int .u8 t.1) ∧ W.cell? (a.add (i * 3 + 1)) = some (.int .i64 t.2.1) ∧ W.cell? (a.add (i * 3 + 2)) = some t.2.2.1 ∧ (Lit.int .u8 t.1).wf = true ∧ (Lit.int .i64 t.2.1).wf = true ∧ Bs W W.heap.size t.2.2.1 t.2.2.2 ∧ t.2.2.2.length + 1 ≤ Rows.uptoBulk (D i) := by
      intro i hi
      obtain ⟨cs', hc, ht⟩ := hx i (by omega)
      obtain ⟨k, n, A, m, c, l, rfl, w0, w1, hb, hbk⟩ := open_op ht (fun y hy => hlt y (List.mem_append_right _ (List.mem_flatMap.2 ⟨i, List.mem_range.2 (by omega), hy⟩)))
      obtain ⟨-, -, hat⟩ := World.cells?_some hc
      have g0 := hat 0 (by omega)
      have g1 := hat 1 (by omega)
      have g2 := hat 2 (by omega)
      rw [Go.Deep.add_add] at g0 g1 g2
      exact ⟨(k, n, .slice A m c, l), g0, g1, g2, w0, w1, hb, hbk⟩
    obtain ⟨t, ht⟩ := choose_lt each
    have hfar : ∀ j, j ≤ len → farL (fun i => (t i).2.2.2) j ≤ 8 * Rows.uptoBulkAll ((List.range j).map D) := by
      intro j
      induction j with
      | zero => intro _; exact Nat.zero_le _
      | succ j ih =>
        intro hj
        have h1 := ih (by omega)
        have h2 := (ht j (by omega)).2.2.2.2.2.2
        rw [List.range_succ, List.map_append, bulk_append]
        show farL _ j + (8 + (t j).2.2.2.length) ≤ _
        simp only [List.map_cons, List.map_nil, Rows.uptoBulkAll]
        omega
    refine ⟨some a, len, _, fun i => (t i).1, fun i => (t i).2.1, fun i => (t i).2.2.1, fun i => (t i).2.2.2, h, hl, by unfold maxLen at hm; omega, fun h0 => ?_, ?_⟩
    · obtain ⟨ab, ao, spot⟩ := a
      have hspot : spot = none := by simpa [Addr.add] using World.cell?_spot (ht 0 (by omega)).1
      subst hspot
      refine ⟨ab, ao, rfl, fun _ => hlt (.cell ab (ao + 0)) (List.mem_append_left _ (by simp only [MemPlace.row, List.mem_map, List.mem_range]; exact ⟨0, by omega, rfl⟩)), fun i hi => ?_, fun i hi => ?_, fun i hi => ?_, fun i hi => ?_, fun i hi => ?_, fun i hi => (ht i hi).2.2.2.2.2.1⟩
      · have := (ht i hi).1; rw [Addr.add_lit] at this; exact this
      · have := (ht i hi).2.1; rw [Addr.add_lit] at this; exact this
      · have := (ht i hi).2.2.1; rw [Addr.add_lit] at this; exact this
      · exact (range_u8 (zs := [(t i).1]) (fun n hn => by rw [List.mem_singleton] at hn; rw [hn]; exact (ht i hi).2.2.2.1) 0).1
      · have := bounds_i64 (ht i hi).2.2.2.2.1; omega
    · have h1 := hfar len (Nat.le_refl _)
      simp only [Rows.uptoBulk]
      omega
end
end Go.Proofs.YtolchbjcdlncgaaGreat.Dg

/-
  JournalRuns, where what it reads is of bulk at most 1048576: whatever is appended, synced, read, trimmed, torn and opened anew, on a disk of any size: each call answers as the document's journal does, and all that is to be seen is the same; and the document's example holds; the arguments read as before.
  The bound is used for one thing: that no place passes 2^40, where the document's answer for Arm ends.
-/
namespace Go.Proofs.YtolchbjcdlncgaaGreat.journalRuns
open Go.RowKit Go.ChangeShapes Go.WideShapes Go.ChangeAt Dg

set_option maxRecDepth 100000 in
theorem contract (H : Type) (enc : TypeId × Value → H) (W : World) (base : Nat) (args : Array Value) (ds gs : List (DataW H)) (before : List MemPlace)
    (hval : ∀ (j : Nat) t v, Tryz.f3.params[j]? = some t → args[j]? = some v → Value.okWide Tryz.prog W .any base t v)
    (hW : DataW.Whole enc Tryz.prog Tryz.f3.params.toList Rows.journalRunsSpec.vars false W args.toList ds gs before) (hk : Rows.uptoSmall H (ds ++ gs) = true) :
    Calls Tryz.prog 3 args W fun e W' => ∃ v, e = .returned v ∧ Rows.journalRunsSpec.post enc Tryz.prog Tryz.f3 false true false false W args v W' := by
  have hW' := hW
  obtain ⟨p, q, hA0, hV, rfl, hfz, hnd⟩ := hW
  have hA : DataW.TrodAll enc Tryz.prog W 0 (fun _ => true) true Tryz.f3.params.toList args.toList ds p := hA0
  rw [Tryz.params3] at hA hval
  obtain ⟨v0, vs0, d0, ds0, p0, q0, hargs, rfl, rfl, h0, r0⟩ := trodAll_cons hA
  obtain ⟨v1, vs1, d1, ds1, p1, q1, rfl, rfl, rfl, h1, r1⟩ := trodAll_cons r0
  obtain ⟨rfl, rfl, rfl⟩ := trodAll_nil r1
  obtain rfl : args = #[v0, v1] := by cases args; simp_all
  obtain ⟨rfl, rfl⟩ := trodVars_none hV
  clear hA0
  simp only [List.append_nil] at hW'
  simp only [List.append_nil] at hk
  obtain ⟨n, hv0, -⟩ := open_int Tryz.underlying3 (hval 0 3 v0 rfl rfl) h0
  subst hv0
  obtain ⟨a1, len1, cap1, rfl⟩ := okWide_slice Tryz.underlying22 (hval 1 22 v1 rfl rfl)
  obtain ⟨fuel, hf⟩ := id h1
  obtain ⟨A, m, cap, K, N, Z, L, hcs, hmc, hcap, hops, hfar⟩ := open_ops hf (fun x hx => hW'.lt x (List.mem_append_right _ hx))
  simp [Value.cells] at hcs
  obtain ⟨rfl, rfl, rfl⟩ := hcs
  have hb : Rows.uptoBulkAll [d0, d1] ≤ 1048576 := of_decide_eq_true hk
  simp only [Rows.uptoBulkAll] at hb
  refine (runs_walk n a1 len1 cap1 K N Z L W hmc hcap hops (by have h9 : farL L len1 ≤ 8 * Rows.uptoBulk d1 := hfar; omega)).mono fun e W' ⟨he, hg⟩ => ?_
  subst he
  have h0' := Below.trod (by kernel_rfl) (by kernel_rfl) (of_decide_eq_true (by kernel_rfl)) h0 hg (fun x hx => hW'.lt x (List.mem_append_left _ hx))
  have h1' := Below.trod (by kernel_rfl) (by kernel_rfl) (of_decide_eq_true (by kernel_rfl)) h1 hg (fun x hx => hW'.lt x (List.mem_append_right _ hx))
  refine ⟨_, rfl, _, _, _, [], p0 ++ (p1 ++ []), [], hW', ?_, ?_, rfl, Below.frame hg _, fun h => by cases h⟩
  · exact trodAll_cons_mk (shut_bool Tryz.underlying4 _) trodAll_mk0
  · exact trodAll_cons_mk h0' (trodAll_cons_mk h1' trodAll_mk0)

theorem own : ownKnob Tryz.prog.godebug = none := by kernel_rfl
theorem laid_met (os : Os) : laidMet Tryz.prog Rows.journalRunsUptoRow.laid ((laidWorld os).forCall (fun _ _ => 0) ⟨#[], #[.int .i64 0, .slice none 0 0], []⟩).memory :=
  laidMet_of_run' 8 (by kernel_rfl) (by kernel_rfl)
theorem reads (os : Os) {H : Type} (enc : TypeId × Value → H) : ∃ places, DataW.whole enc Tryz.prog ((laidWorld os).forCall (fun _ _ => 0) ⟨#[], #[.int .i64 0, .slice none 0 0], []⟩).memory Tryz.f3.params.toList Rows.journalRunsSpec.vars false #[Value.int .i64 0, Value.slice none 0 0].toList 8 = some ([.lit (.int .i64 0), .nil], [], places) :=
  ⟨[], by kernel_rfl⟩

set_option maxRecDepth 100000 in
theorem lifted (os : Os) (started : os.Started) (H : Type) (enc : TypeId × Value → H) (F : Stop.Interp) :
    ReturnsInHanded {} Tryz.checked os 3 .any ((Rows.OpenSpec.upto Rows.journalRunsSpec).preRow enc Tryz.prog Tryz.f3 Rows.journalRunsUptoRow.domain false Rows.journalRunsUptoRow.laid) (((Rows.OpenSpec.upto Rows.journalRunsSpec).at F).post enc Tryz.prog Tryz.f3 false true false false) := by
  obtain ⟨places, hx⟩ := reads os enc
  refine returnsInHanded_of_row (C := Tryz.checked) (s := Rows.OpenSpec.upto Rows.journalRunsSpec) own started (by kernel_rfl) Tryz.func3
    (witness_row_at (enc := enc) (C := Tryz.checked) false (laidWorld os) #[.int .i64 0, .slice none 0 0] rfl (by kernel_rfl) (by kernel_rfl) (by kernel_rfl)
      (OpenSpec.preRow_of_cond 8 hx (by kernel_rfl) (fun k hk => by cases hk; kernel_rfl) (by kernel_rfl) (laid_met os))) ?_
  intro W base args ds gs before hval hW hc1 hc2 _ _ _ _
  exact contract H enc W base args ds gs before hval hW (by first | exact hc1 _ rfl | exact hc2 _ rfl)

set_option maxRecDepth 100000 in
theorem said : Rows.JournalRunsUptoSaid :=
  OpenClaim.holds_of_cond 3 Tryz.f3 rfl rfl rfl rfl rfl rfl rfl ⟨rfl, rfl, rfl, rfl, rfl⟩ rfl rfl rfl rfl rfl (by kernel_rfl) Tryz.func3 (by kernel_rfl)
    (of_decide_eq_true (by kernel_rfl)) (by unfold Func.isWrapper; first | (rw [if_pos (by decide +kernel)]; kernel_rfl) | (rw [if_neg (by decide +kernel)]; exact ⟨rfl, rfl⟩))
    (fun os started H enc _ F => by rw [OpenClaim.pre_eq_preRow]; exact lifted os started H enc F)

end Go.Proofs.YtolchbjcdlncgaaGreat.journalRuns

/- Texts joined: JnL JnM. -/
import Derived.Test.YtolchbjcdlncgaaGreatMgJnK
import Derived.Test.YtolchbjcdlncgaaGreatMgOgB
/- The journal: all records, read. -/
namespace Go.Proofs.YtolchbjcdlncgaaGreat.Dg
open Go.RowKit
variable {w w' : World} {base a g gj torn B : Nat} {v row u : Value} {rs : List (List UInt8)} {d : Dst} {l : List UInt8}
attribute [local go_sem ↓] Go.wp_at_zero Go.wp_at_succ
theorem infoRec : (Tryz.prog.info? 104).map (fun i => (i.zero, i.size, i.bytes)) = some (some (.agg #[.int .i64 0, .slice none 0 0]), 2, 32) := by kernel_rfl
/-- All that there is, told. -/
def Told (T : TypeId) (w : World) (base : Nat) (v : Value) (a : Nat) (rs : List (List UInt8)) : Prop := ∃ ps, Rl T w base v ps ∧ ps.length = rs.length ∧ Tells (plc a rs) (fun k => rs.getD k []) ps
/-- .. the first k of it. -/
def ToldTo (T : TypeId) (w : World) (base : Nat) (v : Value) (a : Nat) (rs : List (List UInt8)) (k : Nat) : Prop := ∃ ps, Rl T w base v ps ∧ ps.length = k ∧ Tells (plc a rs) (fun k => rs.getD k []) ps
set_option maxRecDepth 100000 in
set_option maxHeartbeats 2000000 in
theorem jread_any (w : World) (h : Jt w base gj g row torn v d rs) :
    Calls Tryz.prog 60 #[.pointer (some ⟨gj, 0, none⟩)] w fun e w' => ∃ A c, e = .returned (.slice A rs.length c) ∧ Told 104 w' w.heap.size (.slice A rs.length c) d.base rs ∧ Ab w w' := by
  have HT := Lib.hid h
  have c0 := h.ptr
  have hgl := h.jb.blk.lt
  have hlen := h.len
  clear h
  go_enter Tryz.func60, Tryz.ntmps60
  go_wp2_with fail
  refine HT.out.standing.mono ?_
  rintro e w2 ⟨A, c, rfl, hr2, -, ha2⟩
  have hsr := hr2.sr
  obtain ⟨N, hN⟩ : ∃ N, rs.length = N := ⟨_, rfl⟩
  rw [hN] at hsr hlen ⊢
  have HN := Lib.hid hN
  have HS := Lib.hid hsr
  have H2 := Lib.hid ha2
  clear hr2 hsr ha2 hN
  go_wp2_with fail
  go_loopw [3, 11] (fun s3 s11 wr => ∃ k : Nat, ∃ A3 c3, k ≤ N ∧ s3 = .slice A3 k c3 ∧ s11 = .int .i64 (k : Int) ∧ Hid (ToldTo 104 wr w2.heap.size (.slice A3 k c3) d.base rs k ∧ Ab w2 wr)) (fun _ s11 _ => N - (intOf s11).toNat)
  case atStart => exact ⟨0, none, 0, Nat.zero_le _, rfl, rfl, Lib.hid ⟨⟨[], Rl.nil _ _ _, rfl, Tells.nil _ _⟩, Ab.refl w2⟩⟩
  case round =>
    obtain ⟨k, A3, c3, hk, rfl, rfl, HI⟩ := hrel
    by_cases hkN : k < N
    · obtain ⟨⟨ps, hrl, hpl, htl⟩, hab⟩ := HI.out
      have hne : rs ≠ [] := by intro e; have := HN.out; rw [e] at this; simp at this; omega
      have hs' := HS.out.ab hab (Nat.le_refl _)
      obtain ⟨A', c', hv', hcc, -, h3⟩ := hs'
      injection hv' with hva hvn hvc
      subst hva; subst hvc
      clear hvn
      obtain ⟨b, off, rfl, hb, hc⟩ := h3 hne
      obtain ⟨b0, b1, b2⟩ := hc k (by rw [HN.out]; exact hkN)
      obtain ⟨p0, hp0⟩ : ∃ p0, ((plc d.base rs k : Nat) : Int) = p0 := ⟨_, rfl⟩
      obtain ⟨p1, hp1⟩ : ∃ p1, ((plc d.base rs k + 8 : Nat) : Int) = p1 := ⟨_, rfl⟩
      obtain ⟨p2, hp2⟩ : ∃ p2, ((plc d.base rs k + 8 + (rs[k]'(by rw [HN.out]; exact hkN)).length : Nat) : Int) = p2 := ⟨_, rfl⟩
      rw [hp0] at b0
      rw [hp1] at b1
      rw [hp2] at b2
      have hsp : SpanAt d.base rs k p0 p1 p2 := ⟨by rw [HN.out]; exact hkN, hp0.symm, hp1.symm, by rw [getD_rec (by rw [HN.out]; exact hkN)]; exact hp2.symm⟩
      have hx4 := (HT.out.ab (H2.out.trans hab)).ab ((Ab.refl wr).alloc (.cells #[.int .i64 p0, .int .i64 p1, .int .i64 p2] 94))
      have hb4 := Bk.made wr 94 #[.int .i64 p0, .int .i64 p1, .int .i64 p2]
      have ha4 := hab.trans ((Ab.refl wr).alloc (.cells #[.int .i64 p0, .int .i64 p1, .int .i64 p2] 94))
      have hl4 := hrl.ab ((Ab.refl wr).alloc (.cells #[.int .i64 p0, .int .i64 p1, .int .i64 p2] 94))
      have HW4 := Lib.hid (show wr.heap.size ≤ (wr.alloc (.cells #[.int .i64 p0, .int .i64 p1, .int .i64 p2] 94)).heap.size by simp)
      obtain ⟨x0, x1, x2, -, -, -⟩ := hb4.agg3
      have q0 := hx4.ptr
      have HR := Lib.hid (spanRead_any _ (hx4.ab (Ab.refl _).drew) k p0 p1 p2 hsp)
      have H4 := Lib.hid (And.intro ha4 (And.intro hb4 (And.intro hl4 (And.intro hpl (And.intro htl hx4.jb.blk.lt)))))
      have HP := Lib.hid hp0
      have hk0 : (0 : Int) ≤ (k : Int) := by omega
      have hkN' : (k : Int) < (N : Int) := by omega
      clear h3 hc hsp hx4 hb4 ha4 hl4 hrl hpl htl hab hp0 hp1 hp2 HI c0 hb hcc
      go_wp2_with fail
      generalize wr.alloc (.cells #[.int .i64 p0, .int .i64 p1, .int .i64 p2] 94) = w4 at *
      go_region_held3 (fun wx => wx.cell? ⟨wr.heap.size, 0, none⟩ = some (.int .i64 p0) ∧ wx.cell? ⟨wr.heap.size, 1, none⟩ = some (.int .i64 p1) ∧ wx.cell? ⟨wr.heap.size, 2, none⟩ = some (.int .i64 p2) ∧ wx.cell? ⟨gj, 0, none⟩ = some (.pointer (some ⟨g, 0, none⟩))) (first | exact ⟨x0, x1, x2, q0⟩ | exact ⟨y0, y1, y2, s0⟩) (first | (go_at_call 57; (with_reducible refine HR.out.mono ?_); rintro e w5 ⟨A5, n5, c5, hn5, rfl, hu5, ha5⟩; (have y0 := (ha5.cells wr.heap.size 0 H4.out.2.1.lt).trans x0); (have y1 := (ha5.cells wr.heap.size 1 H4.out.2.1.lt).trans x1); (have y2 := (ha5.cells wr.heap.size 2 H4.out.2.1.lt).trans x2); (have s0 := (ha5.cells gj 0 H4.out.2.2.2.2.2).trans q0); (have H5 := Lib.hid (And.intro hn5 (And.intro hu5 ((Ab.refl w4).drew.trans ha5)))); clear hn5 hu5 ha5))
      clear x0 x1 x2 q0 y1 y2 s0
      obtain ⟨R, hR⟩ : ∃ R, rs.getD k [] = R := ⟨_, rfl⟩
      have HRR := Lib.hid hR
      clear hR
      have HPP := Lib.hid (show p0 = ((plc d.base rs k : Nat) : Int) from HP.out.symm)
      go_wp2_with (at_builtin; refine wpList_rl rfl _ _ rfl _ _ rfl rfl Tryz.underlying100 infoRec (by decide) w2.heap.size ps (plc d.base rs k) (.slice A5 n5 c5) R ?ap1 ?ap2 ?ap3 ?ap4 ?ap5 ?_)
      case ap1 => exact (H4.out.2.2.1.ab H5.out.2.2).ab ((Ab.refl _).alloc _)
      case ap2 => rw [HPP.out]; exact src_pair Tryz.underlying100 w5 _ (plc d.base rs k) (.slice A5 n5 c5) rfl
      case ap3 => rw [← HRR.out]; exact (H5.out.2.1.lower (b' := w2.heap.size) H4.out.1.size).ab ((Ab.refl _).alloc _)
      case ap4 => rw [H4.out.2.2.2.1]; omega
      case ap5 => exact (Nat.le_trans H4.out.1.size (Nat.le_trans H5.out.2.2.size (by simp)))
      intro A6 n6 c6 w6 hl6 hg6
      have hn6 : n6 = k + 1 := by
        obtain ⟨A7, c7, hv6, -, -⟩ := hl6.row.len_cap
        injection hv6 with _ hn _
        rw [hn, List.length_append, H4.out.2.2.2.1]
        rfl
      subst hn6
      have ht6 := H4.out.2.2.2.2.1.snoc ⟨plc d.base rs k, .slice A5 n5 c5, R⟩ (by rw [H4.out.2.2.2.1]) (by rw [H4.out.2.2.2.1]; exact HRR.out.symm)
      have ha6 : Ab w2 w6 := grown_ab (H4.out.1.trans (H5.out.2.2.trans ((Ab.refl w5).alloc (.cells #[.int .i64 p0, .slice A5 n5 c5] 104)))) hg6 (fun j hj => (H4.out.2.2.1.row.blk j hj).1)
      have H6 := Lib.hid (And.intro (show ToldTo 104 w6 w2.heap.size (.slice A6 (k + 1) c6) d.base rs (k + 1) from ⟨_, hl6, by rw [List.length_append, H4.out.2.2.2.1]; rfl, ht6⟩) ha6)
      clear hl6 hg6 ht6 ha6 y0
      go_wp2_with fail
      go_roundw
      case rel => exact ⟨k + 1, A6, c6, by omega, rfl, by go_num, H6⟩
      case measure => simp [intOf]; omega
    · have hkn : k = N := by omega
      subst hkn
      have HI2 := HI
      clear HI
      go_wp2_with fail
      go_ret
      obtain ⟨ps, h1, h2, h3⟩ := HI2.out.1
      refine ⟨A3, c3, ?_, ⟨ps, by rw [HN.out]; exact h1.lower H2.out.size, by rw [HN.out]; exact h2, h3⟩, H2.out.trans HI2.out.2⟩
      rw [HN.out]
      rfl
end Go.Proofs.YtolchbjcdlncgaaGreat.Dg

/- The journal: Records. -/
namespace Go.Proofs.YtolchbjcdlncgaaGreat.Dg
open Go.RowKit
variable {w w' : World} {base a g gj torn B : Nat} {v row u : Value} {rs : List (List UInt8)} {d : Dst} {l : List UInt8}
attribute [local go_sem ↓] Go.wp_at_zero Go.wp_at_succ
/-- The iterator: its box holds the rows told. -/
def recF (b : Nat) : Value := .func (.func 61) #[] #[.pointer (some ⟨b, 0, none⟩)]
def RecPost (w : World) (a : Nat) (rs : List (List UInt8)) (e : Ending) (w' : World) : Prop :=
  ∃ b A c, e = .returned (recF b) ∧ Bk w' b 100 #[.slice A rs.length c] ∧ w.heap.size ≤ b ∧ Told 104 w' w.heap.size (.slice A rs.length c) a rs ∧ Ab w w'
set_option maxRecDepth 100000 in
set_option maxHeartbeats 1000000 in
theorem Records_any (w : World) (h : Jt w base gj g row torn v d rs) :
    Calls Tryz.prog 28 #[.pointer (some ⟨gj, 0, none⟩)] w (RecPost w d.base rs) := by
  have h0 := h.ab ((Ab.refl w).alloc (.cells #[.slice none 0 0] 100))
  have HT := Lib.hid h0
  have c0 := h0.ptr
  have hbk := Bk.made w 100 #[.slice none 0 0]
  have HB := Lib.hid (And.intro hbk (show Ab w (w.alloc (.cells #[.slice none 0 0] 100)) from (Ab.refl w).alloc _))
  clear h h0 hbk
  go_enter Tryz.func28, Tryz.ntmps28
  go_wp2_with fail
  generalize w.alloc (.cells #[.slice none 0 0] 100) = w1 at *
  refine (jready_any w1 gj g c0).mono ?_
  rintro e w2 ⟨rfl, rfl⟩
  go_wp2_with fail
  refine (jread_any w1 HT.out).mono ?_
  rintro e w3 ⟨A, c, rfl, ht3, ha3⟩
  have hb3 := ha3.bk HB.out.1
  have q0 := hb3.cell (i := 0) rfl
  have z0 := hb3.free 0
  obtain ⟨ps, h1, h2, h3⟩ := ht3
  have hm : Mv (· = w.heap.size) w3 (w3.setCell ⟨w.heap.size, 0, none⟩ (.slice A rs.length c)) := Mv.set (S := (· = w.heap.size)) (p := ⟨w.heap.size, 0, none⟩) (Mv.refl _ w3) rfl _
  have hsz : w.heap.size < w1.heap.size := HB.out.1.lt
  have ht4 : Told 104 (w3.setCell ⟨w.heap.size, 0, none⟩ (.slice A rs.length c)) w.heap.size (.slice A rs.length c) d.base rs :=
    ⟨ps, Rl.lower (b' := w.heap.size) ⟨h1.row.mv hm (fun k hk e => by have := (h1.row.blk k hk).1; omega), fun p hp => hm.ob (h1.own p hp) (fun k hk e => by have := ((h1.own p hp).blk k hk).1; omega)⟩ (Nat.le_of_lt hsz), h2, h3⟩
  have H3 := Lib.hid (And.intro (hb3.store 0 (.slice A rs.length c)) (And.intro ht4 ((HB.out.2.trans ha3).set (p := ⟨w.heap.size, 0, none⟩) (Nat.le_refl _) (.slice A rs.length c))))
  clear ha3 hb3 h1 h2 h3 hm hsz ht4
  go_wp2_with fail
  go_ret
  exact ⟨w.heap.size, A, c, rfl, H3.out.1, Nat.le_refl _, H3.out.2⟩
end Go.Proofs.YtolchbjcdlncgaaGreat.Dg

/- Texts joined: JnF. -/
import Derived.Test.YtolchbjcdlncgaaGreatMgJnE
/- The journal: find, read. -/
namespace Go.Proofs.YtolchbjcdlncgaaGreat.Dg
open Go.RowKit
variable {w w' : World} {base a g gj torn : Nat} {v row : Value} {rs : List (List UInt8)} {d : Dst}
attribute [local go_sem ↓] Go.wp_at_zero Go.wp_at_succ
/-- Disk and journal: the disk's bytes are the records' frames. -/
structure Jt (w : World) (base gj g : Nat) (row : Value) (torn : Nat) (v : Value) (d : Dst) (rs : List (List UInt8)) : Prop where
  dk : Dk w base g v d
  jb : Jb w base gj g row torn d.base rs
  bytes : d.bytes = framesL rs
  small : AllSmall rs
theorem Jt.ab (h : Jt w base gj g row torn v d rs) (k : Ab w w') : Jt w' base gj g row torn v d rs := ⟨h.dk.ab k, h.jb.ab k, h.bytes, h.small⟩
theorem Jt.size (h : Jt w base gj g row torn v d rs) : sizeL rs = d.bytes.length := by rw [h.bytes, framesL_length]
theorem Jt.len (h : Jt w base gj g row torn v d rs) : 8 * rs.length ≤ 67108864 := by
  have h1 := h.dk.ok.room
  have h2 := h.dk.ok.size2
  have h3 := sizeL_ge rs
  have h4 := h.size
  omega
theorem Jt.len1 (h : Jt w base gj g row torn v d rs) : rs.length ≤ 4611686018427387904 := by have := h.len; omega
theorem Jt.fin (h : Jt w base gj g row torn v d rs) : d.fin = d.base + sizeL rs := by unfold Dst.fin; rw [h.size]
theorem Jt.ptr (h : Jt w base gj g row torn v d rs) : w.cell? ⟨gj, 0, none⟩ = some (.pointer (some ⟨g, 0, none⟩)) := h.jb.blk.cell rfl
/-- All that stand are all that there are. -/
theorem Jt.standing (h : Jt w base gj g row torn v d rs) :
    Calls Tryz.prog 59 #[.pointer (some ⟨gj, 0, none⟩)] w fun e w' => ∃ A c, e = .returned (.slice A rs.length c) ∧ Rw w' base (.slice A rs.length c) d.base rs ∧ (∀ j, (Value.slice A rs.length c).ownBlock = some j → row.ownBlock = some j) ∧ Ab w w' :=
  (standing_any w h.dk h.jb 0 (Nat.zero_le _) (by rw [plc_zero]) h.len1).mono fun e w' ⟨A, n, c, hn, he, hr, ho, ha⟩ => by
    rw [Nat.sub_zero] at hn
    subst hn
    exact ⟨A, c, he, hr, ho, ha⟩
/-- The k-th record's span. -/
def SpanAt (a : Nat) (rs : List (List UInt8)) (k : Nat) (p0 p1 p2 : Int) : Prop := k < rs.length ∧ p0 = ((plc a rs k : Nat) : Int) ∧ p1 = ((plc a rs k + 8 : Nat) : Int) ∧ p2 = ((plc a rs k + 8 + (rs.getD k []).length : Nat) : Int)
theorem getD_rec {k : Nat} (hk : k < rs.length) : rs.getD k [] = rs[k] := by rw [List.getD_eq_getElem?_getD, List.getElem?_eq_getElem hk]; rfl
/-- What find answers. -/
def FindPost (w : World) (a : Nat) (rs : List (List UInt8)) (y : Int) (e : Ending) (w' : World) : Prop :=
  Ab w w' ∧ ((∃ k p0 p1 p2, SpanAt a rs k p0 p1 p2 ∧ y = p0 ∧ e = .returned (.tuple #[.agg #[.int .i64 p0, .int .i64 p1, .int .i64 p2], .bool true])) ∨
    ((∀ k, k < rs.length → ((plc a rs k : Nat) : Int) ≠ y) ∧ e = .returned (.tuple #[.agg #[.int .i64 0, .int .i64 0, .int .i64 0], .bool false])))
theorem Bk.agg3 {t : TypeId} {x y z : Value} (h : Bk w g t #[x, y, z]) : w.cell? ⟨g, 0, none⟩ = some x ∧ w.cell? ⟨g, 1, none⟩ = some y ∧ w.cell? ⟨g, 2, none⟩ = some z ∧ w.frozen? ⟨g, 0, none⟩ = false ∧ w.frozen? ⟨g, 1, none⟩ = false ∧ w.frozen? ⟨g, 2, none⟩ = false :=
  ⟨h.cell rfl, h.cell rfl, h.cell rfl, h.free 0, h.free 1, h.free 2⟩
theorem not_found {i : Nat} {y : Int} (hi : i ≤ rs.length) (hlo : ∀ t, t < i → ((plc a rs t : Nat) : Int) < y) (hhi : ∀ t, i ≤ t → t < rs.length → y ≤ ((plc a rs t : Nat) : Int)) (hf : ¬ (i < rs.length ∧ ((plc a rs i : Nat) : Int) = y)) : ∀ k, k < rs.length → ((plc a rs k : Nat) : Int) ≠ y := by
  intro k hk e
  rcases Nat.lt_trichotomy k i with h | h | h
  · have := hlo k h; omega
  · subst h; exact hf ⟨hk, e⟩
  · have h1 := hhi i (Nat.le_refl _) (by omega)
    have h2 := plc_lt a rs h (by omega)
    omega
set_option maxRecDepth 100000 in
set_option maxHeartbeats 1000000 in
theorem find_any (w : World) (h : Jt w base gj g row torn v d rs) (y : Int) :
    Calls Tryz.prog 56 #[.pointer (some ⟨gj, 0, none⟩), .int .i64 y] w (FindPost w d.base rs y) := by
  have HT := Lib.hid (h.ab ((Ab.refl w).alloc (.cells #[.int .i64 0, .int .i64 0, .int .i64 0] 94)))
  have HA := Lib.hid (show Ab w (w.alloc (.cells #[.int .i64 0, .int .i64 0, .int .i64 0] 94)) from (Ab.refl w).alloc _)
  have HB := Lib.hid (Bk.made w 94 #[.int .i64 0, .int .i64 0, .int .i64 0])
  have HL := Lib.hid h.len1
  clear h
  go_enter Tryz.func56, Tryz.ntmps56
  go_wp2_with fail
  refine HT.out.standing.mono ?_
  rintro e w2 ⟨A, c, rfl, hr2, ho2, ha2⟩
  have hb2 := ha2.bk HB.out
  have H2 := Lib.hid (And.intro hr2.sr (And.intro (HA.out.trans ha2) hb2))
  clear hr2 ho2 ha2 hb2
  go_wp2_with fail
  refine (look_any w2 H2.out.1 (Nat.le_refl _) HL.out y).mono ?_
  rintro e w3 ⟨i, hi, hlo, hhi, rfl, ha3⟩
  obtain ⟨q0, q1, q2, z0, z1, z2⟩ := (ha3.bk H2.out.2.2).agg3
  have H3 := Lib.hid (And.intro hi (And.intro hlo (And.intro hhi (H2.out.2.1.trans ha3))))
  have hsr3 := H2.out.1.ab ha3 (Nat.le_refl _)
  obtain ⟨N, hN⟩ : ∃ N, rs.length = N := ⟨_, rfl⟩
  rw [hN]
  by_cases hf : i < N ∧ ((plc d.base rs i : Nat) : Int) = y
  · have hne : rs ≠ [] := by intro e; rw [e] at hN; simp at hN; omega
    obtain ⟨A', c', hv', hcc, -, h3⟩ := hsr3
    injection hv' with hva _ hvc
    subst hva; subst hvc
    obtain ⟨b, off, rfl, hb, hc⟩ := h3 hne
    obtain ⟨c0, c1, c2⟩ := hc i (by rw [hN]; exact hf.1)
    have hbl : (decide (i < N) && decide (((plc d.base rs i : Nat) : Int) = y)) = true := by rw [decide_eq_true hf.1, decide_eq_true hf.2]; rfl
    rw [hbl]
    have hiN := hf.1
    have HF := Lib.hid (And.intro hf.2 hN)
    have hi0 : (0 : Int) ≤ (i : Int) := by omega
    have hi1 : (i : Int) < (N : Int) := by omega
    rw [hN] at hcc
    obtain ⟨p0, hp0⟩ : ∃ p0, ((plc d.base rs i : Nat) : Int) = p0 := ⟨_, rfl⟩
    obtain ⟨p1, hp1⟩ : ∃ p1, ((plc d.base rs i + 8 : Nat) : Int) = p1 := ⟨_, rfl⟩
    obtain ⟨p2, hp2⟩ : ∃ p2, ((plc d.base rs i + 8 + (rs[i]'(by rw [hN]; exact hiN)).length : Nat) : Int) = p2 := ⟨_, rfl⟩
    rw [hp0] at c0
    rw [hp1] at c1
    rw [hp2] at c2
    have HP := Lib.hid (And.intro hp0 (And.intro hp1 hp2))
    have hb4 := (((ha3.bk H2.out.2.2).store 0 (.int .i64 p0)).store 1 (.int .i64 p1)).store 2 (.int .i64 p2)
    have ha4 : Ab w (((w3.setCell ⟨w.heap.size, 0, none⟩ (.int .i64 p0)).setCell ⟨w.heap.size, 1, none⟩ (.int .i64 p1)).setCell ⟨w.heap.size, 2, none⟩ (.int .i64 p2)) := ((H3.out.2.2.2.set (by simp) _).set (by simp) _).set (by simp) _
    have H4 := Lib.hid (And.intro hb4 ha4)
    clear h3 hc hbl hf hi hlo hhi ha3 hp0 hp1 hp2 hb4 ha4
    go_wp2_with fail
    generalize ((w3.setCell ⟨w.heap.size, 0, none⟩ (.int .i64 p0)).setCell ⟨w.heap.size, 1, none⟩ (.int .i64 p1)).setCell ⟨w.heap.size, 2, none⟩ (.int .i64 p2) = w4 at *
    have hb5 : Bk w4 w.heap.size 94 #[.int .i64 p0, .int .i64 p1, .int .i64 p2] := H4.out.1.eq_ (by simp only [List.setIfInBounds_toArray, List.set_cons_zero, List.set_cons_succ])
    obtain ⟨k0, k1, k2, -, -, -⟩ := hb5.agg3
    refine bodyPost_ret (v := .tuple #[.agg #[.int .i64 p0, .int .i64 p1, .int .i64 p2], .bool true]) ?_ rfl ⟨H4.out.2, .inl ⟨i, p0, p1, p2, ⟨by rw [HF.out.2]; exact hiN, HP.out.1.symm, HP.out.2.1.symm, by rw [getD_rec (by rw [HF.out.2]; exact hiN)]; exact HP.out.2.2.symm⟩, by rw [← HF.out.1]; exact HP.out.1, rfl⟩⟩
    simp [results, Tryz.results56, go_sem, k0, k1, k2]
  · have hbl : (decide (i < N) && decide (((plc d.base rs i : Nat) : Int) = y)) = false := by rw [← Bool.decide_and]; exact decide_eq_false hf
    rw [hbl]
    rw [← hN] at hf
    have hnf := not_found hi hlo hhi hf
    have hb4 := (((ha3.bk H2.out.2.2).store 0 (.int .i64 0)).store 1 (.int .i64 0)).store 2 (.int .i64 0)
    have ha4 : Ab w (((w3.setCell ⟨w.heap.size, 0, none⟩ (.int .i64 0)).setCell ⟨w.heap.size, 1, none⟩ (.int .i64 0)).setCell ⟨w.heap.size, 2, none⟩ (.int .i64 0)) := ((H3.out.2.2.2.set (by simp) _).set (by simp) _).set (by simp) _
    have H4 := Lib.hid (And.intro hb4 (And.intro ha4 hnf))
    clear hbl hf hi hlo hhi ha3 hb4 ha4 hnf hsr3
    go_wp2_with fail
    generalize ((w3.setCell ⟨w.heap.size, 0, none⟩ (.int .i64 0)).setCell ⟨w.heap.size, 1, none⟩ (.int .i64 0)).setCell ⟨w.heap.size, 2, none⟩ (.int .i64 0) = w4 at *
    have hb5 : Bk w4 w.heap.size 94 #[.int .i64 0, .int .i64 0, .int .i64 0] := H4.out.1.eq_ (by simp only [List.setIfInBounds_toArray, List.set_cons_zero, List.set_cons_succ])
    obtain ⟨k0, k1, k2, -, -, -⟩ := hb5.agg3
    refine bodyPost_ret (v := .tuple #[.agg #[.int .i64 0, .int .i64 0, .int .i64 0], .bool false]) ?_ rfl ⟨H4.out.2.1, .inr ⟨H4.out.2.2, rfl⟩⟩
    simp [results, Tryz.results56, go_sem, k0, k1, k2]
/-- A record's bytes lie on the disk. -/
theorem Jt.got (h : Jt w base gj g row torn v d rs) (k : Nat) (hk : k < rs.length) :
    d.got ((plc d.base rs k + 8 : Nat) : Int) (rs[k].length : Int) = rs[k] ∧ d.gotE ((plc d.base rs k + 8 : Nat) : Int) (rs[k].length : Int) = 0 := by
  have hp := plc_succ d.base rs k hk
  have hl := plc_le d.base rs (k + 1)
  have hf := h.fin
  have hb : d.base ≤ plc d.base rs k := by unfold plc; omega
  have hh : d.has ((plc d.base rs k + 8 : Nat) : Int) (rs[k].length : Int) = true := decide_eq_true ⟨by omega, by omega, by omega, by omega⟩
  unfold Dst.got Dst.gotE
  rw [hh]
  refine ⟨?_, rfl⟩
  show (d.bytes.drop (((plc d.base rs k + 8 : Nat) : Int).toNat - d.base)).take (rs[k].length : Int).toNat = rs[k]
  rw [Int.toNat_natCast, Int.toNat_natCast, h.bytes, show plc d.base rs k + 8 - d.base = sizeL (rs.take k) + 8 by unfold plc; omega]
  exact frames_at rs k hk
theorem Jt.plc_bound (h : Jt w base gj g row torn v d rs) (k : Nat) (hk : k < rs.length) : plc d.base rs k + 8 + rs[k].length ≤ 4611686018427387904 := by
  have hp := plc_succ d.base rs k hk
  have hl := plc_le d.base rs (k + 1)
  have := h.dk.ok.reach
  have := h.fin
  omega
set_option maxRecDepth 100000 in
set_option maxHeartbeats 1000000 in
theorem spanRead_any (w : World) (h : Jt w base gj g row torn v d rs) (k : Nat) (p0 p1 p2 : Int) (hs : SpanAt d.base rs k p0 p1 p2) :
    Calls Tryz.prog 57 #[.agg #[.int .i64 p0, .int .i64 p1, .int .i64 p2], .pointer (some ⟨g, 0, none⟩)] w fun e w' =>
      ∃ A n c, n = (rs.getD k []).length ∧ e = .returned (.tuple #[.slice A n c, .int .i64 0]) ∧ Ob w' w.heap.size (.slice A n c) (rs.getD k []) ∧ Ab w w' := by
  obtain ⟨hk, -, hp1, hp2⟩ := hs
  have hg := h.got k hk
  have hpb := h.plc_bound k hk
  rw [← getD_rec hk] at hg hpb
  obtain ⟨m, hm⟩ : ∃ m, (rs.getD k []).length = m := ⟨_, rfl⟩
  rw [hm] at hg hpb hp2
  rw [← hp1] at hg
  rw [hm]
  have e1 : IntKind.i64.wrap (p2 - p1) = (m : Int) := by rw [IntWalk.i64_in _ (by omega)]; omega
  have hm9 : -9223372036854775808 ≤ (m : Int) ∧ (m : Int) ≤ 9223372036854775807 := by omega
  have HM := Lib.hid (And.intro hm9 (And.intro hg hm))
  have HD := Lib.hid h.dk
  clear hg hpb hp1 hp2 hm9 h
  go_enter Tryz.func57, Tryz.ntmps57
  go_wp2_with fail
  have hrd := Read_any _ (HD.out.ab ((Ab.refl w).alloc (.cells #[.int .i64 p0, .int .i64 p1, .int .i64 p2] 94))) p1 (m : Int) HM.out.1
  rw [HM.out.2.1.1, HM.out.2.1.2] at hrd
  refine hrd.mono ?_
  rintro e w2 ⟨u, rfl, hu, ha2⟩
  have ha3 := ((Ab.refl w).alloc (.cells #[.int .i64 p0, .int .i64 p1, .int .i64 p2] 94)).trans ha2
  have hu2 := hu.lower (b' := w.heap.size) (by simp)
  obtain ⟨A, c, rfl, -, -⟩ := hu.len_cap
  rw [HM.out.2.2] at hu2 ⊢
  have H3 := Lib.hid (And.intro hu2 ha3)
  clear hu hu2 ha2 ha3
  go_wp2_with fail
  go_ret2
  exact ⟨A, m, c, rfl, rfl, H3.out⟩
/-- Read. -/
def JReadPost (w : World) (a : Nat) (rs : List (List UInt8)) (y : Int) (e : Ending) (w' : World) : Prop :=
  Ab w w' ∧ ((∃ k, k < rs.length ∧ y = ((plc a rs k : Nat) : Int) ∧ ∃ A n c, n = (rs.getD k []).length ∧ e = .returned (.tuple #[.slice A n c, .int .i64 0]) ∧ Ob w' w.heap.size (.slice A n c) (rs.getD k [])) ∨
    ((∀ k, k < rs.length → ((plc a rs k : Nat) : Int) ≠ y) ∧ e = .returned (.tuple #[.slice none 0 0, .int .i64 2])))
set_option maxRecDepth 100000 in
set_option maxHeartbeats 1000000 in
theorem JRead_any (w : World) (h : Jt w base gj g row torn v d rs) (y : Int) :
    Calls Tryz.prog 21 #[.pointer (some ⟨gj, 0, none⟩), .int .i64 y] w (JReadPost w d.base rs y) := by
  have HT := Lib.hid h
  have c0 := h.ptr
  have hgl := h.jb.blk.lt
  clear h
  go_enter Tryz.func21, Tryz.ntmps21
  go_wp2_with (go_at_call 50; (with_reducible refine (jready_any _ gj g c0).mono ?_); rintro e w2 ⟨rfl, rfl⟩)
  refine (find_any w HT.out y).mono ?_
  rintro e w3 ⟨ha3, hor⟩
  rcases hor with ⟨k, p0, p1, p2, hsp, hy, rfl⟩ | ⟨hn, rfl⟩
  · have h4 := (HT.out.ab ha3).ab ((Ab.refl w3).alloc (.cells #[.int .i64 p0, .int .i64 p1, .int .i64 p2] 94))
    have ha4 := ha3.trans ((Ab.refl w3).alloc (.cells #[.int .i64 p0, .int .i64 p1, .int .i64 p2] 94))
    have q0 := h4.ptr
    have HR := Lib.hid (spanRead_any _ (h4.ab (Ab.refl _).drew) k p0 p1 p2 hsp)
    have hb4 := Bk.made w3 94 #[.int .i64 p0, .int .i64 p1, .int .i64 p2]
    obtain ⟨b0, b1, b2, -, -, -⟩ := hb4.agg3
    have hlt4 : gj < (w3.alloc (.cells #[.int .i64 p0, .int .i64 p1, .int .i64 p2] 94)).heap.size := h4.jb.blk.lt
    have H4 := Lib.hid (And.intro ha4 (And.intro hy (And.intro hsp hb4)))
    have HL := Lib.hid hlt4
    clear h4 ha4 ha3 c0 hgl hy hsp hb4 hlt4
    go_wp2_with fail
    generalize w3.alloc (.cells #[.int .i64 p0, .int .i64 p1, .int .i64 p2] 94) = w4 at *
    go_region_held3 (fun wx => wx.cell? ⟨w3.heap.size, 0, none⟩ = some (.int .i64 p0) ∧ wx.cell? ⟨w3.heap.size, 1, none⟩ = some (.int .i64 p1) ∧ wx.cell? ⟨w3.heap.size, 2, none⟩ = some (.int .i64 p2) ∧ wx.cell? ⟨gj, 0, none⟩ = some (.pointer (some ⟨g, 0, none⟩))) (first | exact ⟨b0, b1, b2, q0⟩ | exact ⟨r0, r1, r2, s0⟩) (first | (go_at_call 57; (with_reducible refine HR.out.mono ?_); rintro e w5 ⟨A, n, c, hn5, rfl, hu5, ha5⟩; (have r0 := (ha5.cells w3.heap.size 0 H4.out.2.2.2.lt).trans b0); (have r1 := (ha5.cells w3.heap.size 1 H4.out.2.2.2.lt).trans b1); (have r2 := (ha5.cells w3.heap.size 2 H4.out.2.2.2.lt).trans b2); (have s0 := (ha5.cells gj 0 HL.out).trans q0); (have H5 := Lib.hid (And.intro hn5 (And.intro hu5 ha5))); clear hn5 hu5 ha5))
    go_wp2
    go_ret2
    exact ⟨H4.out.1.trans ((Ab.refl w4).drew.trans H5.out.2.2), .inl ⟨k, H4.out.2.2.1.1, by rw [H4.out.2.1]; exact H4.out.2.2.1.2.1, A, n, c, H5.out.1, rfl, H5.out.2.1.lower (b' := w.heap.size) H4.out.1.size⟩⟩
  · clear c0
    go_wp2_with fail
    go_ret2
    exact ⟨ha3.trans ((Ab.refl _).alloc _), .inr ⟨hn, rfl⟩⟩
end Go.Proofs.YtolchbjcdlncgaaGreat.Dg

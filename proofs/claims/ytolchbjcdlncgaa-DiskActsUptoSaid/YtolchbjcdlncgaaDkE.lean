/- The program's disk in memory: Sync, Append, Read. -/
import Derived.Test.YtolchbjcdlncgaaDkD
namespace Go.Proofs.Ytolchbjcdlncgaa.Dg
open Go.RowKit
variable {w w' : World} {base g : Nat} {v : Value} {d : Dst}
attribute [local go_sem ↓] Go.wp_at_zero Go.wp_at_succ
theorem Sync_any (w : World) (h : Dk w base g v d) :
    Calls Try.prog 54 #[.pointer (some ⟨g, 0, none⟩)] w fun e w' => e = .returned (.tuple #[]) ∧ Dk w' base g v d.sync ∧ Turn g v v w w' := by
  obtain ⟨h0, h1, h2, h3, h4, h5, h6⟩ := h.cells
  have hr := h.bound
  have hf := h.free
  have HD := Lib.hid h
  obtain ⟨A, c, rfl, -, -⟩ := h.len_cap
  have H0 := Lib.hid h0
  have HF := Lib.hid (frozen_any w g d.lim d.base h2 h4 h5 h6 (by omega))
  have H2 := Lib.hid h2
  have H4 := Lib.hid h4
  obtain ⟨fr, hfr⟩ : ∃ fr, Dst.coldL (d.base + d.bytes.length) d.lim = fr := ⟨_, rfl⟩
  have HR := Lib.hid hfr
  rw [hfr] at HF
  clear h h0 h2 h4 h5 h6 hfr
  cases fr with
  | true =>
    go_enter Try.func54, Try.ntmps54
    go_wp2_with (first | (go_at_call 119; (refine (ready_any _ g true H0.out).mono ?_); rintro e w2 ⟨rfl, rfl⟩) | (go_at_call 121; (refine HF.out.mono ?_); rintro e w3 ⟨rfl, k3, rfl⟩))
    go_end0
    have e : d.sync = d := by unfold Dst.sync Dst.cold Dst.fin; rw [HR.out]; rfl
    rw [e]
    exact ⟨rfl, HD.out.ab ((Ab.refl w).drewN _), Turn.of_ab ((Ab.refl w).drewN _)⟩
  | false =>
    go_enter Try.func54, Try.ntmps54
    go_wp2_with (first | (go_at_call 119; (refine (ready_any _ g true H0.out).mono ?_); rintro e w2 ⟨rfl, rfl⟩) | (go_at_call 121; (refine HF.out.mono ?_); rintro e w3 ⟨rfl, k3, rfl⟩) | (go_at_call 120; (refine (end_at w _ g d.base H2.out H4.out (by omega)).mono ?_); rintro e w4 ⟨rfl, k4, rfl⟩))
    go_end0
    have e : d.sync = { d with synced := d.fin } := by unfold Dst.sync Dst.cold Dst.fin; rw [HR.out]; rfl
    rw [e]
    have hk := HD.out.ok
    have hs := (HD.out.ab ((Ab.refl w).drewN k4)).synced_ d.fin ⟨Nat.le_add_right _ _, Nat.le_refl _, fun l hl => by
      have := HR.out
      rw [hl] at this
      exact Nat.le_of_not_lt (of_decide_eq_false this)⟩
    exact ⟨rfl, hs.1, Turn.after ((Ab.refl w).drewN _) hs.2⟩
/-- Other bytes. -/
theorem Dk.bytes_ {v2 : Value} {w2 : World} {l2 : List UInt8} (h : Dk w base g v d) (ho : Ow w2 base v2 l2) (hg : w.grownBy w2 v.ownBlock) (hb : v2.ownBlock = v.ownBlock ∨ v2.ownBlock = some w.heap.size) (hk : ({ d with bytes := l2 } : Dst).Ok) :
    Dk (w2.setCell ⟨g, 4, none⟩ v2) base g v2 { d with bytes := l2 } ∧ Turn g v v2 w (w2.setCell ⟨g, 4, none⟩ v2) ∧ w2.cell? ⟨g, 4, none⟩ = some v ∧ w2.frozen? ⟨g, 4, none⟩ = false := by
  have hne : v2.ownBlock ≠ some g := fun e => by
    rcases hb with e2 | e2
    · exact h.apart (e2 ▸ e)
    · rw [e] at e2
      have := h.1.lt
      injection e2 with e2
      omega
  have hb2 : Bk w2 g _ _ := (hg.block g h.1.lt (fun e => h.apart e.symm)).trans h.1
  have hm1 : Mv (Own g v) w w2 := Mv.grown (Mv.refl _ w) hg (fun k hk => .inl (.inr hk))
  have hm : Mv (· = g) w2 (w2.setCell ⟨g, 4, none⟩ v2) := Mv.set (S := (· = g)) (p := ⟨g, 4, none⟩) (Mv.refl _ w2) rfl _
  refine ⟨⟨hb2.store 4 _, ho.mv hm (fun k hk e => hne (e ▸ hk)), h.2.2.1, hk⟩, ⟨hm1.trans (hm.mono fun _ _ e => .inl e), fun k hk => ?_⟩, hb2.cell rfl, hb2.free 4⟩
  rcases hb with e | e
  · exact .inl (e ▸ hk)
  · rw [e] at hk
    injection hk with hk
    exact .inr (by omega)
theorem Dk.shape (h : Dk w base g v d) : ∃ A n c, v = .slice A n c := by obtain ⟨A, c, h, -, -⟩ := h.len_cap; exact ⟨A, _, c, h⟩
/-- Append. -/
theorem Append_any {x : Value} {B : Nat} {xs : List UInt8} (w : World) (h : Dk w base g v d) (hx : Bs w B x xs) (hroom : d.fin + xs.length ≤ 4611686018427387904 ∨ d.fits xs.length = false) (hbase : base ≤ w.heap.size) :
    Calls Try.prog 53 #[.pointer (some ⟨g, 0, none⟩), x] w fun e w' => e = .returned (.tuple #[.int .i64 (d.appAt xs.length : Int), .int .i64 (d.appE xs.length : Int)]) ∧ ∃ v', Dk w' base g v' (d.app xs) ∧ Turn g v v' w w' := by
  obtain ⟨h0, h1, h2, h3, h4, h5, h6⟩ := h.cells
  have hr := h.bound
  have hf := h.free
  have hok := h.ok
  have hs1 := hok.room
  have hs2 := hok.size2
  have HD := Lib.hid h
  have HX := Lib.hid hx
  obtain ⟨Ax, cx, rfl, hx1, hx2, -⟩ := id hx
  obtain ⟨A, c, rfl, hc1, hc2⟩ := h.len_cap
  have H0 := Lib.hid h0
  have H2 := Lib.hid h2
  have H4 := Lib.hid h4
  have e1 : IntKind.i64.wrap ((d.size : Int) - (d.bytes.length : Int)) = (d.size : Int) - (d.bytes.length : Int) := IntWalk.i64_in _ (by omega)
  clear h hx h0 h5 h6 hok
  by_cases hgt : (d.size : Int) - (d.bytes.length : Int) < (xs.length : Int)
  · have hfit : d.fits xs.length = false := decide_eq_false (by omega)
    have E1 : d.appAt xs.length = 0 := by unfold Dst.appAt; rw [hfit]; rfl
    have E2 : d.appE xs.length = 28 := by unfold Dst.appE; rw [hfit]; rfl
    have E3 : d.app xs = d := by unfold Dst.app; rw [hfit]; rfl
    rw [E1, E2, E3]
    clear hfit E1 E2 E3 hroom
    go_enter Try.func53, Try.ntmps53
    go_wp2_with (first | (go_at_call 119; (refine (ready_any _ g true H0.out).mono ?_); rintro e w2 ⟨rfl, rfl⟩))
    go_quiet (fail)
    go_wp2_with fail
    refine bodyPost_ret (v := .tuple #[.int .i64 0, .int .i64 28]) ?_ rfl ⟨rfl, .slice A d.bytes.length c, HD.out.ab ((Ab.refl w).drewN _), Turn.of_ab ((Ab.refl w).drewN _)⟩
    simp [results, Try.results53, go_sem]
  · have hfit : d.fits xs.length = true := decide_eq_true (by omega)
    have E1 : d.appAt xs.length = d.fin := by unfold Dst.appAt; rw [hfit]; rfl
    have E2 : d.appE xs.length = 0 := by unfold Dst.appE; rw [hfit]; rfl
    have E3 : d.app xs = { d with bytes := d.bytes ++ xs } := by unfold Dst.app; rw [hfit]; rfl
    have hk : (d.app xs).Ok := HD.out.ok.app xs (by rcases hroom with h | h; exact h; rw [hfit] at h; cases h)
    rw [E3] at hk
    have HK := Lib.hid hk
    rw [E1, E2, E3]
    have hlen : d.bytes.length + xs.length ≤ 200000000000000 := by omega
    have HL := Lib.hid hlen
    clear hfit E1 E2 E3 hk hlen hroom
    go_enter Try.func53, Try.ntmps53
    go_wp2_with (first | (go_at_call 119; (refine (ready_any _ g true H0.out).mono ?_); rintro e w2 ⟨rfl, rfl⟩))
    go_quiet (fail)
    go_wp2_with (first | (go_at_call 120; (refine (end_at w _ g d.base H2.out H4.out (by omega)).mono ?_); rintro e w4 ⟨rfl, k4, rfl⟩) | (at_builtin; refine wpList_ow rfl _ _ _ rfl _ _ rfl rfl base d.bytes xs (HD.out.ab ((Ab.refl w).drewN k4)).2.1 (src_bs Try.underlying30 (show Bs (w.drewN k4) _ _ xs from HX.out)) HL.out hbase ?_))
    intro v2 w2 ho2 hg2 hb2
    obtain ⟨hd3, ht3, hc4, hf4⟩ := (HD.out.ab ((Ab.refl w).drewN k4)).bytes_ ho2 hg2 hb2 HK.out
    obtain ⟨A2, n2, c2, rfl⟩ := hd3.shape
    have H3 := Lib.hid (And.intro hd3 ht3)
    clear hd3 ht3 ho2 hg2 hb2
    go_wp2_with fail
    refine bodyPost_ret (v := .tuple #[.int .i64 ((d.base + d.bytes.length : Nat) : Int), .int .i64 0]) ?_ rfl ⟨rfl, .slice A2 n2 c2, H3.out.1, Turn.after ((Ab.refl w).drewN _) H3.out.2⟩
    simp [results, Try.results53, go_sem]
end Go.Proofs.Ytolchbjcdlncgaa.Dg

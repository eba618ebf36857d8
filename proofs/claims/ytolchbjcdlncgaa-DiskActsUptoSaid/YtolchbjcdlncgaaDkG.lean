/- The program's disk in memory: Trim, Cut, Flip, Wipe, New. -/
import Derived.Test.YtolchbjcdlncgaaDkF
namespace Go.Proofs.Ytolchbjcdlncgaa.Dg
open Go.RowKit
variable {w w' : World} {base g : Nat} {v : Value} {d : Dst}
attribute [local go_sem ↓] Go.wp_at_zero Go.wp_at_succ
/-- Trim. -/
theorem Trim_any (w : World) (h : Dk w base g v d) (at_ : Int) :
    Calls Try.prog 65 #[.pointer (some ⟨g, 0, none⟩), .int .i64 at_] w fun e w' => e = .returned (.int .i64 (d.trimE at_ : Int)) ∧ ∃ v', Dk w' base g v' (d.trim at_) ∧ Turn g v v' w w' := by
  obtain ⟨h0, h1, h2, h3, h4, h5, h6⟩ := h.cells
  have hfz := h.free
  have hr := h.bound
  have hok := h.ok
  have HD := Lib.hid h
  obtain ⟨A, c, rfl, hc1, hc2⟩ := h.len_cap
  have H0 := Lib.hid h0
  have HE := Lib.hid (fun n0 => end_at w n0 g d.base h2 h4 (by omega))
  have HF := Lib.hid (fun n0 => frozen_at w n0 g d.lim d.base h2 h4 h5 h6 (by omega))
  obtain ⟨f, hf⟩ : ∃ f, d.base + d.bytes.length = f := ⟨_, rfl⟩
  rw [hf] at HE HF
  obtain ⟨fr, hfr⟩ : ∃ fr, Dst.coldL f d.lim = fr := ⟨_, rfl⟩
  rw [hfr] at HF
  have hcold : d.cold = fr := by rw [← hfr, ← hf]; rfl
  have hfin : d.fin = f := hf
  have hba : d.base ≤ f := by omega
  have hfr2 : f ≤ 4611686018427387904 := by omega
  have hsy := hok.synced
  cases hgood : d.trims at_ with
  | false =>
    have E1 : d.trimE at_ = 22 := by unfold Dst.trimE; rw [hgood]; rfl
    have E2 : d.trim at_ = d := by unfold Dst.trim; rw [hgood]; rfl
    rw [E1, E2]
    have hb : ¬ ((d.base : Int) ≤ at_ ∧ at_ ≤ (d.synced : Int)) := of_decide_eq_false hgood
    clear h h0 h1 h4 h5 h6 hgood E1 E2 hfin hf hr hc1 hc2 hcold hfr
    by_cases b1 : at_ < (d.base : Int)
    · clear hb
      go_enter Try.func65, Try.ntmps65
      go_wp2_with (first | (go_at_call 119; (refine (ready_any _ g true H0.out).mono ?_); rintro e w2 ⟨rfl, rfl⟩) | (go_at_call 120; (first | (refine (HE.out _).mono ?_) | (refine (HE.out 0).mono ?_)); rintro e w3 ⟨rfl, k3, rfl⟩) | (go_at_call 121; (first | (refine (HF.out _).mono ?_) | (refine (HF.out 0).mono ?_)); rintro e w6 ⟨rfl, k6, rfl⟩))
      go_ret
      exact ⟨rfl, .slice A d.bytes.length c, HD.out.ab (Ab.refl w), Turn.of_ab (Ab.refl w)⟩
    · have b2 : (d.synced : Int) < at_ := by omega
      clear hb
      go_enter Try.func65, Try.ntmps65
      go_wp2_with (first | (go_at_call 119; (refine (ready_any _ g true H0.out).mono ?_); rintro e w2 ⟨rfl, rfl⟩) | (go_at_call 120; (first | (refine (HE.out _).mono ?_) | (refine (HE.out 0).mono ?_)); rintro e w3 ⟨rfl, k3, rfl⟩) | (go_at_call 121; (first | (refine (HF.out _).mono ?_) | (refine (HF.out 0).mono ?_)); rintro e w6 ⟨rfl, k6, rfl⟩))
      go_ret
      exact ⟨rfl, .slice A d.bytes.length c, HD.out.ab (Ab.refl w), Turn.of_ab (Ab.refl w)⟩
  | true =>
    have E1 : d.trimE at_ = 0 := by unfold Dst.trimE; rw [hgood]; rfl
    rw [E1]
    have hb : ((d.base : Int) ≤ at_ ∧ at_ ≤ (d.synced : Int)) := of_decide_eq_true hgood
    have c1 : ¬ at_ < (d.base : Int) := by omega
    have c2 : ¬ (d.synced : Int) < at_ := by omega
    cases fr with
    | true =>
      have E2 : d.trim at_ = d := by unfold Dst.trim; rw [hgood, hcold]; rfl
      rw [E2]
      clear h h0 h1 h4 h5 h6 hgood E1 E2 hfin hf hr hc1 hc2 hcold hfr hb
      go_enter Try.func65, Try.ntmps65
      go_wp2_with (first | (go_at_call 119; (refine (ready_any _ g true H0.out).mono ?_); rintro e w2 ⟨rfl, rfl⟩) | (go_at_call 120; (first | (refine (HE.out _).mono ?_) | (refine (HE.out 0).mono ?_)); rintro e w3 ⟨rfl, k3, rfl⟩) | (go_at_call 121; (first | (refine (HF.out _).mono ?_) | (refine (HF.out 0).mono ?_)); rintro e w6 ⟨rfl, k6, rfl⟩))
      go_ret
      exact ⟨rfl, .slice A d.bytes.length c, HD.out.ab ((Ab.refl w).drewN _), Turn.of_ab ((Ab.refl w).drewN _)⟩
    | false =>
      have E2 : d.trim at_ = { d with base := at_.toNat, bytes := d.bytes.drop (at_.toNat - d.base) } := by unfold Dst.trim; rw [hgood, hcold]; rfl
      have hk := hok.trim at_
      rw [E2] at hk ⊢
      obtain ⟨x, rfl⟩ : ∃ x : Nat, at_ = (x : Int) := ⟨at_.toNat, by omega⟩
      rw [Int.toNat_natCast] at hk ⊢
      obtain ⟨lo, hlo⟩ : ∃ lo, x - d.base = lo := ⟨_, rfl⟩
      obtain ⟨m, hm⟩ : ∃ m, d.bytes.length - lo = m := ⟨_, rfl⟩
      have hll : lo ≤ d.bytes.length := by unfold Dst.fin at hsy; omega
      have HP := Lib.hid (fun n0 => piece_at w n0 g d.base lo d.bytes.length (x : Int) (f : Int) h2 h4 (by omega) (by omega) hll hc1 hc2)
      have hw := h.2.1.win lo d.bytes.length hll (Nat.le_refl _)
      have hdt : (d.bytes.drop lo).take (d.bytes.length - lo) = d.bytes.drop lo := List.take_of_length_le (by rw [List.length_drop]; omega)
      rw [hdt] at hw
      have hown := own_winA A d.bytes.length lo (d.bytes.length - lo) (d.bytes.length - lo) d.bytes.length c
      generalize winA A d.bytes.length lo = A2 at *
      rw [hm] at HP hw hown
      rw [hlo] at hk ⊢
      have H3 := Lib.hid (And.intro hw (And.intro hk hown))
      clear h h0 h1 h5 h6 hgood E1 E2 hfin hf hr hc1 hc2 hcold hfr hb hw hk hown hlo hm hll hdt hok hsy
      go_enter Try.func65, Try.ntmps65
      go_wp2_with (first | (go_at_call 119; (refine (ready_any _ g true H0.out).mono ?_); rintro e w2 ⟨rfl, rfl⟩) | (go_at_call 120; (first | (refine (HE.out _).mono ?_) | (refine (HE.out 0).mono ?_)); rintro e w3 ⟨rfl, k3, rfl⟩) | (go_at_call 121; (first | (refine (HF.out _).mono ?_) | (refine (HF.out 0).mono ?_)); rintro e w6 ⟨rfl, k6, rfl⟩) | (go_at_call 125; (refine (HP.out _).mono ?_); rintro e w4 ⟨rfl, k4, rfl⟩))
      go_ret
      refine ⟨rfl, .slice A2 m m, ?_⟩
      exact Dk.put (w2 := w.drewN k4) (d2 := { d with base := x, bytes := d.bytes.drop lo }) HD.out (H3.out.1.ab ((Ab.refl w).drewN k4)) (grown_still _ _ _) (.inl H3.out.2.2) (setg 2 (.int .i64 (x : Int)) (setg 4 (.slice A2 m m) (Mv.refl _ _))) (fun hb => (hb.store 4 _).store 2 _) H3.out.2.1
/-- Cut. -/
theorem Cut_any (w : World) (h : Dk w base g v d) (at_ : Int) :
    Calls Try.prog 67 #[.pointer (some ⟨g, 0, none⟩), .int .i64 at_] w fun e w' => e = .returned (.int .i64 (d.cutE at_ : Int)) ∧ ∃ v', Dk w' base g v' (d.cut at_) ∧ Turn g v v' w w' := by
  obtain ⟨h0, h1, h2, h3, h4, h5, h6⟩ := h.cells
  have hfz := h.free
  have hr := h.bound
  have hok := h.ok
  have HD := Lib.hid h
  obtain ⟨A, c, rfl, hc1, hc2⟩ := h.len_cap
  have H0 := Lib.hid h0
  have HE := Lib.hid (fun n0 => end_at w n0 g d.base h2 h4 (by omega))
  have HF := Lib.hid (fun n0 => frozen_at w n0 g d.lim d.base h2 h4 h5 h6 (by omega))
  obtain ⟨f, hf⟩ : ∃ f, d.base + d.bytes.length = f := ⟨_, rfl⟩
  rw [hf] at HE HF
  obtain ⟨fr, hfr⟩ : ∃ fr, Dst.coldL f d.lim = fr := ⟨_, rfl⟩
  rw [hfr] at HF
  have hcold : d.cold = fr := by rw [← hfr, ← hf]; rfl
  have hfin : d.fin = f := hf
  have hba : d.base ≤ f := by omega
  have hfr2 : f ≤ 4611686018427387904 := by omega
  cases hgood : d.cuts at_ with
  | false =>
    have E1 : d.cutE at_ = 22 := by unfold Dst.cutE; rw [hgood]; rfl
    have E2 : d.cut at_ = d := by unfold Dst.cut; rw [hgood]; rfl
    rw [E1, E2]
    have hb : ¬ ((d.base : Int) ≤ at_ ∧ at_ ≤ (d.fin : Int)) := of_decide_eq_false hgood
    rw [hfin] at hb
    clear h h0 h1 h4 h5 h6 hgood E1 E2 hfin hf hr hc1 hc2 hcold hfr
    by_cases b1 : at_ < (d.base : Int)
    · clear hb
      go_enter Try.func67, Try.ntmps67
      go_wp2_with (first | (go_at_call 119; (refine (ready_any _ g true H0.out).mono ?_); rintro e w2 ⟨rfl, rfl⟩) | (go_at_call 120; (first | (refine (HE.out _).mono ?_) | (refine (HE.out 0).mono ?_)); rintro e w3 ⟨rfl, k3, rfl⟩) | (go_at_call 121; (first | (refine (HF.out _).mono ?_) | (refine (HF.out 0).mono ?_)); rintro e w6 ⟨rfl, k6, rfl⟩))
      go_ret
      exact ⟨rfl, .slice A d.bytes.length c, HD.out.ab (Ab.refl w), Turn.of_ab (Ab.refl w)⟩
    · have b2 : (f : Int) < at_ := by omega
      clear hb
      go_enter Try.func67, Try.ntmps67
      go_wp2_with (first | (go_at_call 119; (refine (ready_any _ g true H0.out).mono ?_); rintro e w2 ⟨rfl, rfl⟩) | (go_at_call 120; (first | (refine (HE.out _).mono ?_) | (refine (HE.out 0).mono ?_)); rintro e w3 ⟨rfl, k3, rfl⟩) | (go_at_call 121; (first | (refine (HF.out _).mono ?_) | (refine (HF.out 0).mono ?_)); rintro e w6 ⟨rfl, k6, rfl⟩))
      go_ret
      exact ⟨rfl, .slice A d.bytes.length c, HD.out.ab ((Ab.refl w).drewN _), Turn.of_ab ((Ab.refl w).drewN _)⟩
  | true =>
    have E1 : d.cutE at_ = 0 := by unfold Dst.cutE; rw [hgood]; rfl
    rw [E1]
    have hb : ((d.base : Int) ≤ at_ ∧ at_ ≤ (d.fin : Int)) := of_decide_eq_true hgood
    rw [hfin] at hb
    have c1 : ¬ at_ < (d.base : Int) := by omega
    have c2 : ¬ (f : Int) < at_ := by omega
    cases fr with
    | true =>
      have E2 : d.cut at_ = d := by unfold Dst.cut; rw [hgood, hcold]; rfl
      rw [E2]
      clear h h0 h1 h4 h5 h6 hgood E1 E2 hfin hf hr hc1 hc2 hcold hfr hb
      go_enter Try.func67, Try.ntmps67
      go_wp2_with (first | (go_at_call 119; (refine (ready_any _ g true H0.out).mono ?_); rintro e w2 ⟨rfl, rfl⟩) | (go_at_call 120; (first | (refine (HE.out _).mono ?_) | (refine (HE.out 0).mono ?_)); rintro e w3 ⟨rfl, k3, rfl⟩) | (go_at_call 121; (first | (refine (HF.out _).mono ?_) | (refine (HF.out 0).mono ?_)); rintro e w6 ⟨rfl, k6, rfl⟩))
      go_ret
      exact ⟨rfl, .slice A d.bytes.length c, HD.out.ab ((Ab.refl w).drewN _), Turn.of_ab ((Ab.refl w).drewN _)⟩
    | false =>
      have E2 : d.cut at_ = d.leave at_.toNat := by unfold Dst.cut; rw [hgood, hcold]; rfl
      rw [E2]
      obtain ⟨x, rfl⟩ : ∃ x : Nat, at_ = (x : Int) := ⟨at_.toNat, by omega⟩
      rw [Int.toNat_natCast]
      have HX := Lib.hid (show d.base ≤ x ∧ x ≤ d.fin by omega)
      clear h h0 h1 h5 h6 hgood E1 E2 hfin hf hr hc1 hc2 hcold hfr hb hok
      go_enter Try.func67, Try.ntmps67
      go_wp2_with (first | (go_at_call 119; (refine (ready_any _ g true H0.out).mono ?_); rintro e w2 ⟨rfl, rfl⟩) | (go_at_call 120; (first | (refine (HE.out _).mono ?_) | (refine (HE.out 0).mono ?_)); rintro e w3 ⟨rfl, k3, rfl⟩) | (go_at_call 121; (first | (refine (HF.out _).mono ?_) | (refine (HF.out 0).mono ?_)); rintro e w6 ⟨rfl, k6, rfl⟩) | (go_at_call 123; (refine (leave_any (w.drewN k6) (HD.out.ab ((Ab.refl w).drewN k6)) x HX.out.1 HX.out.2).mono ?_); rintro e w7 ⟨rfl, v7, hd7, ht7⟩; (have H7 := Lib.hid (And.intro hd7 ht7)); clear hd7 ht7))
      go_ret
      exact ⟨rfl, v7, H7.out.1, Turn.after ((Ab.refl w).drewN _) H7.out.2⟩
theorem wiped_row (n b s m : Int) (v : Value) (x : Bool) : (((((((#[Value.bool true, .int .i64 n, .int .i64 b, .int .i64 s, v, .bool x, .int .i64 m].setIfInBounds 0 (.bool true)).setIfInBounds 1 (.int .i64 n)).setIfInBounds 2 (.int .i64 0)).setIfInBounds 3 (.int .i64 0)).setIfInBounds 4 (.slice none 0 0)).setIfInBounds 5 (.bool false)).setIfInBounds 6 (.int .i64 0)) =
    #[.bool true, .int .i64 n, .int .i64 0, .int .i64 0, .slice none 0 0, .bool false, .int .i64 0] := by
  simp only [List.setIfInBounds_toArray, List.set_cons_zero, List.set_cons_succ]
theorem wiped (h : Dk w base g v d) :
    Dk (((((((w.setCell ⟨g, 0, none⟩ (.bool true)).setCell ⟨g, 1, none⟩ (.int .i64 (d.size : Int))).setCell ⟨g, 2, none⟩ (.int .i64 0)).setCell ⟨g, 3, none⟩ (.int .i64 0)).setCell ⟨g, 4, none⟩ (.slice none 0 0)).setCell ⟨g, 5, none⟩ (.bool false)).setCell ⟨g, 6, none⟩ (.int .i64 0)) base g (.slice none 0 0) d.wipe ∧
    Turn g v (.slice none 0 0) w (((((((w.setCell ⟨g, 0, none⟩ (.bool true)).setCell ⟨g, 1, none⟩ (.int .i64 (d.size : Int))).setCell ⟨g, 2, none⟩ (.int .i64 0)).setCell ⟨g, 3, none⟩ (.int .i64 0)).setCell ⟨g, 4, none⟩ (.slice none 0 0)).setCell ⟨g, 5, none⟩ (.bool false)).setCell ⟨g, 6, none⟩ (.int .i64 0)) := by
  refine h.put2 (w2 := w) (Ow.nil w base) ⟨rfl, rfl, rfl, Nat.le_refl _, fun _ _ _ => rfl⟩ (fun k hk => by cases hk) (setg 6 _ (setg 5 _ (setg 4 _ (setg 3 _ (setg 2 _ (setg 1 _ (setg 0 _ (Mv.refl _ _))))))))
    (fun hb => Bk.eq_ (((((((hb.store 0 _).store 1 _).store 2 _).store 3 _).store 4 _).store 5 _).store 6 _) (wiped_row _ _ _ _ _ _)) h.ok.wipe
/-- Wipe. -/
theorem Wipe_any (w : World) (h : Dk w base g v d) :
    Calls Try.prog 74 #[.pointer (some ⟨g, 0, none⟩)] w fun e w' => e = .returned (.tuple #[]) ∧ ∃ v', Dk w' base g v' d.wipe ∧ Turn g v v' w w' := by
  obtain ⟨h0, h1, h2, h3, h4, h5, h6⟩ := h.cells
  have hfz := h.free
  have HD := Lib.hid h
  have H0 := Lib.hid h0
  have hsz := h.1.lt
  clear h
  go_enter Try.func74, Try.ntmps74
  go_wp2_with (first | (go_at_call 119; (refine (ready_any _ g true H0.out).mono ?_); rintro e w2 ⟨rfl, rfl⟩) | (go_at_call 52; (refine (empty_any w d.size).mono ?_); rintro e w2 ⟨rfl, rfl⟩))
  go_end0
  have hs := wiped HD.out
  exact ⟨rfl, _, hs.1.ab ((Ab.refl _).alloc _), hs.2.still ((Ab.refl _).alloc _)⟩
/-- What New answers. -/
def NewPost (w : World) (n : Int) (e : Ending) (w' : World) : Prop :=
  ((n < 1 ∨ 67108864 < n) ∧ e = .returned (.tuple #[.pointer none, .int .i64 22]) ∧ w = w') ∨
  ((1 ≤ n ∧ n ≤ 67108864) ∧ e = .returned (.tuple #[.pointer (some ⟨w.heap.size, 0, none⟩), .int .i64 0]) ∧ (∀ base, base ≤ w.heap.size → Dk w' base w.heap.size (.slice none 0 0) (Dst.new n.toNat)) ∧ Ab w w')
/-- New. -/
theorem New_any (w : World) (n : Int) :
    Calls Try.prog 25 #[.int .i64 n] w (NewPost w n) := by
  by_cases b1 : n < 1
  · go_enter Try.func25, Try.ntmps25
    go_wp2_with fail
    refine bodyPost_ret (v := .tuple #[.pointer none, .int .i64 22]) ?_ rfl (.inl ⟨.inl b1, rfl, rfl⟩)
    simp [results, Try.results25, go_sem]
  by_cases b2 : 67108864 < n
  · go_enter Try.func25, Try.ntmps25
    go_wp2_with fail
    refine bodyPost_ret (v := .tuple #[.pointer none, .int .i64 22]) ?_ rfl (.inl ⟨.inr b2, rfl, rfl⟩)
    simp [results, Try.results25, go_sem]
  obtain ⟨k, rfl⟩ : ∃ k : Nat, n = (k : Int) := ⟨n.toNat, by omega⟩
  have b3 : 1 ≤ k ∧ k ≤ 67108864 := by omega
  clear b1 b2
  have c1 : ¬ (k : Int) < 1 := by omega
  have c2 : ¬ 67108864 < (k : Int) := by omega
  have B3 := Lib.hid b3
  clear b3
  go_enter Try.func25, Try.ntmps25
  go_wp2_with (go_at_call 52; (refine (empty_any w k).mono ?_); rintro e w2 ⟨rfl, rfl⟩)
  refine bodyPost_ret (v := .tuple #[.pointer (some ⟨w.heap.size, 0, none⟩), .int .i64 0]) ?_ rfl (.inr ⟨by have := B3.out; omega, rfl, fun base hb => ⟨Bk.made w _ _, Ow.nil _ _, hb, Dst.Ok.new B3.out.1 B3.out.2⟩, (Ab.refl w).alloc _⟩)
  simp [results, Try.results25, go_sem]
end Go.Proofs.Ytolchbjcdlncgaa.Dg

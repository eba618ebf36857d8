/- The program's disk in memory: Read, leave, Trim, Cut. -/
import Derived.Test.YtolchbjcdlncgaaDkE
namespace Go.Proofs.Ytolchbjcdlncgaa.Dg
open Go.RowKit
variable {w w' : World} {base g : Nat} {v : Value} {d : Dst}
attribute [local go_sem ↓] Go.wp_at_zero Go.wp_at_succ
theorem piece_at (w : World) (n0 g : Nat) (b lo hi : Nat) (i j : Int) {A : Option Addr} {n c : Nat} (h2 : w.cell? ⟨g, 2, none⟩ = some (.int .i64 (b : Int))) (h4 : w.cell? ⟨g, 4, none⟩ = some (.slice A n c))
    (hi' : i - (b : Int) = (lo : Int)) (hj' : j - (b : Int) = (hi : Int)) (h1 : lo ≤ hi) (hc : hi ≤ c) (hm : c ≤ 9223372036854775807) :
    Calls Try.prog 125 #[.pointer (some ⟨g, 0, none⟩), .int .i64 i, .int .i64 j] (w.drewN n0) fun e w' => e = .returned (.slice (winA A hi lo) (hi - lo) (hi - lo)) ∧ ∃ m, w' = w.drewN m :=
  Calls.quiet_of (piece_any (w.drewN n0) g b lo hi i j h2 h4 hi' hj' h1 hc hm)
theorem frozen_at (w : World) (n0 g : Nat) (L : Option Nat) (b : Nat) {A : Option Addr} {n c : Nat} (h2 : w.cell? ⟨g, 2, none⟩ = some (.int .i64 (b : Int))) (h4 : w.cell? ⟨g, 4, none⟩ = some (.slice A n c))
    (h5 : w.cell? ⟨g, 5, none⟩ = some (.bool L.isSome)) (h6 : w.cell? ⟨g, 6, none⟩ = some (.int .i64 ((L.getD 0 : Nat) : Int))) (hr : b + n ≤ 9223372036854775807) :
    Calls Try.prog 121 #[.pointer (some ⟨g, 0, none⟩)] (w.drewN n0) fun e w' => e = .returned (.bool (Dst.coldL (b + n) L)) ∧ ∃ m, w' = w.drewN m :=
  Calls.quiet_of (frozen_any (w.drewN n0) g L b h2 h4 h5 h6 hr)
theorem own_winA (A : Option Addr) (c i n m n' m' : Nat) : (Value.slice (winA A c i) n m).ownBlock = (Value.slice A n' m').ownBlock := by
  unfold winA
  split
  · cases A <;> rfl
  · cases A with
    | none => rfl
    | some a => show some (a.add i).block = some a.block; unfold Addr.add; split <;> rfl
/-- Other bytes and places, in one go. -/
theorem Dk.put2 {v2 : Value} {w2 w3 : World} {d2 : Dst} (h : Dk w base g v d) (ho : Ow w2 base v2 d2.bytes) (hg : w.grownBy w2 v.ownBlock) (hb : ∀ k, v2.ownBlock = some k → v.ownBlock = some k ∨ w.heap.size ≤ k) (hm : Mv (· = g) w2 w3)
    (hbk : Bk w2 g 209 #[.bool true, .int .i64 (d.size : Int), .int .i64 (d.base : Int), .int .i64 (d.synced : Int), v, .bool d.lim.isSome, .int .i64 ((d.lim.getD 0 : Nat) : Int)] →
      Bk w3 g 209 #[.bool true, .int .i64 (d2.size : Int), .int .i64 (d2.base : Int), .int .i64 (d2.synced : Int), v2, .bool d2.lim.isSome, .int .i64 ((d2.lim.getD 0 : Nat) : Int)]) (hk : d2.Ok) :
    Dk w3 base g v2 d2 ∧ Turn g v v2 w w3 := by
  have hne : v2.ownBlock ≠ some g := fun e => by
    rcases hb g e with e2 | e2
    · exact h.apart e2
    · have := h.1.lt
      omega
  have hb2 : Bk w2 g _ _ := (hg.block g h.1.lt (fun e => h.apart e.symm)).trans h.1
  have hm1 : Mv (Own g v) w w2 := Mv.grown (Mv.refl _ w) hg (fun k hk => .inl (.inr hk))
  exact ⟨⟨hbk hb2, ho.mv hm (fun k hk e => hne (e ▸ hk)), h.2.2.1, hk⟩, ⟨hm1.trans (hm.mono fun _ _ e => .inl e), hb⟩⟩
theorem Dk.put {v2 : Value} {w2 w3 : World} {d2 : Dst} (h : Dk w base g v d) (ho : Ow w2 base v2 d2.bytes) (hg : w.grownBy w2 v.ownBlock) (hb : v2.ownBlock = v.ownBlock ∨ v2.ownBlock = some w.heap.size) (hm : Mv (· = g) w2 w3)
    (hbk : Bk w2 g 209 #[.bool true, .int .i64 (d.size : Int), .int .i64 (d.base : Int), .int .i64 (d.synced : Int), v, .bool d.lim.isSome, .int .i64 ((d.lim.getD 0 : Nat) : Int)] →
      Bk w3 g 209 #[.bool true, .int .i64 (d2.size : Int), .int .i64 (d2.base : Int), .int .i64 (d2.synced : Int), v2, .bool d2.lim.isSome, .int .i64 ((d2.lim.getD 0 : Nat) : Int)]) (hk : d2.Ok) :
    Dk w3 base g v2 d2 ∧ Turn g v v2 w w3 := by
  refine h.put2 ho hg (fun k e2 => ?_) hm hbk hk
  rcases hb with e | e
  · exact .inl (e ▸ e2)
  · rw [e] at e2
    injection e2 with e2
    exact .inr (by omega)
theorem grown_still (w : World) (n : Nat) (row : Option Nat) : w.grownBy (w.drewN n) row := ⟨rfl, rfl, rfl, Nat.le_refl _, fun _ _ _ => rfl⟩
theorem setg {g : Nat} {w : World} (i : Nat) (u : Value) {w2 : World} (h : Mv (· = g) w2 w) : Mv (· = g) w2 (w.setCell ⟨g, i, none⟩ u) := Mv.set (S := (· = g)) (p := ⟨g, i, none⟩) h rfl _
/-- leave. -/
theorem leave_any (w : World) (h : Dk w base g v d) (to : Nat) (ht1 : d.base ≤ to) (ht2 : to ≤ d.fin) :
    Calls Try.prog 123 #[.pointer (some ⟨g, 0, none⟩), .int .i64 (to : Int)] w fun e w' => e = .returned (.tuple #[]) ∧ ∃ v', Dk w' base g v' (d.leave to) ∧ Turn g v v' w w' := by
  obtain ⟨h0, h1, h2, h3, h4, h5, h6⟩ := h.cells
  have hr := h.bound
  have hf := h.free
  have HD := Lib.hid h
  obtain ⟨A, c, rfl, hc1, hc2⟩ := h.len_cap
  have hle : to - d.base ≤ d.bytes.length := by unfold Dst.fin at ht2; omega
  have HP := Lib.hid (piece_any w g d.base 0 (to - d.base) (d.base : Int) (to : Int) h2 h4 (by omega) (by omega) (Nat.zero_le _) (by omega) hc2)
  have hw := h.2.1.win 0 (to - d.base) (Nat.zero_le _) hle
  rw [List.drop_zero] at hw
  have HW := Lib.hid hw
  have HK := Lib.hid (h.ok.leave to ht1 ht2)
  have hown := own_winA A (to - d.base) 0 (to - d.base - 0) (to - d.base - 0) d.bytes.length c
  rw [Nat.sub_zero] at HP HW hown
  have emin : min (d.synced : Int) (to : Int) = ((min d.synced to : Nat) : Int) := by omega
  have HM := Lib.hid emin
  generalize winA A (to - d.base) 0 = A2 at *
  obtain ⟨n2, hn2⟩ : ∃ n2, to - d.base = n2 := ⟨_, rfl⟩
  rw [hn2] at HP HW hown
  have HO := Lib.hid hown
  have HN := Lib.hid hn2
  clear hn2
  clear h hw hown h0 h1 h5 h6 ht1 ht2 hle hc1 hc2 emin
  go_enter Try.func123, Try.ntmps123
  go_wp2_with (go_at_call 125; (refine HP.out.mono ?_); rintro e w3 ⟨rfl, k3, rfl⟩)
  go_end0
  rw [HM.out]
  have hs := Dk.put (w2 := w.drewN k3) (d2 := d.leave to) HD.out (by show Ow _ _ _ (d.bytes.take (to - d.base)); rw [HN.out]; exact HW.out.ab ((Ab.refl w).drewN k3)) (grown_still _ _ _) (.inl HO.out) (setg 3 (.int .i64 ((min d.synced to : Nat) : Int)) (setg 4 (.slice A2 n2 n2) (Mv.refl _ _))) (fun hb => (hb.store 4 _).store 3 _) HK.out
  exact ⟨rfl, _, hs⟩
/-- Read. -/
theorem Read_any (w : World) (h : Dk w base g v d) (at_ n : Int) (hn : -9223372036854775808 ≤ n ∧ n ≤ 9223372036854775807) :
    Calls Try.prog 56 #[.pointer (some ⟨g, 0, none⟩), .int .i64 at_, .int .i64 n] w fun e w' => ∃ u, e = .returned (.tuple #[u, .int .i64 (d.gotE at_ n : Int)]) ∧ Ob w' w.heap.size u (d.got at_ n) ∧ Ab w w' := by
  obtain ⟨h0, h1, h2, h3, h4, h5, h6⟩ := h.cells
  have hr := h.bound
  have HD := Lib.hid h
  obtain ⟨A, c, rfl, hc1, hc2⟩ := h.len_cap
  have H0 := Lib.hid h0
  have HE := Lib.hid (fun n0 => end_at w n0 g d.base h2 h4 (by omega))
  obtain ⟨f, hf⟩ : ∃ f, d.base + d.bytes.length = f := ⟨_, rfl⟩
  rw [hf] at HE
  have hfin : (d.fin : Int) = (f : Int) := by rw [← hf]; rfl
  have hba : d.base ≤ f := by omega
  have hfr : f ≤ 4611686018427387904 := by omega
  cases hgood : d.has at_ n with
  | false =>
    have E1 : d.gotE at_ n = 22 := by unfold Dst.gotE; rw [hgood]; rfl
    have E2 : d.got at_ n = [] := by unfold Dst.got; rw [hgood]; rfl
    rw [E1, E2]
    have hb : ¬ ((d.base : Int) ≤ at_ ∧ at_ ≤ (d.fin : Int) ∧ 0 ≤ n ∧ n ≤ (d.fin : Int) - at_) := of_decide_eq_false hgood
    rw [hfin] at hb
    clear h h0 h1 h3 h4 h5 h6 hgood E1 E2 hfin hf hr hc1 hc2 hn
    by_cases b1 : at_ < (d.base : Int)
    · clear hb
      go_enter Try.func56, Try.ntmps56
      go_wp2_with (first | (go_at_call 119; (refine (ready_any _ g true H0.out).mono ?_); rintro e w2 ⟨rfl, rfl⟩) | (go_at_call 120; (first | (refine (HE.out _).mono ?_) | (refine (HE.out 0).mono ?_)); rintro e w3 ⟨rfl, k3, rfl⟩))
      refine bodyPost_ret (v := .tuple #[.slice none 0 0, .int .i64 22]) ?_ rfl ⟨.slice none 0 0, rfl, Ob.nil _ _, Ab.refl w⟩
      simp [results, Try.results56, go_sem]
    by_cases b2 : (f : Int) < at_
    · clear hb
      go_enter Try.func56, Try.ntmps56
      go_wp2_with (first | (go_at_call 119; (refine (ready_any _ g true H0.out).mono ?_); rintro e w2 ⟨rfl, rfl⟩) | (go_at_call 120; (first | (refine (HE.out _).mono ?_) | (refine (HE.out 0).mono ?_)); rintro e w3 ⟨rfl, k3, rfl⟩))
      refine bodyPost_ret (v := .tuple #[.slice none 0 0, .int .i64 22]) ?_ rfl ⟨.slice none 0 0, rfl, Ob.nil _ _, (Ab.refl w).drewN _⟩
      simp [results, Try.results56, go_sem]
    have e1 : IntKind.i64.wrap ((f : Int) - at_) = (f : Int) - at_ := IntWalk.i64_in _ (by omega)
    by_cases b3 : n < 0
    · clear hb
      go_enter Try.func56, Try.ntmps56
      go_wp2_with (first | (go_at_call 119; (refine (ready_any _ g true H0.out).mono ?_); rintro e w2 ⟨rfl, rfl⟩) | (go_at_call 120; (first | (refine (HE.out _).mono ?_) | (refine (HE.out 0).mono ?_)); rintro e w3 ⟨rfl, k3, rfl⟩))
      refine bodyPost_ret (v := .tuple #[.slice none 0 0, .int .i64 22]) ?_ rfl ⟨.slice none 0 0, rfl, Ob.nil _ _, (Ab.refl w).drewN _⟩
      simp [results, Try.results56, go_sem]
    have b4 : (f : Int) - at_ < n := by omega
    clear hb
    go_enter Try.func56, Try.ntmps56
    go_wp2_with (first | (go_at_call 119; (refine (ready_any _ g true H0.out).mono ?_); rintro e w2 ⟨rfl, rfl⟩) | (go_at_call 120; (first | (refine (HE.out _).mono ?_) | (refine (HE.out 0).mono ?_)); rintro e w3 ⟨rfl, k3, rfl⟩))
    refine bodyPost_ret (v := .tuple #[.slice none 0 0, .int .i64 22]) ?_ rfl ⟨.slice none 0 0, rfl, Ob.nil _ _, (Ab.refl w).drewN _⟩
    simp [results, Try.results56, go_sem]
  | true =>
    have E1 : d.gotE at_ n = 0 := by unfold Dst.gotE; rw [hgood]; rfl
    have E2 : d.got at_ n = (d.bytes.drop (at_.toNat - d.base)).take n.toNat := by unfold Dst.got; rw [hgood]; rfl
    rw [E1, E2]
    have hb : ((d.base : Int) ≤ at_ ∧ at_ ≤ (d.fin : Int) ∧ 0 ≤ n ∧ n ≤ (d.fin : Int) - at_) := of_decide_eq_true hgood
    rw [hfin] at hb
    obtain ⟨b1, b2, b3, b4⟩ := hb
    obtain ⟨lo, hlo⟩ : ∃ lo, at_.toNat - d.base = lo := ⟨_, rfl⟩
    obtain ⟨m, hm⟩ : ∃ m, n.toNat = m := ⟨_, rfl⟩
    have hle : lo + m ≤ d.bytes.length := by omega
    have HP := Lib.hid (fun n0 => piece_at w n0 g d.base lo (lo + m) at_ (at_ + n) h2 h4 (by omega) (by omega) (by omega) (by omega) hc2)
    have hw := h.2.1.win lo (lo + m) (by omega) hle
    rw [show lo + m - lo = m by omega] at HP hw
    have HW := Lib.hid hw
    have hgl : (List.take m (List.drop lo d.bytes)).length = m := by rw [List.length_take, List.length_drop]; omega
    have HGL := Lib.hid hgl
    rw [hlo, hm]
    have c1 : ¬ at_ < (d.base : Int) := by omega
    have c2 : ¬ (f : Int) < at_ := by omega
    have c3 : ¬ n < 0 := by omega
    have c4 : ¬ (f : Int) - at_ < n := by omega
    have e1 : IntKind.i64.wrap ((f : Int) - at_) = (f : Int) - at_ := IntWalk.i64_in _ (by omega)
    have e2 : IntKind.i64.wrap (at_ + n) = at_ + n := IntWalk.i64_in _ (by omega)
    have hml : ([] : List UInt8).length + (List.take m (List.drop lo d.bytes)).length ≤ 200000000000000 := by rw [hgl]; have := h.ok.room; have := h.ok.size2; simp; omega
    have HL := Lib.hid hml
    generalize winA A (lo + m) lo = A2 at *
    clear h h0 h1 h3 h4 h5 h6 hgood E1 E2 hfin hf hr hc1 hc2 hn b1 b2 b3 b4 hw hlo hm hle hml hgl
    go_enter Try.func56, Try.ntmps56
    go_wp2_with (first | (go_at_call 119; (refine (ready_any _ g true H0.out).mono ?_); rintro e w2 ⟨rfl, rfl⟩) | (go_at_call 120; (first | (refine (HE.out _).mono ?_) | (refine (HE.out 0).mono ?_)); rintro e w3 ⟨rfl, k3, rfl⟩) | (go_at_call 125; (refine (HP.out _).mono ?_); rintro e w4 ⟨rfl, k4, rfl⟩) | (at_builtin; refine wpList_bytes rfl _ _ _ rfl _ _ rfl rfl w.heap.size [] _ (Ob.nil _ _) (src_bs Try.underlying30 (show Bs (w.drewN k4) _ _ _ from HW.out.bs)) HL.out (Nat.le_refl _) ?_))
    intro v5 w5 ho5 hg5 hb5
    have ho5 : Ob w5 w.heap.size v5 (List.take m (List.drop lo d.bytes)) := ho5
    obtain ⟨A5, n5, c5, rfl⟩ : ∃ A5 n5 c5, v5 = .slice A5 n5 c5 := by obtain ⟨A5, c5, h, -, -⟩ := ho5.len_cap; exact ⟨A5, _, c5, h⟩
    have ha5 : Ab w w5 := grown_ab ((Ab.refl w).drewN k4) hg5 (fun k hk => by cases hk)
    have H5 := Lib.hid (And.intro ho5 ha5)
    clear ho5 hg5 hb5 ha5
    go_wp2_with fail
    refine bodyPost_ret (v := .tuple #[.slice A5 n5 c5, .int .i64 0]) ?_ rfl ⟨.slice A5 n5 c5, rfl, H5.out.1, H5.out.2⟩
    simp [results, Try.results56, go_sem]
end Go.Proofs.Ytolchbjcdlncgaa.Dg

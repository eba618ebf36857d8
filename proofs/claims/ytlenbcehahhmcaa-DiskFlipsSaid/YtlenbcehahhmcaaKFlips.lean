/- The walk through DiskFlips. -/
import Derived.Test.YtlenbcehahhmcaaDkK
namespace Go.Proofs.Ytlenbcehahhmcaa.diskFlips
open Go.RowKit Dg
variable {l : List UInt8} {v0 : Value} {a b : Int}
attribute [local go_sem ↓] Go.wp_at_zero Go.wp_at_succ
def Post (W : World) (e : Ending) (w' : World) : Prop := e = .returned (.bool true) ∧ Ab W w'
theorem walk_lives (W : World) (h : Bs W W.heap.size v0 l) (hl : l.length = 0 ∨ 65536 < l.length) :
    Calls Try.prog 8 #[v0, .int .u64 a, .int .u64 b] W (Post W) := by
  obtain ⟨A, c, rfl, -, -, -⟩ := h
  rcases hl with hl | hl
  · rw [hl]
    go_enter Try.func8, Try.ntmps8
    go_wp2_with (go_at_call 31; (with_reducible refine (lives_any W).mono ?_); rintro e w1 ⟨rfl, h1⟩; (have H1 := Lib.hid h1); clear h1)
    go_ret
    exact ⟨rfl, H1.out⟩
  · have h1 : ¬ (l.length : Int) = 0 := by omega
    have h2 : 65536 < (l.length : Int) := by omega
    generalize l.length = n at *
    go_enter Try.func8, Try.ntmps8
    go_wp2_with (go_at_call 31; (with_reducible refine (lives_any W).mono ?_); rintro e w1 ⟨rfl, h1⟩; (have H1 := Lib.hid h1); clear h1)
    go_ret
    exact ⟨rfl, H1.out⟩
theorem new16 (w : World) :
    Calls Try.prog 29 #[.int .i64 65536] w fun e w' => ∃ g, e = .returned (.tuple #[.pointer (some ⟨g, 0, none⟩), .int .i64 0]) ∧ St w w' g (.slice none 0 0) ⟨65536, 0, 0, [], none⟩ := St.new (Ab.refl w) 65536 (by omega) (by omega)
theorem append1 {W w : World} {g N : Nat} {v x : Value} {l : List UInt8} (h : St W w g v ⟨65536, 0, 0, [], none⟩) (hx : Bs W W.heap.size x l) (hN : l.length = N) (hl : N ≤ 65536) :
    Calls Try.prog 34 #[.pointer (some ⟨g, 0, none⟩), x] w fun e w' => e = .returned (.tuple #[.int .i64 0, .int .i64 0]) ∧ ∃ v', St W w' g v' ⟨65536, 0, 0, l, none⟩ :=
  h.append0 (hx.ab h.2 (Nat.le_refl _)) (by omega) (by simp; omega)
theorem flip1 {W w : World} {g N k n : Nat} {v : Value} {l : List UInt8} {z : UInt8} (h : St W w g v ⟨65536, 0, 0, l, none⟩) (hN : l.length = N) (hz : l.getD k 0 = z) (hk : k < N) (hn : n < 8) :
    Calls Try.prog 46 #[.pointer (some ⟨g, 0, none⟩), .int .i64 (k : Int), .int .i64 (n : Int)] w fun e w' => e = .returned (.int .i64 0) ∧ St W w' g v ⟨65536, 0, 0, l.set k (Dst.turned z n), none⟩ :=
  (h.flip0 k n (by omega) hn).mono fun _ _ ⟨h1, h2, _⟩ => ⟨h1, hz ▸ h2⟩
theorem flip2 {W w : World} {g N k n : Nat} {v : Value} {l : List UInt8} {z : UInt8} (h : St W w g v ⟨65536, 0, 0, l.set k (Dst.turned z n), none⟩) (hN : l.length = N) (hz : l.getD k 0 = z) (hk : k < N) (hn : n < 8) :
    Calls Try.prog 46 #[.pointer (some ⟨g, 0, none⟩), .int .i64 (k : Int), .int .i64 (n : Int)] w fun e w' => e = .returned (.int .i64 0) ∧ St W w' g v ⟨65536, 0, 0, l, none⟩ := by
  have := h.flip0 k n (by rw [List.length_set]; omega) hn
  rw [getD_set l k (by omega), turned_twice, ← hz, set_back l k (by omega)] at this
  exact this.mono fun _ _ ⟨h1, h2, _⟩ => ⟨h1, h2⟩
theorem flip3 {W w : World} {g k : Nat} {v : Value} {l : List UInt8} (h : St W w g v ⟨65536, 0, 0, l, none⟩) :
    Calls Try.prog 46 #[.pointer (some ⟨g, 0, none⟩), .int .i64 (k : Int), .int .i64 8] w fun e w' => e = .returned (.int .i64 22) ∧ St W w' g v ⟨65536, 0, 0, l, none⟩ :=
  (h.flipX k 8 (.inr (Nat.le_refl _))).mono fun _ _ ⟨h1, h2, _⟩ => ⟨h1, h2⟩
theorem flip4 {W w : World} {g N : Nat} {v : Value} {l : List UInt8} (h : St W w g v ⟨65536, 0, 0, l, none⟩) (hN : l.length = N) :
    Calls Try.prog 46 #[.pointer (some ⟨g, 0, none⟩), .int .i64 (N : Int), .int .i64 0] w fun e w' => e = .returned (.int .i64 22) ∧ St W w' g v ⟨65536, 0, 0, l, none⟩ :=
  (h.flipX N 0 (.inl (by omega))).mono fun _ _ ⟨h1, h2, _⟩ => ⟨h1, h2⟩
theorem read1 {W w : World} {g N k : Nat} {v : Value} {l : List UInt8} {z : UInt8} (h : St W w g v ⟨65536, 0, 0, l.set k z, none⟩) (hN : l.length = N) (hl : N ≤ 65536) :
    Calls Try.prog 39 #[.pointer (some ⟨g, 0, none⟩), .int .i64 0, .int .i64 (N : Int)] w fun e w' => ∃ u, e = .returned (.tuple #[u, .int .i64 0]) ∧ Ob w' W.heap.size u (l.set k z) ∧ St W w' g v ⟨65536, 0, 0, l.set k z, none⟩ ∧ Ab w w' ∧ ∀ k, u.ownBlock = some k → w.heap.size ≤ k :=
  h.read0 N (by rw [List.length_set]; exact hN) (by omega)
theorem read2 {W w : World} {g N : Nat} {v : Value} {l : List UInt8} (h : St W w g v ⟨65536, 0, 0, l, none⟩) (hN : l.length = N) (hl : N ≤ 65536) :
    Calls Try.prog 39 #[.pointer (some ⟨g, 0, none⟩), .int .i64 0, .int .i64 (N : Int)] w fun e w' => ∃ u, e = .returned (.tuple #[u, .int .i64 0]) ∧ Ob w' W.heap.size u l ∧ St W w' g v ⟨65536, 0, 0, l, none⟩ :=
  (h.read0 N hN (by omega)).mono fun _ _ ⟨u, h1, h2, h3, _⟩ => ⟨u, h1, h2, h3⟩
/-- The slice that was read, a store into it, and the disk. -/
theorem store_x {W w : World} {g gx : Nat} {v : Value} {d : Dst} {n c : Nat} {m : List UInt8} (hs : St W w g v d) (hx : Ob w W.heap.size (.slice (some ⟨gx, 0, none⟩) n c) m) (hne : ¬ Own g v gx) (k : Nat) (z : UInt8) :
    St W (w.setCell ⟨gx, k, none⟩ (.int .u8 (n8 z))) g v d ∧ Ob (w.setCell ⟨gx, k, none⟩ (.int .u8 (n8 z))) W.heap.size (.slice (some ⟨gx, 0, none⟩) n c) (m.set k z) := by
  have hm : Mv (· = gx) w (w.setCell ⟨gx, k, none⟩ (.int .u8 (n8 z))) := Mv.set (S := (· = gx)) (p := ⟨gx, k, none⟩) (Mv.refl _ w) rfl _
  exact ⟨⟨hs.1.mv hm (fun j hj e => hne (e ▸ hj)), hs.2.set (hx.blk gx rfl).1 _⟩, hx.set k z⟩
theorem own_lt {W w : World} {g : Nat} {v : Value} {d : Dst} (hs : St W w g v d) {k : Nat} (hk : w.heap.size ≤ k) : ¬ Own g v k := by
  intro h
  rcases h with rfl | h
  · have := hs.1.1.lt; omega
  · have := (hs.1.2.1.blk k h).2; omega
theorem ob_form {w : World} {base N : Nat} {u : Value} {m : List UInt8} (h : Ob w base u m) (hN : m.length = N) (h0 : 0 < N) : ∃ gx cap, u = .slice (some ⟨gx, 0, none⟩) N cap ∧ (∀ i, w.frozen? ⟨gx, i, none⟩ = false) ∧ ∀ k, k < N → w.cell? ⟨gx, k, none⟩ = some (.int .u8 (n8 (m.getD k 0))) := by
  have hne : m ≠ [] := by intro e; rw [e] at hN; simp at hN; omega
  obtain ⟨gx, cap, hv, -, -, -, -, hf, hc⟩ := h.form hne
  subst hN
  exact ⟨gx, cap, hv, hf, hc⟩
theorem same1 {W w : World} {g gx N k c : Nat} {v x : Value} {l : List UInt8} {z y : UInt8} (n : Nat) (h : St W w g v ⟨65536, 0, 0, l.set k y, none⟩) (ho : Ob w W.heap.size (.slice (some ⟨gx, 0, none⟩) N c) (l.set k y)) (hne : ¬ Own g v gx) (hx : Bs W W.heap.size x l) (hz : l.getD k 0 = z) (hN : l.length = N) (hk : k < N) :
    Calls Try.prog 42 #[.slice (some ⟨gx, 0, none⟩) N c, x] ((w.drewN n).setCell ⟨gx, k, none⟩ (.int .u8 (n8 z))) fun e w' => e = .returned (.bool true) ∧ St W w' g v ⟨65536, 0, 0, l.set k y, none⟩ := by
  have ha := (Ab.refl w).drewN n
  obtain ⟨h1, h2⟩ := store_x (h.ab ha) (ho.ab ha) hne k z
  rw [← hz, set_back l k (by omega)] at h2
  rw [hz] at h2
  refine (Same_any _ h2.bs (hx.ab h1.2 (Nat.le_refl _))).mono fun _ _ ⟨e, ew⟩ => ⟨?_, ew ▸ h1⟩
  rw [e]; simp
theorem same2 {W w : World} {g : Nat} {v x u : Value} {l : List UInt8} (h : St W w g v ⟨65536, 0, 0, l, none⟩) (ho : Ob w W.heap.size u l) (hx : Bs W W.heap.size x l) :
    Calls Try.prog 42 #[u, x] w fun e w' => e = .returned (.bool true) ∧ St W w' g v ⟨65536, 0, 0, l, none⟩ := by
  refine (Same_any _ ho.bs (hx.ab h.2 (Nat.le_refl _))).mono fun _ _ ⟨e, ew⟩ => ⟨?_, ew ▸ h⟩
  rw [e]; simp
theorem nums (N k n : Nat) (h1 : 0 < N) (h2 : N ≤ 65536) (h3 : k < N) (h4 : n < 8) : ((N : Int) == 0) = false ∧ ¬ (N : Int) = 0 ∧ ¬ 65536 < (N : Int) ∧ wrap64 (k : Int) = (k : Int) ∧ (0 : Int) ≤ (k : Int) ∧ (k : Int) < (N : Int) ∧
    wrap64 (n : Int) = (n : Int) ∧ (0 : Int) ≤ (n : Int) ∧ (n : Int) < 8 :=
  ⟨beq_eq_false_iff_ne.2 (by omega), by omega, by omega, IntWalk.wrap64_in _ (by omega), by omega, by omega, IntWalk.wrap64_in _ (by omega), by omega, by omega⟩
set_option maxRecDepth 100000 in
set_option maxHeartbeats 1000000 in
theorem walk_main (W : World) (N : Nat) (hN : l.length = N) (h : Bs W W.heap.size v0 l) (hl : 0 < N) (hl2 : N ≤ 65536) (k n : Nat) (hk' : a.tmod (N : Int) = (k : Int)) (hn' : b.tmod 8 = (n : Int)) (hkl : k < N) (hn8 : n < 8) :
    Calls Try.prog 8 #[v0, .int .u64 a, .int .u64 b] W (Post W) := by
  have HB := Lib.hid h
  obtain ⟨A, c, rfl, -, -, hcells⟩ := h
  have hne : l ≠ [] := by intro e; rw [e] at hN; simp at hN; omega
  obtain ⟨ob, off, rfl, hob, hcb⟩ := hcells hne
  have hcb := hcb k (by omega)
  have HC := Lib.hid hcb
  rw [hN] at HB ⊢
  obtain ⟨z, hz⟩ : ∃ z, l.getD k 0 = z := ⟨_, rfl⟩
  rw [hz] at hcb HC
  obtain ⟨h1, h1', h2, wk, k0, k1, wn, n0, n8'⟩ := nums N k n hl hl2 hkl hn8
  have HO := Lib.hid hob
  have H0N := Lib.hid hl
  have hb1 := bit_turn z n hn8
  have HT := Lib.hid (And.intro hk' hn')
  clear hk' hn'
  have HZ := Lib.hid (And.intro hz (And.intro hN hne))
  have HK := Lib.hid (And.intro hkl (And.intro hn8 hl2))
  clear hz hN hcells hne hkl hn8 hl hl2
  go_enter Try.func8, Try.ntmps8
  go_wp2_with (first
    | (go_at_call 29; (with_reducible refine (new16 W).mono ?_); rintro e w1 ⟨g, rfl, h1⟩; (have H1 := Lib.hid h1); clear h1)
    | (go_at_call 34; (with_reducible refine (append1 H1.out HB.out HZ.out.2.1 HK.out.2.2).mono ?_); rintro e w2 ⟨rfl, v2, h2⟩; (have H2 := Lib.hid h2); clear h2)
    | (go_at_call 46; (rw [HT.out.1, HT.out.2, wk, wn]); (with_reducible refine (flip1 H2.out HZ.out.2.1 HZ.out.1 HK.out.1 HK.out.2.1).mono ?_); rintro e w3 ⟨rfl, h3⟩; (have H3 := Lib.hid h3); clear h3)
    | (go_at_call 39; (with_reducible refine (read1 H3.out HZ.out.2.1 HK.out.2.2).mono ?_); rintro e w4 ⟨u, rfl, ho4, h4, -, hu4⟩; (obtain ⟨gx, cx, rfl, hfx, hcx⟩ := ob_form ho4 (by rw [List.length_set]; exact HZ.out.2.1) H0N.out); (have hxk := hcx k HK.out.1); (rw [getD_set l k (by rw [HZ.out.2.1]; exact HK.out.1)] at hxk); (have hfk := hfx k); (have hbk := (h4.2.cells ob (off + k) HO.out).trans HC.out); (have H4 := Lib.hid (And.intro h4 (And.intro ho4 (own_lt H3.out (hu4 gx rfl))))); clear ho4 hu4 h4 hcx hfx hcb))
  go_quiet (fail)
  go_wp2_with (first
    | (go_at_call 42; (with_reducible refine (same1 nq H4.out.1 H4.out.2.1 H4.out.2.2 HB.out HZ.out.1 HZ.out.2.1 HK.out.1).mono ?_); rintro e w5 ⟨rfl, h5⟩; (have H5 := Lib.hid h5); clear h5)
    | (go_at_call 46; (with_reducible refine (flip2 H5.out HZ.out.2.1 HZ.out.1 HK.out.1 HK.out.2.1).mono ?_); rintro e w6 ⟨rfl, h6⟩; (have H6 := Lib.hid h6); clear h6)
    | (go_at_call 46; (with_reducible refine (flip3 H6.out).mono ?_); rintro e w7 ⟨rfl, h7⟩; (have H7 := Lib.hid h7); clear h7)
    | (go_at_call 46; (with_reducible refine (flip4 H7.out HZ.out.2.1).mono ?_); rintro e w8 ⟨rfl, h8⟩; (have H8 := Lib.hid h8); clear h8)
    | (go_at_call 39; (with_reducible refine (read2 H8.out HZ.out.2.1 HK.out.2.2).mono ?_); rintro e w9 ⟨y, rfl, ho9, h9⟩; (have H9 := Lib.hid (And.intro h9 ho9)); (obtain ⟨Ay, cy, rfl, -, -⟩ := ho9.len_cap); (rw [HZ.out.2.1] at H9 ⊢); clear ho9 h9)
    | (go_at_call 42; (with_reducible refine (same2 H9.out.1 H9.out.2 HB.out).mono ?_); rintro e w10 ⟨rfl, h10⟩; (have H10 := Lib.hid h10); clear h10)
    | (go_at_call 31; (with_reducible refine (lives_any w10).mono ?_); rintro e w11 ⟨rfl, h11⟩; (have H11 := Lib.hid h11); clear h11))
  go_ret
  exact ⟨rfl, H10.out.2.trans H11.out⟩
theorem walk_all (W : World) (h : Bs W W.heap.size v0 l) (ha : 0 ≤ a) (hb : 0 ≤ b) : Calls Try.prog 8 #[v0, .int .u64 a, .int .u64 b] W (Post W) := by
  by_cases hl : l.length = 0 ∨ 65536 < l.length
  · exact walk_lives W h hl
  · obtain ⟨N, hN⟩ : ∃ N, l.length = N := ⟨_, rfl⟩
    have hN0 : 0 < N := by omega
    have hNI : (0 : Int) < (N : Int) := by omega
    have e1 := Int.tmod_eq_emod_of_nonneg (b := (N : Int)) ha
    have e2 := Int.tmod_eq_emod_of_nonneg (b := 8) hb
    have m1 := Int.emod_nonneg a (show (N : Int) ≠ 0 by omega)
    have m2 := Int.emod_lt_of_pos a hNI
    obtain ⟨k, hk⟩ : ∃ k : Nat, a % (N : Int) = (k : Int) := ⟨(a % (N : Int)).toNat, (Int.toNat_of_nonneg m1).symm⟩
    obtain ⟨n, hn⟩ : ∃ n : Nat, b % 8 = (n : Int) := ⟨(b % 8).toNat, (Int.toNat_of_nonneg (Int.emod_nonneg b (by omega))).symm⟩
    rw [hk] at e1 m2
    rw [hn] at e2
    have hn8 : n < 8 := by have := Int.emod_lt_of_pos b (show (0 : Int) < 8 by omega); rw [hn] at this; clear e1 e2 hk; omega
    have hkN : k < N := by clear e1 e2 hk hn; omega
    exact walk_main W N hN h hN0 (by clear e1 e2 hk hn; omega) k n e1 e2 hkN hn8
end Go.Proofs.Ytlenbcehahhmcaa.diskFlips

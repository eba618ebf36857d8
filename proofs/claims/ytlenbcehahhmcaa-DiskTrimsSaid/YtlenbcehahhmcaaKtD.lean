/- The walk through DiskTrims. -/
import Derived.Test.YtlenbcehahhmcaaKtA
import Derived.Deep.Cut
namespace Go.Proofs.Ytlenbcehahhmcaa.diskTrims
open Go.RowKit Dg
attribute [local go_sem ↓] Go.wp_at_zero Go.wp_at_succ
def boxW (W : World) (p q : Int) : World := W.alloc (.cells #[.int .u64 p, .int .u64 q] 86)
theorem boxW_ab (W : World) (p q : Int) : Ab W (boxW W p q) := (Ab.refl W).alloc _
theorem boxW_cells (W : World) (p q : Int) : (boxW W p q).cell? ⟨W.heap.size, 0, none⟩ = some (.int .u64 p) ∧ (boxW W p q).cell? ⟨W.heap.size, 1, none⟩ = some (.int .u64 q) ∧ W.heap.size < (boxW W p q).heap.size :=
  ⟨(Bk.made W _ _).cell rfl, (Bk.made W _ _).cell rfl, by simp [boxW]⟩
/-- A list of slices that came in. -/
structure Ls (W : World) (n : Nat) (a : Option Addr) (lv : Nat → Value) (lb : Nat → List UInt8) : Prop where
  addr : 0 < n → ∃ b off, a = some ⟨b, off, none⟩ ∧ b < W.heap.size ∧ ∀ i, i < n → W.cell? ⟨b, off + i, none⟩ = some (lv i)
  bytes : ∀ i, i < n → Bs W W.heap.size (lv i) (lb i)
  len : n ≤ 9223372036854775807
  small : ∀ i, i < n → (lb i).length ≤ 140737488351232
theorem lnums (j n N Lj : Nat) (h1 : j < n) (h2 : n ≤ 9223372036854775807) (h3 : N ≤ 65536) (h4 : Lj ≤ 140737488351232) : (0 : Int) ≤ (j : Int) ∧ (j : Int) < (n : Int) ∧ IntKind.i64.wrap ((N : Int) + (Lj : Int)) = (N : Int) + (Lj : Int) ∧ IntKind.i64.wrap ((j : Int) + 1) = (j : Int) + 1 :=
  ⟨by omega, by omega, IntWalk.i64_in _ (by omega), IntWalk.i64_in _ (by omega)⟩
/-- append of a slice that came in, with its length's name. -/
theorem t_app2 {W W0 w : World} {g N : Nat} {v x : Value} {m xs : List UInt8} {us : List (Value × List UInt8)} (h : Sx W w g v ⟨65536, 0, 0, m, none⟩ us) (ha : Ab W0 w) (hx : Bs W0 W0.heap.size x xs) (hN : m.length = N) (hr : N + xs.length ≤ 65536) :
    Calls Try.prog 34 #[.pointer (some ⟨g, 0, none⟩), x] w fun e w' => e = .returned (.tuple #[.int .i64 (N : Int), .int .i64 0]) ∧ ∃ v', Sx W w' g v' ⟨65536, 0, 0, m ++ xs, none⟩ us := by
  have := t_app h (hx.ab ha (Nat.le_refl _)) (by omega)
  rw [hN] at this
  exact this
/-- The numbers behind the loop. -/
structure Md (p q : Int) (N N1 f D D1 k t k1 : Nat) : Prop where
  pf : p.tmod (N1 : Int) = (f : Int)
  qk : q.tmod (D1 : Int) = (k : Int)
  n1 : N + 1 = N1
  fN : f ≤ N
  fD : f + D = N
  d1 : D + 1 = D1
  kD : k ≤ D
  ft : f + k = t
  k1 : k + 1 = k1
  room : N ≤ 65536
theorem md (p q : Int) (hp : 0 ≤ p) (hq : 0 ≤ q) (N : Nat) (h : N ≤ 65536) : ∃ N1 f D D1 k t k1 : Nat, Md p q N N1 f D D1 k t k1 := by
  have a1 : (0 : Int) < ((N + 1 : Nat) : Int) := by omega
  have e1 := Int.tmod_eq_emod_of_nonneg (b := ((N + 1 : Nat) : Int)) hp
  have m1 := Int.emod_nonneg p (show ((N + 1 : Nat) : Int) ≠ 0 by omega)
  have m2 := Int.emod_lt_of_pos p a1
  obtain ⟨f, hf⟩ : ∃ f : Nat, p % ((N + 1 : Nat) : Int) = (f : Int) := ⟨(p % ((N + 1 : Nat) : Int)).toNat, (Int.toNat_of_nonneg m1).symm⟩
  rw [hf] at e1 m2
  have hfN : f ≤ N := by clear e1 hf m1; omega
  have a2 : (0 : Int) < ((N - f + 1 : Nat) : Int) := by clear e1 hf m1 m2; omega
  have e2 := Int.tmod_eq_emod_of_nonneg (b := ((N - f + 1 : Nat) : Int)) hq
  have m3 := Int.emod_nonneg q (show ((N - f + 1 : Nat) : Int) ≠ 0 by clear e1 hf m1 m2 e2; omega)
  have m4 := Int.emod_lt_of_pos q a2
  obtain ⟨k, hk⟩ : ∃ k : Nat, q % ((N - f + 1 : Nat) : Int) = (k : Int) := ⟨(q % ((N - f + 1 : Nat) : Int)).toNat, (Int.toNat_of_nonneg m3).symm⟩
  rw [hk] at e2 m4
  have hkD : k ≤ N - f := by clear e1 hf m1 m2 e2 hk m3; omega
  exact ⟨N + 1, f, N - f, N - f + 1, k, f + k, k + 1, e1, e2, rfl, hfN, by clear e1 hf m1 m2 e2 hk m3 m4; omega, rfl, hkD, rfl, rfl, h⟩
/-- A number that an int holds; one that a uint holds. -/
def Sm (n : Int) : Prop := -9223372036854775808 ≤ n ∧ n ≤ 9223372036854775807
def Su (n : Int) : Prop := 0 ≤ n ∧ n ≤ 18446744073709551615
theorem sm_wrap {n : Int} (h : Sm n) : IntKind.i64.wrap n = n := IntWalk.i64_in _ h
theorem sm_64 {n : Int} (h : Sm n) : wrap64 n = n := IntWalk.wrap64_in _ h
theorem su_wrap {n : Int} (h : Su n) : IntKind.u64.wrap n = n := by
  unfold Su at h
  rw [IntKind.wrap_u64]; omega
theorem tnums (N N1 f D D1 k t k1 : Nat) (n1 : N + 1 = N1) (fN : f ≤ N) (fD : f + D = N) (d1 : D + 1 = D1) (kD : k ≤ D) (ft : f + k = t) (hk1 : k + 1 = k1) (room : N ≤ 65536) :
    ((N : Int) + 1 = (N1 : Int) ∧ (N : Int) - (f : Int) = (D : Int) ∧ (D : Int) + 1 = (D1 : Int) ∧ (f : Int) + (k : Int) = (t : Int) ∧ (t : Int) - (f : Int) = (k : Int) ∧ (k : Int) + 1 = (k1 : Int)) ∧
    (Sm (N1 : Int) ∧ Sm (D : Int) ∧ Sm (D1 : Int) ∧ Sm (t : Int) ∧ Sm (k : Int) ∧ Sm (k1 : Int)) ∧ (Su (N1 : Int) ∧ Su (D1 : Int) ∧ wrap64 (f : Int) = (f : Int) ∧ wrap64 (k : Int) = (k : Int)) ∧
    (((N1 : Int) == 0) = false ∧ ((D1 : Int) == 0) = false ∧ ¬ (N1 : Int) = 0 ∧ ¬ (D1 : Int) = 0) ∧ ((f : Int) ≤ (t : Int) ∧ (t : Int) ≤ (N : Int)) := by
  unfold Sm Su
  exact ⟨⟨by omega, by omega, by omega, by omega, by omega, by omega⟩, ⟨by omega, by omega, by omega, by omega, by omega, by omega⟩, ⟨by omega, by omega, IntWalk.wrap64_in _ (by omega), IntWalk.wrap64_in _ (by omega)⟩,
    ⟨beq_eq_false_iff_ne.2 (by omega), beq_eq_false_iff_ne.2 (by omega), by omega, by omega⟩, ⟨by omega, by omega⟩⟩
theorem t_lens {p q : Int} {m : List UInt8} {N N1 f D D1 k t k1 : Nat} (hN : m.length = N) (h : Md p q N N1 f D D1 k t k1) :
    f + (m.drop f).length = N ∧ f ≤ t ∧ t ≤ N ∧ f + ((m.drop f).take (t - f)).length = t ∧ ((m.drop f).take (t - f)).length = k ∧ k ≤ 65536 ∧ ((m.drop f).take (t - f)).length + 1 = k1 ∧ k1 ≤ 65537 := by
  obtain ⟨-, -, h1, h2, h3, h4, h5, h6, h7, h8⟩ := h
  rw [List.length_take, List.length_drop]
  exact ⟨by omega, by omega, by omega, by omega, by omega, by omega, by omega, by omega⟩
theorem t_sl (A : Option Addr) {p q : Int} {N N1 f D D1 k t k1 c2 : Nat} (h : Md p q N N1 f D D1 k t k1) (hc : N ≤ c2) (wx : World) :
    (Instr.slice 30 (.slice A N c2) (some (.int .i64 (f : Int))) (some (.int .i64 (t : Int))) none).run Try.prog wx = .ok (.slice (winA A c2 f) k (c2 - f)) wx := by
  obtain ⟨-, -, h1, h2, h3, h4, h5, h6, h7, h8⟩ := h
  have := run_slice_mid A N c2 f t (by omega) (by omega) wx
  rw [show t - f = k by omega] at this
  exact this
theorem t_room {N t : Nat} (h : N ≤ 65536) (h2 : t ≤ N) : t ≤ 65536 := by omega
theorem t_same {W w : World} {g N f t k c2 : Nat} {v u : Value} {A : Option Addr} {m : List UInt8} {d : Dst} (h : Sx W w g v d [(u, (m.drop f).take (t - f)), (.slice A N c2, m)]) (hN : m.length = N) (h1 : f ≤ t) (h2 : t ≤ N) (hk : f + k = t) (_ : N = m.length ∧ m.length ≤ c2) :
    Calls Try.prog 42 #[u, .slice (winA A c2 f) k (c2 - f)] w fun e w' => e = .returned (.bool true) ∧ w = w' := by
  have ha := h.tail.head.bs
  rw [← hN] at ha
  have hw := midB ha f t h1 (by omega)
  rw [show t - f = k by omega] at hw h
  refine (Same_any w h.head.bs hw).mono fun _ _ ⟨e, ew⟩ => ⟨?_, ew⟩
  rw [e]; simp
theorem t_le {f k t : Nat} (h : f + k = t) : f ≤ t := by omega
theorem t_le2 {N D f k t : Nat} (h : f + k = t) (h1 : f + D = N) (h2 : k ≤ D) : t ≤ N := by omega
theorem t_len1 {m : List UInt8} {N f : Nat} (hN : m.length = N) (hf : f ≤ N) : f + (m.drop f).length = N := by rw [List.length_drop]; omega
/-- From the loop's end on. -/
structure Fin (W w : World) (p q : Int) (g : Nat) (v u : Value) (m : List UInt8) (N : Nat) : Prop where
  sx : Sx (boxW W p q) w g v ⟨65536, 0, 0, m, none⟩ [(u, m)]
  len : m.length = N
  room : N ≤ 65536
attribute [local go_sem] sm_wrap sm_64 su_wrap
set_option maxRecDepth 100000 in
set_option maxHeartbeats 1000000 in
theorem walk (W : World) (p q : Int) (n c : Nat) (a : Option Addr) (lv : Nat → Value) (lb : Nat → List UInt8) (h : Ls W n a lv lb) (hp : 0 ≤ p) (hq : 0 ≤ q) :
    Calls Try.prog 7 #[.slice a n c, .agg #[.int .u64 p, .int .u64 q]] W (Post W) := by
  have HS := Lib.hid h
  have hn9 := h.len
  have HPQ := Lib.hid (And.intro hp hq)
  clear h hp hq
  go_enter Try.func7, Try.ntmps7
  go_upto_region 5 with (go_at_call 29; (with_reducible refine (t_new _).mono ?_); rintro e w1 ⟨g, rfl, h1⟩; (have H1 := Lib.hid (show Sx (boxW W p q) w1 g _ _ _ from h1)); clear h1)
  rename_i Kr ar Kb ab
  have HKB := Lib.hid ab
  clear ab
  go_wp2_with fail
  refine HKB.out _ _ ?_
  clear HKB
  go_cut [7] from 9 (fun al wc => ∃ m : List UInt8, ∃ A N c2, al = .slice A N c2 ∧ ∃ v, Fin W wc p q g v al m N)
  case first =>
    go_wp2_with fail
    go_loopw [7, 29] (fun al i wr => ∃ j : Nat, j ≤ n ∧ i = .int .i64 (j : Int) ∧ ∃ m : List UInt8, ∃ A N c2, al = .slice A N c2 ∧ ∃ v, Fin W wr p q g v al m N) (fun _ i _ => n - (intOf i).toNat)
    case atStart => exact ⟨0, Nat.zero_le _, rfl, [], none, 0, 0, rfl, _, H1.out.cons (Ob.nil _ _) (fun k hk => by cases hk), rfl, by omega⟩
    case round =>
      obtain ⟨j, hj, rfl, m, A, N, c2, rfl, v, hx⟩ := hrel
      have HX := Lib.hid hx
      clear hx
      by_cases hlt : j < n
      · obtain ⟨b, off, rfl, hb, hcs⟩ := HS.out.addr (by omega)
        obtain ⟨Ab2, cb, hlv, -, -, -⟩ := HS.out.bytes j hlt
        have hwr : Ab W wr := (boxW_ab W p q).trans HX.out.sx.1.2
        have hcell := (hwr.cells b (off + j) hb).trans (hcs j hlt)
        have HB := Lib.hid (HS.out.bytes j hlt)
        rw [hlv] at hcell HB
        obtain ⟨Lj, hLj⟩ : ∃ Lj, (lb j).length = Lj := ⟨_, rfl⟩
        rw [hLj] at hcell HB
        obtain ⟨j0, j1, e1, e2⟩ := lnums j n N Lj hlt hn9 HX.out.room (hLj ▸ HS.out.small j hlt)
        have HW := Lib.hid hwr
        have HJ := Lib.hid hLj
        clear hcs hwr hlv hLj hb
        by_cases hbig : 65536 < (N : Int) + (Lj : Int)
        · go_wp2_with fail
          go_meet
          case rel => exact ⟨m, A, N, c2, rfl, v, HX.out⟩
        · go_wp2_with (first
            | (go_at_call 34; (with_reducible refine (t_app2 HX.out.sx HW.out HB.out HX.out.len (by rw [HJ.out]; omega)).mono ?_); rintro e w2 ⟨rfl, v2, h2⟩; (have H2 := Lib.hid (And.intro h2 ((boxW_ab W p q).trans h2.1.2))); clear h2)
            | (at_builtin; refine wpList_bytes rfl _ _ _ rfl _ _ rfl rfl (boxW W p q).heap.size m (lb j) H2.out.1.head (src_bs Try.underlying30 (HB.out.ab H2.out.2 (Nat.le_refl _))) (by rw [HX.out.len, HJ.out]; omega) H2.out.1.1.2.size ?_))
          intro v3 w3 ho3 hg3 hb3
          have hsx := H2.out.1.grown hg3 ho3 hb3
          obtain ⟨A3, c3, rfl, -, -⟩ := ho3.len_cap
          have H3 := Lib.hid hsx
          clear hsx ho3 hg3 hb3
          go_wp2_with fail
          go_roundw
          case rel => exact ⟨j + 1, by omega, by go_num, m ++ lb j, A3, _, c3, rfl, v2, H3.out, rfl, by rw [List.length_append, HX.out.len, HJ.out]; omega⟩
          case measure => simp [intOf]; omega
      · go_wp2_with fail
        go_meet
        case rel => exact ⟨m, A, N, c2, rfl, v, HX.out⟩
  case rest =>
    obtain ⟨m, A, N, c2, rfl, v, hx⟩ := hcut
    have HX := Lib.hid hx
    clear hx
    refine ar _ _ ?_
    obtain ⟨N1, f, D, D1, k, t, k1, hmd⟩ := md p q HPQ.out.1 HPQ.out.2 N HX.out.room
    obtain ⟨⟨i1, i2, i3, i4, i5, i6⟩, ⟨j1', j2, j3, j4, j5, j6⟩, ⟨x1, x2, x3, x4⟩, ⟨z1, z2, z3, z4⟩, ⟨le1, le2⟩⟩ := tnums N N1 f D D1 k t k1 hmd.n1 hmd.fN hmd.fD hmd.d1 hmd.kD hmd.ft hmd.k1 hmd.room
    have HM := Lib.hid hmd
    have HM2 := Lib.hid (And.intro i4 (And.intro (sm_64 j4) (And.intro x3 x4)))
    clear x3 x4
    have hlen := HX.out.len
    have HTK := Lib.hid (t_lens hlen hmd)
    obtain ⟨Nm, hNm⟩ : ∃ Nm, m.length = Nm := ⟨_, rfl⟩
    have hwn := HX.out.sx.head
    obtain ⟨Aw, cw, hvw, hcw1, hcw2⟩ := hwn.len_cap
    injection hvw with hA hNw hcw
    subst hA; subst hcw
    have hsl := t_sl A hmd (hNw ▸ hcw1)
    have HWN := Lib.hid (And.intro hNw hcw1)
    clear hmd hlen hwn hNw hcw1 hcw2 hNm ar H1 hn9
    go_wp2_with (first
      | (go_at_call 35; (with_reducible refine (t_sync HX.out.sx HX.out.len).mono ?_); rintro e w5 ⟨rfl, h5⟩; (have hp5 := (h5.1.2.cells W.heap.size 0 (boxW_cells W p q).2.2).trans (boxW_cells W p q).1); (have H5 := Lib.hid h5); clear h5)
      | (go_at_call 43; (rw [HM.out.pf, HM2.out.2.2.1]); (with_reducible refine (t_trim H5.out HM.out.fN).mono ?_); rintro e w6 ⟨rfl, v6, h6⟩; (have H6 := Lib.hid h6); clear h6 hp5)
      | (go_at_call 44; (with_reducible refine (t_base H6.out).mono ?_); rintro e w7 ⟨rfl, h7⟩; (have H7 := Lib.hid h7); clear h7)
      | (go_at_call 40; (with_reducible refine (t_end (M := N) H7.out HTK.out.1).mono ?_); rintro e w8 ⟨rfl, h8⟩; (have hq8 := (h8.1.2.cells W.heap.size 1 (boxW_cells W p q).2.2).trans (boxW_cells W p q).2.1); (have H8 := Lib.hid h8); clear h8)
      | (go_at_call 45; (rw [HM.out.qk, HM2.out.2.2.2, HM2.out.1, HM2.out.2.1]); (with_reducible refine (t_cut H8.out HTK.out.1 HTK.out.2.1 HTK.out.2.2.1).mono ?_); rintro e w9 ⟨rfl, v9, h9⟩; (have H9 := Lib.hid h9); clear h9 hq8)
      | (go_at_call 40; (with_reducible refine (t_end (M := t) H9.out HTK.out.2.2.2.1).mono ?_); rintro e w10 ⟨rfl, h10⟩; (have H10 := Lib.hid h10); clear h10)
      | (go_at_call 41; (with_reducible refine (t_syn H10.out).mono ?_); rintro e w11 ⟨rfl, h11⟩; (have H11 := Lib.hid h11); clear h11)
      | (go_at_call 39; (with_reducible refine (t_read H11.out HTK.out.2.2.2.2.1 HTK.out.2.2.2.2.2.1).mono ?_); rintro e w12 ⟨u, rfl, h12⟩; (obtain ⟨Au, nu, cu, rfl⟩ : ∃ A n c, u = .slice A n c := by obtain ⟨A, c, h, -, -⟩ := h12.head.len_cap; exact ⟨A, _, c, h⟩); (have H12 := Lib.hid h12); clear h12)
      | (go_at_call 39; (with_reducible refine (t_readX H12.out HTK.out.2.2.2.2.2.2.1 HTK.out.2.2.2.2.2.2.2).mono ?_); rintro e w13 ⟨u2, rfl, h13⟩; (have H13 := Lib.hid h13); clear h13)
      | (go_at_call 38; (with_reducible refine (t_crash H13.out HTK.out.2.2.2.1 (t_room HX.out.room HTK.out.2.2.1)).mono ?_); rintro e w14 ⟨rfl, v14, h14⟩; (have H14 := Lib.hid h14); clear h14)
      | (go_at_call 42; (with_reducible refine (t_same H14.out HX.out.len HTK.out.2.1 HTK.out.2.2.1 HM.out.ft HWN.out).mono ?_); rintro e w15 ⟨rfl, rfl⟩)
      | (go_at_call 40; (with_reducible refine (t_end (M := t) H14.out HTK.out.2.2.2.1).mono ?_); rintro e w16 ⟨rfl, h16⟩; (have H16 := Lib.hid h16); clear h16)
      | (go_at_call 31; (with_reducible refine (lives_any _).mono ?_); rintro e w17 ⟨rfl, h17⟩; (have H17 := Lib.hid h17); clear h17))
    go_ret
    exact ⟨rfl, (boxW_ab W p q).trans (H16.out.1.2.trans H17.out)⟩
end Go.Proofs.Ytlenbcehahhmcaa.diskTrims

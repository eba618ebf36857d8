/- The walk through ExtentWrites. -/
import Derived.Test.YtlbkfnmhcgildaaExS
namespace Go.Proofs.Ytlbkfnmhcgildaa.Dg
open Go.RowKit Go.Shelf
variable {w w' W : World} {base a s B : Nat} {v u : Value} {ps : List Pr} {l : List UInt8} {c : Cel}
attribute [local go_sem ↓] Go.wp_at_zero Go.wp_at_succ
/-- Bytes are written at a place that has room, then read: these. -/
theorem wr_read (c : Cel) (t : Nat) (l : List UInt8) (s : Nat) (hs : t + l.length ≤ s ∨ l = []) : readC (wrC c t l) t (min l.length (s - t)) = l := by
  apply List.ext_getElem?
  intro i
  rw [readC_get]
  by_cases h : i < l.length
  · have h1 : t + l.length ≤ s := by
      rcases hs with h2 | h2
      · exact h2
      · subst h2; simp at h
    rw [if_pos (by omega)]
    simp only [wrC]
    rw [if_pos (by omega), show t + i - t = i by omega, List.getElem?_eq_getElem h]; rfl
  · rw [if_neg (by omega), List.getElem?_eq_none (by omega)]
theorem wr_ahead (l m : List UInt8) (t n i : Nat) (hn : n ≤ t) (hi : i < n) : (readC (wrC (wrC (fun _ => none) 0 l) t m) 0 n).getD i 0 = l.getD i 0 := by
  rw [List.getD_eq_getElem?_getD, readC_get, if_pos hi]
  simp only [wrC, Nat.zero_add, Nat.sub_zero, Nat.zero_le, true_and]
  rw [if_neg (by omega), List.getD_eq_getElem?_getD]
  by_cases h : i < l.length
  · rw [if_pos h, List.getElem?_eq_getElem h]; rfl
  · rw [if_neg h, List.getElem?_eq_none (by omega)]; rfl
theorem ho_read (c : Cel) (t n s : Nat) (hs : t + n ≤ s ∨ n = 0) : readC (hoC c t (t + n)) t (min n (s - t)) = List.replicate n 0 := by
  apply List.ext_getElem?
  intro i
  rw [readC_get, List.getElem?_replicate]
  by_cases h : i < n
  · rw [if_pos (by omega), if_pos h]
    simp only [hoC]
    rw [if_pos (by omega)]; rfl
  · rw [if_neg (by omega), if_neg h]
/-- Writes and holes that have room. -/
theorem writen (w : World) (h : Lq W a c s w) (t : Nat) (hu : Bs w B u l) (hB : B ≤ w.heap.size) (hle : t + l.length ≤ 4096) :
    Calls Try.prog 31 #[.pointer (some ⟨a, 0, none⟩), .int .i64 (t : Int), u] w fun e w' => e = .returned (.int .i64 0) ∧ Lq W a (wrC c t l) (if l = [] then s else max s (t + l.length)) w' := by
  have h1 := writeq w h t hu hB
  rw [exE_ok hle, Int.toNat_natCast] at h1
  by_cases hl : l = []
  · rw [if_pos (.inr hl), if_pos (.inr hl)] at h1
    rw [if_pos hl, hl, wrC_nil]
    rw [hl] at hu
    exact h1
  · rw [if_neg (by simp [hl]), if_neg (by simp [hl])] at h1
    rw [if_neg hl]
    exact h1
theorem zeron (w : World) (h : Lq W a c s w) (t n : Nat) (hle : t + n ≤ 4096) :
    Calls Try.prog 40 #[.pointer (some ⟨a, 0, none⟩), .int .i64 (t : Int), .int .i64 (n : Int)] w fun e w' => e = .returned (.int .i64 0) ∧ Lq W a (hoC c t (t + n)) (if n = 0 then s else max s (t + n)) w' := by
  have h1 := zeroq w h t n (by omega)
  rw [exE_ok hle, Int.toNat_natCast, show ((t : Int) + (n : Int)).toNat = t + n by omega] at h1
  by_cases hn : n = 0
  · rw [if_pos (.inr (by omega)), if_pos (.inr (by omega))] at h1
    rw [if_pos hn, hn, Nat.add_zero, hoC_nil]
    rw [hn] at h1
    exact h1
  · rw [if_neg (by simp [hn]), if_neg (by simp [hn])] at h1
    rw [if_neg hn]
    exact h1
theorem write0 (w : World) (h : Lq W a (fun _ => none) 0 w) (hu : Bs w B u l) (hB : B ≤ w.heap.size) (hle : l.length ≤ 4096) :
    Calls Try.prog 31 #[.pointer (some ⟨a, 0, none⟩), .int .i64 0, u] w fun e w' => e = .returned (.int .i64 0) ∧ Lq W a (wrC (fun _ => none) 0 l) l.length w' := by
  have h1 := writen w h 0 hu hB (by omega)
  have e : (if l = [] then 0 else max 0 (0 + l.length)) = l.length := by
    split
    · next h => rw [h]; rfl
    · omega
  rw [e] at h1
  exact h1
theorem read0 (w : World) (h : Lq W a c s w) (n r : Nat) (xs : List UInt8) (hr : xs.length = r) (hx : readC c 0 (min n (s - 0)) = xs) (h63 : n ≤ 9223372036854775807) :
    Calls Try.prog 39 #[.pointer (some ⟨a, 0, none⟩), .int .i64 0, .int .i64 (n : Int)] w fun e w' => ∃ A k, e = .returned (.tuple #[.slice A r k, .int .i64 0]) ∧ Ob w' w.heap.size (.slice A r k) xs ∧ Lq W a c s w' ∧ Ab w w' :=
  readn w h 0 n r xs hr hx ⟨by omega, h63⟩
theorem same_same {v1 v2 : Value} {B1 B2 : Nat} (w : World) (h1 : Bs w B1 v1 l) (h2 : Bs w B2 v2 l) : Calls Try.prog 35 #[v1, v2] w fun e w' => e = .returned (.bool true) ∧ w = w' :=
  (xSame_any w h1 h2).mono fun _ _ ⟨h, hw⟩ => ⟨by rw [h]; simp, hw⟩
set_option maxRecDepth 100000 in
set_option maxHeartbeats 8000000 in
theorem writes_walk (W : World) (v0 v1 : Value) (lb l : List UInt8) (p q : Int) (h0 : Bs W W.heap.size v0 lb) (h1 : Bs W W.heap.size v1 l) (hp : 0 ≤ p ∧ p < 18446744073709551616) (hq : 0 ≤ q ∧ q < 18446744073709551616) :
    Calls Try.prog 6 #[v0, v1, .agg #[.int .u64 p, .int .u64 q]] W fun e w' => e = .returned (.bool true) ∧ Ab W w' := by
  have HS0 := Lib.hid h0
  have HS1 := Lib.hid h1
  obtain ⟨A0, c0, rfl, k01, k02, k03⟩ := h0
  obtain ⟨A1, c1, rfl, -, -, -⟩ := h1
  obtain ⟨Lb, hLb⟩ : ∃ Lb, lb.length = Lb := ⟨_, rfl⟩
  obtain ⟨L, hL⟩ : ∃ L, l.length = L := ⟨_, rfl⟩
  have HL := Lib.hid (And.intro hLb hL)
  rw [hLb] at HS0
  rw [hL] at HS1
  have hw1 : Ab W (W.alloc (.cells #[.int .u64 p, .int .u64 q] 81)) := (Ab.refl W).alloc _
  have b1 : Bk (W.alloc (.cells #[.int .u64 p, .int .u64 q] 81)) W.heap.size 81 #[.int .u64 p, .int .u64 q] := Bk.made W _ _
  have x0 : (W.alloc (.cells #[.int .u64 p, .int .u64 q] 81)).cell? ⟨W.heap.size, 0, none⟩ = some (.int .u64 p) := b1.cell rfl
  have x1 : (W.alloc (.cells #[.int .u64 p, .int .u64 q] 81)).cell? ⟨W.heap.size, 1, none⟩ = some (.int .u64 q) := b1.cell rfl
  have HW1 := Lib.hid hw1
  rw [hL]
  clear hw1 b1 k01 k02 k03 hL
  rw [hLb]
  clear hLb
  go_enter Try.func6, Try.ntmps6
  go_wp2_with fail
  go_quiet (fail)
  have hw2 : Ab W ((W.alloc (.cells #[.int .u64 p, .int .u64 q] 81)).drewN nq) := HW1.out.drewN nq
  generalize (W.alloc (.cells #[.int .u64 p, .int .u64 q] 81)).drewN nq = w2 at *
  have HW2 := Lib.hid hw2
  clear hw2 x0 x1 HW1
  have HN := Lib.hid (newq w2 HW2.out)
  by_cases cA : 4000 < Lb
  · have cA' : (4000 : Int) < (Lb : Int) := by omega
    go_wp2_with (first
      | (go_at_call 29; (with_reducible refine HN.out.mono ?_); rintro e w3 ⟨rfl, h3, -⟩; have H3 := Lib.hid h3; clear h3)
      | (go_at_call 38; (with_reducible refine (exlives_any _).mono ?_); rintro e w4 ⟨rfl, ha4⟩; have H4 := Lib.hid (H3.out.2.trans ha4); clear ha4))
    go_ret
    exact ⟨rfl, H4.out⟩
  have cA' : ¬ (4000 : Int) < (Lb : Int) := by omega
  by_cases cB : 90 < L
  · have cB' : (90 : Int) < (L : Int) := by omega
    go_wp2_with (first
      | (go_at_call 29; (with_reducible refine HN.out.mono ?_); rintro e w3 ⟨rfl, h3, -⟩; have H3 := Lib.hid h3; clear h3)
      | (go_at_call 38; (with_reducible refine (exlives_any _).mono ?_); rintro e w4 ⟨rfl, ha4⟩; have H4 := Lib.hid (H3.out.2.trans ha4); clear ha4))
    go_ret
    exact ⟨rfl, H4.out⟩
  have cB' : ¬ (90 : Int) < (L : Int) := by omega
  obtain ⟨k, hk⟩ : ∃ k : Nat, p.tmod 4000 = (k : Int) := ⟨(p.tmod 4000).toNat, by have := Int.tmod_nonneg 4000 hp.1; omega⟩
  have hk4 : k < 4000 := by have := Int.tmod_lt_of_pos p (show (0 : Int) < 4000 by omega); omega
  obtain ⟨n, hn⟩ : ∃ n : Nat, q.tmod 90 = (n : Int) := ⟨(q.tmod 90).toNat, by have := Int.tmod_nonneg 90 hq.1; omega⟩
  have hn4 : n < 90 := by have := Int.tmod_lt_of_pos q (show (0 : Int) < 90 by omega); omega
  have e1 : IntKind.u64.wrap (k : Int) = (k : Int) := by rw [IntKind.wrap_u64]; omega
  have e2 : IntKind.i64.wrap (k : Int) = (k : Int) := IntWalk.i64_in _ (by omega)
  have e3 : IntKind.u64.wrap (n : Int) = (n : Int) := by rw [IntKind.wrap_u64]; omega
  have e4 : IntKind.i64.wrap (n : Int) = (n : Int) := IntWalk.i64_in _ (by omega)
  obtain ⟨la, hla⟩ : ∃ la, readC (wrC (wrC (fun _ => none) 0 lb) k l) 0 (min k ((if l = [] then Lb else max Lb (k + L)) - 0)) = la := ⟨_, rfl⟩
  obtain ⟨s2, hs2⟩ : ∃ s2, (if l = [] then Lb else max Lb (k + L)) = s2 := ⟨_, rfl⟩
  obtain ⟨s3, hs3⟩ : ∃ s3, (if n = 0 then s2 else max s2 (k + n)) = s3 := ⟨_, rfl⟩
  obtain ⟨R, hR⟩ : ∃ R, la.length = R := ⟨_, rfl⟩
  rw [hs2] at hla
  have hs2' : k + l.length ≤ s2 ∨ l = [] := by
    rw [HL.out.2, ← hs2]
    by_cases h : l = []
    · exact .inr h
    · rw [if_neg h]; left; omega
  have hs3' : k + n ≤ s3 ∨ n = 0 := by
    rw [← hs3]
    by_cases h : n = 0
    · exact .inr h
    · rw [if_neg h]; left; omega
  have hRk : R = min k (s2 - 0) := by rw [← hR, ← hla, readC_length]
  have HF1 := Lib.hid (fun (wx : World) (hx : Lq W w2.heap.size (fun _ => none) 0 wx) => write0 wx hx (HS0.out.ab hx.2 (Nat.le_refl _)) hx.2.size (by rw [HL.out.1]; omega))
  rw [HL.out.1] at HF1
  have HF2 := Lib.hid (fun (wx : World) (hx : Lq W w2.heap.size (wrC (fun _ => none) 0 lb) Lb wx) => writen wx hx k (HS1.out.ab hx.2 (Nat.le_refl _)) hx.2.size (by rw [HL.out.2]; omega))
  rw [HL.out.2, hs2] at HF2
  have HF3 := Lib.hid (fun (wx : World) (hx : Lq W w2.heap.size (wrC (wrC (fun _ => none) 0 lb) k l) s2 wx) => readn wx hx k L L l HL.out.2 (by rw [← HL.out.2]; exact wr_read _ _ _ _ hs2') ⟨by omega, by omega⟩)
  have HF4 := Lib.hid (fun (wx : World) (hx : Lq W w2.heap.size (wrC (wrC (fun _ => none) 0 lb) k l) s2 wx) => read0 wx hx k R la hR hla (by omega))
  have HF5 := Lib.hid (fun (wx : World) (hx : Lq W w2.heap.size (wrC (wrC (fun _ => none) 0 lb) k l) s2 wx) => zeron wx hx k n (by omega))
  rw [hs3] at HF5
  have HF6 := Lib.hid (fun (wx : World) (hx : Lq W w2.heap.size (hoC (wrC (wrC (fun _ => none) 0 lb) k l) k (k + n)) s3 wx) => readn wx hx k n n (List.replicate n 0) List.length_replicate (ho_read _ _ _ _ hs3') ⟨by omega, by omega⟩)
  have HLA := Lib.hid (And.intro (fun i (hi : i < R) => (show la.getD i 0 = lb.getD i 0 by rw [← hla]; exact wr_ahead lb l k _ i (by omega) (by omega))) (And.intro hR hRk))
  have hRb : R ≤ 4000 := by omega
  have hnb : n ≤ 90 := by omega
  have HK := Lib.hid (And.intro hk4 (And.intro hn4 (show Lb ≤ 4000 ∧ L ≤ 90 by omega)))
  clear hk4 hn4 hp hq cA cB hla hs2 hs3 hR hs2' hs3' hRk
  go_wp2_with (first
    | (go_at_call 29; (with_reducible refine HN.out.mono ?_); rintro e w3 ⟨rfl, h3, h23⟩; have H3 := Lib.hid h3; clear h3 h23)
    | (go_at_call 31; (with_reducible refine (HF1.out _ H3.out).mono ?_); rintro e w4 ⟨rfl, h4⟩; have H4 := Lib.hid h4; clear h4)
    | (go_at_call 31; (with_reducible refine (HF2.out _ H4.out).mono ?_); rintro e w5 ⟨rfl, h5⟩; have H5 := Lib.hid h5; clear h5)
    | (go_at_call 39; (with_reducible refine (HF3.out _ H5.out).mono ?_); rintro e w6 ⟨A6, k6, rfl, ho6, h6, ha6⟩; have H6 := Lib.hid (And.intro ho6 h6); clear ho6 h6 ha6)
    | (go_at_call 39; (with_reducible refine (HF4.out _ H6.out.2).mono ?_); rintro e w7 ⟨A7, k7, rfl, ho7, h7, ha7⟩; have H7 := Lib.hid (And.intro ho7 (And.intro h7 (H6.out.1.ab ha7))); clear ho7 h7 ha7))
  refine (same_same w7 H7.out.2.2.bs (HS1.out.ab H7.out.2.1.2 (Nat.le_refl _))).mono ?_
  rintro e wz ⟨rfl, rfl⟩
  go_wp2_with fail
  go_loopw [15, 16, 85] (fun _ _ i wr => ∃ j : Nat, j ≤ R ∧ i = .int .i64 (j : Int) ∧ w7 = wr) (fun _ _ i _ => R - (intOf i).toNat)
  case atStart => exact ⟨0, Nat.zero_le _, rfl, by first | rfl | trivial⟩
  case round =>
    obtain ⟨j, hj, rfl, rfl⟩ := hrel
    by_cases hlt : j < R
    · obtain ⟨A', c', hv, -, -, h3⟩ := H7.out.1.bs
      injection hv with hva hvn hvc
      subst hva; subst hvc
      have hne : la ≠ [] := by intro e; have := HLA.out.2.1; rw [e] at this; simp at this; omega
      obtain ⟨b, off, rfl, -, hc⟩ := h3 hne
      have hcell := hc j (by rw [← hvn]; exact hlt)
      rw [HLA.out.1 j hlt] at hcell
      have i1 : (0 : Int) ≤ (j : Int) := by omega
      have i2 : (j : Int) < (R : Int) := by omega
      have HLT := Lib.hid hlt
      clear h3 hc hvn hne hlt
      by_cases hjl : j < Lb
      · obtain ⟨A'', c'', hv, -, -, h3⟩ := HS0.out.ab H7.out.2.1.2 (Nat.le_refl _)
        injection hv with hva hvn hvc
        subst hva; subst hvc
        have hne : lb ≠ [] := by intro e; rw [e] at hvn; simp at hvn; omega
        obtain ⟨b2, off2, rfl, -, hc⟩ := h3 hne
        have hcell2 := hc j (by rw [← hvn]; exact hjl)
        have i3 : (j : Int) < (Lb : Int) := by omega
        have i4 : ¬ (Lb : Int) ≤ (j : Int) := by omega
        obtain ⟨y, hy⟩ : ∃ y, n8 (lb.getD j 0) = y := ⟨_, rfl⟩
        rw [hy] at hcell hcell2
        clear h3 hc hvn hne hy hjl
        go_wp2_with fail
        go_roundw
        case rel => exact ⟨j + 1, HLT.out, by go_num, by first | rfl | trivial⟩
        case measure => have := HLT.out; simp [intOf]; omega
      · have i3 : ¬ (j : Int) < (Lb : Int) := by omega
        have i4 : (Lb : Int) ≤ (j : Int) := by omega
        have hy : n8 (lb.getD j 0) = 0 := by
          rw [List.getD_eq_getElem?_getD, List.getElem?_eq_none (by rw [HL.out.1]; omega)]; rfl
        rw [hy] at hcell
        clear hy hjl
        go_wp2_with fail
        go_roundw
        case rel => exact ⟨j + 1, HLT.out, by go_num, by first | rfl | trivial⟩
        case measure => have := HLT.out; simp [intOf]; omega
    · have hjr : ¬ (j : Int) < (R : Int) := by omega
      clear hlt
      go_wp2_with (first
        | (go_at_call 40; (with_reducible refine (HF5.out _ H7.out.2.1).mono ?_); rintro e w8 ⟨rfl, h8⟩; have H8 := Lib.hid h8; clear h8)
        | (go_at_call 39; (with_reducible refine (HF6.out _ H8.out).mono ?_); rintro e w9 ⟨A9, k9, rfl, ho9, h9, ha9⟩; have H9 := Lib.hid (And.intro ho9 h9); clear ho9 h9 ha9))
      go_loopw [20, 130] (fun _ i wr => ∃ j : Nat, j ≤ n ∧ i = .int .i64 (j : Int) ∧ w9 = wr) (fun _ i _ => n - (intOf i).toNat)
      case atStart => exact ⟨0, Nat.zero_le _, rfl, by first | rfl | trivial⟩
      case round =>
        obtain ⟨j2, hj2, rfl, rfl⟩ := hrel
        by_cases hlt : j2 < n
        · obtain ⟨A', c', hv, -, -, h3⟩ := H9.out.1.bs
          injection hv with hva hvn hvc
          subst hva; subst hvc
          have hne : List.replicate n (0 : UInt8) ≠ [] := by intro e; have := congrArg List.length e; rw [List.length_replicate] at this; simp at this; omega
          obtain ⟨b, off, rfl, -, hc⟩ := h3 hne
          have hcell := hc j2 (by rw [List.length_replicate]; exact hlt)
          have hy : n8 ((List.replicate n (0 : UInt8)).getD j2 0) = 0 := by
            rw [List.getD_eq_getElem?_getD, List.getElem?_replicate, if_pos hlt]; rfl
          rw [hy] at hcell
          have i1 : (0 : Int) ≤ (j2 : Int) := by omega
          have i2 : (j2 : Int) < (n : Int) := by omega
          have HLT := Lib.hid hlt
          clear h3 hc hvn hne hlt hy
          go_wp2_with fail
          go_roundw
          case rel => exact ⟨j2 + 1, HLT.out, by go_num, by first | rfl | trivial⟩
          case measure => have := HLT.out; simp [intOf]; omega
        · have hjr2 : ¬ (j2 : Int) < (n : Int) := by omega
          clear hlt
          go_wp2_with (go_at_call 38; (with_reducible refine (exlives_any _).mono ?_); rintro e w10 ⟨rfl, ha10⟩; have H10 := Lib.hid (H9.out.2.2.trans ha10); clear ha10)
          go_ret
          exact ⟨rfl, H10.out⟩
end Go.Proofs.Ytlbkfnmhcgildaa.Dg

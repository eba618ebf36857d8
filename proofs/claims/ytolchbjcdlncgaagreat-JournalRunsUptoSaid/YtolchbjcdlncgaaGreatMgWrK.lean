/- Texts joined: WrK. -/
import Derived.Test.YtolchbjcdlncgaaGreatMgDgJ
import Derived.Test.YtolchbjcdlncgaaGreatMgWrC
/- wire's reference: a Reader that has not failed; a word; Unframe. -/
namespace Go.Proofs.YtolchbjcdlncgaaGreat.Dg
open Go.RowKit
variable {w w' : World} {base B rb : Nat} {v : Value} {l : List UInt8}
/-- Block rb is a Reader: l is left; the bytes lie below base. -/
structure Rd (w : World) (rb base : Nat) (v : Value) (l : List UInt8) (bad : Bool) : Prop where
  blk : Bk w rb 125 #[v, .bool bad]
  src : Bs w base v l
  le : base ≤ rb
theorem Rd.lt {bad : Bool} (h : Rd w rb base v l bad) : rb < w.heap.size := h.blk.lt
theorem Rd.bytes {bad : Bool} (h : Rd w rb base v l bad) : w.cell? ⟨rb, 0, none⟩ = some v := h.blk.cell rfl
theorem Rd.flag {bad : Bool} (h : Rd w rb base v l bad) : w.cell? ⟨rb, 1, none⟩ = some (.bool bad) := h.blk.cell rfl
theorem Rd.free {bad : Bool} (h : Rd w rb base v l bad) (i : Nat) : w.frozen? ⟨rb, i, none⟩ = false := h.blk.free i
theorem Rd.next {bad : Bool} {u : Value} {m : List UInt8} (h : Rd w rb base v l bad) (hb : Bs w base u m) : Rd (w.setCell ⟨rb, 0, none⟩ u) rb base u m bad :=
  ⟨h.blk.store 0 u, hb.keep fun b o hlt => World.cell?_of_block (a := ⟨b, o, none⟩) (Below.heap_setCell w ⟨rb, 0, none⟩ u b (by have := h.le; show b ≠ rb; omega)), h.le⟩
set_option maxRecDepth 100000 in
set_option maxHeartbeats 1000000 in
theorem rtake_ok (n : Nat) (w : World) (h : Rd w rb base v l false) (hn : n ≤ l.length) :
    Calls Tryz.prog 89 #[.pointer (some ⟨rb, 0, none⟩), .int .i64 (n : Int)] w fun e w' => ∃ u v', e = .returned u ∧ Bs w' base u (l.take n) ∧ w' = w.setCell ⟨rb, 0, none⟩ v' ∧ Rd w' rb base v' (l.drop n) false := by
  obtain ⟨A, c, hv, h1, h2, h3⟩ := id h.src
  subst hv
  have hc := h.bytes
  have hc1 := h.flag
  have hf := h.free 0
  have hnn : ¬ l.length < n := by omega
  have hsh := fun wx => run_slice_head A l.length c n (n : Int) rfl (by omega) wx
  have hst := fun wx => run_slice_tail A l.length c n hn wx
  have HT := Lib.hid (take_bs h.src n hn)
  have HC := Lib.hid (cutB h.src n hn rfl)
  have HH := Lib.hid h
  generalize (if c = n then A else Option.map (fun x => x.add n) A) = A2 at *
  clear h h3
  go_enter Tryz.func89, Tryz.ntmps89
  go_wp2
  go_ret
  refine ⟨_, _, rfl, ?_, rfl, HH.out.next HC.out⟩
  exact HT.out.keep fun b o hlt => World.cell?_of_block (a := ⟨b, o, none⟩) (Below.heap_setCell w ⟨rb, 0, none⟩ _ b (by have := HH.out.le; show b ≠ rb; omega))
theorem add_byte32 (m : List UInt8) (j : Nat) (h : j < 4) (hm : m.length = 4) (y : UInt8) (hy : y = m.getD j 0) :
    ((valL (m.take j) : Int) + n8 y % 4294967296 * 2 ^ (8 * j) % 4294967296) % 4294967296 = (valL (m.take (j + 1)) : Int) := by
  subst hy
  have hjm : j < m.length := by omega
  have hx := (m.getD j 0).toNat_lt
  have hnx : valL (m.take (j + 1)) = valL (m.take j ++ [m.getD j 0]) := by rw [take_next m j hjm]
  rw [valL_snoc, List.length_take, show min j m.length = j by omega] at hnx
  have hlt2 := valL_lt (m.take (j + 1))
  have hp : 2 ^ (8 * (m.take (j + 1)).length) ≤ 2 ^ 32 := Nat.pow_le_pow_right (by omega) (by rw [List.length_take]; omega)
  have hpj : 2 ^ (8 * j) ≤ 2 ^ 24 := Nat.pow_le_pow_right (by omega) (by omega)
  have hmul : (m.getD j 0).toNat * 2 ^ (8 * j) ≤ 255 * 2 ^ 24 := Nat.mul_le_mul (by omega) hpj
  have e1 : n8 (m.getD j 0) % 4294967296 = ((m.getD j 0).toNat : Int) := by unfold n8; omega
  have e2 : ((m.getD j 0).toNat : Int) * 2 ^ (8 * j) = (((m.getD j 0).toNat * 2 ^ (8 * j) : Nat) : Int) := by push_cast; rfl
  rw [e1, e2]
  rw [Nat.mul_comm] at hnx
  omega
set_option maxRecDepth 100000 in
set_option maxHeartbeats 1000000 in
theorem rword_ok (w : World) (h : Rd w rb base v l false) (hn : 4 ≤ l.length) :
    Calls Tryz.prog 81 #[.pointer (some ⟨rb, 0, none⟩)] w fun e w' => ∃ v', e = .returned (.int .u32 (valL (l.take 4) : Int)) ∧ w' = w.setCell ⟨rb, 0, none⟩ v' ∧ Rd w' rb base v' (l.drop 4) false := by
  have HH := Lib.hid h
  have hl4 : (l.take 4).length = 4 := by rw [List.length_take]; omega
  clear h
  go_enter Tryz.func81, Tryz.ntmps81
  go_wp2_with fail
  refine (rtake_ok 4 w HH.out hn).mono ?_
  rintro e w2 ⟨u, v2, rfl, hu, hw, hr2⟩
  obtain ⟨m, hm⟩ : ∃ m, l.take 4 = m := ⟨_, rfl⟩
  rw [hm] at hu hl4
  have HM := Lib.hid hm
  clear hm
  have HR := Lib.hid (And.intro hw hr2)
  have hne : m ≠ [] := by intro e; subst e; simp at hl4
  obtain ⟨A, c, rfl, h1, h2, h3⟩ := hu
  obtain ⟨b, off, rfl, hb, hc⟩ := h3 hne
  rw [hl4] at h1 ⊢
  have HL := Lib.hid hl4
  have HC := Lib.hid hc
  clear hw hr2 h3 hl4 hc
  go_wp2_with fail
  go_loop [4, 8] (fun n i => ∃ j : Nat, j ≤ 4 ∧ i = .int .i64 (j : Int) ∧ n = .int .u32 (valL (m.take j) : Int)) (fun _ i => 4 - (intOf i).toNat)
  case atStart => exact ⟨0, Nat.zero_le _, rfl, rfl⟩
  case round =>
    obtain ⟨j, hj, rfl, rfl⟩ := hrel
    by_cases hlt : j < 4
    · have hjm : j < m.length := by rw [HL.out]; exact hlt
      have hcell := HC.out j hjm
      have hj0 : (0 : Int) ≤ (j : Int) := by omega
      have hj4 : (j : Int) < 4 := by omega
      have HS := Lib.hid (add_byte32 m j hlt HL.out m[j] (getElem_D m j hjm))
      go_wp2_with fail
      go_round
      case rel => exact ⟨j + 1, by omega, by go_num, by rw [HS.out]⟩
      case measure => simp [intOf]; omega
    · have : j = 4 := by omega
      subst this
      have hm4 : m.take 4 = m := List.take_of_length_le (by rw [HL.out]; omega)
      rw [hm4]
      go_wp2_with fail
      go_ret
      exact ⟨by rw [HM.out]; rfl, v2, HR.out.1, HR.out.2⟩
theorem Rd.set_ab {W : World} {u : Value} (hW : Ab W w) (hr : W.heap.size ≤ rb) : Ab W (w.setCell ⟨rb, 0, none⟩ u) := hW.set hr u
set_option maxRecDepth 100000 in
set_option maxHeartbeats 2000000 in
theorem runframe_any (w : World) (h : Bs w w.heap.size v l) :
    Calls Tryz.prog 67 #[v] w (UfPost l w) := by
  have HB := Lib.hid h
  obtain ⟨A, c, rfl, h1, h2, -⟩ := id h
  have hlm : l.length ≤ 9223372036854775807 := by omega
  by_cases h8 : l.length < 8
  · have HP := Lib.hid (show ufE l = 11 by unfold ufE; rw [if_pos h8])
    clear h
    go_enter Tryz.func67, Tryz.ntmps67
    go_wp2_with fail
    refine bodyPost_ret (v := .tuple #[.slice none 0 0, .int .i64 0, .int .i64 11]) ?_ rfl (uf_bad 11 HP.out (by omega) (Ab.refl w))
    simp [results, Tryz.results67, go_sem]
  · have hr0 : Rd (w.alloc (.cells #[.slice A l.length c, .bool false] 125)) w.heap.size w.heap.size (.slice A l.length c) l false :=
      ⟨Bk.made w _ _, h.ab ((Ab.refl w).alloc _) (Nat.le_refl _), Nat.le_refl _⟩
    have ha0 : Ab w (w.alloc (.cells #[.slice A l.length c, .bool false] 125)) := (Ab.refl w).alloc _
    have H0 := Lib.hid (And.intro hr0 ha0)
    clear h hr0 ha0
    go_enter Tryz.func67, Tryz.ntmps67
    go_wp2_with fail
    generalize w.alloc (.cells #[.slice A l.length c, .bool false] 125) = w1 at *
    refine (rword_ok w1 H0.out.1 (by omega)).mono ?_
    rintro e w2 ⟨v2, rfl, hw2, hr2⟩
    have ha2 : Ab w w2 := by subst hw2; exact H0.out.2.set (Nat.le_refl _) _
    have hn32 := valL_lt (l.take 4)
    rw [List.length_take, show min 4 l.length = 4 by omega] at hn32
    obtain ⟨n, hn⟩ : ∃ n, valL (l.take 4) = n := ⟨_, rfl⟩
    rw [hn] at hn32 ⊢
    have H2 := Lib.hid (And.intro hr2 (And.intro ha2 hn))
    have hn64 : IntKind.i64.wrap (n : Int) = (n : Int) := IntWalk.i64_in _ (by omega)
    clear hw2 hr2 ha2 H0 hn
    go_wp2_with fail
    refine (rword_ok w2 H2.out.1 (by rw [List.length_drop]; omega)).mono ?_
    rintro e w3 ⟨v3, rfl, hw3, hr3⟩
    have ha3 : Ab w w3 := by subst hw3; exact H2.out.2.1.set (Nat.le_refl _) _
    obtain ⟨k, hk⟩ : ∃ k, valL ((l.drop 4).take 4) = k := ⟨_, rfl⟩
    have hk32 := valL_lt ((l.drop 4).take 4)
    rw [List.length_take, List.length_drop, show min 4 (l.length - 4) = 4 by omega] at hk32
    rw [hk] at hk32 ⊢
    rw [List.drop_drop, show 4 + 4 = 8 from rfl] at hr3
    have H3 := Lib.hid (And.intro hr3 (And.intro ha3 hk))
    have HN := Lib.hid H2.out.2.2
    clear hw3 hr3 ha3 H2 hk
    by_cases hbig : 524288 < n
    · have HP := Lib.hid (show ufE l = 27 by unfold ufE; rw [if_neg h8, HN.out, if_pos hbig])
      go_wp2_with fail
      refine bodyPost_ret (v := .tuple #[.slice none 0 0, .int .i64 0, .int .i64 27]) ?_ rfl (uf_bad 27 HP.out (by omega) H3.out.2.1)
      simp [results, Tryz.results67, go_sem]
    · obtain ⟨A3, c3, hv3, hc31, hc32, -⟩ := id H3.out.1.src
      subst hv3
      have hb3 := H3.out.1.bytes
      rw [List.length_drop] at hb3 hc31
      obtain ⟨q, hq⟩ : ∃ q, l.length - 8 = q := ⟨_, rfl⟩
      rw [hq] at hb3 hc31
      have hq9 : q ≤ 9223372036854775807 := by omega
      by_cases hsh2 : l.length < 8 + n
      · have HP := Lib.hid (show ufE l = 11 by unfold ufE; rw [if_neg h8, HN.out, if_neg hbig, if_pos hsh2])
        have hqn : q < n := by omega
        clear hq
        go_wp2_with fail
        refine bodyPost_ret (v := .tuple #[.slice none 0 0, .int .i64 0, .int .i64 11]) ?_ rfl (uf_bad 11 HP.out (by omega) H3.out.2.1)
        simp [results, Tryz.results67, go_sem]
      · have hqn : ¬ q < n := by omega
        have hE : ufE l = if (crcL ((l.drop 8).take n)).toNat = k then 0 else 74 := by unfold ufE; rw [if_neg h8, HN.out, if_neg hbig, if_neg hsh2, H3.out.2.2]
        have hC : ufE l = 0 → ufC l = (l.drop 8).take n ∧ ufN l = 8 + n := fun h0 => by unfold ufC ufN; rw [if_pos h0, if_pos h0, HN.out]; exact ⟨rfl, rfl⟩
        have hsl := fun wx => run_slice_head A3 q c3 n (n : Int) rfl (by omega) wx
        have hbt := take_bs H3.out.1.src n (by rw [List.length_drop]; omega)
        have hctl : ((l.drop 8).take n).length = n := by rw [List.length_take, List.length_drop]; omega
        generalize (l.drop 8).take n = ct at *
        have HT := Lib.hid hbt
        have HE := Lib.hid hE
        have HCC := Lib.hid hC
        have HL := Lib.hid hctl
        have HX := Lib.hid (show ([] : List UInt8).length + ct.length ≤ 200000000000000 by rw [hctl]; simp; omega)
        have hb3a : (w3.alloc (.cells #[] 5)).cell? ⟨w.heap.size, 0, none⟩ = some (.slice A3 q c3) := (World.cell?_of_block (a := ⟨w.heap.size, 0, none⟩) (Below.heap_alloc w3 _ w.heap.size H3.out.1.lt)).trans hb3
        clear hbt hE hC hctl hq
        go_wp2_with (at_builtin; refine wpList_bytes3 rfl _ _ _ rfl _ _ rfl rfl w3.heap.size [] ct (Ob.made w3 #[] _ (Nat.le_refl _) (by simp [maxLen])) (src_bs Tryz.underlying27 (HT.out.ab ((Ab.refl w3).alloc _) H3.out.2.1.size)) HX.out (by simp) ?_)
        intro A5 n5 c5 w5 ho5 hf5
        have ho5 : Ob w5 w3.heap.size (.slice A5 n5 c5) ct := ho5
        have ha5 : Ab w w5 := hf5.ab (H3.out.2.1.alloc _) (by have := H3.out.2.1.size; omega)
        have H5 := Lib.hid (And.intro ho5 ha5)
        clear ho5 hf5 ha5
        go_wp2_with fail
        refine (rcrc_any w5.heap.size _ ct w5 H5.out.1.bs).mono ?_
        rintro e w6 ⟨rfl, rfl⟩
        have hcr : n32 (crcL ct) = ((crcL ct).toNat : Int) := rfl
        obtain ⟨m, hm⟩ : ∃ m, (crcL ct).toNat = m := ⟨_, rfl⟩
        rw [hcr, hm]
        rw [hm] at HE
        clear hcr hm
        by_cases hmk : m = k
        · subst hmk
          have h0 : ufE l = 0 := by rw [HE.out, if_pos rfl]
          obtain ⟨hc0, hn0⟩ := HCC.out h0
          have HR := Lib.hid (And.intro h0 (And.intro hc0 hn0))
          have hsz : IntKind.i64.wrap (8 + (n : Int)) = 8 + (n : Int) := IntWalk.i64_in _ (by omega)
          clear h0 hc0 hn0
          go_wp2_with fail
          refine bodyPost_ret (v := .tuple #[.slice A5 n5 c5, .int .i64 (8 + (n : Int)), .int .i64 0]) ?_ rfl ⟨.slice A5 n5 c5, ?_, ?_, H5.out.2⟩
          · simp [results, Tryz.results67, go_sem]
          · rw [HR.out.2.2, HR.out.1]; rfl
          · rw [HR.out.2.1]; exact H5.out.1.lower H3.out.2.1.size
        · have hmk2 : ¬ (m : Int) = (k : Int) := by omega
          have hb1 : ((m : Int) == (k : Int)) = false := by rw [beq_eq_false_iff_ne]; exact hmk2
          have HP := Lib.hid (show ufE l = 74 by rw [HE.out, if_neg hmk])
          go_wp2_with fail
          refine bodyPost_ret (v := .tuple #[.slice none 0 0, .int .i64 0, .int .i64 74]) ?_ rfl (uf_bad 74 HP.out (by omega) H5.out.2)
          simp [results, Tryz.results67, go_sem]
end Go.Proofs.YtolchbjcdlncgaaGreat.Dg

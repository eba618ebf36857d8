/- The reference's SHA-256 of any bytes. -/
import Derived.Test.YtpikhfgpdebomaaDoorRsN
import Derived.Test.YtpikhfgpdebomaaDoorDgWi
namespace Go.Proofs.YtpikhfgpdebomaaDoor.Dg
open Go.RowKit
variable {W w w' : World} {b n k : Nat} {t : TypeId} {f : Nat → UInt32}
section
attribute [local go_sem] wlen64 mul8w lbw_0 lbw_1 lbw_2 lbw_3 lbw_4 lbw_5 lbw_6 lbw_7 lb_0 lb_1 lb_2 lb_3 lb_4 lb_5 lb_6 lb_7 mul8_64 shr32_24 shr32_16 shr32_8 lo8
set_option maxRecDepth 100000 in
set_option maxHeartbeats 4000000 in
theorem rsha_any (v : Value) (l : List UInt8) (w : World) (hv : Bs w w.heap.size v l) (hl : l.length ≤ 20000) :
    Calls Tryd.prog 10 #[v] w fun e w' => ∃ ds, e = .returned (.agg ds) ∧ U8s ds 32 (cb (shaH l)) ∧ Ab w w' := by
  obtain ⟨A, c, rfl, r1, r2, -⟩ := id hv
  have hab0 : Ab w (w.alloc (.cells (Array.replicate 32 (.int .u8 0)) 30)) := (Ab.refl w).alloc _
  have hbk0 := Bk.made w 30 (Array.replicate 32 (.int .u8 0))
  go_enter Tryd.func10, Tryd.ntmps10
  go_wp2_with fail
  refine (primes_any _).mono ?_
  rintro e w1 ⟨A1, c1, rfl, hp, ha1⟩
  obtain ⟨g, off, cap, hpv, -, hpg, -, -, -, hpc⟩ := hp.form (by omega)
  injection hpv with hA1 _ hc1
  subst hA1
  subst hc1
  have HP : Hid (∀ wx, Ab w1 wx → ∀ k, k < 64 → wx.cell? ⟨g, off + k, none⟩ = some (.int .u64 (((prm 310).getD k 0 : Nat) : Int))) := Lib.hid fun wx hx k hk => (hx.cells g _ hpg).trans (hpc k _ (by
    unfold nV
    rw [List.getElem?_map, List.getElem?_eq_getElem (by rw [prm_len]; exact hk), List.getD_eq_getElem?_getD, List.getElem?_eq_getElem (by rw [prm_len]; exact hk)]
    rfl))
  have hab1 := hab0.trans ha1
  have HV : Hid (∀ wx, Ab w1 wx → Bs wx w.heap.size (.slice A l.length c) l) := Lib.hid fun wx hx => hv.ab (hab1.trans hx) (Nat.le_refl _)
  have HZ := Lib.hid (And.intro (ha1.bk hbk0) hab1)
  clear hab0 hbk0 hp ha1 hpg hpc hab1 hv
  have h1 : Fil w1 (w1.alloc (.cells #[.int .u32 0, .int .u32 0, .int .u32 0, .int .u32 0, .int .u32 0, .int .u32 0, .int .u32 0, .int .u32 0] 57)) w1.heap.size 57 8 h0 0 :=
    ⟨(Ab.refl w1).alloc _, _, Bk.made _ _ _, rfl, fun i hi => by
      have : i = 0 ∨ i = 1 ∨ i = 2 ∨ i = 3 ∨ i = 4 ∨ i = 5 ∨ i = 6 ∨ i = 7 := by omega
      rcases this with rfl | rfl | rfl | rfl | rfl | rfl | rfl | rfl <;> rfl⟩
  have H1 := Lib.hid h1
  clear h1
  go_wp2_with fail
  go_loopw [5, 16] (fun _ q wx => ∃ k : Nat, k ≤ 8 ∧ q = .int .i64 (k : Int) ∧ Hid (Fil w1 wx w1.heap.size 57 8 h0 k)) (fun _ q _ => 8 - (intOf q).toNat)
  case atStart => exact ⟨0, by omega, rfl, H1⟩
  case round =>
    obtain ⟨k, hk, rfl, HR⟩ := hrel
    by_cases hk8 : k < 8
    · have k1 : (k : Int) < 8 := by omega
      have pc := HP.out _ HR.out.1 k (by omega)
      have hs := sq_h0 ⟨k, hk8⟩
      have HQ := Lib.hid (square_any (((prm 310).getD k 0 : Nat) : Int) wr)
      generalize (((prm 310).getD k 0 : Nat) : Int) = p at *
      have HS := Lib.hid (show IntKind.u32.wrap (sqF p 36) = n32 (h0 k) from hs)
      have HK := Lib.hid hk8
      clear hs hk8
      go_wp2_with (go_at_call 20; (refine HQ.out.mono ?_); rintro e w3 ⟨rfl, h3⟩; rw [HS.out]; (have H3 := Lib.hid (HR.out.abw h3)); (have a1 := (H3.out.cell HK.out).1); (have a2 := (H3.out.cell HK.out).2); clear h3)
      go_roundw
      case rel => exact ⟨k + 1, HK.out, by go_num, Lib.hid (H3.out.put HK.out (Nat.le_refl _))⟩
      case measure => have := HK.out; simp [intOf]; omega
    · obtain rfl : k = 8 := by omega
      obtain ⟨ha2, hcs, hbH, hul⟩ := HR.out.all
      obtain rfl := hul.lit
      have HH := Lib.hid hbH
      have HA2 := Lib.hid ha2
      clear ha2 hbH hul HR
      generalize wr = w2 at *
      go_wp2_with fail
      go_loopw [7, 27] (fun _ q wx => ∃ k : Nat, k ≤ 64 ∧ q = .int .i64 (k : Int) ∧ Hid (Fil w2 wx w2.heap.size 60 64 kk k)) (fun _ q _ => 64 - (intOf q).toNat)
      case atStart => exact ⟨0, by omega, rfl, Lib.hid (Fil.start ((Ab.refl w2).alloc _) (Bk.made _ _ _) (by kernel_rfl) kk)⟩
      case round =>
        obtain ⟨k, hk, rfl, HR⟩ := hrel
        by_cases hk8 : k < 64
        · have k1 : (k : Int) < 64 := by omega
          have pc := HP.out _ (HA2.out.trans HR.out.1) k hk8
          have hs := cb_kk ⟨k, hk8⟩
          have HQ := Lib.hid (cube_any (((prm 310).getD k 0 : Nat) : Int) wr)
          generalize (((prm 310).getD k 0 : Nat) : Int) = p at *
          have HS := Lib.hid (show IntKind.u32.wrap (cbF p 35) = n32 (kk k) from hs)
          have HK := Lib.hid hk8
          clear hs hk8
          go_wp2_with (go_at_call 21; (refine HQ.out.mono ?_); rintro e w3 ⟨rfl, h3⟩; rw [HS.out]; (have H3 := Lib.hid (HR.out.abw h3)); (have a1 := (H3.out.cell HK.out).1); (have a2 := (H3.out.cell HK.out).2); clear h3)
          go_roundw
          case rel =>
            repeat (apply Exists.intro)
            refine And.intro ?ra ?rb
            case rb => rfl
            case ra => exact ⟨k + 1, HK.out, by go_num, Lib.hid (H3.out.put HK.out (Nat.le_refl _))⟩
          case measure => have := HK.out; simp [intOf]; omega
        · obtain rfl : k = 64 := by omega
          obtain ⟨ha3, ks, hbK, hks⟩ := HR.out.all
          have H3 := Lib.hid (And.intro (HA2.out.trans ha3) (And.intro (ha3.bk HH.out) (And.intro hbK hks)))
          have hK3 : w2.heap.size < wr.heap.size := hbK.lt
          have hH3 : w1.heap.size < w2.heap.size := HH.out.lt
          have HN := Lib.hid (And.intro hK3 hH3)
          clear ha3 hbK hks HR hK3 hH3 HA2 HH
          generalize wr = w3 at *
          go_upto_region 14 with fail
          go_wp2_with (at_builtin; refine wpList_bytes rfl _ _ 22 (by rfl) _ _ (by rfl) (by rfl) w3.heap.size [] l (Ob.made w3 #[] w3.heap.size (Nat.le_refl _) (by simp [maxLen])) (src_bs Tryd.underlying22 (HV.out _ (H3.out.1.alloc _))) (by simp; omega) (by simp) ?_)
          intro v3 w4 ho3 hg3 hn3
          have ha3 : Ab w3 w4 := grown_ab ((Ab.refl w3).alloc _) hg3 (fun k hk => by simp [Value.ownBlock] at hk; omega)
          obtain ⟨A3, n3, c3, rfl, hG3⟩ := Gr.of ho3 ha3
          have HG3 := Lib.hid hG3
          clear ho3 hg3 hn3 ha3 hG3
          go_wp2_with (at_builtin; refine wpList_bytes rfl _ _ 22 (by rfl) _ _ (by rfl) (by rfl) w3.heap.size l [128] (HG3.out.2.1.alloc _) (src_one Tryd.underlying22 ((Bk.made w4 5 #[.int .u8 128]).cell rfl) 1) (by simp; omega) (by have := HG3.out.2.2.size; simp; omega) ?_)
          intro v5 w5 ho5 hg5 hn5
          obtain ⟨A5, n5, c5, rfl, hG5⟩ := Gr.next (HG3.out.2.1.alloc _) (HG3.out.2.2.alloc _) hg5 ho5
          have HG5 := Lib.hid hG5
          clear ho5 hg5 hn5 hG5 HG3
          go_wp2_with fail
          go_loopw [8] (fun vv wx => ∃ (z n : Nat) (A : Option Addr) (c : Nat), z ≤ padZ l.length ∧ n = l.length + 1 + z ∧ vv = .slice A n c ∧ Hid (Gr w3 wx A n c (l ++ [128] ++ List.replicate z 0))) (fun vv _ => l.length + 65 - slLen vv)
          case atStart => exact ⟨0, n5, A5, c5, Nat.zero_le _, by rw [← HG5.out.1]; simp, rfl, Lib.hid (by rw [List.replicate_zero, List.append_nil]; exact HG5.out)⟩
          case round =>
            obtain ⟨z, n, A6, c6, hz, hn, rfl, HR⟩ := hrel
            have hpz := padZ_lt l.length
            have hn9 : (n : Int) < 30000 := by omega
            have hn0 : (0 : Int) ≤ (n : Int) := by omega
            by_cases hzlt : z < padZ l.length
            · have hd := pad_more hzlt
              rw [← hn] at hd
              have hd1 : ((n : Int) % 64 == 56) = false := by simpa using hd
              have hd2 : ((n : Int) % 64 != 56) = true := by simpa using hd
              have HZ2 := Lib.hid (And.intro hzlt (And.intro hn hpz))
              clear hd hzlt hn hpz hz
              go_wp2_with (at_builtin; refine wpList_bytes rfl _ _ 22 (by rfl) _ _ (by rfl) (by rfl) w3.heap.size (l ++ [128] ++ List.replicate z 0) [0] (HR.out.2.1.alloc _) (src_one Tryd.underlying22 ((Bk.made wr 5 #[.int .u8 0]).cell rfl) 1) (by rw [HR.out.1]; simp; omega) (by have := HR.out.2.2.size; simp; omega) ?_)
              intro v7 w7 ho7 hg7 hn7
              obtain ⟨A7, n7, c7, rfl, hG7⟩ := Gr.next (HR.out.2.1.alloc _) (HR.out.2.2.alloc _) hg7 ho7
              have HG7 := Lib.hid hG7
              clear ho7 hg7 hn7 hG7
              go_wp2_with fail
              go_roundw
              case rel =>
                  refine ⟨z + 1, n7, A7, c7, HZ2.out.1, ?_, rfl, Lib.hid ?_⟩
                  · rw [← HG7.out.1]; simp only [List.length_append, List.length_cons, List.length_nil, List.length_replicate]; omega
                  · have e : l ++ [128] ++ List.replicate (z + 1) 0 = l ++ [128] ++ List.replicate z 0 ++ [0] := by rw [List.replicate_succ', List.append_assoc _ _ [0]]
                    rw [e]
                    simpa using HG7.out
              case measure => have := HZ2.out; have h9 := HG7.out.1; simp only [List.length_append, List.length_cons, List.length_nil, List.length_replicate] at h9; simp [slLen]; omega
            · have hzz : z = padZ l.length := by omega
              subst hzz
              have hd := pad_done (n := l.length) rfl
              rw [← hn] at hd
              have HP4 : Hid (Gr w3 wr A6 n c6 (l ++ ([128] ++ List.replicate (padZ l.length) 0))) := Lib.hid (by rw [← List.append_assoc]; exact HR.out)
              have HN4 := Lib.hid (And.intro hn hpz)
              clear HR hn hz hzlt HG5
              go_wp2_with fail
              have HLn := Lib.hid hl
              clear hd hl
              go_loopw [8, 9] (fun vv q wx => ∃ (j n : Nat) (A : Option Addr) (c : Nat), j ≤ 8 ∧ Hid (n = l.length + 1 + padZ l.length + j) ∧ vv = .slice A n c ∧ q = .int .i64 (7 - (j : Int)) ∧ Hid (Gr w3 wx A n c (l ++ ([128] ++ (List.replicate (padZ l.length) 0 ++ (lenB (UInt64.ofNat l.length * 8)).take j))))) (fun _ q _ => (intOf q + 1).toNat)
              case atStart => exact ⟨0, n, A6, c6, by omega, Lib.hid HN4.out.1, rfl, rfl, Lib.hid (by rw [List.take_zero, List.append_nil]; exact HP4.out)⟩
              case round =>
                clear HP4
                obtain ⟨j, n2, A8, c8, hj, hn2, rfl, rfl, HR⟩ := hrel
                by_cases hj8 : j < 8
                · have hjj : j = 0 ∨ j = 1 ∨ j = 2 ∨ j = 3 ∨ j = 4 ∨ j = 5 ∨ j = 6 ∨ j = 7 := by omega
                  clear hj hj8
                  rcases hjj with rfl | rfl | rfl | rfl | rfl | rfl | rfl | rfl
                  · go_wp2_with (at_builtin; refine wpList_bytes rfl _ _ 22 (by rfl) _ _ (by rfl) (by rfl) w3.heap.size (l ++ ([128] ++ (List.replicate (padZ l.length) 0 ++ (lenB (UInt64.ofNat l.length * 8)).take 0))) [lb (UInt64.ofNat l.length * 8) 7] (HR.out.2.1.alloc _) (src_one Tryd.underlying22 ((Bk.made wr 5 #[.int .u8 (n8 (lb (UInt64.ofNat l.length * 8) 7))]).cell rfl) 1) (by rw [HR.out.1, hn2.out]; have := HLn.out; have := padZ_lt l.length; simp; omega) (by have := HR.out.2.2.size; simp; omega) ?_)
                    intro v7 w7 ho7 hg7 hn7
                    obtain ⟨A7, n7, c7, rfl, hG7⟩ := Gr.next (HR.out.2.1.alloc _) (HR.out.2.2.alloc _) hg7 ho7
                    have HG7 := Lib.hid (lenB_grow2 (j := 0) (l := l) (z := padZ l.length) (x := UInt64.ofNat l.length * 8) hG7 (by simp) (by omega))
                    clear ho7 hg7 hn7 hG7
                    go_wp2_with fail
                    go_roundw
                    case rel => exact ⟨0 + 1, n7, A7, c7, by omega, Lib.hid (gr_len (j := 0 + 1) HG7.out (by omega)), rfl, rfl, HG7⟩
                    case measure => simp [intOf]
                  · go_wp2_with (at_builtin; refine wpList_bytes rfl _ _ 22 (by rfl) _ _ (by rfl) (by rfl) w3.heap.size (l ++ ([128] ++ (List.replicate (padZ l.length) 0 ++ (lenB (UInt64.ofNat l.length * 8)).take 1))) [lb (UInt64.ofNat l.length * 8) 6] (HR.out.2.1.alloc _) (src_one Tryd.underlying22 ((Bk.made wr 5 #[.int .u8 (n8 (lb (UInt64.ofNat l.length * 8) 6))]).cell rfl) 1) (by rw [HR.out.1, hn2.out]; have := HLn.out; have := padZ_lt l.length; simp; omega) (by have := HR.out.2.2.size; simp; omega) ?_)
                    intro v7 w7 ho7 hg7 hn7
                    obtain ⟨A7, n7, c7, rfl, hG7⟩ := Gr.next (HR.out.2.1.alloc _) (HR.out.2.2.alloc _) hg7 ho7
                    have HG7 := Lib.hid (lenB_grow2 (j := 1) (l := l) (z := padZ l.length) (x := UInt64.ofNat l.length * 8) hG7 (by simp) (by omega))
                    clear ho7 hg7 hn7 hG7
                    go_wp2_with fail
                    go_roundw
                    case rel => exact ⟨1 + 1, n7, A7, c7, by omega, Lib.hid (gr_len (j := 1 + 1) HG7.out (by omega)), rfl, rfl, HG7⟩
                    case measure => simp [intOf]
                  · go_wp2_with (at_builtin; refine wpList_bytes rfl _ _ 22 (by rfl) _ _ (by rfl) (by rfl) w3.heap.size (l ++ ([128] ++ (List.replicate (padZ l.length) 0 ++ (lenB (UInt64.ofNat l.length * 8)).take 2))) [lb (UInt64.ofNat l.length * 8) 5] (HR.out.2.1.alloc _) (src_one Tryd.underlying22 ((Bk.made wr 5 #[.int .u8 (n8 (lb (UInt64.ofNat l.length * 8) 5))]).cell rfl) 1) (by rw [HR.out.1, hn2.out]; have := HLn.out; have := padZ_lt l.length; simp; omega) (by have := HR.out.2.2.size; simp; omega) ?_)
                    intro v7 w7 ho7 hg7 hn7
                    obtain ⟨A7, n7, c7, rfl, hG7⟩ := Gr.next (HR.out.2.1.alloc _) (HR.out.2.2.alloc _) hg7 ho7
                    have HG7 := Lib.hid (lenB_grow2 (j := 2) (l := l) (z := padZ l.length) (x := UInt64.ofNat l.length * 8) hG7 (by simp) (by omega))
                    clear ho7 hg7 hn7 hG7
                    go_wp2_with fail
                    go_roundw
                    case rel => exact ⟨2 + 1, n7, A7, c7, by omega, Lib.hid (gr_len (j := 2 + 1) HG7.out (by omega)), rfl, rfl, HG7⟩
                    case measure => simp [intOf]
                  · go_wp2_with (at_builtin; refine wpList_bytes rfl _ _ 22 (by rfl) _ _ (by rfl) (by rfl) w3.heap.size (l ++ ([128] ++ (List.replicate (padZ l.length) 0 ++ (lenB (UInt64.ofNat l.length * 8)).take 3))) [lb (UInt64.ofNat l.length * 8) 4] (HR.out.2.1.alloc _) (src_one Tryd.underlying22 ((Bk.made wr 5 #[.int .u8 (n8 (lb (UInt64.ofNat l.length * 8) 4))]).cell rfl) 1) (by rw [HR.out.1, hn2.out]; have := HLn.out; have := padZ_lt l.length; simp; omega) (by have := HR.out.2.2.size; simp; omega) ?_)
                    intro v7 w7 ho7 hg7 hn7
                    obtain ⟨A7, n7, c7, rfl, hG7⟩ := Gr.next (HR.out.2.1.alloc _) (HR.out.2.2.alloc _) hg7 ho7
                    have HG7 := Lib.hid (lenB_grow2 (j := 3) (l := l) (z := padZ l.length) (x := UInt64.ofNat l.length * 8) hG7 (by simp) (by omega))
                    clear ho7 hg7 hn7 hG7
                    go_wp2_with fail
                    go_roundw
                    case rel => exact ⟨3 + 1, n7, A7, c7, by omega, Lib.hid (gr_len (j := 3 + 1) HG7.out (by omega)), rfl, rfl, HG7⟩
                    case measure => simp [intOf]
                  · go_wp2_with (at_builtin; refine wpList_bytes rfl _ _ 22 (by rfl) _ _ (by rfl) (by rfl) w3.heap.size (l ++ ([128] ++ (List.replicate (padZ l.length) 0 ++ (lenB (UInt64.ofNat l.length * 8)).take 4))) [lb (UInt64.ofNat l.length * 8) 3] (HR.out.2.1.alloc _) (src_one Tryd.underlying22 ((Bk.made wr 5 #[.int .u8 (n8 (lb (UInt64.ofNat l.length * 8) 3))]).cell rfl) 1) (by rw [HR.out.1, hn2.out]; have := HLn.out; have := padZ_lt l.length; simp; omega) (by have := HR.out.2.2.size; simp; omega) ?_)
                    intro v7 w7 ho7 hg7 hn7
                    obtain ⟨A7, n7, c7, rfl, hG7⟩ := Gr.next (HR.out.2.1.alloc _) (HR.out.2.2.alloc _) hg7 ho7
                    have HG7 := Lib.hid (lenB_grow2 (j := 4) (l := l) (z := padZ l.length) (x := UInt64.ofNat l.length * 8) hG7 (by simp) (by omega))
                    clear ho7 hg7 hn7 hG7
                    go_wp2_with fail
                    go_roundw
                    case rel => exact ⟨4 + 1, n7, A7, c7, by omega, Lib.hid (gr_len (j := 4 + 1) HG7.out (by omega)), rfl, rfl, HG7⟩
                    case measure => simp [intOf]
                  · go_wp2_with (at_builtin; refine wpList_bytes rfl _ _ 22 (by rfl) _ _ (by rfl) (by rfl) w3.heap.size (l ++ ([128] ++ (List.replicate (padZ l.length) 0 ++ (lenB (UInt64.ofNat l.length * 8)).take 5))) [lb (UInt64.ofNat l.length * 8) 2] (HR.out.2.1.alloc _) (src_one Tryd.underlying22 ((Bk.made wr 5 #[.int .u8 (n8 (lb (UInt64.ofNat l.length * 8) 2))]).cell rfl) 1) (by rw [HR.out.1, hn2.out]; have := HLn.out; have := padZ_lt l.length; simp; omega) (by have := HR.out.2.2.size; simp; omega) ?_)
                    intro v7 w7 ho7 hg7 hn7
                    obtain ⟨A7, n7, c7, rfl, hG7⟩ := Gr.next (HR.out.2.1.alloc _) (HR.out.2.2.alloc _) hg7 ho7
                    have HG7 := Lib.hid (lenB_grow2 (j := 5) (l := l) (z := padZ l.length) (x := UInt64.ofNat l.length * 8) hG7 (by simp) (by omega))
                    clear ho7 hg7 hn7 hG7
                    go_wp2_with fail
                    go_roundw
                    case rel => exact ⟨5 + 1, n7, A7, c7, by omega, Lib.hid (gr_len (j := 5 + 1) HG7.out (by omega)), rfl, rfl, HG7⟩
                    case measure => simp [intOf]
                  · go_wp2_with (at_builtin; refine wpList_bytes rfl _ _ 22 (by rfl) _ _ (by rfl) (by rfl) w3.heap.size (l ++ ([128] ++ (List.replicate (padZ l.length) 0 ++ (lenB (UInt64.ofNat l.length * 8)).take 6))) [lb (UInt64.ofNat l.length * 8) 1] (HR.out.2.1.alloc _) (src_one Tryd.underlying22 ((Bk.made wr 5 #[.int .u8 (n8 (lb (UInt64.ofNat l.length * 8) 1))]).cell rfl) 1) (by rw [HR.out.1, hn2.out]; have := HLn.out; have := padZ_lt l.length; simp; omega) (by have := HR.out.2.2.size; simp; omega) ?_)
                    intro v7 w7 ho7 hg7 hn7
                    obtain ⟨A7, n7, c7, rfl, hG7⟩ := Gr.next (HR.out.2.1.alloc _) (HR.out.2.2.alloc _) hg7 ho7
                    have HG7 := Lib.hid (lenB_grow2 (j := 6) (l := l) (z := padZ l.length) (x := UInt64.ofNat l.length * 8) hG7 (by simp) (by omega))
                    clear ho7 hg7 hn7 hG7
                    go_wp2_with fail
                    go_roundw
                    case rel => exact ⟨6 + 1, n7, A7, c7, by omega, Lib.hid (gr_len (j := 6 + 1) HG7.out (by omega)), rfl, rfl, HG7⟩
                    case measure => simp [intOf]
                  · go_wp2_with (at_builtin; refine wpList_bytes rfl _ _ 22 (by rfl) _ _ (by rfl) (by rfl) w3.heap.size (l ++ ([128] ++ (List.replicate (padZ l.length) 0 ++ (lenB (UInt64.ofNat l.length * 8)).take 7))) [lb (UInt64.ofNat l.length * 8) 0] (HR.out.2.1.alloc _) (src_one Tryd.underlying22 ((Bk.made wr 5 #[.int .u8 (n8 (lb (UInt64.ofNat l.length * 8) 0))]).cell rfl) 1) (by rw [HR.out.1, hn2.out]; have := HLn.out; have := padZ_lt l.length; simp; omega) (by have := HR.out.2.2.size; simp; omega) ?_)
                    intro v7 w7 ho7 hg7 hn7
                    obtain ⟨A7, n7, c7, rfl, hG7⟩ := Gr.next (HR.out.2.1.alloc _) (HR.out.2.2.alloc _) hg7 ho7
                    have HG7 := Lib.hid (lenB_grow2 (j := 7) (l := l) (z := padZ l.length) (x := UInt64.ofNat l.length * 8) hG7 (by simp) (by omega))
                    clear ho7 hg7 hn7 hG7
                    go_wp2_with fail
                    go_roundw
                    case rel => exact ⟨7 + 1, n7, A7, c7, by omega, Lib.hid (gr_len (j := 7 + 1) HG7.out (by omega)), rfl, rfl, HG7⟩
                    case measure => simp [intOf]
                · obtain rfl : j = 8 := by omega
                  have hn3 := hn2.out
                  have hm := msg_len l
                  have HM : Hid (Gr w3 wr A8 n2 c8 (msg l)) := Lib.hid (by
                    have := HR.out
                    rw [List.take_of_length_le (by rw [lenB_len]; omega)] at this
                    exact this)
                  have hBk : Bk wr w1.heap.size 57 (lit8 h0) := HR.out.2.2.bk H3.out.2.1
                  have hKk : Bk wr w2.heap.size 60 ks := HR.out.2.2.bk H3.out.2.2.1
                  have h1r : Ab w1 wr := H3.out.1.trans HR.out.2.2
                  have HB9 := Lib.hid (And.intro hBk (And.intro hKk (And.intro H3.out.2.2.2 h1r)))
                  obtain ⟨Bn, hBn⟩ : ∃ Bn, n2 = 64 * Bn := ⟨n2 / 64, by omega⟩
                  have hn29 : n2 ≤ 20200 := by have := HLn.out; have := padZ_lt l.length; omega
                  have hmB : (msg l).length / 64 = Bn := by omega
                  have HmB := Lib.hid (And.intro hmB (And.intro hBn hm.2))
                  clear hn2 hn3 hm hBk hKk h1r HR H3 HN4 hmB
                  generalize wr = w9 at *
                  have hBn2 : (n2 : Int) = 64 * (Bn : Int) := by omega
                  clear hBn
                  go_wp2_with fail
                  go_loopw [10] (fun q wx => ∃ i a : Nat, i ≤ Bn ∧ a = 64 * i ∧ q = .int .i64 (a : Int) ∧ Hid (Gw w1.heap.size w9 wx ∧ Bk wx w1.heap.size 57 (lit8 (blksL h0 i (msg l))))) (fun q _ => n2 - (intOf q).toNat)
                  case atStart => exact ⟨0, 0, Nat.zero_le _, rfl, rfl, Lib.hid ⟨Gw.refl _ _, HB9.out.1⟩⟩
                  case round =>
                    obtain ⟨i, a, hi, ha, rfl, HX⟩ := hrel
                    have ha0 : (0 : Int) ≤ (a : Int) := by omega
                    have ha9 : (a : Int) ≤ 20200 := by omega
                    by_cases hlt : i < Bn
                    · have hlt2 : (a : Int) < (n2 : Int) := by omega
                      obtain ⟨T, hT⟩ : ∃ T, a + 64 = T := ⟨_, rfl⟩
                      have hTn : T ≤ n2 := by omega
                      have hob := HM.out.2.1.gw HX.out.1 (by have := HN.out; omega)
                      have hbs := hob.bs
                      have hml := HM.out.1
                      obtain ⟨A', c', hv', hc1, hc2⟩ := hob.len_cap
                      injection hv' with hA' hn' hc'
                      subst hA'
                      subst hc'
                      rw [← hml] at hbs hTn
                      have hmid := midB hbs a T (by omega) hTn
                      have hS : ∀ w : World, (Instr.slice 22 (.slice A8 n2 c8) (some (.int .i64 (a : Int))) (some (.int .i64 (T : Int))) none).run Tryd.prog w = .ok (.slice (winA A8 c8 a) 64 (c8 - a)) w := fun w => by
                        have := run_slice_mid A8 n2 c8 a T (by omega) (by omega) w
                        rw [show T - a = 64 by omega] at this
                        exact this
                      rw [show T - a = 64 by omega] at hmid
                      obtain ⟨hh, hhe⟩ : ∃ hh, blksL h0 i (msg l) = hh := ⟨_, rfl⟩
                      have hbH : Bk wr w1.heap.size 57 (lit8 hh) := by rw [← hhe]; exact HX.out.2
                      have hbK : Bk wr w2.heap.size 60 ks := HX.out.1.bk HB9.out.2.1 (by have := HN.out; omega)
                      have hnext : blksL h0 (i + 1) (msg l) = blk hh (fun t => (((msg l).drop a).take 64).getD t 0) := by
                        rw [blksL_snoc, hhe, ← ha]
                        refine blk_congr hh fun t ht => ?_
                        show ((msg l).drop a).getD t 0 = (((msg l).drop a).take 64).getD t 0
                        rw [List.getD_eq_getElem?_getD, List.getD_eq_getElem?_getD, List.getElem?_take_of_lt ht]
                      have HQ := Lib.hid (block_any (lit8 hh) ks hh (lit8_u hh) HB9.out.2.2.1 (.slice (winA A8 c8 a) 64 (c8 - a)) (((msg l).drop a).take 64) (by rw [List.length_take, List.length_drop]; omega) wr.drew hmid)
                      have HI := Lib.hid (And.intro hlt (And.intro hnext (And.intro hbH (And.intro ha hT))))
                      have hks64 := HB9.out.2.2.1.1
                      have e1 : IntKind.i64.wrap ((a : Int) + 64) = (T : Int) := by rw [IntWalk.i64_in _ (by omega)]; omega
                      clear hT hTn hob hbs hml hn' hc1 hc2 hmid hhe hnext hlt ha hi hBn2
                      go_upto_region 24 with fail
                      refine wp_region_still_tail 7 (by kernel_rfl) (by kernel_rfl) ?_
                      simp only [List.take_succ_cons, List.take_zero, List.drop_succ_cons, List.drop_zero]
                      change wpStill _ _ wr.drew (fun a' => wpList _ _ _ _ a' wr.drew) _ _
                      refine still_load_row rfl 57 _ rfl w1.heap.size rfl 57 (lit8 hh) hbH.drew _ Tryd.underlying57 rfl (by kernel_rfl) ?_
                      refine still_load_row rfl 60 _ rfl w2.heap.size rfl 60 ks hbK.drew _ Tryd.underlying60 rfl (by rw [hks64]; kernel_rfl) ?_
                      repeat still_step
                      try refine wpStill_nil ?_
                      go_wp2_with (first
                        | (go_at_call 22; (refine HQ.out.mono ?_); rintro e w7 ⟨ds, rfl, hds, h7⟩; (have H7 := Lib.hid (And.intro hds h7)); (have b7 := h7.bk hbH.drew); clear hds h7)
                        | (refine wpList_store_row rfl rfl 57 _ _ rfl w1.heap.size rfl _ _ rfl 57 b7 (by rw [H7.out.1.1]; rfl) (by rw [H7.out.1.1]; kernel_rfl) H7.out.1.ones ?_; intro w8 hw8))
                      have HW8 : Hid (Gw w1.heap.size w9 w8 ∧ Bk w8 w1.heap.size 57 (lit8 (blksL h0 (i + 1) (msg l)))) := Lib.hid (by
                        subst hw8
                        refine ⟨((HX.out.1.drew.trans (Gw.of_ab H7.out.2 _)).row _), ?_⟩
                        rw [HI.out.2.1, ← H7.out.1.lit]
                        exact b7.row _)
                      clear hw8
                      have hIl := HI.out.1
                      have hIa := HI.out.2.2.2
                      go_roundw
                      case rel =>
                        repeat (apply Exists.intro)
                        refine And.intro ?ra ?rb
                        case rb => rfl
                        case ra => exact ⟨i + 1, T, hIl, by omega, by first | rfl | go_num | (congr 1; omega), HW8⟩
                      case measure => simp [intOf]; omega
                    · have hiB : i = Bn := by omega
                      subst hiB
                      have hlt2 : ¬ (a : Int) < (n2 : Int) := by omega
                      obtain ⟨hh, hhe⟩ : ∃ hh, blksL h0 i (msg l) = hh := ⟨_, rfl⟩
                      have hbH : Bk wr w1.heap.size 57 (lit8 hh) := by rw [← hhe]; exact HX.out.2
                      have hsha : shaH l = hh := by rw [shaH_msg, HmB.out.1, hhe]
                      have haw : Ab w1 wr := HX.out.1.ab HB9.out.2.2.2 (Nat.le_refl _)
                      have hbZ : Bk wr w.heap.size 30 (Array.replicate 32 (.int .u8 0)) := haw.bk HZ.out.1
                      have HF := Lib.hid (And.intro hsha (And.intro hbZ (HZ.out.2.trans haw)))
                      clear HX hhe hsha haw hbZ HM HmB HB9 ha hi hlt hBn2
                      generalize wr = w10 at *
                      go_wp2_with (refine wpList_load_row rfl 57 _ rfl w1.heap.size rfl 57 (lit8 hh) (0, 0) _ (hbH.alloc _) Tryd.underlying57 rfl (by kernel_rfl) ?_)
                      have HO0 : Hid (Out w10 (w10.alloc (.cells (Array.replicate 32 (.int .u8 0)) 30)) w10.heap.size hh 0) := Lib.hid ⟨(Ab.refl w10).alloc _, _, Bk.made _ _ _, (zeros8' rfl).eqv fun j _ => (if_neg (Nat.not_lt_zero j)).symm⟩
                      go_loopw [12, 13, 14, 81] (fun _ _ _ q wx => ∃ k : Nat, k ≤ 8 ∧ q = .int .i64 (k : Int) ∧ Hid (Out w10 wx w10.heap.size hh (4 * k))) (fun _ _ _ q _ => 8 - (intOf q).toNat)
                      case atStart => exact ⟨0, by omega, rfl, HO0⟩
                      case round =>
                        clear HO0
                        obtain ⟨k, hk, rfl, HY⟩ := hrel
                        by_cases hk8 : k < 8
                        · have hix := index8 (lit8 hh) k _ hk8 ((lit8_u hh).2 k hk8)
                          have k1 : (k : Int) < 8 := by omega
                          have k0 : (0 : Int) ≤ (k : Int) := by omega
                          go_wp2_with fail
                          clear hix
                          go_loopw [14] (fun q wx => ∃ t : Nat, t ≤ 4 ∧ q = .int .i64 (t : Int) ∧ Hid (Out w10 wx w10.heap.size hh (4 * k + t))) (fun q _ => 4 - (intOf q).toNat)
                          case atStart => exact ⟨0, by omega, rfl, HY⟩
                          case round =>
                            clear HY
                            obtain ⟨t, ht, rfl, HY⟩ := hrel
                            by_cases ht4 : t < 4
                            · have htt : t = 0 ∨ t = 1 ∨ t = 2 ∨ t = 3 := by omega
                              clear ht ht4
                              rcases htt with rfl | rfl | rfl | rfl
                              · obtain ⟨y, a1, a2⟩ := HY.out.cell (by omega)
                                have HO := Lib.hid (HY.out.put (Nat.le_refl _) _ (cb_0 hh k))
                                have a1 : wr.cell? ⟨w10.heap.size, 4 * k, none⟩ = some (.int .u8 y) := a1
                                have a2 : wr.frozen? ⟨w10.heap.size, 4 * k, none⟩ = false := a2
                                clear HY
                                generalize hh k = x at *
                                go_wp2_with fail
                                go_roundw
                                case rel => exact ⟨0 + 1, by omega, by go_num, HO⟩
                                case measure => simp [intOf]
                              · obtain ⟨y, a1, a2⟩ := HY.out.cell (by omega)
                                have HO := Lib.hid (HY.out.put (Nat.le_refl _) _ (cb_1 hh k))
                                skip
                                skip
                                clear HY
                                generalize hh k = x at *
                                go_wp2_with fail
                                go_roundw
                                case rel => exact ⟨1 + 1, by omega, by go_num, HO⟩
                                case measure => simp [intOf]
                              · obtain ⟨y, a1, a2⟩ := HY.out.cell (by omega)
                                have HO := Lib.hid (HY.out.put (Nat.le_refl _) _ (cb_2 hh k))
                                skip
                                skip
                                clear HY
                                generalize hh k = x at *
                                go_wp2_with fail
                                go_roundw
                                case rel => exact ⟨2 + 1, by omega, by go_num, HO⟩
                                case measure => simp [intOf]
                              · obtain ⟨y, a1, a2⟩ := HY.out.cell (by omega)
                                have HO := Lib.hid (HY.out.put (Nat.le_refl _) _ (cb_3 hh k))
                                skip
                                skip
                                clear HY
                                generalize hh k = x at *
                                go_wp2_with fail
                                go_roundw
                                case rel => exact ⟨3 + 1, by omega, by go_num, HO⟩
                                case measure => simp [intOf]
                            · obtain rfl : t = 4 := by omega
                              go_wp2_with fail
                              go_roundw
                              case rel => exact ⟨k + 1, by omega, by go_num, HY⟩
                              case measure => simp [intOf]; omega
                        · obtain rfl : k = 8 := by omega
                          obtain ⟨ha, cur, hbO, huO⟩ := HY.out
                          have hu2 : U8s cur 32 (cb hh) := huO.eqv fun j hj => if_pos (by omega)
                          have hbR := ha.bk HF.out.2.1
                          have hRO : w.heap.size ≠ w10.heap.size := by have := HF.out.2.1.lt; omega
                          have HU := Lib.hid (And.intro hu2 (And.intro ha hRO))
                          clear huO hu2 ha hRO HY
                          go_wp2_with (first | (refine wpList_load_row rfl 30 _ rfl w10.heap.size rfl 30 cur (0, 0) _ hbO Tryd.underlying30 rfl (by rw [HU.out.1.1]; kernel_rfl) ?_) | (refine wpList_store_row rfl rfl 30 _ _ rfl w.heap.size rfl cur _ rfl 30 hbR (by rw [HU.out.1.1]; kernel_rfl) (by rw [HU.out.1.1]; kernel_rfl) HU.out.1.ones ?_; rintro wf rfl))
                          refine bodyPost_ret (results_cell_row (P := Tryd.prog) Tryd.results10 _ _ w.heap.size 30 _ (0, 0) _ rfl (hbR.row _) Tryd.underlying30 rfl (by rw [HU.out.1.1]; kernel_rfl)) rfl ⟨_, rfl, by rw [HF.out.1]; exact HU.out.1, (HF.out.2.2.trans HU.out.2.1).row (Nat.le_refl _) _⟩
end
end Go.Proofs.YtpikhfgpdebomaaDoor.Dg

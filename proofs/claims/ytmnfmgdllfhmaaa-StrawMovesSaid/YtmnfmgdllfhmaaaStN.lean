/- The reference's Share, and Ints. -/
import Derived.Test.YtmnfmgdllfhmaaaStM
namespace Go.Proofs.Ytmnfmgdllfhmaaa.Dg
open Go.RowKit
variable {w w' : World} {B g N : Nat} {vi vw : Value} {ids ws : List Int} {f : Nat → Option Nat}
attribute [local go_sem] u32_mod wrap32u
set_option maxRecDepth 100000 in
set_option maxHeartbeats 1000000 in
theorem rshare_any (w : World) (n : Int) (hi : Ns w B vi ids) (hw : Ns w B vw ws) (hl : ws.length = ids.length) (hB : B ≤ w.heap.size) (h47 : ids.length ≤ 35184372088832) :
    Calls Try.prog 18 #[vi, vw, .int .i64 n] w (ShPost w (cntL (chF ids ws) ids.length (min n 10000).toNat)) := by
  obtain ⟨Ai, ci, rfl, -⟩ := hi.form
  obtain ⟨Aw, cw, rfl, -⟩ := hw.form
  obtain ⟨N, hN⟩ : ∃ N, ids.length = N := ⟨_, rfl⟩
  obtain ⟨f, hf⟩ : ∃ f, chF ids ws = f := ⟨_, rfl⟩
  have HF := Lib.hid (And.intro hf (And.intro hl hN))
  rw [hl, hf]
  rw [hl] at hw
  rw [hN] at hi hw h47 ⊢
  have HI := Lib.hid (And.intro hi (And.intro hw hB))
  obtain ⟨M, hM⟩ : ∃ M, min n 10000 = M := ⟨_, rfl⟩
  have hM2 : M ≤ 10000 := by omega
  rw [hM]
  have HM := Lib.hid hM
  obtain ⟨i0, hi0, hz0, hz1, hz2⟩ := info_parts infoInt
  have HZ := Lib.hid (And.intro hi0 (And.intro hz0 (And.intro hz1 hz2)))
  clear hi hw hl hB hN hf hM hi0 hz0 hz1 hz2
  go_enter Try.func18, Try.ntmps18
  go_upto_if 17 with fail
  go_cut [2] (fun s wx => s = .int .i64 M ∧ w = wx)
  case first =>
    by_cases c : 10000 < n
    · go_wp2_with fail
      go_meet
      exact ⟨congrArg (Value.int IntKind.i64) (by have := HM.out; omega), rfl⟩
    · go_wp2_with fail
      go_meet
      exact ⟨congrArg (Value.int IntKind.i64) (by have := HM.out; omega), rfl⟩
  case rest =>
  obtain ⟨rfl, rfl⟩ := hcut
  go_wp2_with (refine wpList_make_full w rfl _ _ 28 rfl w.heap.size 3 i0 (.int .i64 0) 1 Try.underlying28 HZ.out.1 HZ.out.2.1 HZ.out.2.2.1 .i64 .i64 (N : Int) (N : Int) N rfl rfl rfl rfl (by rw [HZ.out.2.2.2]; omega) (by unfold maxLen; omega) (Nat.le_refl _) ?_)
  intro w1 ho1 hg1
  have ha1 : Ab w w1 := grown_ab0 hg1
  have HS := Lib.hid (And.intro (Sh.start f ho1) ha1)
  clear ho1 hg1 ha1
  go_wp2_with fail
  obtain ⟨G, hG⟩ : ∃ G, w.heap.size = G := ⟨_, rfl⟩
  rw [hG] at HS ⊢
  have HG := Lib.hid hG
  clear hG
  go_loopw [8, 9, 10] (fun kk _ _ wr => ∃ k : Nat, (k = 0 ∨ (k : Int) ≤ M) ∧ kk = .int .i64 (k : Int) ∧ Hid (Sh wr G N f k ∧ Ab w wr))
    (fun kk _ _ _ => M.toNat - (intOf kk).toNat)
  case atStart => exact ⟨0, .inl rfl, rfl, HS⟩
  case round =>
    obtain ⟨k, hk, rfl, HR⟩ := hrel
    have hkM : k ≤ M.toNat := by omega
    by_cases hlt : (k : Int) < M
    · have HW := Lib.hid (rchoose_any wr (modU (k : Int)) 0 (HI.out.1.ab HR.out.2 HI.out.2.2) (HI.out.2.1.ab HR.out.2 HI.out.2.2) HF.out.2.1 (Nat.le_trans HI.out.2.2 HR.out.2.size))
      have hfk : chooseL ids ws (modU (k : Int)) 0 = f k := by rw [← HF.out.1]; rfl
      rw [hfk] at HW
      obtain ⟨c, hc⟩ : ∃ c, f k = c := ⟨_, rfl⟩
      rw [hc] at HW
      have HK := Lib.hid hc
      clear hfk hc
      cases c with
      | none =>
        go_wp2_with (go_at_call 15; (refine HW.out.mono ?_); rintro e w3 ⟨rfl, h3⟩; (have H3 := Lib.hid h3); clear h3)
        go_roundw
        case rel => exact ⟨k + 1, .inr (by omega), by go_num, Lib.hid ⟨(HR.out.1.ab H3.out).miss HK.out, HR.out.2.trans H3.out⟩⟩
        case measure => simp [intOf]; omega
      | some b =>
        have hb : b < N := by have := HF.out; rw [← this.2.2]; exact chF_lt (by rw [this.1]; exact HK.out)
        have hcn := cn_le f b k
        obtain ⟨C, hC⟩ : ∃ C, cn f b k = C := ⟨_, rfl⟩
        rw [hC] at hcn
        have HCn := Lib.hid hC
        clear hC
        have hC2 : (C : Int) < 10000 := by omega
        go_wp2_with (go_at_call 15; (refine HW.out.mono ?_); rintro e w3 ⟨rfl, h3⟩; (have H3 := Lib.hid (And.intro h3 ((HR.out.1.ab h3).at_ hb))); (have a3 := H3.out.2.1); (have a4 := H3.out.2.2); rw [HCn.out] at a3; clear h3)
        go_roundw
        case rel =>
          refine ⟨k + 1, .inr (by omega), by go_num, Lib.hid ⟨?_, ?_⟩⟩
          · have := (HR.out.1.ab H3.out.1).hit HK.out hb
            rw [HCn.out] at this
            exact this
          · exact (HR.out.2.trans H3.out.1).set (by show w.heap.size ≤ G; rw [HG.out]; exact Nat.le_refl _) _
        case measure => simp [intOf]; omega
    · have e : M.toNat = k := by omega
      have hk2 : k ≤ 10000 := by omega
      have E := Lib.hid e
      clear e
      go_wp2
      go_ret
      refine ⟨some ⟨G, 0, none⟩, N, by rw [cntL_len]; rfl, ?_, HR.out.2⟩
      have := HR.out.1.ns (by omega) hk2
      rw [cntL_len, E.out]
      exact this
theorem rshare_off (w : World) (n : Int) (hi : Ns w B vi ids) (hw : Ns w B vw ws) (hl : ws.length ≠ ids.length) :
    Calls Try.prog 18 #[vi, vw, .int .i64 n] w (ShPost w []) := by
  obtain ⟨Ai, ci, rfl, -⟩ := hi.form
  obtain ⟨Aw, cw, rfl, -⟩ := hw.form
  have hb := hi.len
  have hb2 := hw.len
  have hne : ((ids.length : Int) == (ws.length : Int)) = false := by simpa using (show (ids.length : Int) ≠ (ws.length : Int) by omega)
  have hne2 : ((ids.length : Int) != (ws.length : Int)) = true := by simpa using (show (ids.length : Int) ≠ (ws.length : Int) by omega)
  clear hi hw hl
  go_enter Try.func18, Try.ntmps18
  go_wp2_with fail
  go_ret
  exact ⟨none, 0, rfl, Ns.nil _ _, Ab.refl w⟩
set_option maxRecDepth 100000 in
set_option maxHeartbeats 1000000 in
/-- Two lists that are the same. -/
theorem ints_same (w : World) {l : List Int} {B2 : Nat} (hi : Ns w B vi l) (hw : Ns w B2 vw l) (hB : B ≤ w.heap.size) (hB2 : B2 ≤ w.heap.size) :
    Calls Try.prog 16 #[vi, vw] w fun e w' => e = .returned (.bool true) ∧ Ab w w' := by
  obtain ⟨Ai, ci, rfl, hi1, hi2⟩ := hi.form
  obtain ⟨Aw, cw, rfl, hw1, hw2⟩ := hw.form
  obtain ⟨N, hN⟩ : ∃ N, l.length = N := ⟨_, rfl⟩
  rw [hN] at hi hw hi1 hw1 ⊢
  have HI := Lib.hid (And.intro hi hw)
  have HB := Lib.hid (And.intro hB hB2)
  clear hi hw hN hB hB2
  go_enter Try.func16, Try.ntmps16
  go_wp2_with fail
  go_loopw [5, 13] (fun _ kk wr => ∃ k : Nat, k ≤ N ∧ kk = .int .i64 (k : Int) ∧ Hid (Ab w wr)) (fun _ kk _ => N - (intOf kk).toNat)
  case atStart => exact ⟨0, Nat.zero_le _, rfl, Lib.hid (Ab.refl w)⟩
  case round =>
    obtain ⟨k, hk, rfl, HA⟩ := hrel
    by_cases hlt : k < N
    · have h1 := HI.out.1.ab HA.out HB.out.1
      have h2 := HI.out.2.ab HA.out HB.out.2
      obtain ⟨b1, o1, rfl, -, cc1⟩ := h1.cells (by omega)
      obtain ⟨b2, o2, rfl, -, cc2⟩ := h2.cells (by omega)
      have g1 := cc1 k hlt
      have g2 := cc2 k hlt
      clear cc1 cc2 h1 h2
      obtain ⟨V, hV⟩ : ∃ V, l.getD k 0 = V := ⟨_, rfl⟩
      rw [hV] at g1 g2
      clear hV
      go_wp2
      go_quiet (fail)
      go_wp2
      go_roundw
      case rel => exact ⟨k + 1, by omega, by go_num, Lib.hid (HA.out.drewN _)⟩
      case measure => simp [intOf]; omega
    · go_wp2
      go_ret
      exact ⟨rfl, HA.out⟩
end Go.Proofs.Ytmnfmgdllfhmaaa.Dg

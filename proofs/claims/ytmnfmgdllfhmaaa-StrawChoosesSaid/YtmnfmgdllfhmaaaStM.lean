/- The program's Share. -/
import Derived.Test.YtmnfmgdllfhmaaaStK
namespace Go.Proofs.Ytmnfmgdllfhmaaa.Dg
open Go.RowKit
variable {w w' : World} {B g N : Nat} {vi vw : Value} {ids ws : List Int} {f : Nat → Option Nat}
theorem bk_ne {a b : Nat} {t t' : TypeId} {cs cs' : Array Value} (h : Bk w a t cs) (h' : Bk w b t' cs') (ht : t ≠ t') : a ≠ b := by
  intro e
  subst e
  unfold Bk at h h'
  rw [h] at h'
  injection h' with h'
  injection h' with _ h' _
  exact ht h'
theorem Cont.far {bi bw be g G b m : Nat} {u : Value} (h : Cont w B bi bw be g vi vw ids ws) (hs : Sh w G N f m) (hB : B ≤ G) : Cont (w.setCell ⟨G, b, none⟩ u) B bi bw be g vi vw ids ws := by
  obtain ⟨cur, hb, -⟩ := hs
  have he := h.eng
  obtain ⟨ec, hec, -⟩ := h.eng
  have hk : ∀ c o, c < B → (w.setCell ⟨G, b, none⟩ u).cell? ⟨c, o, none⟩ = w.cell? ⟨c, o, none⟩ := fun c o hc =>
    World.cell?_of_block (a := ⟨c, o, none⟩) (Below.heap_setCell w ⟨G, b, none⟩ u c (by show c ≠ G; omega))
  exact ⟨h.bi_.far (bk_ne h.bi_ hb (by decide)) u, h.bw_.far (bk_ne h.bw_ hb (by decide)) u, h.be_.far (bk_ne h.be_ hb (by decide)) u, he.far (bk_ne hec hb (by decide)) u,
    h.ids_.keep hk, h.ws_.keep hk, h.len, by simpa using h.lt⟩
attribute [local go_sem] u32_mod wrap32u
set_option maxRecDepth 100000 in
set_option maxHeartbeats 1000000 in
theorem share_any (w : World) (n : Int) (hi : Ns w B vi ids) (hw : Ns w B vw ws) (hl : ws.length = ids.length) (hB : B ≤ w.heap.size) (h47 : ids.length ≤ 35184372088832) :
    Calls Try.prog 17 #[vi, vw, .int .i64 n] w (ShPost w (cntL (chF ids ws) ids.length (min n 10000).toNat)) := by
  obtain ⟨Ai, ci, rfl, -⟩ := hi.form
  obtain ⟨Aw, cw, rfl, -⟩ := hw.form
  obtain ⟨N, hN⟩ : ∃ N, ids.length = N := ⟨_, rfl⟩
  obtain ⟨f, hf⟩ : ∃ f, chF ids ws = f := ⟨_, rfl⟩
  have HF := Lib.hid (And.intro hf (And.intro hl hN))
  rw [hl, hf]
  rw [hl] at hw
  rw [hN] at hi hw h47 ⊢
  have HI := Lib.hid (And.intro hi (And.intro hw hB))
  obtain ⟨M, hM⟩ : ∃ M, min n 10000 = M := ⟨_, rfl⟩
  have hM2 : M ≤ 10000 := by omega
  rw [hM]
  have HM := Lib.hid hM
  obtain ⟨i0, hi0, hz0, hz1, hz2⟩ := info_parts infoInt
  have HZ := Lib.hid (And.intro hi0 (And.intro hz0 (And.intro hz1 hz2)))
  clear hi hw hl hB hN hf hM hi0 hz0 hz1 hz2
  go_enter Try.func17, Try.ntmps17
  go_wp2_with (refine wpList_make_full w rfl _ _ 28 rfl w.heap.size 3 i0 (.int .i64 0) 1 Try.underlying28 HZ.out.1 HZ.out.2.1 HZ.out.2.2.1 .i64 .i64 (N : Int) (N : Int) N rfl rfl rfl rfl (by rw [HZ.out.2.2.2]; omega) (by unfold maxLen; omega) (Nat.le_refl _) ?_)
  intro w1 ho1 hg1
  have ha1 : Ab w w1 := grown_ab0 hg1
  have HS := Lib.hid (And.intro (Sh.start f ho1) ha1)
  clear ho1 hg1 ha1
  go_wp2_with fail
  refine (contest_any w1 (HI.out.1.ab HS.out.2 HI.out.2.2) (HI.out.2.1.ab HS.out.2 HI.out.2.2) HF.out.2.1 (Nat.le_trans HI.out.2.2 HS.out.2.size)).mono ?_
  rintro e w2 ⟨bi, bw, be, g, rfl, hc, ha⟩
  have HC := Lib.hid (And.intro hc (And.intro (HS.out.1.ab ha) (HS.out.2.trans ha)))
  clear hc ha HS
  unfold closV
  have HMr := HM.out
  go_wp2_with fail
  clear HMr
  obtain ⟨G, hG⟩ : ∃ G, w.heap.size = G := ⟨_, rfl⟩
  rw [hG] at HC ⊢
  have HG := Lib.hid hG
  clear hG
  go_loopw [9, 10, 11, 25] (fun _ _ _ kk wr => ∃ k : Nat, (k = 0 ∨ (k : Int) ≤ M) ∧ kk = .int .i64 (k : Int) ∧ Hid (Cont wr B bi bw be g (.slice Ai N ci) (.slice Aw N cw) ids ws ∧ Sh wr G N f k ∧ Ab w wr))
    (fun _ _ _ kk _ => M.toNat - (intOf kk).toNat)
  case atStart => exact ⟨0, .inl rfl, rfl, HC⟩
  case round =>
    obtain ⟨k, hk, rfl, HR⟩ := hrel
    have hkM : k ≤ M.toNat := by omega
    by_cases hlt : (k : Int) < M
    · have HW := Lib.hid (wins_any (modU (k : Int)) 0 bi bw be g HR.out.1)
      have hfk : chooseL ids ws (modU (k : Int)) 0 = f k := by rw [← HF.out.1]; rfl
      rw [hfk] at HW
      obtain ⟨c, hc⟩ : ∃ c, f k = c := ⟨_, rfl⟩
      rw [hc] at HW
      have HK := Lib.hid hc
      clear hfk hc
      cases c with
      | none =>
        go_wp2_with (go_at_call 24; (refine HW.out.mono ?_); rintro e w3 ⟨rfl, h3⟩; (have H3 := Lib.hid h3); clear h3)
        go_roundw
        case rel => exact ⟨k + 1, .inr (by omega), by go_num, Lib.hid ⟨HR.out.1.ab H3.out, (HR.out.2.1.ab H3.out).miss HK.out, HR.out.2.2.trans H3.out⟩⟩
        case measure => simp [intOf]; omega
      | some b =>
        have hb : b < N := by have := HF.out; rw [← this.2.2]; exact chF_lt (by rw [this.1]; exact HK.out)
        have hcn := cn_le f b k
        obtain ⟨C, hC⟩ : ∃ C, cn f b k = C := ⟨_, rfl⟩
        rw [hC] at hcn
        have HCn := Lib.hid hC
        clear hC
        have hC2 : (C : Int) < 10000 := by omega
        go_wp2_with (go_at_call 24; (refine HW.out.mono ?_); rintro e w3 ⟨rfl, h3⟩; (have H3 := Lib.hid (And.intro h3 ((HR.out.2.1.ab h3).at_ hb))); (have a3 := H3.out.2.1); (have a4 := H3.out.2.2); rw [HCn.out] at a3; clear h3)
        go_roundw
        case rel =>
          refine ⟨k + 1, .inr (by omega), by go_num, Lib.hid ⟨?_, ?_, ?_⟩⟩
          · exact (HR.out.1.ab H3.out.1).far (HR.out.2.1.ab H3.out.1) (by rw [← HG.out]; exact HI.out.2.2)
          · have := (HR.out.2.1.ab H3.out.1).hit HK.out hb
            rw [HCn.out] at this
            exact this
          · exact (HR.out.2.2.trans H3.out.1).set (by show w.heap.size ≤ G; rw [HG.out]; exact Nat.le_refl _) _
        case measure => simp [intOf]; omega
    · have e : M.toNat = k := by omega
      have hk2 : k ≤ 10000 := by omega
      have E := Lib.hid e
      clear e
      go_wp2
      go_ret
      refine ⟨some ⟨G, 0, none⟩, N, by rw [cntL_len]; rfl, ?_, HR.out.2.2⟩
      have := HR.out.2.1.ns (by omega) hk2
      rw [cntL_len, E.out]
      exact this
theorem share_off (w : World) (n : Int) (hi : Ns w B vi ids) (hw : Ns w B vw ws) (hl : ws.length ≠ ids.length) :
    Calls Try.prog 17 #[vi, vw, .int .i64 n] w (ShPost w []) := by
  obtain ⟨Ai, ci, rfl, -⟩ := hi.form
  obtain ⟨Aw, cw, rfl, -⟩ := hw.form
  have hb := hi.len
  have hb2 := hw.len
  have hne : ((ws.length : Int) == (ids.length : Int)) = false := by simpa using (show (ws.length : Int) ≠ (ids.length : Int) by omega)
  have hne2 : ((ws.length : Int) != (ids.length : Int)) = true := by simpa using (show (ws.length : Int) ≠ (ids.length : Int) by omega)
  clear hi hw hl
  go_enter Try.func17, Try.ntmps17
  go_wp2_with fail
  go_ret
  exact ⟨none, 0, rfl, Ns.nil _ _, Ab.refl w⟩
end Go.Proofs.Ytmnfmgdllfhmaaa.Dg

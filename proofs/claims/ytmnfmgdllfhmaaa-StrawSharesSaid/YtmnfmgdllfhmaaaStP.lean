/- StrawChooses: the walk. -/
import Derived.Test.YtmnfmgdllfhmaaaStO
namespace Go.Proofs.Ytmnfmgdllfhmaaa.Dg
open Go.RowKit
variable {w w' : World} {B g N : Nat} {vi vw : Value} {ids ws : List Int}
def chooseX (ids ws : List Int) (x : UInt32) (r : Int) : Option Nat := if ws.length = ids.length then chooseL ids ws x r else none
def shareX (ids ws : List Int) (n : Int) : List Int := if ws.length = ids.length then cntL (chF ids ws) ids.length (min n 10000).toNat else []
theorem choose_all (w : World) (x : UInt32) (r : Int) (hi : Ns w B vi ids) (hw : Ns w B vw ws) (hB : B ≤ w.heap.size) :
    Calls Try.prog 14 #[vi, vw, .int .u32 (n32 x), .int .i64 r] w (ChPost7 w (chooseX ids ws x r)) := by
  unfold chooseX
  by_cases hl : ws.length = ids.length
  · rw [if_pos hl]; exact choose_any w x r hi hw hl hB
  · rw [if_neg hl]; exact choose_off w x r hi hw hl
theorem rchoose_all (w : World) (x : UInt32) (r : Int) (hi : Ns w B vi ids) (hw : Ns w B vw ws) (hB : B ≤ w.heap.size) :
    Calls Try.prog 15 #[vi, vw, .int .u32 (n32 x), .int .i64 r] w (ChPost7 w (chooseX ids ws x r)) := by
  unfold chooseX
  by_cases hl : ws.length = ids.length
  · rw [if_pos hl]; exact rchoose_any w x r hi hw hl hB
  · rw [if_neg hl]; exact rchoose_off w x r hi hw hl
theorem share_all (w : World) (n : Int) (hi : Ns w B vi ids) (hw : Ns w B vw ws) (hB : B ≤ w.heap.size) (h47 : ids.length ≤ 17592186043904) :
    Calls Try.prog 17 #[vi, vw, .int .i64 n] w (ShPost w (shareX ids ws n)) := by
  unfold shareX
  by_cases hl : ws.length = ids.length
  · rw [if_pos hl]; exact share_any w n hi hw hl hB (by omega)
  · rw [if_neg hl]; exact share_off w n hi hw hl
theorem rshare_all (w : World) (n : Int) (hi : Ns w B vi ids) (hw : Ns w B vw ws) (hB : B ≤ w.heap.size) (h47 : ids.length ≤ 17592186043904) :
    Calls Try.prog 18 #[vi, vw, .int .i64 n] w (ShPost w (shareX ids ws n)) := by
  unfold shareX
  by_cases hl : ws.length = ids.length
  · rw [if_pos hl]; exact rshare_any w n hi hw hl hB (by omega)
  · rw [if_neg hl]; exact rshare_off w n hi hw hl
set_option maxRecDepth 100000 in
set_option maxHeartbeats 2000000 in
theorem chooses_walk (w : World) {A0 A1 : Option Addr} {n0 c0 n1 c1 : Nat} (x : UInt32) (r n : Int) (hi : Ns w w.heap.size (.slice A0 n0 c0) ids) (hw : Ns w w.heap.size (.slice A1 n1 c1) ws) (h47 : ids.length ≤ 17592186043904) :
    Calls Try.prog 5 #[.agg #[.slice A0 n0 c0, .slice A1 n1 c1], .int .u32 (n32 x), .agg #[.int .i64 r, .int .i64 n]] w (LawPost w) := by
  have HH : Hid (∀ wx, Ab w wx → Ns wx w.heap.size (.slice A0 n0 c0) ids ∧ Ns wx w.heap.size (.slice A1 n1 c1) ws ∧ w.heap.size ≤ wx.heap.size) := Lib.hid fun wx hx => ⟨hi.ab hx (Nat.le_refl _), hw.ab hx (Nat.le_refl _), hx.size⟩
  clear hi hw
  have hab : Ab w ((w.alloc (.cells #[.slice A0 n0 c0, .slice A1 n1 c1] 30)).alloc (.cells #[.int .i64 r, .int .i64 n] 31)) := ((Ab.refl w).alloc _).alloc _
  have hb1 := (Bk.made w 30 #[.slice A0 n0 c0, .slice A1 n1 c1]).alloc (.cells #[.int .i64 r, .int .i64 n] 31)
  have hb2 := Bk.new (w := w.alloc (.cells #[.slice A0 n0 c0, .slice A1 n1 c1] 30)) (n := w.heap.size + 1) (t := 31) (cs := #[.int .i64 r, .int .i64 n]) (by simp)
  go_enter Try.func5, Try.ntmps5
  go_wp2_with fail
  generalize (w.alloc (.cells #[.slice A0 n0 c0, .slice A1 n1 c1] 30)).alloc (.cells #[.int .i64 r, .int .i64 n] 31) = w1 at *
  have k0 := hb1.cell (i := 0) rfl
  have k1 := hb1.cell (i := 1) rfl
  have k2 := hb2.cell (i := 0) rfl
  have k3 := hb2.cell (i := 1) rfl
  have HA := Lib.hid hab
  clear hb1 hb2 hab
  go_quiet (fail)
  clear k0 k1 k2 k3
  have HA1 := Lib.hid (HA.out.drewN nq)
  go_wp2_with fail
  refine (choose_all _ x r (HH.out _ HA1.out).1 (HH.out _ HA1.out).2.1 (HH.out _ HA1.out).2.2).mono ?_
  rintro e w2 ⟨rfl, h2⟩
  have HA2 := Lib.hid (HA1.out.trans h2)
  clear h2
  have HR := Lib.hid (rchoose_all w2 x r (HH.out _ HA2.out).1 (HH.out _ HA2.out).2.1 (HH.out _ HA2.out).2.2)
  generalize chooseX ids ws x r = R at *
  obtain ⟨P, hP⟩ : ∃ P : Int, ((R.getD 0 : Nat) : Int) = P := ⟨_, rfl⟩
  obtain ⟨F, hF⟩ : ∃ F : Bool, R.isSome = F := ⟨_, rfl⟩
  unfold ChPost7 at HR
  rw [hP, hF] at HR ⊢
  clear hP hF
  go_wp2_with fail
  refine HR.out.mono ?_
  rintro e w3 ⟨rfl, h3⟩
  have HA3 := Lib.hid (HA2.out.trans h3)
  clear h3 HR
  go_wp2_with fail
  all_goals
    refine (share_all w3 _ (HH.out _ HA3.out).1 (HH.out _ HA3.out).2.1 (HH.out _ HA3.out).2.2 h47).mono ?_
    rintro e w4 ⟨A4, c4, rfl, h4, h5⟩
    have HA4 := Lib.hid (HA3.out.trans h5)
    have HL := Lib.hid h4
    clear h4 h5
    go_wp2_with fail
    refine (rshare_all w4 _ (HH.out _ HA4.out).1 (HH.out _ HA4.out).2.1 (HH.out _ HA4.out).2.2 h47).mono ?_
    rintro e w5 ⟨A5, c5, rfl, h4, h5⟩
    have HA5 := Lib.hid (HA4.out.trans h5)
    have HL2 := Lib.hid h4
    have H45 := Lib.hid h5
    clear h4 h5
    go_wp2_with fail
    refine (ints_same w5 (HL.out.ab H45.out (Nat.le_refl _)) HL2.out H45.out.size (Nat.le_refl _)).mono ?_
    rintro e w6 ⟨rfl, h6⟩
    have HA6 := Lib.hid (HA5.out.trans h6)
    clear h6
    go_wp2_with fail
    refine (lives7 w6).mono ?_
    rintro e w7 ⟨rfl, h7⟩
    have HA7 := Lib.hid (HA6.out.trans h7)
    clear h7
    go_wp2_with fail
    go_ret
    exact ⟨rfl, HA7.out⟩
end Go.Proofs.Ytmnfmgdllfhmaaa.Dg

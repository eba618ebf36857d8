/- DiskActs' walk. -/
import Derived.Test.YtolchbjcdlncgaaKaG
import Derived.Test.YtolchbjcdlncgaaKaE
import Derived.Test.YtolchbjcdlncgaaKaX
import Derived.Test.YtolchbjcdlncgaaKaI
namespace Go.Proofs.Ytolchbjcdlncgaa.diskActs
open Go.RowKit Dg
variable {W w w' : World} {base B g g2 : Nat} {v v2 u : Value} {d r : Dst} {l : List UInt8}
attribute [local go_sem ↓] Go.wp_at_zero Go.wp_at_succ
theorem ActPost.more {m m' : Nat} {e : Ending} (h : ActPost W g g2 m e w') (hm : m ≤ m') : ActPost W g g2 m' e w' := by
  obtain ⟨he, v, v2, d, r, h1, h2, h3⟩ := h
  exact ⟨he, v, v2, d, r, h1, h2, Nat.le_trans h3 hm⟩
theorem act_any {k a b : Int} {z : Value} (h : Two W w g v d g2 v2 r) (ha : Al d r) (hz : Bs W W.heap.size z l) (hl : l.length ≤ 100000000000000) (hf : d.fin ≤ 1099511627776) (ha9 : a ≤ 9223372036854775807) (hb9 : -9223372036854775808 ≤ b ∧ b ≤ 9223372036854775807) :
    Calls Try.prog 28 #[.pointer (some ⟨g, 0, none⟩), .pointer (some ⟨g2, 0, none⟩), .agg #[.int .i64 k, .int .i64 a, .int .i64 b, z]] w (ActPost W g g2 (d.fin + l.length)) := by
  obtain ⟨A, c, hzz, -, -, -⟩ := id hz
  have up : ∀ e w', ActPost W g g2 d.fin e w' → ActPost W g g2 (d.fin + l.length) e w' := fun e w' hp => hp.more (Nat.le_add_right _ _)
  by_cases hx : k < 0 ∨ 8 < k
  · subst hzz; exact (actX k hx h ha).mono up
  have : k = 0 ∨ k = 1 ∨ k = 2 ∨ k = 3 ∨ k = 4 ∨ k = 5 ∨ k = 6 ∨ k = 7 ∨ k = 8 := by omega
  rcases this with rfl | rfl | rfl | rfl | rfl | rfl | rfl | rfl | rfl
  · exact act0 h ha hz hl hf
  · subst hzz; exact (act1 h ha hf ha9).mono up
  · exact (act2 h ha hb9).mono up
  · subst hzz; exact (act3 h ha hf ha9).mono up
  · subst hzz; exact (act4 h ha hf ha9).mono up
  · subst hzz; exact (act5 h ha hf ha9).mono up
  · subst hzz; exact (act6 h ha hf ha9).mono up
  · subst hzz; exact (act7 h ha hf ha9).mono up
  · subst hzz; exact (act8 h ha hf ha9).mono up
/-- Both, somewhere. -/
def Both (W w : World) (g g2 f : Nat) : Prop := ∃ v v2 d r, Two W w g v d g2 v2 r ∧ Al d r ∧ d.fin ≤ f
set_option maxRecDepth 100000 in
set_option maxHeartbeats 2000000 in
theorem acts_walk (size : Int) (A : Option Addr) (n cap : Nat) (K M N : Nat → Int) (Z : Nat → Value) (L : Nat → List UInt8) (w : World) (hn : n ≤ cap) (hcap : cap ≤ 9223372036854775807) (hops : n ≠ 0 → ∃ bb off, A = some ⟨bb, off, none⟩ ∧ Acts w bb off n K M N Z L) (hfar : farA L n ≤ 1099511627776) :
    Calls Try.prog 5 #[.int .i64 size, .slice A n cap] w fun e w' => e = .returned (.bool true) ∧ Ab w w' := by
  by_cases hs : 1 ≤ size ∧ size ≤ 67108864
  · have h1 : Calls Try.prog 25 #[.int .i64 size] w fun e w' => e = .returned (.tuple #[.pointer (some ⟨w.heap.size, 0, none⟩), .int .i64 0]) ∧ Dk w' w.heap.size w.heap.size (.slice none 0 0) (Dst.new size.toNat) ∧ Ab w w' := (New_any w size).mono fun e w' h => by
      rcases h with ⟨h, _⟩ | ⟨_, h3, h4, h5⟩
      · omega
      · exact ⟨h3, h4 _ (Nat.le_refl _), h5⟩
    have h2 : ∀ wx, w.heap.size ≤ wx.heap.size → Calls Try.prog 26 #[.int .i64 size] wx fun e w' => e = .returned (.tuple #[.pointer (some ⟨wx.heap.size, 0, none⟩), .int .i64 0]) ∧ Rk w' w.heap.size wx.heap.size (.slice none 0 0) (Dst.new size.toNat) ∧ Ab wx w' := fun wx hx => (rnew_any wx size).mono fun e w' h => by
      rcases h with ⟨h, _⟩ | ⟨_, h3, h4, h5⟩
      · omega
      · exact ⟨h3, h4 _ hx, h5⟩
    have H1 := Lib.hid h1
    have H2 := Lib.hid h2
    have HO := Lib.hid (And.intro hops hfar)
    clear h1 h2 hops hfar hs
    go_enter Try.func5, Try.ntmps5
    go_wp2_with (first | (go_at_call 25; (with_reducible refine H1.out.mono ?_); rintro e w1 ⟨rfl, hd1, ha1⟩; (have HD1 := Lib.hid (And.intro hd1 ha1)); clear hd1 ha1) | (go_at_call 26; (with_reducible refine (H2.out w1 HD1.out.2.size).mono ?_); rintro e w2 ⟨rfl, hr2, ha2⟩; (have HS := Lib.hid (And.intro hr2 ha2)); clear hr2 ha2))
    have HB0 : Both w w2 w.heap.size w1.heap.size 0 := ⟨_, _, _, _, ⟨HD1.out.1.ab HS.out.2, HS.out.1, fun k k1 k2 => by
      rcases k1 with rfl | k1
      · rcases k2 with k2 | k2
        · have := HD1.out.1.1.lt; omega
        · simp [Value.ownBlock] at k2
      · simp [Value.ownBlock] at k1, HD1.out.2.trans HS.out.2⟩, ⟨none, rfl, trivial⟩, Nat.le_refl _⟩
    have HB := Lib.hid HB0
    clear HB0
    go_loopw [36] (fun i wr => ∃ j : Nat, j ≤ n ∧ i = .int .i64 (j : Int) ∧ Both w wr w.heap.size w1.heap.size (farA L j)) (fun i _ => n - (intOf i).toNat)
    case atStart => exact ⟨0, Nat.zero_le _, rfl, HB.out⟩
    case round =>
      obtain ⟨j, hj, rfl, hsw⟩ := hrel
      by_cases hlt : j < n
      · obtain ⟨v1, v21, d1, r1, hp1, hal1, hf1⟩ := hsw
        obtain ⟨bb, off, rfl, ho⟩ := HO.out.1 (by omega)
        have hb := ho.lt (by omega)
        have k0 := (hp1.ab.cells bb (off + j * 4) hb).trans (ho.c0 j hlt)
        have k1 := (hp1.ab.cells bb (off + (j * 4 + 1)) hb).trans (ho.c1 j hlt)
        have k2 := (hp1.ab.cells bb (off + (j * 4 + 2)) hb).trans (ho.c2 j hlt)
        have k3 := (hp1.ab.cells bb (off + (j * 4 + 3)) hb).trans (ho.c3 j hlt)
        rw [← Nat.add_assoc] at k1 k2 k3
        have hbs := ho.bs j hlt
        obtain ⟨Az, cz, hzj, -, -, -⟩ := id hbs
        rw [hzj] at hbs k3
        have hm1 : farA L (j + 1) ≤ 1099511627776 := Nat.le_trans (farA_mono L (by omega)) HO.out.2
        have hm2 : farA L (j + 1) = farA L j + (L j).length := rfl
        have hp4 := hp1.still ((Ab.refl wr).alloc (.cells #[.int .i64 (K j), .int .i64 (M j), .int .i64 (N j), .slice Az (L j).length cz] 72))
        have hbox := Bk.made wr 72 #[.int .i64 (K j), .int .i64 (M j), .int .i64 (N j), .slice Az (L j).length cz]
        have x0 : (wr.alloc (.cells #[.int .i64 (K j), .int .i64 (M j), .int .i64 (N j), .slice Az (L j).length cz] 72)).cell? ⟨wr.heap.size, 0, none⟩ = some (.int .i64 (K j)) := hbox.cell rfl
        have x1 : (wr.alloc (.cells #[.int .i64 (K j), .int .i64 (M j), .int .i64 (N j), .slice Az (L j).length cz] 72)).cell? ⟨wr.heap.size, 1, none⟩ = some (.int .i64 (M j)) := hbox.cell rfl
        have x2 : (wr.alloc (.cells #[.int .i64 (K j), .int .i64 (M j), .int .i64 (N j), .slice Az (L j).length cz] 72)).cell? ⟨wr.heap.size, 2, none⟩ = some (.int .i64 (N j)) := hbox.cell rfl
        have x3 : (wr.alloc (.cells #[.int .i64 (K j), .int .i64 (M j), .int .i64 (N j), .slice Az (L j).length cz] 72)).cell? ⟨wr.heap.size, 3, none⟩ = some (.slice Az (L j).length cz) := hbox.cell rfl
        have HC := Lib.hid (act_any (k := K j) hp4 hal1 hbs (by omega) (by omega) (ho.m9 j hlt) (ho.n9 j hlt))
        have HF1 := Lib.hid (And.intro hf1 (And.intro hm1 hm2))
        have HLT := Lib.hid hlt
        have hi0 : (0 : Int) ≤ (j : Int) := by omega
        have hi1 : (j : Int) < (n : Int) := by omega
        clear hp1 hp4 hal1 hbox ho hb hf1 hm1 hm2
        go_wp2_with fail
        refine HC.out.mono ?_
        rintro e w5 ⟨rfl, v5, v6, d5, r5, hp5, hal5, hf5⟩
        have hf6 : d5.fin ≤ farA L (j + 1) := by have := HF1.out; omega
        have H5 := Lib.hid (And.intro hp5 (And.intro hal5 hf6))
        clear hp5 hal5 hf5 hf6 k0 k1 k2 k3 x0 x1 x2 x3 hi0 hbs
        go_wp2_with fail
        refine (alike_any H5.out.1 H5.out.2.1 (by have := H5.out.2.2; have := HF1.out; omega)).mono ?_
        rintro e w6 ⟨rfl, hp6⟩
        have H6 := Lib.hid (show Both w w6 w.heap.size w1.heap.size (farA L (j + 1)) from ⟨_, _, _, _, hp6, H5.out.2.1, H5.out.2.2⟩)
        clear hp6
        go_wp2_with fail
        go_roundw
        case rel => exact ⟨j + 1, HLT.out, by go_num, H6.out⟩
        case measure => have h9 := HLT.out; clear hi1; simp [intOf]; omega
      · have HS2 := Lib.hid hsw
        clear hsw
        go_wp2_with (go_at_call 27; (refine (lives_any wr).mono ?_); rintro e w8 ⟨rfl, ha8⟩; (have H8 := Lib.hid ha8); clear ha8)
        go_ret
        obtain ⟨_, _, _, _, hp, -⟩ := HS2.out
        exact ⟨rfl, hp.ab.trans H8.out⟩
  · have h1 : Calls Try.prog 25 #[.int .i64 size] w fun e w' => e = .returned (.tuple #[.pointer none, .int .i64 22]) ∧ w = w' := (New_any w size).mono fun e w' h => by
      rcases h with ⟨_, h⟩ | ⟨h, _⟩
      · exact h
      · omega
    have h2 : Calls Try.prog 26 #[.int .i64 size] w fun e w' => e = .returned (.tuple #[.pointer none, .int .i64 22]) ∧ w = w' := (rnew_any w size).mono fun e w' h => by
      rcases h with ⟨_, h⟩ | ⟨h, _⟩
      · exact h
      · omega
    have H1 := Lib.hid h1
    have H2 := Lib.hid h2
    clear h1 h2 hops hfar hs
    go_enter Try.func5, Try.ntmps5
    go_wp2_with (first | (go_at_call 25; (with_reducible refine H1.out.mono ?_); rintro e w1 ⟨rfl, rfl⟩) | (go_at_call 26; (with_reducible refine H2.out.mono ?_); rintro e w2 ⟨rfl, rfl⟩) | (go_at_call 27; (refine (lives_any w).mono ?_); rintro e w8 ⟨rfl, ha8⟩; (have H8 := Lib.hid ha8); clear ha8))
    go_ret
    exact ⟨rfl, H8.out⟩
end Go.Proofs.Ytolchbjcdlncgaa.diskActs

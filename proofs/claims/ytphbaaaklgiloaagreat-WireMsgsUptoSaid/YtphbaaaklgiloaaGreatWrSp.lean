/- wire: bytes that are spoilt: only their own block turns. -/
import Derived.Lib.Hide
import Derived.Test.YtphbaaaklgiloaaGreatDkA
import Derived.OwnWalk
import Derived.IntWalk
namespace Go.Proofs.YtphbaaaklgiloaaGreat.Dg
open Go.RowKit
variable {w w' : World} {base B : Nat} {v : Value} {l : List UInt8}
set_option maxRecDepth 100000 in
set_option maxHeartbeats 1000000 in
/-- Each byte becomes 77: only rows of bytes from base on turn. -/
theorem spoil_mv (w : World) (h : Ob w base v l) (hl : l.length ≤ 9223372036854775807) :
    Calls Tryz.prog 10 #[v] w fun e w' => e = .returned (.tuple #[]) ∧ Mv (fun k => v.ownBlock = some k) w w' := by
  by_cases hne : l = []
  · subst hne
    obtain ⟨A, c, rfl, -, -⟩ := h.len_cap
    clear h
    go_enter Tryz.func10, Tryz.ntmps10
    go_wp2
    go_loop [5] (fun i => i = .int .i64 0) (fun _ => 0)
    case atStart => rfl
    case round =>
      subst hrel
      go_wp2
      go_end0
      exact ⟨rfl, Mv.refl _ _⟩
  · obtain ⟨g, cap, rfl, hbg, hg, hlc, hcm, -, -⟩ := h.form hne
    have hcm9 : cap ≤ 9223372036854775807 := by unfold maxLen at hcm; exact hcm
    have HN := Lib.hid hne
    go_enter Tryz.func10, Tryz.ntmps10
    go_wp2
    go_loopw [5] (fun i wr => ∃ j : Nat, j ≤ l.length ∧ i = .int .i64 (j : Int) ∧ ∃ m : List UInt8, m.length = l.length ∧ Ob wr base (.slice (some ⟨g, 0, none⟩) l.length cap) m ∧ Mv (fun k => k = g) w wr) (fun i _ => l.length - (intOf i).toNat)
    case atStart => exact ⟨0, Nat.zero_le _, rfl, l, rfl, h, Mv.refl _ _⟩
    case round =>
      obtain ⟨j, hj, rfl, m, hm, ho, hf⟩ := hrel
      by_cases hlt : j < l.length
      · have hmn : m ≠ [] := by intro e; subst e; simp at hm; omega
        obtain ⟨g', cap', hv', -, -, -, -, hfr, hc⟩ := ho.form hmn
        injection hv' with ha hgb hgc
        clear hgb hgc
        injection ha with ha
        injection ha with ha
        subst ha
        have hcj := hc j (by omega)
        have hfj := hfr j
        have hj0 : (0 : Int) ≤ (j : Int) := by omega
        have hj1 : (j : Int) < (l.length : Int) := by omega
        have hset := ho.set j 77
        have hf2 : Mv (fun k => k = g) w (wr.setCell ⟨g, j, none⟩ (.int .u8 (n8 77))) := hf.set (p := ⟨g, j, none⟩) rfl _
        have HS := Lib.hid (And.intro hset (And.intro hf2 hm))
        generalize n8 (m.getD j 0) = y at hcj
        clear ho hf hc hfr hset hf2 h hm hcm hmn
        go_wp2_with fail
        go_roundw
        case rel => exact ⟨j + 1, by omega, by go_num, m.set j 77, by rw [List.length_set]; exact HS.out.2.2, HS.out.1, HS.out.2.1⟩
        case measure => simp [intOf]; omega
      · clear ho h
        have HF := Lib.hid hf
        clear hf
        go_wp2_with fail
        go_end0
        exact ⟨rfl, HF.out.mono (fun k _ e => by rw [e]; rfl)⟩
end Go.Proofs.YtphbaaaklgiloaaGreat.Dg

/- wire: lists of texts: what lies in memory; the reference's Strings; are two lists of texts the same? -/
import Derived.Test.YtniodjigncicbaaWrYs
import Derived.BigQuiet
namespace Go.Proofs.Ytniodjigncicbaa.Dg
open Go.RowKit
variable {w w' : World} {base B : Nat} {v u : Value} {l m : List UInt8}
theorem lowL_inj4 {a b : Nat} (ha : a < 4294967296) (hb : b < 4294967296) (h : lowL a 4 = lowL b 4) : a = b := by
  have h1 := valL_lowL 4 a
  have h2 := valL_lowL 4 b
  rw [h] at h1
  omega
theorem textL_inj {a b : List UInt8} {r q : List UInt8} (ha : a.length < 4294967296) (hb : b.length < 4294967296) (h : textL a ++ r = textL b ++ q) : a = b ∧ r = q := by
  unfold textL at h
  rw [List.append_assoc, List.append_assoc] at h
  obtain ⟨h1, h2⟩ := List.append_inj h (by rw [lowL_length, lowL_length])
  have hl := lowL_inj4 ha hb h1
  exact List.append_inj h2 hl
theorem catL_cons (s : ByteArray) (ss : List ByteArray) : catL (s :: ss) = textL s.data.toList ++ catL ss := rfl
theorem ba_ext {a b : ByteArray} (h : a.data.toList = b.data.toList) : a = b := by
  cases a; cases b
  exact congrArg ByteArray.mk (Array.ext' h)
theorem catL_inj : ∀ (ss tt : List ByteArray), ss.length = tt.length → (catL ss).length < 4294967296 → catL ss = catL tt → ss = tt
  | [], [], _, _, _ => rfl
  | s :: ss, t :: tt, hn, hl, h => by
    have h' := h
    rw [catL_cons, catL_cons] at h
    have hl2 := hl
    rw [h', catL_cons] at hl2
    rw [catL_cons] at hl
    simp only [List.length_append, textL, lowL_length] at hl hl2
    obtain ⟨h1, h2⟩ := textL_inj (by omega) (by omega) h
    rw [ba_ext h1, catL_inj ss tt (by simpa using hn) (by omega) h2]
theorem length_le_catL (ss : List ByteArray) : ss.length ≤ (catL ss).length := length_le_cat ss
theorem textsL_inj {ss tt : List ByteArray} (hl : (textsL ss).length < 4294967296) (h : textsL ss = textsL tt) : ss = tt := by
  have hl2 := hl
  rw [h] at hl2
  unfold textsL at h hl hl2
  rw [List.length_append, lowL_length] at hl hl2
  have h1 := length_le_cat ss
  have h2 := length_le_cat tt
  obtain ⟨e1, e2⟩ := List.append_inj h (by rw [lowL_length, lowL_length])
  exact catL_inj ss tt (lowL_inj4 (by omega) (by omega) e1) (by omega) e2
/-- A list of texts in memory. -/
theorem enc_ts {f : Nat → Option Value} (h : EncF w base (.list .text) f m) : ∃ v ss, f 0 = some v ∧ Ts w base v ss ∧ m = textsL ss := by
  obtain ⟨A, n, c, ms, h1, h2, h3, h4, h5, rfl⟩ := h
  by_cases hn : n = 0
  · subst hn
    obtain rfl : ms = [] := List.eq_nil_of_length_eq_zero h4
    exact ⟨_, [], h1, ⟨A, c, rfl, Nat.zero_le _, h3, fun h => absurd rfl h⟩, rfl⟩
  · obtain ⟨b, o, rfl, hb, hi⟩ := h5 hn
    have each : ∀ i, i < n → ∃ s : ByteArray, w.cell? ⟨b, o + i, none⟩ = some (.string s) ∧ ms.getD i [] = textL s.data.toList := fun i hin => by
      obtain ⟨s, e1, e2⟩ := hi i hin
      have e1' : w.cell? ⟨b, o + i * 1 + 0, none⟩ = some (.string s) := e1
      rw [Nat.mul_one, Nat.add_zero] at e1'
      exact ⟨s, e1', e2⟩
    have hall : ∀ k, k ≤ n → ∃ ss : List ByteArray, ss.length = k ∧ (∀ i, i < k → w.cell? ⟨b, o + i, none⟩ = some (.string (ss.getD i ByteArray.empty))) ∧ (ms.take k).flatten = catL ss := by
      intro k
      induction k with
      | zero => exact fun _ => ⟨[], rfl, fun i hi => absurd hi (Nat.not_lt_zero i), rfl⟩
      | succ k ih =>
        intro hk
        obtain ⟨ss, e1, e2, e3⟩ := ih (by omega)
        obtain ⟨s, f1, f2⟩ := each k (by omega)
        refine ⟨ss ++ [s], by simp [e1], fun i hi => ?_, ?_⟩
        · by_cases h : i < k
          · rw [e2 i h, List.getD_eq_getElem?_getD, List.getD_eq_getElem?_getD, List.getElem?_append_left (by omega)]
          · obtain rfl : i = k := by omega
            rw [f1, List.getD_eq_getElem?_getD, List.getElem?_append_right (by omega), e1, Nat.sub_self]
            rfl
        · rw [flat_take ms k (by omega), e3, f2]
          unfold catL
          rw [List.map_append, List.flatten_append]
          simp
    obtain ⟨ss, e1, e2, e3⟩ := hall n (Nat.le_refl _)
    rw [List.take_of_length_le (by omega)] at e3
    refine ⟨_, ss, h1, ⟨_, c, by rw [e1], by omega, h3, fun _ => ⟨b, o, rfl, hb, fun i hi => e2 i (by omega)⟩⟩, ?_⟩
    unfold textsL
    rw [e1, e3]
theorem conv_textB (s : ByteArray) (hs : s.size ≤ 140737488351232) (w : World) : ∃ (A : Option Addr) (c : Nat) (wq : World), (convert 9 30 (.string s)).run Try.prog w = .ok (.slice A s.size c) wq ∧
    (∀ w' : World, Fr base wq w' → Bs w' (w.heap.size + 1) (.slice A s.data.toList.length c) s.data.toList) ∧ Ab w wq := conv_text s hs w
set_option maxRecDepth 100000 in
set_option maxHeartbeats 2000000 in
theorem ref_Strings (ss : List ByteArray) (u : Value) (w : World) (hts : Ts w w.heap.size u ss) (hl : (textsL ss).length ≤ 100000000) :
    Calls Try.prog 20 #[u] w fun e w' => ∃ v', e = .returned v' ∧ Ob w' w.heap.size v' (textsL ss) ∧ Ab w w' := by
  obtain ⟨A, c, rfl, hn1, hn2, hA⟩ := id hts
  have hlen : (textsL ss).length = 4 + (catL ss).length := by rw [textsL, List.length_append, lowL_length]
  have hss := length_le_cat ss
  have hss9 : ss.length ≤ 100000000 := by omega
  have HA := Lib.hid hA
  have HT := Lib.hid (And.intro hlen hl)
  clear hts hA hlen hl hss
  go_enter Try.func20, Try.ntmps20
  go_wp2_with fail
  refine (rcount_any (base := w.heap.size) (v := .slice none 0 0) (l := []) ss.length w (Ob.nil _ _) (Nat.le_refl _) (by simp)).mono ?_
  rintro e w1 ⟨v1, rfl, ho1, hf1⟩
  have hab1 := hf1.ab (Ab.refl w) (Nat.le_refl _)
  have H1 := Lib.hid (show Ob w1 w.heap.size v1 (lowL ss.length 4 ++ catL (ss.take 0)) ∧ Ab w w1 from ⟨by simpa [catL] using ho1, hab1⟩)
  clear ho1 hf1 hab1
  go_wp2_with fail
  go_loopw [3, 11] (fun s3 i wr => ∃ j : Nat, j ≤ ss.length ∧ i = .int .i64 (j : Int) ∧ Hid (Ob wr w.heap.size s3 (lowL ss.length 4 ++ catL (ss.take j)) ∧ Ab w wr)) (fun _ i _ => ss.length - (intOf i).toNat)
  case atStart => exact ⟨0, Nat.zero_le _, rfl, H1⟩
  case round =>
    obtain ⟨j, hj, rfl, HR⟩ := hrel
    obtain ⟨A3, q3, c3, rfl⟩ := HR.out.1.shape
    by_cases hlt2 : j < ss.length
    · have hne : ss ≠ [] := by intro e; subst e; simp at hlt2
      obtain ⟨b, off, rfl, hb, hcs⟩ := HA.out hne
      have hitem : wr.cell? ⟨b, off + j, none⟩ = some (.string (ss.getD j ByteArray.empty)) := (HR.out.2.cells b _ hb).trans (hcs j hlt2)
      have hsz := size_le_cat ss j hlt2
      have HS := Lib.hid (catL_take ss j hlt2)
      have hj0 : (0 : Int) ≤ (j : Int) := by omega
      have hj1 : (j : Int) < (ss.length : Int) := by omega
      have hT := HT.out
      obtain ⟨sj, hsj⟩ : ∃ sj, ss.getD j ByteArray.empty = sj := ⟨_, rfl⟩
      rw [hsj] at hitem hsz HS
      have esz : sj.data.toList.length = sj.size := by rw [Array.length_toList]; rfl
      obtain ⟨Ac, cc, w2, hcv, hbs, hab⟩ := conv_textB (base := w.heap.size) sj (by omega) wr
      have H2 := Lib.hid (And.intro (HR.out.1.ab hab) (HR.out.2.trans hab))
      have HBS := Lib.hid hbs
      have HL := Lib.hid (show (lowL ss.length 4 ++ catL (ss.take j)).length + sj.data.toList.length ≤ 140000000000000 by rw [List.length_append, lowL_length, esz]; omega)
      clear hcs hT hsz hbs hab
      go_wp2_with fail
      refine (rbytes_w _ sj.data.toList _ w2 HBS.out H2.out.1 H2.out.2.size HL.out).mono ?_
      rintro e w4 ⟨v4, rfl, ho4, hf4⟩
      have hab4 := hf4.ab H2.out.2 (Nat.le_refl _)
      have H4 := Lib.hid (show Ob w4 w.heap.size v4 (lowL ss.length 4 ++ catL (ss.take (j + 1))) ∧ Ab w w4 from ⟨by rw [HS.out, ← List.append_assoc]; exact ho4, hab4⟩)
      clear ho4 hf4 hab4
      go_wp2_with fail
      go_roundw
      case rel => exact ⟨j + 1, by omega, by go_num, H4⟩
      case measure => simp [intOf]; omega
    · go_wp2_with fail
      go_ret
      obtain rfl : j = ss.length := by omega
      refine ⟨_, rfl, ?_, HR.out.2⟩
      have h := HR.out.1
      rw [List.take_length] at h
      exact h
attribute [local go_sem ↓] Go.wp_at_zero Go.wp_at_succ
set_option maxRecDepth 100000 in
set_option maxHeartbeats 2000000 in
theorem texts_eq (ss : List ByteArray) (u z : Value) (w : World) (hu : Ts w B u ss) (hz : Ts w base z ss) (hB : B ≤ w.heap.size) (hbs : base ≤ w.heap.size) :
    Calls Try.prog 24 #[u, z] w fun e w' => e = .returned (.bool true) ∧ Ab w w' := by
  obtain ⟨A, c, rfl, hn1, hn2, hA⟩ := hu
  obtain ⟨A', c', rfl, hk1, hk2, hA'⟩ := hz
  have HA := Lib.hid (And.intro hA hA')
  clear hA hA'
  go_enter Try.func24, Try.ntmps24
  go_wp2_with fail
  go_loopw [13] (fun i wr => ∃ j : Nat, j ≤ ss.length ∧ i = .int .i64 (j : Int) ∧ Hid (Ab w wr)) (fun i _ => ss.length - (intOf i).toNat)
  case atStart => exact ⟨0, Nat.zero_le _, rfl, Lib.hid (Ab.refl w)⟩
  case round =>
    obtain ⟨j, hj, rfl, HR⟩ := hrel
    by_cases hlt2 : j < ss.length
    · have hne : ss ≠ [] := by intro e; subst e; simp at hlt2
      obtain ⟨b, off, rfl, hb, hcs⟩ := HA.out.1 hne
      obtain ⟨b', off', rfl, hb', hcs'⟩ := HA.out.2 hne
      have y1 := (HR.out.cells b _ (by omega)).trans (hcs j hlt2)
      have y2 := (HR.out.cells b' _ (by omega)).trans (hcs' j hlt2)
      have hj0 : (0 : Int) ≤ (j : Int) := by omega
      have hj1 : (j : Int) < (ss.length : Int) := by omega
      generalize ss.getD j ByteArray.empty = sj at *
      clear hcs hcs' hne
      go_wp2_with fail
      go_region
      all_goals
        go_wp2_with fail
        go_roundw
        case rel => exact ⟨j + 1, by omega, by go_num, Lib.hid HR.out.drew⟩
        case measure => simp [intOf]; omega
    · go_wp2_with fail
      go_ret
      exact ⟨rfl, HR.out⟩
end Go.Proofs.Ytniodjigncicbaa.Dg

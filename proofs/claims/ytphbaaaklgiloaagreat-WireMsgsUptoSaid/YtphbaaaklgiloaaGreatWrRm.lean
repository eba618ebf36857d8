/- wire: the coder's functions that a message reaches besides, reading. Made by wip/gen_read2.py. -/
import Derived.Test.YtphbaaaklgiloaaGreatWrR
namespace Go.Proofs.YtphbaaaklgiloaaGreat.Dg
open Go.RowKit
attribute [local go_sem ↓] Go.wp_at_zero Go.wp_at_succ
set_option maxRecDepth 100000 in
set_option maxHeartbeats 40000000 in
theorem node_rd : Rds 64 (.pair .num .num) := by
  intro b o T cs m rest w cb base v hp hc hb hne hle hz hl
  obtain ⟨m0, m1, p0, p1, e0⟩ := hp
  subst e0
  replace hc : Cr w cb base v (m0 ++ (m1 ++ rest)) := by first | exact hc | simpa only [List.append_assoc] using hc
  have hz' : ∀ k, k < szL [.num, .num] → cs[o + k]? = (([.num, .num].map Zc).flatten)[k]? := by rw [← Zc_nest [.num, .num] (by simp)]; exact hz
  have HL := Lib.hid hl
  have HB := Lib.hid (And.intro hne (And.intro hle (And.intro hc.lt hb.lt)))
  have HZ := Lib.hid hz'
  have HP := Lib.hid (show Par .num m0 ∧ Par .num m1 ∧ True from ⟨p0, p1, trivial⟩)
  have hrd := hc.reads
  have H1 := Lib.hid (Rst.start (o := o) hc hb)
  clear hc hb hne hle hz hz' hl p0 p1
  go_enter Tryz.func64, Tryz.ntmps64
  go_wp2_with fail
  have hzz : ∀ i, i < 2 → cs[o + i]? = some (.int .i64 0) := by
    intro i hi
    have e := HZ.out (0 + i) (by show _ < 2; omega)
    have e2 := H1.out.out (o + (0 + i)) (.inr (by show o + 0 ≤ _; omega))
    have e3 : o + i = o + (0 + i) := by omega
    rw [e3, e2, e]
    rcases (show i = 0 ∨ i = 1 by omega) with rfl | rfl <;> rfl
  have h8 : ∀ x ∈ [m0, m1], x.length = 8 := by
    intro x hx
    simp only [List.mem_cons, List.not_mem_nil, or_false] at hx
    rcases hx with rfl | rfl
    · exact HP.out.1
    · exact HP.out.2.1
  have HN := Lib.hid (Rst.nums 2 (by omega) [m0, m1] rfl h8 (rest := rest) (H1.out.recr (by simp only [List.flatten_cons, List.flatten_nil, List.append_assoc, List.nil_append])) HB.out.2.2.1 HB.out.2.2.2 HB.out.1 HB.out.2.1 hzz [(b, o), (b, o + 1)] rfl)
  clear hzz h8
  go_region_held3 (fun _ => True) (trivial) ((go_at_call 65; refine HN.out.mono ?_; rintro e w2 ⟨rfl, v2, cs2, h2⟩; (have H2 := Lib.hid h2); clear h2))
  clear HN
  go_wp2_with fail
  go_end0
  exact H2.out.done (by simp) (by simp)
set_option maxRecDepth 100000 in
set_option maxHeartbeats 40000000 in
theorem slot_rd : Rds 68 (.pair .num (.pair .num .data)) := by
  intro b o T cs m rest w cb base v hp hc hb hne hle hz hl
  obtain ⟨m0, r0, p0, q0, e0⟩ := hp
  obtain ⟨m1, m2, p1, p2, e1⟩ := q0
  subst e1
  subst e0
  replace hc : Cr w cb base v (m0 ++ (m1 ++ (m2 ++ rest))) := by first | exact hc | simpa only [List.append_assoc] using hc
  have hz' : ∀ k, k < szL [.num, .num, .data] → cs[o + k]? = (([.num, .num, .data].map Zc).flatten)[k]? := by rw [← Zc_nest [.num, .num, .data] (by simp)]; exact hz
  have HL := Lib.hid hl
  have HB := Lib.hid (And.intro hne (And.intro hle (And.intro hc.lt hb.lt)))
  have HZ := Lib.hid hz'
  have HP := Lib.hid (show Par .num m0 ∧ Par .num m1 ∧ Par .data m2 ∧ True from ⟨p0, p1, p2, trivial⟩)
  have hrd := hc.reads
  have H1 := Lib.hid (Rst.start (o := o) hc hb)
  clear hc hb hne hle hz hz' hl p0 p1 p2
  go_enter Tryz.func68, Tryz.ntmps68
  go_wp2_with fail
  have hzz : ∀ i, i < 2 → cs[o + i]? = some (.int .i64 0) := by
    intro i hi
    have e := HZ.out (0 + i) (by show _ < 3; omega)
    have e2 := H1.out.out (o + (0 + i)) (.inr (by show o + 0 ≤ _; omega))
    have e3 : o + i = o + (0 + i) := by omega
    rw [e3, e2, e]
    rcases (show i = 0 ∨ i = 1 by omega) with rfl | rfl <;> rfl
  have h8 : ∀ x ∈ [m0, m1], x.length = 8 := by
    intro x hx
    simp only [List.mem_cons, List.not_mem_nil, or_false] at hx
    rcases hx with rfl | rfl
    · exact HP.out.1
    · exact HP.out.2.1
  have HN := Lib.hid (Rst.nums 2 (by omega) [m0, m1] rfl h8 (rest := m2 ++ (rest)) (H1.out.recr (by simp only [List.flatten_cons, List.flatten_nil, List.append_assoc, List.nil_append])) HB.out.2.2.1 HB.out.2.2.2 HB.out.1 HB.out.2.1 hzz [(b, o), (b, o + 1)] rfl)
  clear hzz h8
  go_region_held3 (fun _ => True) (trivial) ((go_at_call 65; refine HN.out.mono ?_; rintro e w2 ⟨rfl, v2, cs2, h2⟩; (have H2 := Lib.hid h2); clear h2))
  clear HN
  go_wp2_with fail
  refine (data_rd b (o + 2) T cs2 m2 (rest) w2 cb base v2 HP.out.2.2.1 H2.out.cr H2.out.bk HB.out.1 HB.out.2.1 (Rst.zero H2.out HZ.out .data [] rfl) (by have := HL.out; first | omega | (simp only [List.length_append] at this ⊢; omega))).mono ?_
  intro e w3 hx
  obtain ⟨rfl, v3, cs3, h2⟩ := H2.out.step HB.out.2.2.1 HB.out.2.2.2 hx
  have H3 := Lib.hid h2
  clear h2 hx
  go_wp2_with fail
  go_end0
  exact H3.out.done (by simp) (by simp)
set_option maxRecDepth 100000 in
set_option maxHeartbeats 40000000 in
theorem info_rd : Rds 72 (.pair .num (.pair (.pair .num .num) (.pair (.pair .num .num) .num))) := by
  intro b o T cs m rest w cb base v hp hc hb hne hle hz hl
  obtain ⟨m0, r0, p0, q0, e0⟩ := hp
  obtain ⟨m1, r1, p1, q1, e1⟩ := q0
  obtain ⟨m2, m3, p2, p3, e2⟩ := q1
  subst e2
  subst e1
  subst e0
  replace hc : Cr w cb base v (m0 ++ (m1 ++ (m2 ++ (m3 ++ rest)))) := by first | exact hc | simpa only [List.append_assoc] using hc
  have hz' : ∀ k, k < szL [.num, (.pair .num .num), (.pair .num .num), .num] → cs[o + k]? = (([.num, (.pair .num .num), (.pair .num .num), .num].map Zc).flatten)[k]? := by rw [← Zc_nest [.num, (.pair .num .num), (.pair .num .num), .num] (by simp)]; exact hz
  have HL := Lib.hid hl
  have HB := Lib.hid (And.intro hne (And.intro hle (And.intro hc.lt hb.lt)))
  have HZ := Lib.hid hz'
  have HP := Lib.hid (show Par .num m0 ∧ Par (.pair .num .num) m1 ∧ Par (.pair .num .num) m2 ∧ Par .num m3 ∧ True from ⟨p0, p1, p2, p3, trivial⟩)
  have hrd := hc.reads
  have H1 := Lib.hid (Rst.start (o := o) hc hb)
  clear hc hb hne hle hz hz' hl p0 p1 p2 p3
  go_enter Tryz.func72, Tryz.ntmps72
  go_wp2_with fail
  refine (number_rd b (o) T cs m0 (m1 ++ (m2 ++ (m3 ++ (rest)))) w cb base v HP.out.1 H1.out.cr H1.out.bk HB.out.1 HB.out.2.1 (Rst.zero H1.out HZ.out .num [(.pair .num .num), (.pair .num .num), .num] rfl) (by have := HL.out; first | omega | (simp only [List.length_append] at this ⊢; omega))).mono ?_
  intro e w2 hx
  obtain ⟨rfl, v2, cs2, h2⟩ := H1.out.step HB.out.2.2.1 HB.out.2.2.2 hx
  have H2 := Lib.hid h2
  clear h2 hx
  go_wp2_with fail
  refine (version_rd b (o + 1) T cs2 m1 (m2 ++ (m3 ++ (rest))) w2 cb base v2 HP.out.2.1 H2.out.cr H2.out.bk HB.out.1 HB.out.2.1 (Rst.zero H2.out HZ.out (.pair .num .num) [(.pair .num .num), .num] rfl) (by have := HL.out; first | omega | (simp only [List.length_append] at this ⊢; omega))).mono ?_
  intro e w3 hx
  obtain ⟨rfl, v3, cs3, h2⟩ := H2.out.step HB.out.2.2.1 HB.out.2.2.2 hx
  have H3 := Lib.hid h2
  clear h2 hx
  go_wp2_with fail
  refine (version_rd b (o + 3) T cs3 m2 (m3 ++ (rest)) w3 cb base v3 HP.out.2.2.1 H3.out.cr H3.out.bk HB.out.1 HB.out.2.1 (Rst.zero H3.out HZ.out (.pair .num .num) [.num] rfl) (by have := HL.out; first | omega | (simp only [List.length_append] at this ⊢; omega))).mono ?_
  intro e w4 hx
  obtain ⟨rfl, v4, cs4, h2⟩ := H3.out.step HB.out.2.2.1 HB.out.2.2.2 hx
  have H4 := Lib.hid h2
  clear h2 hx
  go_wp2_with fail
  refine (number_rd b (o + 5) T cs4 m3 (rest) w4 cb base v4 HP.out.2.2.2.1 H4.out.cr H4.out.bk HB.out.1 HB.out.2.1 (Rst.zero H4.out HZ.out .num [] rfl) (by have := HL.out; first | omega | (simp only [List.length_append] at this ⊢; omega))).mono ?_
  intro e w5 hx
  obtain ⟨rfl, v5, cs5, h2⟩ := H4.out.step HB.out.2.2.1 HB.out.2.2.2 hx
  have H5 := Lib.hid h2
  clear h2 hx
  go_wp2_with fail
  go_end0
  exact H5.out.done (by simp) (by simp)
set_option maxRecDepth 100000 in
set_option maxHeartbeats 40000000 in
theorem object_rd : Rds 74 (.pair .text (.pair (.pair .num .num) .data)) := by
  intro b o T cs m rest w cb base v hp hc hb hne hle hz hl
  obtain ⟨m0, r0, p0, q0, e0⟩ := hp
  obtain ⟨m1, m2, p1, p2, e1⟩ := q0
  subst e1
  subst e0
  replace hc : Cr w cb base v (m0 ++ (m1 ++ (m2 ++ rest))) := by first | exact hc | simpa only [List.append_assoc] using hc
  have hz' : ∀ k, k < szL [.text, (.pair .num .num), .data] → cs[o + k]? = (([.text, (.pair .num .num), .data].map Zc).flatten)[k]? := by rw [← Zc_nest [.text, (.pair .num .num), .data] (by simp)]; exact hz
  have HL := Lib.hid hl
  have HB := Lib.hid (And.intro hne (And.intro hle (And.intro hc.lt hb.lt)))
  have HZ := Lib.hid hz'
  have HP := Lib.hid (show Par .text m0 ∧ Par (.pair .num .num) m1 ∧ Par .data m2 ∧ True from ⟨p0, p1, p2, trivial⟩)
  have hrd := hc.reads
  have H1 := Lib.hid (Rst.start (o := o) hc hb)
  clear hc hb hne hle hz hz' hl p0 p1 p2
  go_enter Tryz.func74, Tryz.ntmps74
  go_wp2_with fail
  refine (text_rd b (o) T cs m0 (m1 ++ (m2 ++ (rest))) w cb base v HP.out.1 H1.out.cr H1.out.bk HB.out.1 HB.out.2.1 (Rst.zero H1.out HZ.out .text [(.pair .num .num), .data] rfl) (by have := HL.out; first | omega | (simp only [List.length_append] at this ⊢; omega))).mono ?_
  intro e w2 hx
  obtain ⟨rfl, v2, cs2, h2⟩ := H1.out.step HB.out.2.2.1 HB.out.2.2.2 hx
  have H2 := Lib.hid h2
  clear h2 hx
  go_wp2_with fail
  refine (version_rd b (o + 1) T cs2 m1 (m2 ++ (rest)) w2 cb base v2 HP.out.2.1 H2.out.cr H2.out.bk HB.out.1 HB.out.2.1 (Rst.zero H2.out HZ.out (.pair .num .num) [.data] rfl) (by have := HL.out; first | omega | (simp only [List.length_append] at this ⊢; omega))).mono ?_
  intro e w3 hx
  obtain ⟨rfl, v3, cs3, h2⟩ := H2.out.step HB.out.2.2.1 HB.out.2.2.2 hx
  have H3 := Lib.hid h2
  clear h2 hx
  go_wp2_with fail
  refine (data_rd b (o + 3) T cs3 m2 (rest) w3 cb base v3 HP.out.2.2.1 H3.out.cr H3.out.bk HB.out.1 HB.out.2.1 (Rst.zero H3.out HZ.out .data [] rfl) (by have := HL.out; first | omega | (simp only [List.length_append] at this ⊢; omega))).mono ?_
  intro e w4 hx
  obtain ⟨rfl, v4, cs4, h2⟩ := H3.out.step HB.out.2.2.1 HB.out.2.2.2 hx
  have H4 := Lib.hid h2
  clear h2 hx
  go_wp2_with fail
  go_end0
  exact H4.out.done (by simp) (by simp)
set_option maxRecDepth 100000 in
set_option maxHeartbeats 40000000 in
theorem op_rd : Rds 75 (.pair .num (.pair .text (.pair .data (.pair .num .num)))) := by
  intro b o T cs m rest w cb base v hp hc hb hne hle hz hl
  obtain ⟨m0, r0, p0, q0, e0⟩ := hp
  obtain ⟨m1, r1, p1, q1, e1⟩ := q0
  obtain ⟨m2, m3, p2, p3, e2⟩ := q1
  subst e2
  subst e1
  subst e0
  replace hc : Cr w cb base v (m0 ++ (m1 ++ (m2 ++ (m3 ++ rest)))) := by first | exact hc | simpa only [List.append_assoc] using hc
  have hz' : ∀ k, k < szL [.num, .text, .data, (.pair .num .num)] → cs[o + k]? = (([.num, .text, .data, (.pair .num .num)].map Zc).flatten)[k]? := by rw [← Zc_nest [.num, .text, .data, (.pair .num .num)] (by simp)]; exact hz
  have HL := Lib.hid hl
  have HB := Lib.hid (And.intro hne (And.intro hle (And.intro hc.lt hb.lt)))
  have HZ := Lib.hid hz'
  have HP := Lib.hid (show Par .num m0 ∧ Par .text m1 ∧ Par .data m2 ∧ Par (.pair .num .num) m3 ∧ True from ⟨p0, p1, p2, p3, trivial⟩)
  have hrd := hc.reads
  have H1 := Lib.hid (Rst.start (o := o) hc hb)
  clear hc hb hne hle hz hz' hl p0 p1 p2 p3
  go_enter Tryz.func75, Tryz.ntmps75
  go_wp2_with fail
  refine (number_rd b (o) T cs m0 (m1 ++ (m2 ++ (m3 ++ (rest)))) w cb base v HP.out.1 H1.out.cr H1.out.bk HB.out.1 HB.out.2.1 (Rst.zero H1.out HZ.out .num [.text, .data, (.pair .num .num)] rfl) (by have := HL.out; first | omega | (simp only [List.length_append] at this ⊢; omega))).mono ?_
  intro e w2 hx
  obtain ⟨rfl, v2, cs2, h2⟩ := H1.out.step HB.out.2.2.1 HB.out.2.2.2 hx
  have H2 := Lib.hid h2
  clear h2 hx
  go_wp2_with fail
  refine (text_rd b (o + 1) T cs2 m1 (m2 ++ (m3 ++ (rest))) w2 cb base v2 HP.out.2.1 H2.out.cr H2.out.bk HB.out.1 HB.out.2.1 (Rst.zero H2.out HZ.out .text [.data, (.pair .num .num)] rfl) (by have := HL.out; first | omega | (simp only [List.length_append] at this ⊢; omega))).mono ?_
  intro e w3 hx
  obtain ⟨rfl, v3, cs3, h2⟩ := H2.out.step HB.out.2.2.1 HB.out.2.2.2 hx
  have H3 := Lib.hid h2
  clear h2 hx
  go_wp2_with fail
  refine (data_rd b (o + 2) T cs3 m2 (m3 ++ (rest)) w3 cb base v3 HP.out.2.2.1 H3.out.cr H3.out.bk HB.out.1 HB.out.2.1 (Rst.zero H3.out HZ.out .data [(.pair .num .num)] rfl) (by have := HL.out; first | omega | (simp only [List.length_append] at this ⊢; omega))).mono ?_
  intro e w4 hx
  obtain ⟨rfl, v4, cs4, h2⟩ := H3.out.step HB.out.2.2.1 HB.out.2.2.2 hx
  have H4 := Lib.hid h2
  clear h2 hx
  go_wp2_with fail
  refine (version_rd b (o + 3) T cs4 m3 (rest) w4 cb base v4 HP.out.2.2.2.1 H4.out.cr H4.out.bk HB.out.1 HB.out.2.1 (Rst.zero H4.out HZ.out (.pair .num .num) [] rfl) (by have := HL.out; first | omega | (simp only [List.length_append] at this ⊢; omega))).mono ?_
  intro e w5 hx
  obtain ⟨rfl, v5, cs5, h2⟩ := H4.out.step HB.out.2.2.1 HB.out.2.2.2 hx
  have H5 := Lib.hid h2
  clear h2 hx
  go_wp2_with fail
  go_end0
  exact H5.out.done (by simp) (by simp)
set_option maxRecDepth 100000 in
set_option maxHeartbeats 40000000 in
theorem list_slot_rd : Rdl 67 68 (.pair .num (.pair .num .data)) := by
  intro b o T cs m rest w cb base v hp hc hb hne hle hz hl
  obtain ⟨ms, rfl, hn4, hps⟩ := id hp
  have ho : cs[o]? = some (.slice none 0 0) := hz 0 (by omega)
  have hr := hc.reads
  rw [List.append_assoc] at hc
  have hfl := flat_pos ms hps
  rw [List.length_append, lowL_length] at hl
  have HT := Lib.hid (count_good ms.length (ms.flatten ++ rest) w hc hn4 (by rw [List.length_append]; omega))
  have HB := Lib.hid (And.intro hne (And.intro hle (And.intro hc.lt hb.lt)))
  have HO := Lib.hid (And.intro hb ho)
  have HP := Lib.hid (And.intro hps hl)
  have hn8 : ms.length ≤ 100000000 := by omega
  clear hp hc hb hne hle hz hl ho hfl hps hn4
  go_enter Tryz.func67, Tryz.ntmps67
  go_wp2_with fail
  refine HT.out.mono ?_
  rintro e w2 ⟨rfl, v2, hm, -, hc2⟩
  have HS0 := Lib.hid (Lr.start (s := (.pair .num (.pair .num .data))) (E := 148) hc2 HO.out.1 hm HB.out.1 HO.out.2)
  clear hm hc2
  go_wp2_with fail
  go_loopw [15] (fun i wr => ∃ j : Nat, j ≤ ms.length ∧ i = .int .i64 (j : Int) ∧ Hid (∃ u xs, Lr (.pair .num (.pair .num .data)) 148 b o T cs ms rest w cb base j j u xs wr)) (fun i _ => ms.length - (intOf i).toNat)
  case atStart => exact ⟨0, Nat.zero_le _, rfl, Lib.hid ⟨_, _, HS0.out⟩⟩
  case round =>
    obtain ⟨j, hj, rfl, HR⟩ := hrel
    by_cases hlt2 : j < ms.length
    · obtain ⟨u, xs, h1⟩ := HR.out
      obtain ⟨A, c, rfl, -, -⟩ := h1.og.len_cap
      have y1 := h1.cell
      have HR1 := Lib.hid h1
      have HJ := Lib.hid (show j + 1 ≤ 100000000 by omega)
      have HJM := Lib.hid hlt2
      have HS := Lib.hid (fun wx (hx : Ab wr wx) => (h1.ab hx).cell)
      have i1 : (0 : Int) ≤ (j : Int) := by omega
      have i2 : (j : Int) < (ms.length : Int) := by omega
      clear h1
      go_wp2_with fail
      have habz : Ab wr (wr.alloc (.cells #[.int .i64 0, .int .i64 0, .slice none 0 0] 148)) := (Ab.refl wr).alloc _
      have hbz : Bk (wr.alloc (.cells #[.int .i64 0, .int .i64 0, .slice none 0 0] 148)) wr.heap.size 148 #[.int .i64 0, .int .i64 0, .slice none 0 0] := Bk.made wr _ _
      obtain ⟨wz, hwz⟩ : ∃ wz, wr.alloc (.cells #[.int .i64 0, .int .i64 0, .slice none 0 0] 148) = wz := ⟨_, rfl⟩
      rw [hwz] at habz hbz ⊢
      have HRz := Lib.hid (HR1.out.ab habz)
      have yz := HRz.out.cell
      have yz2 : (wz.alloc (.cells #[.int .i64 0, .int .i64 0, .slice none 0 0] 148)).cell? ⟨b, o, none⟩ = some (.slice A j c) := (HRz.out.ab ((Ab.refl wz).alloc _)).cell
      have zz0 : wz.cell? ⟨wr.heap.size, 0, none⟩ = some (.int .i64 0) := hbz.cell rfl
      have zz1 : wz.cell? ⟨wr.heap.size, 1, none⟩ = some (.int .i64 0) := hbz.cell rfl
      have zz2 : wz.cell? ⟨wr.heap.size, 2, none⟩ = some (.slice none 0 0) := hbz.cell rfl
      clear hwz habz hbz
      go_region_law ((refine lay_rd (by rfl) _ _ (by rfl) _ _ (by rfl) (by rfl) Tryz.underlying26 (show (Tryz.prog.info? 148).map (fun i => (i.zero, i.size, i.bytes)) = some (some (.agg #[.int .i64 0, .int .i64 0, .slice none 0 0]), 3, 40) by kernel_rfl) (by rfl) w.heap.size j xs 1 (Zc (.pair .num (.pair .num .data))) (HRz.out.ab (by repeat (first | with_reducible exact Ab.refl _ | with_reducible assumption | with_reducible refine Ab.drew ?_ | with_reducible refine Ab.alloc ?_ _))).og (src_row Tryz.underlying26 rfl (Zc_one _) (by repeat (first | with_reducible assumption | with_reducible exact Bk.made _ _ _ | exact Bk.new (by first | (with_reducible rfl) | (simp; done)) | with_reducible refine Bk.drew ?_ | with_reducible refine Bk.alloc ?_ _))) ⟨by have := HJ.out; omega, by omega⟩ (by first | exact Nat.le_trans HRz.out.mv.size (Ab.size (by repeat (first | with_reducible exact Ab.refl _ | with_reducible assumption | with_reducible refine Ab.drew ?_ | with_reducible refine Ab.alloc ?_ _))) | (have := HRz.out.mv.size; simp; omega)) ?_; intro A5 c5 w5 ho5 hg5 hn5; (have y5 := (Lr.grown (HRz.out.ab (by repeat (first | with_reducible exact Ab.refl _ | with_reducible assumption | with_reducible refine Ab.drew ?_ | with_reducible refine Ab.alloc ?_ _))) HB.out.2.2.2 hg5).1); (have z5 := (Lr.grown (HRz.out.ab (by repeat (first | with_reducible exact Ab.refl _ | with_reducible assumption | with_reducible refine Ab.drew ?_ | with_reducible refine Ab.alloc ?_ _))) HB.out.2.2.2 hg5).2); (have H5 := Lib.hid (Lr.app (HRz.out.ab (by repeat (first | with_reducible exact Ab.refl _ | with_reducible assumption | with_reducible refine Ab.drew ?_ | with_reducible refine Ab.alloc ?_ _))) HB.out.2.2.1 HB.out.2.2.2 HB.out.1 HB.out.2.1 ho5 hg5 hn5)); clear ho5 hg5 hn5))
      all_goals
        obtain ⟨g, off, cs', rfl, hcap, hcap2, hbk, hge, hzz⟩ := Lr.next H5.out HR1.out.og.1
        have yl := H5.out.cell
        obtain ⟨v4, hc4⟩ := H5.out.cr' HJM.out
        obtain ⟨w6, hw6⟩ : ∃ w6, w5.setCell ⟨b, o, none⟩ (.slice (some ⟨g, off, none⟩) (j + 1) c5) = w6 := ⟨_, rfl⟩
        rw [hw6] at H5 hbk yl hc4 ⊢
        have HN := Lib.hid (slot_rd g (off + j * 3) 148 cs' (ms.getD j []) ((ms.drop (j + 1)).flatten ++ rest) w6 cb base v4 (HP.out.1 _ (getD_mem HJM.out)) hc4 hbk (by have := HB.out.2.2.1; omega) (by have := HB.out.2.1; have := HB.out.2.2.2; omega) hzz (by have := mem_flat_len (getD_mem HJM.out); have := HP.out.2; omega))
        have HI := Lib.hid (fun e w3 (hp : RdPost (.pair .num (.pair .num .data)) g (off + j * 3) 148 cs' (ms.getD j []) ((ms.drop (j + 1)).flatten ++ rest) w6 cb base e w3) => Lr.item (e := e) (w3 := w3) H5.out HR1.out.og.1 HB.out.2.2.1 HB.out.2.2.2 HB.out.1 hbk HJM.out hp)
        generalize hj1 : j + 1 = j1 at yl hcap ⊢
        have i3 : (j : Int) < (j1 : Int) := by omega
        clear hj1 hw6
        clear hbk hge hzz hc4 y1 y5 z5
        go_wp2_with fail
        refine HN.out.mono ?_
        intro e w7 hx
        obtain ⟨rfl, ys, h7, -⟩ := HI.out e w7 hx
        have H7 := Lib.hid h7
        clear h7 hx
        go_wp2_with fail
        go_roundw
        case rel => exact ⟨j + 1, HJM.out, by go_num, Lib.hid ⟨_, _, H7.out⟩⟩
        case measure => have := HJM.out; simp [intOf]; omega
    · go_wp2_with fail
      go_end0
      obtain rfl : j = ms.length := by omega
      obtain ⟨u, xs, h1⟩ := HR.out
      obtain ⟨A, c, rfl, -, -⟩ := h1.og.len_cap
      exact h1.done rfl
set_option maxRecDepth 100000 in
set_option maxHeartbeats 40000000 in
theorem list_inc_rd : Rdl 69 40 (.pair .num (.list (.pair .num (.pair .num (.pair .num (.pair (.pair .num (.pair .num (.pair .num .num))) (.pair .num (.pair .num (.pair (.list .num) (.list .num)))))))))) := by
  intro b o T cs m rest w cb base v hp hc hb hne hle hz hl
  obtain ⟨ms, rfl, hn4, hps⟩ := id hp
  have ho : cs[o]? = some (.slice none 0 0) := hz 0 (by omega)
  have hr := hc.reads
  rw [List.append_assoc] at hc
  have hfl := flat_pos ms hps
  rw [List.length_append, lowL_length] at hl
  have HT := Lib.hid (count_good ms.length (ms.flatten ++ rest) w hc hn4 (by rw [List.length_append]; omega))
  have HB := Lib.hid (And.intro hne (And.intro hle (And.intro hc.lt hb.lt)))
  have HO := Lib.hid (And.intro hb ho)
  have HP := Lib.hid (And.intro hps hl)
  have hn8 : ms.length ≤ 100000000 := by omega
  clear hp hc hb hne hle hz hl ho hfl hps hn4
  go_enter Tryz.func69, Tryz.ntmps69
  go_wp2_with fail
  refine HT.out.mono ?_
  rintro e w2 ⟨rfl, v2, hm, -, hc2⟩
  have HS0 := Lib.hid (Lr.start (s := (.pair .num (.list (.pair .num (.pair .num (.pair .num (.pair (.pair .num (.pair .num (.pair .num .num))) (.pair .num (.pair .num (.pair (.list .num) (.list .num))))))))))) (E := 60) hc2 HO.out.1 hm HB.out.1 HO.out.2)
  clear hm hc2
  go_wp2_with fail
  go_loopw [15] (fun i wr => ∃ j : Nat, j ≤ ms.length ∧ i = .int .i64 (j : Int) ∧ Hid (∃ u xs, Lr (.pair .num (.list (.pair .num (.pair .num (.pair .num (.pair (.pair .num (.pair .num (.pair .num .num))) (.pair .num (.pair .num (.pair (.list .num) (.list .num)))))))))) 60 b o T cs ms rest w cb base j j u xs wr)) (fun i _ => ms.length - (intOf i).toNat)
  case atStart => exact ⟨0, Nat.zero_le _, rfl, Lib.hid ⟨_, _, HS0.out⟩⟩
  case round =>
    obtain ⟨j, hj, rfl, HR⟩ := hrel
    by_cases hlt2 : j < ms.length
    · obtain ⟨u, xs, h1⟩ := HR.out
      obtain ⟨A, c, rfl, -, -⟩ := h1.og.len_cap
      have y1 := h1.cell
      have HR1 := Lib.hid h1
      have HJ := Lib.hid (show j + 1 ≤ 100000000 by omega)
      have HJM := Lib.hid hlt2
      have HS := Lib.hid (fun wx (hx : Ab wr wx) => (h1.ab hx).cell)
      have i1 : (0 : Int) ≤ (j : Int) := by omega
      have i2 : (j : Int) < (ms.length : Int) := by omega
      clear h1
      go_wp2_with fail
      have habz : Ab wr (wr.alloc (.cells #[.int .i64 0, .slice none 0 0] 60)) := (Ab.refl wr).alloc _
      have hbz : Bk (wr.alloc (.cells #[.int .i64 0, .slice none 0 0] 60)) wr.heap.size 60 #[.int .i64 0, .slice none 0 0] := Bk.made wr _ _
      obtain ⟨wz, hwz⟩ : ∃ wz, wr.alloc (.cells #[.int .i64 0, .slice none 0 0] 60) = wz := ⟨_, rfl⟩
      rw [hwz] at habz hbz ⊢
      have HRz := Lib.hid (HR1.out.ab habz)
      have yz := HRz.out.cell
      have yz2 : (wz.alloc (.cells #[.int .i64 0, .slice none 0 0] 60)).cell? ⟨b, o, none⟩ = some (.slice A j c) := (HRz.out.ab ((Ab.refl wz).alloc _)).cell
      have zz0 : wz.cell? ⟨wr.heap.size, 0, none⟩ = some (.int .i64 0) := hbz.cell rfl
      have zz1 : wz.cell? ⟨wr.heap.size, 1, none⟩ = some (.slice none 0 0) := hbz.cell rfl
      clear hwz habz hbz
      go_region_law ((refine lay_rd (by rfl) _ _ (by rfl) _ _ (by rfl) (by rfl) Tryz.underlying27 (show (Tryz.prog.info? 60).map (fun i => (i.zero, i.size, i.bytes)) = some (some (.agg #[.int .i64 0, .slice none 0 0]), 2, 32) by kernel_rfl) (by rfl) w.heap.size j xs 1 (Zc (.pair .num (.list (.pair .num (.pair .num (.pair .num (.pair (.pair .num (.pair .num (.pair .num .num))) (.pair .num (.pair .num (.pair (.list .num) (.list .num))))))))))) (HRz.out.ab (by repeat (first | with_reducible exact Ab.refl _ | with_reducible assumption | with_reducible refine Ab.drew ?_ | with_reducible refine Ab.alloc ?_ _))).og (src_row Tryz.underlying27 rfl (Zc_one _) (by repeat (first | with_reducible assumption | with_reducible exact Bk.made _ _ _ | exact Bk.new (by first | (with_reducible rfl) | (simp; done)) | with_reducible refine Bk.drew ?_ | with_reducible refine Bk.alloc ?_ _))) ⟨by have := HJ.out; omega, by omega⟩ (by first | exact Nat.le_trans HRz.out.mv.size (Ab.size (by repeat (first | with_reducible exact Ab.refl _ | with_reducible assumption | with_reducible refine Ab.drew ?_ | with_reducible refine Ab.alloc ?_ _))) | (have := HRz.out.mv.size; simp; omega)) ?_; intro A5 c5 w5 ho5 hg5 hn5; (have y5 := (Lr.grown (HRz.out.ab (by repeat (first | with_reducible exact Ab.refl _ | with_reducible assumption | with_reducible refine Ab.drew ?_ | with_reducible refine Ab.alloc ?_ _))) HB.out.2.2.2 hg5).1); (have z5 := (Lr.grown (HRz.out.ab (by repeat (first | with_reducible exact Ab.refl _ | with_reducible assumption | with_reducible refine Ab.drew ?_ | with_reducible refine Ab.alloc ?_ _))) HB.out.2.2.2 hg5).2); (have H5 := Lib.hid (Lr.app (HRz.out.ab (by repeat (first | with_reducible exact Ab.refl _ | with_reducible assumption | with_reducible refine Ab.drew ?_ | with_reducible refine Ab.alloc ?_ _))) HB.out.2.2.1 HB.out.2.2.2 HB.out.1 HB.out.2.1 ho5 hg5 hn5)); clear ho5 hg5 hn5))
      all_goals
        obtain ⟨g, off, cs', rfl, hcap, hcap2, hbk, hge, hzz⟩ := Lr.next H5.out HR1.out.og.1
        have yl := H5.out.cell
        obtain ⟨v4, hc4⟩ := H5.out.cr' HJM.out
        obtain ⟨w6, hw6⟩ : ∃ w6, w5.setCell ⟨b, o, none⟩ (.slice (some ⟨g, off, none⟩) (j + 1) c5) = w6 := ⟨_, rfl⟩
        rw [hw6] at H5 hbk yl hc4 ⊢
        have HN := Lib.hid (inc_rd g (off + j * 2) 60 cs' (ms.getD j []) ((ms.drop (j + 1)).flatten ++ rest) w6 cb base v4 (HP.out.1 _ (getD_mem HJM.out)) hc4 hbk (by have := HB.out.2.2.1; omega) (by have := HB.out.2.1; have := HB.out.2.2.2; omega) hzz (by have := mem_flat_len (getD_mem HJM.out); have := HP.out.2; omega))
        have HI := Lib.hid (fun e w3 (hp : RdPost (.pair .num (.list (.pair .num (.pair .num (.pair .num (.pair (.pair .num (.pair .num (.pair .num .num))) (.pair .num (.pair .num (.pair (.list .num) (.list .num)))))))))) g (off + j * 2) 60 cs' (ms.getD j []) ((ms.drop (j + 1)).flatten ++ rest) w6 cb base e w3) => Lr.item (e := e) (w3 := w3) H5.out HR1.out.og.1 HB.out.2.2.1 HB.out.2.2.2 HB.out.1 hbk HJM.out hp)
        generalize hj1 : j + 1 = j1 at yl hcap ⊢
        have i3 : (j : Int) < (j1 : Int) := by omega
        clear hj1 hw6
        clear hbk hge hzz hc4 y1 y5 z5
        go_wp2_with fail
        refine HN.out.mono ?_
        intro e w7 hx
        obtain ⟨rfl, ys, h7, -⟩ := HI.out e w7 hx
        have H7 := Lib.hid h7
        clear h7 hx
        go_wp2_with fail
        go_roundw
        case rel => exact ⟨j + 1, HJM.out, by go_num, Lib.hid ⟨_, _, H7.out⟩⟩
        case measure => have := HJM.out; simp [intOf]; omega
    · go_wp2_with fail
      go_end0
      obtain rfl : j = ms.length := by omega
      obtain ⟨u, xs, h1⟩ := HR.out
      obtain ⟨A, c, rfl, -, -⟩ := h1.og.len_cap
      exact h1.done rfl
set_option maxRecDepth 100000 in
set_option maxHeartbeats 40000000 in
theorem msg_rd : Rds 33 (.pair .num (.pair (.pair .num .num) (.pair (.pair .num .num) (.pair .num (.pair .num (.pair (.pair .num .num) (.pair .num (.pair .num (.pair .num (.pair (.list (.pair .num (.pair .num .data))) (.pair (.list (.pair .num (.list (.pair .num (.pair .num (.pair .num (.pair (.pair .num (.pair .num (.pair .num .num))) (.pair .num (.pair .num (.pair (.list .num) (.list .num))))))))))) (.pair (.list (.pair .num (.pair .num (.pair .num (.pair (.pair .num (.pair .num (.pair .num .num))) (.pair .num (.pair .num (.pair (.list .num) (.list .num))))))))) (.pair (.pair .num (.pair (.pair .num .num) (.pair (.pair .num .num) .num))) (.pair (.pair .num (.pair (.pair .num .num) (.pair (.list (.pair (.pair .num .num) (.pair .bool (.pair .num (.pair .text (.pair .num .num)))))) (.pair (.list (.pair .num (.pair .num (.pair .num (.pair .num .num))))) (.list (.pair .text (.pair (.pair .num .num) .word))))))) (.pair (.pair (.pair .num .num) (.pair .bool (.pair .num (.pair .text (.pair .num .num))))) (.pair (.pair .text (.pair (.pair .num .num) .data)) (.pair (.pair .num (.pair .text (.pair .data (.pair .num .num)))) (.pair (.list (.pair .text (.pair (.pair .num .num) .word))) (.pair (.list .text) .num))))))))))))))))))) := by
  intro b o T cs m rest w cb base v hp hc hb hne hle hz hl
  obtain ⟨m0, r0, p0, q0, e0⟩ := hp
  obtain ⟨m1, r1, p1, q1, e1⟩ := q0
  obtain ⟨m2, r2, p2, q2, e2⟩ := q1
  obtain ⟨m3, r3, p3, q3, e3⟩ := q2
  obtain ⟨m4, r4, p4, q4, e4⟩ := q3
  obtain ⟨m5, r5, p5, q5, e5⟩ := q4
  obtain ⟨m6, r6, p6, q6, e6⟩ := q5
  obtain ⟨m7, r7, p7, q7, e7⟩ := q6
  obtain ⟨m8, r8, p8, q8, e8⟩ := q7
  obtain ⟨m9, r9, p9, q9, e9⟩ := q8
  obtain ⟨m10, r10, p10, q10, e10⟩ := q9
  obtain ⟨m11, r11, p11, q11, e11⟩ := q10
  obtain ⟨m12, r12, p12, q12, e12⟩ := q11
  obtain ⟨m13, r13, p13, q13, e13⟩ := q12
  obtain ⟨m14, r14, p14, q14, e14⟩ := q13
  obtain ⟨m15, r15, p15, q15, e15⟩ := q14
  obtain ⟨m16, r16, p16, q16, e16⟩ := q15
  obtain ⟨m17, r17, p17, q17, e17⟩ := q16
  obtain ⟨m18, m19, p18, p19, e18⟩ := q17
  subst e18
  subst e17
  subst e16
  subst e15
  subst e14
  subst e13
  subst e12
  subst e11
  subst e10
  subst e9
  subst e8
  subst e7
  subst e6
  subst e5
  subst e4
  subst e3
  subst e2
  subst e1
  subst e0
  replace hc : Cr w cb base v (m0 ++ (m1 ++ (m2 ++ (m3 ++ (m4 ++ (m5 ++ (m6 ++ (m7 ++ (m8 ++ (m9 ++ (m10 ++ (m11 ++ (m12 ++ (m13 ++ (m14 ++ (m15 ++ (m16 ++ (m17 ++ (m18 ++ (m19 ++ rest)))))))))))))))))))) := by first | exact hc | simpa only [List.append_assoc] using hc
  have hz' : ∀ k, k < szL [.num, (.pair .num .num), (.pair .num .num), .num, .num, (.pair .num .num), .num, .num, .num, (.list (.pair .num (.pair .num .data))), (.list (.pair .num (.list (.pair .num (.pair .num (.pair .num (.pair (.pair .num (.pair .num (.pair .num .num))) (.pair .num (.pair .num (.pair (.list .num) (.list .num))))))))))), (.list (.pair .num (.pair .num (.pair .num (.pair (.pair .num (.pair .num (.pair .num .num))) (.pair .num (.pair .num (.pair (.list .num) (.list .num))))))))), (.pair .num (.pair (.pair .num .num) (.pair (.pair .num .num) .num))), (.pair .num (.pair (.pair .num .num) (.pair (.list (.pair (.pair .num .num) (.pair .bool (.pair .num (.pair .text (.pair .num .num)))))) (.pair (.list (.pair .num (.pair .num (.pair .num (.pair .num .num))))) (.list (.pair .text (.pair (.pair .num .num) .word))))))), (.pair (.pair .num .num) (.pair .bool (.pair .num (.pair .text (.pair .num .num))))), (.pair .text (.pair (.pair .num .num) .data)), (.pair .num (.pair .text (.pair .data (.pair .num .num)))), (.list (.pair .text (.pair (.pair .num .num) .word))), (.list .text), .num] → cs[o + k]? = (([.num, (.pair .num .num), (.pair .num .num), .num, .num, (.pair .num .num), .num, .num, .num, (.list (.pair .num (.pair .num .data))), (.list (.pair .num (.list (.pair .num (.pair .num (.pair .num (.pair (.pair .num (.pair .num (.pair .num .num))) (.pair .num (.pair .num (.pair (.list .num) (.list .num))))))))))), (.list (.pair .num (.pair .num (.pair .num (.pair (.pair .num (.pair .num (.pair .num .num))) (.pair .num (.pair .num (.pair (.list .num) (.list .num))))))))), (.pair .num (.pair (.pair .num .num) (.pair (.pair .num .num) .num))), (.pair .num (.pair (.pair .num .num) (.pair (.list (.pair (.pair .num .num) (.pair .bool (.pair .num (.pair .text (.pair .num .num)))))) (.pair (.list (.pair .num (.pair .num (.pair .num (.pair .num .num))))) (.list (.pair .text (.pair (.pair .num .num) .word))))))), (.pair (.pair .num .num) (.pair .bool (.pair .num (.pair .text (.pair .num .num))))), (.pair .text (.pair (.pair .num .num) .data)), (.pair .num (.pair .text (.pair .data (.pair .num .num)))), (.list (.pair .text (.pair (.pair .num .num) .word))), (.list .text), .num].map Zc).flatten)[k]? := by rw [← Zc_nest [.num, (.pair .num .num), (.pair .num .num), .num, .num, (.pair .num .num), .num, .num, .num, (.list (.pair .num (.pair .num .data))), (.list (.pair .num (.list (.pair .num (.pair .num (.pair .num (.pair (.pair .num (.pair .num (.pair .num .num))) (.pair .num (.pair .num (.pair (.list .num) (.list .num))))))))))), (.list (.pair .num (.pair .num (.pair .num (.pair (.pair .num (.pair .num (.pair .num .num))) (.pair .num (.pair .num (.pair (.list .num) (.list .num))))))))), (.pair .num (.pair (.pair .num .num) (.pair (.pair .num .num) .num))), (.pair .num (.pair (.pair .num .num) (.pair (.list (.pair (.pair .num .num) (.pair .bool (.pair .num (.pair .text (.pair .num .num)))))) (.pair (.list (.pair .num (.pair .num (.pair .num (.pair .num .num))))) (.list (.pair .text (.pair (.pair .num .num) .word))))))), (.pair (.pair .num .num) (.pair .bool (.pair .num (.pair .text (.pair .num .num))))), (.pair .text (.pair (.pair .num .num) .data)), (.pair .num (.pair .text (.pair .data (.pair .num .num)))), (.list (.pair .text (.pair (.pair .num .num) .word))), (.list .text), .num] (by simp)]; exact hz
  have HL := Lib.hid hl
  have HB := Lib.hid (And.intro hne (And.intro hle (And.intro hc.lt hb.lt)))
  have HZ := Lib.hid hz'
  have HP := Lib.hid (show Par .num m0 ∧ Par (.pair .num .num) m1 ∧ Par (.pair .num .num) m2 ∧ Par .num m3 ∧ Par .num m4 ∧ Par (.pair .num .num) m5 ∧ Par .num m6 ∧ Par .num m7 ∧ Par .num m8 ∧ Par (.list (.pair .num (.pair .num .data))) m9 ∧ Par (.list (.pair .num (.list (.pair .num (.pair .num (.pair .num (.pair (.pair .num (.pair .num (.pair .num .num))) (.pair .num (.pair .num (.pair (.list .num) (.list .num))))))))))) m10 ∧ Par (.list (.pair .num (.pair .num (.pair .num (.pair (.pair .num (.pair .num (.pair .num .num))) (.pair .num (.pair .num (.pair (.list .num) (.list .num))))))))) m11 ∧ Par (.pair .num (.pair (.pair .num .num) (.pair (.pair .num .num) .num))) m12 ∧ Par (.pair .num (.pair (.pair .num .num) (.pair (.list (.pair (.pair .num .num) (.pair .bool (.pair .num (.pair .text (.pair .num .num)))))) (.pair (.list (.pair .num (.pair .num (.pair .num (.pair .num .num))))) (.list (.pair .text (.pair (.pair .num .num) .word))))))) m13 ∧ Par (.pair (.pair .num .num) (.pair .bool (.pair .num (.pair .text (.pair .num .num))))) m14 ∧ Par (.pair .text (.pair (.pair .num .num) .data)) m15 ∧ Par (.pair .num (.pair .text (.pair .data (.pair .num .num)))) m16 ∧ Par (.list (.pair .text (.pair (.pair .num .num) .word))) m17 ∧ Par (.list .text) m18 ∧ Par .num m19 ∧ True from ⟨p0, p1, p2, p3, p4, p5, p6, p7, p8, p9, p10, p11, p12, p13, p14, p15, p16, p17, p18, p19, trivial⟩)
  have hrd := hc.reads
  have H1 := Lib.hid (Rst.start (o := o) hc hb)
  clear hc hb hne hle hz hz' hl p0 p1 p2 p3 p4 p5 p6 p7 p8 p9 p10 p11 p12 p13 p14 p15 p16 p17 p18 p19
  go_enter Tryz.func33, Tryz.ntmps33
  go_wp2_with fail
  refine (number_rd b (o) T cs m0 (m1 ++ (m2 ++ (m3 ++ (m4 ++ (m5 ++ (m6 ++ (m7 ++ (m8 ++ (m9 ++ (m10 ++ (m11 ++ (m12 ++ (m13 ++ (m14 ++ (m15 ++ (m16 ++ (m17 ++ (m18 ++ (m19 ++ (rest)))))))))))))))))))) w cb base v HP.out.1 H1.out.cr H1.out.bk HB.out.1 HB.out.2.1 (Rst.zero H1.out HZ.out .num [(.pair .num .num), (.pair .num .num), .num, .num, (.pair .num .num), .num, .num, .num, (.list (.pair .num (.pair .num .data))), (.list (.pair .num (.list (.pair .num (.pair .num (.pair .num (.pair (.pair .num (.pair .num (.pair .num .num))) (.pair .num (.pair .num (.pair (.list .num) (.list .num))))))))))), (.list (.pair .num (.pair .num (.pair .num (.pair (.pair .num (.pair .num (.pair .num .num))) (.pair .num (.pair .num (.pair (.list .num) (.list .num))))))))), (.pair .num (.pair (.pair .num .num) (.pair (.pair .num .num) .num))), (.pair .num (.pair (.pair .num .num) (.pair (.list (.pair (.pair .num .num) (.pair .bool (.pair .num (.pair .text (.pair .num .num)))))) (.pair (.list (.pair .num (.pair .num (.pair .num (.pair .num .num))))) (.list (.pair .text (.pair (.pair .num .num) .word))))))), (.pair (.pair .num .num) (.pair .bool (.pair .num (.pair .text (.pair .num .num))))), (.pair .text (.pair (.pair .num .num) .data)), (.pair .num (.pair .text (.pair .data (.pair .num .num)))), (.list (.pair .text (.pair (.pair .num .num) .word))), (.list .text), .num] rfl) (by have := HL.out; first | omega | (simp only [List.length_append] at this ⊢; omega))).mono ?_
  intro e w2 hx
  obtain ⟨rfl, v2, cs2, h2⟩ := H1.out.step HB.out.2.2.1 HB.out.2.2.2 hx
  have H2 := Lib.hid h2
  clear h2 hx
  go_wp2_with fail
  refine (node_rd b (o + 1) T cs2 m1 (m2 ++ (m3 ++ (m4 ++ (m5 ++ (m6 ++ (m7 ++ (m8 ++ (m9 ++ (m10 ++ (m11 ++ (m12 ++ (m13 ++ (m14 ++ (m15 ++ (m16 ++ (m17 ++ (m18 ++ (m19 ++ (rest))))))))))))))))))) w2 cb base v2 HP.out.2.1 H2.out.cr H2.out.bk HB.out.1 HB.out.2.1 (Rst.zero H2.out HZ.out (.pair .num .num) [(.pair .num .num), .num, .num, (.pair .num .num), .num, .num, .num, (.list (.pair .num (.pair .num .data))), (.list (.pair .num (.list (.pair .num (.pair .num (.pair .num (.pair (.pair .num (.pair .num (.pair .num .num))) (.pair .num (.pair .num (.pair (.list .num) (.list .num))))))))))), (.list (.pair .num (.pair .num (.pair .num (.pair (.pair .num (.pair .num (.pair .num .num))) (.pair .num (.pair .num (.pair (.list .num) (.list .num))))))))), (.pair .num (.pair (.pair .num .num) (.pair (.pair .num .num) .num))), (.pair .num (.pair (.pair .num .num) (.pair (.list (.pair (.pair .num .num) (.pair .bool (.pair .num (.pair .text (.pair .num .num)))))) (.pair (.list (.pair .num (.pair .num (.pair .num (.pair .num .num))))) (.list (.pair .text (.pair (.pair .num .num) .word))))))), (.pair (.pair .num .num) (.pair .bool (.pair .num (.pair .text (.pair .num .num))))), (.pair .text (.pair (.pair .num .num) .data)), (.pair .num (.pair .text (.pair .data (.pair .num .num)))), (.list (.pair .text (.pair (.pair .num .num) .word))), (.list .text), .num] rfl) (by have := HL.out; first | omega | (simp only [List.length_append] at this ⊢; omega))).mono ?_
  intro e w3 hx
  obtain ⟨rfl, v3, cs3, h2⟩ := H2.out.step HB.out.2.2.1 HB.out.2.2.2 hx
  have H3 := Lib.hid h2
  clear h2 hx
  go_wp2_with fail
  refine (node_rd b (o + 3) T cs3 m2 (m3 ++ (m4 ++ (m5 ++ (m6 ++ (m7 ++ (m8 ++ (m9 ++ (m10 ++ (m11 ++ (m12 ++ (m13 ++ (m14 ++ (m15 ++ (m16 ++ (m17 ++ (m18 ++ (m19 ++ (rest)))))))))))))))))) w3 cb base v3 HP.out.2.2.1 H3.out.cr H3.out.bk HB.out.1 HB.out.2.1 (Rst.zero H3.out HZ.out (.pair .num .num) [.num, .num, (.pair .num .num), .num, .num, .num, (.list (.pair .num (.pair .num .data))), (.list (.pair .num (.list (.pair .num (.pair .num (.pair .num (.pair (.pair .num (.pair .num (.pair .num .num))) (.pair .num (.pair .num (.pair (.list .num) (.list .num))))))))))), (.list (.pair .num (.pair .num (.pair .num (.pair (.pair .num (.pair .num (.pair .num .num))) (.pair .num (.pair .num (.pair (.list .num) (.list .num))))))))), (.pair .num (.pair (.pair .num .num) (.pair (.pair .num .num) .num))), (.pair .num (.pair (.pair .num .num) (.pair (.list (.pair (.pair .num .num) (.pair .bool (.pair .num (.pair .text (.pair .num .num)))))) (.pair (.list (.pair .num (.pair .num (.pair .num (.pair .num .num))))) (.list (.pair .text (.pair (.pair .num .num) .word))))))), (.pair (.pair .num .num) (.pair .bool (.pair .num (.pair .text (.pair .num .num))))), (.pair .text (.pair (.pair .num .num) .data)), (.pair .num (.pair .text (.pair .data (.pair .num .num)))), (.list (.pair .text (.pair (.pair .num .num) .word))), (.list .text), .num] rfl) (by have := HL.out; first | omega | (simp only [List.length_append] at this ⊢; omega))).mono ?_
  intro e w4 hx
  obtain ⟨rfl, v4, cs4, h2⟩ := H3.out.step HB.out.2.2.1 HB.out.2.2.2 hx
  have H4 := Lib.hid h2
  clear h2 hx
  go_wp2_with fail
  have hzz : ∀ i, i < 2 → cs4[o + 5 + i]? = some (.int .i64 0) := by
    intro i hi
    have e := HZ.out (5 + i) (by show _ < 46; omega)
    have e2 := H4.out.out (o + (5 + i)) (.inr (by show o + 5 ≤ _; omega))
    have e3 : o + 5 + i = o + (5 + i) := by omega
    rw [e3, e2, e]
    rcases (show i = 0 ∨ i = 1 by omega) with rfl | rfl <;> rfl
  have h8 : ∀ x ∈ [m3, m4], x.length = 8 := by
    intro x hx
    simp only [List.mem_cons, List.not_mem_nil, or_false] at hx
    rcases hx with rfl | rfl
    · exact HP.out.2.2.2.1
    · exact HP.out.2.2.2.2.1
  have HN := Lib.hid (Rst.nums 2 (by omega) [m3, m4] rfl h8 (rest := m5 ++ (m6 ++ (m7 ++ (m8 ++ (m9 ++ (m10 ++ (m11 ++ (m12 ++ (m13 ++ (m14 ++ (m15 ++ (m16 ++ (m17 ++ (m18 ++ (m19 ++ (rest)))))))))))))))) (H4.out.recr (by simp only [List.flatten_cons, List.flatten_nil, List.append_assoc, List.nil_append])) HB.out.2.2.1 HB.out.2.2.2 HB.out.1 HB.out.2.1 hzz [(b, o + 5), (b, o + 6)] rfl)
  clear hzz h8
  go_region_held3 (fun _ => True) (trivial) ((go_at_call 65; refine HN.out.mono ?_; rintro e w5 ⟨rfl, v5, cs5, h2⟩; (have H5 := Lib.hid h2); clear h2))
  clear HN
  go_wp2_with fail
  refine (pg_rd b (o + 7) T cs5 m5 (m6 ++ (m7 ++ (m8 ++ (m9 ++ (m10 ++ (m11 ++ (m12 ++ (m13 ++ (m14 ++ (m15 ++ (m16 ++ (m17 ++ (m18 ++ (m19 ++ (rest))))))))))))))) w5 cb base v5 HP.out.2.2.2.2.2.1 H5.out.cr H5.out.bk HB.out.1 HB.out.2.1 (Rst.zero H5.out HZ.out (.pair .num .num) [.num, .num, .num, (.list (.pair .num (.pair .num .data))), (.list (.pair .num (.list (.pair .num (.pair .num (.pair .num (.pair (.pair .num (.pair .num (.pair .num .num))) (.pair .num (.pair .num (.pair (.list .num) (.list .num))))))))))), (.list (.pair .num (.pair .num (.pair .num (.pair (.pair .num (.pair .num (.pair .num .num))) (.pair .num (.pair .num (.pair (.list .num) (.list .num))))))))), (.pair .num (.pair (.pair .num .num) (.pair (.pair .num .num) .num))), (.pair .num (.pair (.pair .num .num) (.pair (.list (.pair (.pair .num .num) (.pair .bool (.pair .num (.pair .text (.pair .num .num)))))) (.pair (.list (.pair .num (.pair .num (.pair .num (.pair .num .num))))) (.list (.pair .text (.pair (.pair .num .num) .word))))))), (.pair (.pair .num .num) (.pair .bool (.pair .num (.pair .text (.pair .num .num))))), (.pair .text (.pair (.pair .num .num) .data)), (.pair .num (.pair .text (.pair .data (.pair .num .num)))), (.list (.pair .text (.pair (.pair .num .num) .word))), (.list .text), .num] rfl) (by have := HL.out; first | omega | (simp only [List.length_append] at this ⊢; omega))).mono ?_
  intro e w6 hx
  obtain ⟨rfl, v6, cs6, h2⟩ := H5.out.step HB.out.2.2.1 HB.out.2.2.2 hx
  have H6 := Lib.hid h2
  clear h2 hx
  go_wp2_with fail
  have hzz : ∀ i, i < 3 → cs6[o + 9 + i]? = some (.int .i64 0) := by
    intro i hi
    have e := HZ.out (9 + i) (by show _ < 46; omega)
    have e2 := H6.out.out (o + (9 + i)) (.inr (by show o + 9 ≤ _; omega))
    have e3 : o + 9 + i = o + (9 + i) := by omega
    rw [e3, e2, e]
    rcases (show i = 0 ∨ i = 1 ∨ i = 2 by omega) with rfl | rfl | rfl <;> rfl
  have h8 : ∀ x ∈ [m6, m7, m8], x.length = 8 := by
    intro x hx
    simp only [List.mem_cons, List.not_mem_nil, or_false] at hx
    rcases hx with rfl | rfl | rfl
    · exact HP.out.2.2.2.2.2.2.1
    · exact HP.out.2.2.2.2.2.2.2.1
    · exact HP.out.2.2.2.2.2.2.2.2.1
  have HN := Lib.hid (Rst.nums 3 (by omega) [m6, m7, m8] rfl h8 (rest := m9 ++ (m10 ++ (m11 ++ (m12 ++ (m13 ++ (m14 ++ (m15 ++ (m16 ++ (m17 ++ (m18 ++ (m19 ++ (rest)))))))))))) (H6.out.recr (by simp only [List.flatten_cons, List.flatten_nil, List.append_assoc, List.nil_append])) HB.out.2.2.1 HB.out.2.2.2 HB.out.1 HB.out.2.1 hzz [(b, o + 9), (b, o + 10), (b, o + 11)] rfl)
  clear hzz h8
  go_region_held3 (fun _ => True) (trivial) ((go_at_call 65; refine HN.out.mono ?_; rintro e w7 ⟨rfl, v7, cs7, h2⟩; (have H7 := Lib.hid h2); clear h2))
  clear HN
  go_wp2_with fail
  refine (list_slot_rd b (o + 12) T cs7 m9 (m10 ++ (m11 ++ (m12 ++ (m13 ++ (m14 ++ (m15 ++ (m16 ++ (m17 ++ (m18 ++ (m19 ++ (rest))))))))))) w7 cb base v7 HP.out.2.2.2.2.2.2.2.2.2.1 H7.out.cr H7.out.bk HB.out.1 HB.out.2.1 (Rst.zero H7.out HZ.out (.list (.pair .num (.pair .num .data))) [(.list (.pair .num (.list (.pair .num (.pair .num (.pair .num (.pair (.pair .num (.pair .num (.pair .num .num))) (.pair .num (.pair .num (.pair (.list .num) (.list .num))))))))))), (.list (.pair .num (.pair .num (.pair .num (.pair (.pair .num (.pair .num (.pair .num .num))) (.pair .num (.pair .num (.pair (.list .num) (.list .num))))))))), (.pair .num (.pair (.pair .num .num) (.pair (.pair .num .num) .num))), (.pair .num (.pair (.pair .num .num) (.pair (.list (.pair (.pair .num .num) (.pair .bool (.pair .num (.pair .text (.pair .num .num)))))) (.pair (.list (.pair .num (.pair .num (.pair .num (.pair .num .num))))) (.list (.pair .text (.pair (.pair .num .num) .word))))))), (.pair (.pair .num .num) (.pair .bool (.pair .num (.pair .text (.pair .num .num))))), (.pair .text (.pair (.pair .num .num) .data)), (.pair .num (.pair .text (.pair .data (.pair .num .num)))), (.list (.pair .text (.pair (.pair .num .num) .word))), (.list .text), .num] rfl) (by have := HL.out; first | omega | (simp only [List.length_append] at this ⊢; omega))).mono ?_
  intro e w8 hx
  obtain ⟨rfl, v8, cs8, h2⟩ := H7.out.step HB.out.2.2.1 HB.out.2.2.2 hx
  have H8 := Lib.hid h2
  clear h2 hx
  go_wp2_with fail
  refine (list_inc_rd b (o + 13) T cs8 m10 (m11 ++ (m12 ++ (m13 ++ (m14 ++ (m15 ++ (m16 ++ (m17 ++ (m18 ++ (m19 ++ (rest)))))))))) w8 cb base v8 HP.out.2.2.2.2.2.2.2.2.2.2.1 H8.out.cr H8.out.bk HB.out.1 HB.out.2.1 (Rst.zero H8.out HZ.out (.list (.pair .num (.list (.pair .num (.pair .num (.pair .num (.pair (.pair .num (.pair .num (.pair .num .num))) (.pair .num (.pair .num (.pair (.list .num) (.list .num))))))))))) [(.list (.pair .num (.pair .num (.pair .num (.pair (.pair .num (.pair .num (.pair .num .num))) (.pair .num (.pair .num (.pair (.list .num) (.list .num))))))))), (.pair .num (.pair (.pair .num .num) (.pair (.pair .num .num) .num))), (.pair .num (.pair (.pair .num .num) (.pair (.list (.pair (.pair .num .num) (.pair .bool (.pair .num (.pair .text (.pair .num .num)))))) (.pair (.list (.pair .num (.pair .num (.pair .num (.pair .num .num))))) (.list (.pair .text (.pair (.pair .num .num) .word))))))), (.pair (.pair .num .num) (.pair .bool (.pair .num (.pair .text (.pair .num .num))))), (.pair .text (.pair (.pair .num .num) .data)), (.pair .num (.pair .text (.pair .data (.pair .num .num)))), (.list (.pair .text (.pair (.pair .num .num) .word))), (.list .text), .num] rfl) (by have := HL.out; first | omega | (simp only [List.length_append] at this ⊢; omega))).mono ?_
  intro e w9 hx
  obtain ⟨rfl, v9, cs9, h2⟩ := H8.out.step HB.out.2.2.1 HB.out.2.2.2 hx
  have H9 := Lib.hid h2
  clear h2 hx
  go_wp2_with fail
  refine (list_change_rd b (o + 14) T cs9 m11 (m12 ++ (m13 ++ (m14 ++ (m15 ++ (m16 ++ (m17 ++ (m18 ++ (m19 ++ (rest))))))))) w9 cb base v9 HP.out.2.2.2.2.2.2.2.2.2.2.2.1 H9.out.cr H9.out.bk HB.out.1 HB.out.2.1 (Rst.zero H9.out HZ.out (.list (.pair .num (.pair .num (.pair .num (.pair (.pair .num (.pair .num (.pair .num .num))) (.pair .num (.pair .num (.pair (.list .num) (.list .num))))))))) [(.pair .num (.pair (.pair .num .num) (.pair (.pair .num .num) .num))), (.pair .num (.pair (.pair .num .num) (.pair (.list (.pair (.pair .num .num) (.pair .bool (.pair .num (.pair .text (.pair .num .num)))))) (.pair (.list (.pair .num (.pair .num (.pair .num (.pair .num .num))))) (.list (.pair .text (.pair (.pair .num .num) .word))))))), (.pair (.pair .num .num) (.pair .bool (.pair .num (.pair .text (.pair .num .num))))), (.pair .text (.pair (.pair .num .num) .data)), (.pair .num (.pair .text (.pair .data (.pair .num .num)))), (.list (.pair .text (.pair (.pair .num .num) .word))), (.list .text), .num] rfl) (by have := HL.out; first | omega | (simp only [List.length_append] at this ⊢; omega))).mono ?_
  intro e w10 hx
  obtain ⟨rfl, v10, cs10, h2⟩ := H9.out.step HB.out.2.2.1 HB.out.2.2.2 hx
  have H10 := Lib.hid h2
  clear h2 hx
  go_wp2_with fail
  refine (info_rd b (o + 15) T cs10 m12 (m13 ++ (m14 ++ (m15 ++ (m16 ++ (m17 ++ (m18 ++ (m19 ++ (rest)))))))) w10 cb base v10 HP.out.2.2.2.2.2.2.2.2.2.2.2.2.1 H10.out.cr H10.out.bk HB.out.1 HB.out.2.1 (Rst.zero H10.out HZ.out (.pair .num (.pair (.pair .num .num) (.pair (.pair .num .num) .num))) [(.pair .num (.pair (.pair .num .num) (.pair (.list (.pair (.pair .num .num) (.pair .bool (.pair .num (.pair .text (.pair .num .num)))))) (.pair (.list (.pair .num (.pair .num (.pair .num (.pair .num .num))))) (.list (.pair .text (.pair (.pair .num .num) .word))))))), (.pair (.pair .num .num) (.pair .bool (.pair .num (.pair .text (.pair .num .num))))), (.pair .text (.pair (.pair .num .num) .data)), (.pair .num (.pair .text (.pair .data (.pair .num .num)))), (.list (.pair .text (.pair (.pair .num .num) .word))), (.list .text), .num] rfl) (by have := HL.out; first | omega | (simp only [List.length_append] at this ⊢; omega))).mono ?_
  intro e w11 hx
  obtain ⟨rfl, v11, cs11, h2⟩ := H10.out.step HB.out.2.2.1 HB.out.2.2.2 hx
  have H11 := Lib.hid h2
  clear h2 hx
  go_wp2_with fail
  refine (state_rd b (o + 21) T cs11 m13 (m14 ++ (m15 ++ (m16 ++ (m17 ++ (m18 ++ (m19 ++ (rest))))))) w11 cb base v11 HP.out.2.2.2.2.2.2.2.2.2.2.2.2.2.1 H11.out.cr H11.out.bk HB.out.1 HB.out.2.1 (Rst.zero H11.out HZ.out (.pair .num (.pair (.pair .num .num) (.pair (.list (.pair (.pair .num .num) (.pair .bool (.pair .num (.pair .text (.pair .num .num)))))) (.pair (.list (.pair .num (.pair .num (.pair .num (.pair .num .num))))) (.list (.pair .text (.pair (.pair .num .num) .word))))))) [(.pair (.pair .num .num) (.pair .bool (.pair .num (.pair .text (.pair .num .num))))), (.pair .text (.pair (.pair .num .num) .data)), (.pair .num (.pair .text (.pair .data (.pair .num .num)))), (.list (.pair .text (.pair (.pair .num .num) .word))), (.list .text), .num] rfl) (by have := HL.out; first | omega | (simp only [List.length_append] at this ⊢; omega))).mono ?_
  intro e w12 hx
  obtain ⟨rfl, v12, cs12, h2⟩ := H11.out.step HB.out.2.2.1 HB.out.2.2.2 hx
  have H12 := Lib.hid h2
  clear h2 hx
  go_wp2_with fail
  refine (entry_rd b (o + 27) T cs12 m14 (m15 ++ (m16 ++ (m17 ++ (m18 ++ (m19 ++ (rest)))))) w12 cb base v12 HP.out.2.2.2.2.2.2.2.2.2.2.2.2.2.2.1 H12.out.cr H12.out.bk HB.out.1 HB.out.2.1 (Rst.zero H12.out HZ.out (.pair (.pair .num .num) (.pair .bool (.pair .num (.pair .text (.pair .num .num))))) [(.pair .text (.pair (.pair .num .num) .data)), (.pair .num (.pair .text (.pair .data (.pair .num .num)))), (.list (.pair .text (.pair (.pair .num .num) .word))), (.list .text), .num] rfl) (by have := HL.out; first | omega | (simp only [List.length_append] at this ⊢; omega))).mono ?_
  intro e w13 hx
  obtain ⟨rfl, v13, cs13, h2⟩ := H12.out.step HB.out.2.2.1 HB.out.2.2.2 hx
  have H13 := Lib.hid h2
  clear h2 hx
  go_wp2_with fail
  refine (object_rd b (o + 34) T cs13 m15 (m16 ++ (m17 ++ (m18 ++ (m19 ++ (rest))))) w13 cb base v13 HP.out.2.2.2.2.2.2.2.2.2.2.2.2.2.2.2.1 H13.out.cr H13.out.bk HB.out.1 HB.out.2.1 (Rst.zero H13.out HZ.out (.pair .text (.pair (.pair .num .num) .data)) [(.pair .num (.pair .text (.pair .data (.pair .num .num)))), (.list (.pair .text (.pair (.pair .num .num) .word))), (.list .text), .num] rfl) (by have := HL.out; first | omega | (simp only [List.length_append] at this ⊢; omega))).mono ?_
  intro e w14 hx
  obtain ⟨rfl, v14, cs14, h2⟩ := H13.out.step HB.out.2.2.1 HB.out.2.2.2 hx
  have H14 := Lib.hid h2
  clear h2 hx
  go_wp2_with fail
  refine (op_rd b (o + 38) T cs14 m16 (m17 ++ (m18 ++ (m19 ++ (rest)))) w14 cb base v14 HP.out.2.2.2.2.2.2.2.2.2.2.2.2.2.2.2.2.1 H14.out.cr H14.out.bk HB.out.1 HB.out.2.1 (Rst.zero H14.out HZ.out (.pair .num (.pair .text (.pair .data (.pair .num .num)))) [(.list (.pair .text (.pair (.pair .num .num) .word))), (.list .text), .num] rfl) (by have := HL.out; first | omega | (simp only [List.length_append] at this ⊢; omega))).mono ?_
  intro e w15 hx
  obtain ⟨rfl, v15, cs15, h2⟩ := H14.out.step HB.out.2.2.1 HB.out.2.2.2 hx
  have H15 := Lib.hid h2
  clear h2 hx
  go_wp2_with fail
  refine (list_item_rd b (o + 43) T cs15 m17 (m18 ++ (m19 ++ (rest))) w15 cb base v15 HP.out.2.2.2.2.2.2.2.2.2.2.2.2.2.2.2.2.2.1 H15.out.cr H15.out.bk HB.out.1 HB.out.2.1 (Rst.zero H15.out HZ.out (.list (.pair .text (.pair (.pair .num .num) .word))) [(.list .text), .num] rfl) (by have := HL.out; first | omega | (simp only [List.length_append] at this ⊢; omega))).mono ?_
  intro e w16 hx
  obtain ⟨rfl, v16, cs16, h2⟩ := H15.out.step HB.out.2.2.1 HB.out.2.2.2 hx
  have H16 := Lib.hid h2
  clear h2 hx
  go_wp2_with fail
  refine (texts_rd b (o + 44) T cs16 m18 (m19 ++ (rest)) w16 cb base v16 HP.out.2.2.2.2.2.2.2.2.2.2.2.2.2.2.2.2.2.2.1 H16.out.cr H16.out.bk HB.out.1 HB.out.2.1 (Rst.zero H16.out HZ.out (.list .text) [.num] rfl) (by have := HL.out; first | omega | (simp only [List.length_append] at this ⊢; omega))).mono ?_
  intro e w17 hx
  obtain ⟨rfl, v17, cs17, h2⟩ := H16.out.step HB.out.2.2.1 HB.out.2.2.2 hx
  have H17 := Lib.hid h2
  clear h2 hx
  go_wp2_with fail
  refine (errno_rd b (o + 45) T cs17 m19 (rest) w17 cb base v17 HP.out.2.2.2.2.2.2.2.2.2.2.2.2.2.2.2.2.2.2.2.1 H17.out.cr H17.out.bk HB.out.1 HB.out.2.1 (Rst.zero H17.out HZ.out .num [] rfl) (by have := HL.out; first | omega | (simp only [List.length_append] at this ⊢; omega))).mono ?_
  intro e w18 hx
  obtain ⟨rfl, v18, cs18, h2⟩ := H17.out.step HB.out.2.2.1 HB.out.2.2.2 hx
  have H18 := Lib.hid h2
  clear h2 hx
  go_wp2_with fail
  go_end0
  exact H18.out.done (by simp) (by simp)
end Go.Proofs.YtphbaaaklgiloaaGreat.Dg

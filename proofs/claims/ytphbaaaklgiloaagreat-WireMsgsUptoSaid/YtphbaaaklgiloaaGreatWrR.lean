/- wire: the coder's functions of structs and lists, reading. Made by wip/gen_read.py. -/
import Derived.Test.YtphbaaaklgiloaaGreatWrX
namespace Go.Proofs.YtphbaaaklgiloaaGreat.Dg
open Go.RowKit
attribute [local go_sem ↓] Go.wp_at_zero Go.wp_at_succ
theorem Rst.recr {fs : List Sch} {ms : List (List UInt8)} {b o : Nat} {T : TypeId} {cs : Array Value} {rest rest' : List UInt8} {w : World} {cb base : Nat} {w' : World} {v' : Value} {cs' : Array Value} (h : Rst fs ms b o T cs rest w cb base w' v' cs') (e : rest' = rest) : Rst fs ms b o T cs rest' w cb base w' v' cs' := e ▸ h
theorem Zc_one : ∀ s : Sch, ∀ u ∈ Zc s, u.oneCell' = true
  | .num, u, h => by obtain rfl := List.mem_singleton.1 h; rfl
  | .word, u, h => by obtain rfl := List.mem_singleton.1 h; rfl
  | .bool, u, h => by obtain rfl := List.mem_singleton.1 h; rfl
  | .text, u, h => by obtain rfl := List.mem_singleton.1 h; rfl
  | .data, u, h => by obtain rfl := List.mem_singleton.1 h; rfl
  | .list _, u, h => by obtain rfl := List.mem_singleton.1 h; rfl
  | .pair a b, u, h => by
    rcases List.mem_append.1 h with h | h
    · exact Zc_one a u h
    · exact Zc_one b u h
set_option maxRecDepth 100000 in
set_option maxHeartbeats 4000000 in
theorem version_rd : Rds 121 (.pair .num .num) := by
  intro b o T cs m rest w cb base v hp hc hb hne hle hz hl
  obtain ⟨m0, m1, p0, p1, e0⟩ := hp
  subst e0
  replace hc : Cr w cb base v (m0 ++ (m1 ++ rest)) := by first | exact hc | simpa only [List.append_assoc] using hc
  have hz' : ∀ k, k < szL [.num, .num] → cs[o + k]? = (([.num, .num].map Zc).flatten)[k]? := by rw [← Zc_nest [.num, .num] (by simp)]; exact hz
  have HL := Lib.hid hl
  have HB := Lib.hid (And.intro hne (And.intro hle (And.intro hc.lt hb.lt)))
  have HZ := Lib.hid hz'
  have HP := Lib.hid (show Par .num m0 ∧ Par .num m1 ∧ True from ⟨p0, p1, trivial⟩)
  have hrd := hc.reads
  have H1 := Lib.hid (Rst.start (o := o) hc hb)
  clear hc hb hne hle hz hz' hl p0 p1
  go_enter Tryz.func121, Tryz.ntmps121
  go_wp2_with fail
  have hzz : ∀ i, i < 2 → cs[o + i]? = some (.int .i64 0) := by
    intro i hi
    have e := HZ.out (0 + i) (by show _ < 2; omega)
    have e2 := H1.out.out (o + (0 + i)) (.inr (by show o + 0 ≤ _; omega))
    have e3 : o + i = o + (0 + i) := by omega
    rw [e3, e2, e]
    rcases (show i = 0 ∨ i = 1 by omega) with rfl | rfl <;> rfl
  have h8 : ∀ x ∈ [m0, m1], x.length = 8 := by
    intro x hx
    simp only [List.mem_cons, List.not_mem_nil, or_false] at hx
    rcases hx with rfl | rfl
    · exact HP.out.1
    · exact HP.out.2.1
  have HN := Lib.hid (Rst.nums 2 (by omega) [m0, m1] rfl h8 (rest := rest) (H1.out.recr (by simp only [List.flatten_cons, List.flatten_nil, List.append_assoc, List.nil_append])) HB.out.2.2.1 HB.out.2.2.2 HB.out.1 HB.out.2.1 hzz [(b, o), (b, o + 1)] rfl)
  clear hzz h8
  go_region_held3 (fun _ => True) (trivial) ((go_at_call 65; refine HN.out.mono ?_; rintro e w2 ⟨rfl, v2, cs2, h2⟩; (have H2 := Lib.hid h2); clear h2))
  clear HN
  go_wp2_with fail
  go_end0
  exact H2.out.done (by simp) (by simp)
set_option maxRecDepth 100000 in
set_option maxHeartbeats 4000000 in
theorem pg_rd : Rds 66 (.pair .num .num) := by
  intro b o T cs m rest w cb base v hp hc hb hne hle hz hl
  obtain ⟨m0, m1, p0, p1, e0⟩ := hp
  subst e0
  replace hc : Cr w cb base v (m0 ++ (m1 ++ rest)) := by first | exact hc | simpa only [List.append_assoc] using hc
  have hz' : ∀ k, k < szL [.num, .num] → cs[o + k]? = (([.num, .num].map Zc).flatten)[k]? := by rw [← Zc_nest [.num, .num] (by simp)]; exact hz
  have HL := Lib.hid hl
  have HB := Lib.hid (And.intro hne (And.intro hle (And.intro hc.lt hb.lt)))
  have HZ := Lib.hid hz'
  have HP := Lib.hid (show Par .num m0 ∧ Par .num m1 ∧ True from ⟨p0, p1, trivial⟩)
  have hrd := hc.reads
  have H1 := Lib.hid (Rst.start (o := o) hc hb)
  clear hc hb hne hle hz hz' hl p0 p1
  go_enter Tryz.func66, Tryz.ntmps66
  go_wp2_with fail
  have hzz : ∀ i, i < 2 → cs[o + i]? = some (.int .i64 0) := by
    intro i hi
    have e := HZ.out (0 + i) (by show _ < 2; omega)
    have e2 := H1.out.out (o + (0 + i)) (.inr (by show o + 0 ≤ _; omega))
    have e3 : o + i = o + (0 + i) := by omega
    rw [e3, e2, e]
    rcases (show i = 0 ∨ i = 1 by omega) with rfl | rfl <;> rfl
  have h8 : ∀ x ∈ [m0, m1], x.length = 8 := by
    intro x hx
    simp only [List.mem_cons, List.not_mem_nil, or_false] at hx
    rcases hx with rfl | rfl
    · exact HP.out.1
    · exact HP.out.2.1
  have HN := Lib.hid (Rst.nums 2 (by omega) [m0, m1] rfl h8 (rest := rest) (H1.out.recr (by simp only [List.flatten_cons, List.flatten_nil, List.append_assoc, List.nil_append])) HB.out.2.2.1 HB.out.2.2.2 HB.out.1 HB.out.2.1 hzz [(b, o), (b, o + 1)] rfl)
  clear hzz h8
  go_region_held3 (fun _ => True) (trivial) ((go_at_call 65; refine HN.out.mono ?_; rintro e w2 ⟨rfl, v2, cs2, h2⟩; (have H2 := Lib.hid h2); clear h2))
  clear HN
  go_wp2_with fail
  go_end0
  exact H2.out.done (by simp) (by simp)
set_option maxRecDepth 100000 in
set_option maxHeartbeats 4000000 in
theorem osd_rd : Rds 109 (.pair .bool (.pair .bool (.pair .num (.pair .num (.pair .num .num))))) := by
  intro b o T cs m rest w cb base v hp hc hb hne hle hz hl
  obtain ⟨m0, r0, p0, q0, e0⟩ := hp
  obtain ⟨m1, r1, p1, q1, e1⟩ := q0
  obtain ⟨m2, r2, p2, q2, e2⟩ := q1
  obtain ⟨m3, r3, p3, q3, e3⟩ := q2
  obtain ⟨m4, m5, p4, p5, e4⟩ := q3
  subst e4
  subst e3
  subst e2
  subst e1
  subst e0
  replace hc : Cr w cb base v (m0 ++ (m1 ++ (m2 ++ (m3 ++ (m4 ++ (m5 ++ rest)))))) := by first | exact hc | simpa only [List.append_assoc] using hc
  have hz' : ∀ k, k < szL [.bool, .bool, .num, .num, .num, .num] → cs[o + k]? = (([.bool, .bool, .num, .num, .num, .num].map Zc).flatten)[k]? := by rw [← Zc_nest [.bool, .bool, .num, .num, .num, .num] (by simp)]; exact hz
  have HL := Lib.hid hl
  have HB := Lib.hid (And.intro hne (And.intro hle (And.intro hc.lt hb.lt)))
  have HZ := Lib.hid hz'
  have HP := Lib.hid (show Par .bool m0 ∧ Par .bool m1 ∧ Par .num m2 ∧ Par .num m3 ∧ Par .num m4 ∧ Par .num m5 ∧ True from ⟨p0, p1, p2, p3, p4, p5, trivial⟩)
  have hrd := hc.reads
  have H1 := Lib.hid (Rst.start (o := o) hc hb)
  clear hc hb hne hle hz hz' hl p0 p1 p2 p3 p4 p5
  go_enter Tryz.func109, Tryz.ntmps109
  go_wp2_with fail
  refine (truth_rd b (o) T cs m0 (m1 ++ (m2 ++ (m3 ++ (m4 ++ (m5 ++ (rest)))))) w cb base v HP.out.1 H1.out.cr H1.out.bk HB.out.1 HB.out.2.1 (Rst.zero H1.out HZ.out .bool [.bool, .num, .num, .num, .num] rfl) (by have := HL.out; first | omega | (simp only [List.length_append] at this ⊢; omega))).mono ?_
  intro e w2 hx
  obtain ⟨rfl, v2, cs2, h2⟩ := H1.out.step HB.out.2.2.1 HB.out.2.2.2 hx
  have H2 := Lib.hid h2
  clear h2 hx
  go_wp2_with fail
  refine (truth_rd b (o + 1) T cs2 m1 (m2 ++ (m3 ++ (m4 ++ (m5 ++ (rest))))) w2 cb base v2 HP.out.2.1 H2.out.cr H2.out.bk HB.out.1 HB.out.2.1 (Rst.zero H2.out HZ.out .bool [.num, .num, .num, .num] rfl) (by have := HL.out; first | omega | (simp only [List.length_append] at this ⊢; omega))).mono ?_
  intro e w3 hx
  obtain ⟨rfl, v3, cs3, h2⟩ := H2.out.step HB.out.2.2.1 HB.out.2.2.2 hx
  have H3 := Lib.hid h2
  clear h2 hx
  go_wp2_with fail
  have hzz : ∀ i, i < 4 → cs3[o + 2 + i]? = some (.int .i64 0) := by
    intro i hi
    have e := HZ.out (2 + i) (by show _ < 6; omega)
    have e2 := H3.out.out (o + (2 + i)) (.inr (by show o + 2 ≤ _; omega))
    have e3 : o + 2 + i = o + (2 + i) := by omega
    rw [e3, e2, e]
    rcases (show i = 0 ∨ i = 1 ∨ i = 2 ∨ i = 3 by omega) with rfl | rfl | rfl | rfl <;> rfl
  have h8 : ∀ x ∈ [m2, m3, m4, m5], x.length = 8 := by
    intro x hx
    simp only [List.mem_cons, List.not_mem_nil, or_false] at hx
    rcases hx with rfl | rfl | rfl | rfl
    · exact HP.out.2.2.1
    · exact HP.out.2.2.2.1
    · exact HP.out.2.2.2.2.1
    · exact HP.out.2.2.2.2.2.1
  have HN := Lib.hid (Rst.nums 4 (by omega) [m2, m3, m4, m5] rfl h8 (rest := rest) (H3.out.recr (by simp only [List.flatten_cons, List.flatten_nil, List.append_assoc, List.nil_append])) HB.out.2.2.1 HB.out.2.2.2 HB.out.1 HB.out.2.1 hzz [(b, o + 2), (b, o + 3), (b, o + 4), (b, o + 5)] rfl)
  clear hzz h8
  go_region_held3 (fun _ => True) (trivial) ((go_at_call 65; refine HN.out.mono ?_; rintro e w4 ⟨rfl, v4, cs4, h2⟩; (have H4 := Lib.hid h2); clear h2))
  clear HN
  go_wp2_with fail
  go_end0
  exact H4.out.done (by simp) (by simp)
set_option maxRecDepth 100000 in
set_option maxHeartbeats 4000000 in
theorem pool_rd : Rds 111 (.pair .num (.pair .num (.pair .num .num))) := by
  intro b o T cs m rest w cb base v hp hc hb hne hle hz hl
  obtain ⟨m0, r0, p0, q0, e0⟩ := hp
  obtain ⟨m1, r1, p1, q1, e1⟩ := q0
  obtain ⟨m2, m3, p2, p3, e2⟩ := q1
  subst e2
  subst e1
  subst e0
  replace hc : Cr w cb base v (m0 ++ (m1 ++ (m2 ++ (m3 ++ rest)))) := by first | exact hc | simpa only [List.append_assoc] using hc
  have hz' : ∀ k, k < szL [.num, .num, .num, .num] → cs[o + k]? = (([.num, .num, .num, .num].map Zc).flatten)[k]? := by rw [← Zc_nest [.num, .num, .num, .num] (by simp)]; exact hz
  have HL := Lib.hid hl
  have HB := Lib.hid (And.intro hne (And.intro hle (And.intro hc.lt hb.lt)))
  have HZ := Lib.hid hz'
  have HP := Lib.hid (show Par .num m0 ∧ Par .num m1 ∧ Par .num m2 ∧ Par .num m3 ∧ True from ⟨p0, p1, p2, p3, trivial⟩)
  have hrd := hc.reads
  have H1 := Lib.hid (Rst.start (o := o) hc hb)
  clear hc hb hne hle hz hz' hl p0 p1 p2 p3
  go_enter Tryz.func111, Tryz.ntmps111
  go_wp2_with fail
  have hzz : ∀ i, i < 4 → cs[o + i]? = some (.int .i64 0) := by
    intro i hi
    have e := HZ.out (0 + i) (by show _ < 4; omega)
    have e2 := H1.out.out (o + (0 + i)) (.inr (by show o + 0 ≤ _; omega))
    have e3 : o + i = o + (0 + i) := by omega
    rw [e3, e2, e]
    rcases (show i = 0 ∨ i = 1 ∨ i = 2 ∨ i = 3 by omega) with rfl | rfl | rfl | rfl <;> rfl
  have h8 : ∀ x ∈ [m0, m1, m2, m3], x.length = 8 := by
    intro x hx
    simp only [List.mem_cons, List.not_mem_nil, or_false] at hx
    rcases hx with rfl | rfl | rfl | rfl
    · exact HP.out.1
    · exact HP.out.2.1
    · exact HP.out.2.2.1
    · exact HP.out.2.2.2.1
  have HN := Lib.hid (Rst.nums 4 (by omega) [m0, m1, m2, m3] rfl h8 (rest := rest) (H1.out.recr (by simp only [List.flatten_cons, List.flatten_nil, List.append_assoc, List.nil_append])) HB.out.2.2.1 HB.out.2.2.2 HB.out.1 HB.out.2.1 hzz [(b, o), (b, o + 1), (b, o + 2), (b, o + 3)] rfl)
  clear hzz h8
  go_region_held3 (fun _ => True) (trivial) ((go_at_call 65; refine HN.out.mono ?_; rintro e w2 ⟨rfl, v2, cs2, h2⟩; (have H2 := Lib.hid h2); clear h2))
  clear HN
  go_wp2_with fail
  go_end0
  exact H2.out.done (by simp) (by simp)
set_option maxRecDepth 100000 in
set_option maxHeartbeats 4000000 in
theorem list_int_rd : Rdl 154 63 .num := by
  intro b o T cs m rest w cb base v hp hc hb hne hle hz hl
  obtain ⟨ms, rfl, hn4, hps⟩ := id hp
  have ho : cs[o]? = some (.slice none 0 0) := hz 0 (by omega)
  have hr := hc.reads
  rw [List.append_assoc] at hc
  have hfl := flat_pos ms hps
  rw [List.length_append, lowL_length] at hl
  have HT := Lib.hid (count_good ms.length (ms.flatten ++ rest) w hc hn4 (by rw [List.length_append]; omega))
  have HB := Lib.hid (And.intro hne (And.intro hle (And.intro hc.lt hb.lt)))
  have HO := Lib.hid (And.intro hb ho)
  have HP := Lib.hid (And.intro hps hl)
  have hn8 : ms.length ≤ 100000000 := by omega
  clear hp hc hb hne hle hz hl ho hfl hps hn4
  go_enter Tryz.func154, Tryz.ntmps154
  go_wp2_with fail
  refine HT.out.mono ?_
  rintro e w2 ⟨rfl, v2, hm, -, hc2⟩
  have HS0 := Lib.hid (Lr.start (s := .num) (E := 3) hc2 HO.out.1 hm HB.out.1 HO.out.2)
  clear hm hc2
  go_wp2_with fail
  go_loopw [15] (fun i wr => ∃ j : Nat, j ≤ ms.length ∧ i = .int .i64 (j : Int) ∧ Hid (∃ u xs, Lr .num 3 b o T cs ms rest w cb base j j u xs wr)) (fun i _ => ms.length - (intOf i).toNat)
  case atStart => exact ⟨0, Nat.zero_le _, rfl, Lib.hid ⟨_, _, HS0.out⟩⟩
  case round =>
    obtain ⟨j, hj, rfl, HR⟩ := hrel
    by_cases hlt2 : j < ms.length
    · obtain ⟨u, xs, h1⟩ := HR.out
      obtain ⟨A, c, rfl, -, -⟩ := h1.og.len_cap
      have y1 := h1.cell
      have HR1 := Lib.hid h1
      have HJ := Lib.hid (show j + 1 ≤ 100000000 by omega)
      have HJM := Lib.hid hlt2
      have HS := Lib.hid (fun wx (hx : Ab wr wx) => (h1.ab hx).cell)
      have i1 : (0 : Int) ≤ (j : Int) := by omega
      have i2 : (j : Int) < (ms.length : Int) := by omega
      clear h1
      go_wp2_with (at_builtin; refine wpList_rd rfl _ _ (by rfl) _ _ (by rfl) (by rfl) Tryz.underlying157 (show (Tryz.prog.info? 3).map (fun i => (i.zero, i.size, i.bytes)) = some (some (.int .i64 0), 1, 8) by kernel_rfl) (by rfl) w.heap.size j xs 1 (Zc .num) (HR1.out.ab (by repeat (first | with_reducible exact Ab.refl _ | with_reducible assumption | with_reducible refine Ab.drew ?_ | with_reducible refine Ab.alloc ?_ _))).og (src_row Tryz.underlying157 rfl (Zc_one _) (by repeat (first | with_reducible assumption | with_reducible exact Bk.made _ _ _ | exact Bk.new (by first | (with_reducible rfl) | (simp; done)) | with_reducible refine Bk.drew ?_ | with_reducible refine Bk.alloc ?_ _))) ⟨by have := HJ.out; omega, by omega⟩ (by first | exact Nat.le_trans HR1.out.mv.size (Ab.size (by repeat (first | with_reducible exact Ab.refl _ | with_reducible assumption | with_reducible refine Ab.drew ?_ | with_reducible refine Ab.alloc ?_ _))) | (have := HR1.out.mv.size; simp; omega)) ?_; intro A5 c5 w5 ho5 hg5 hn5; (have y5 := (Lr.grown (HR1.out.ab (by repeat (first | with_reducible exact Ab.refl _ | with_reducible assumption | with_reducible refine Ab.drew ?_ | with_reducible refine Ab.alloc ?_ _))) HB.out.2.2.2 hg5).1); (have z5 := (Lr.grown (HR1.out.ab (by repeat (first | with_reducible exact Ab.refl _ | with_reducible assumption | with_reducible refine Ab.drew ?_ | with_reducible refine Ab.alloc ?_ _))) HB.out.2.2.2 hg5).2); (have H5 := Lib.hid (Lr.app (HR1.out.ab (by repeat (first | with_reducible exact Ab.refl _ | with_reducible assumption | with_reducible refine Ab.drew ?_ | with_reducible refine Ab.alloc ?_ _))) HB.out.2.2.1 HB.out.2.2.2 HB.out.1 HB.out.2.1 ho5 hg5 hn5)); clear ho5 hg5 hn5)
      go_wp2_with fail
      all_goals
        obtain ⟨g, off, cs', rfl, hcap, hcap2, hbk, hge, hzz⟩ := Lr.next H5.out HR1.out.og.1
        have yl := H5.out.cell
        obtain ⟨v4, hc4⟩ := H5.out.cr' HJM.out
        obtain ⟨w6, hw6⟩ : ∃ w6, w5.setCell ⟨b, o, none⟩ (.slice (some ⟨g, off, none⟩) (j + 1) c5) = w6 := ⟨_, rfl⟩
        rw [hw6] at H5 hbk yl hc4 ⊢
        replace hzz : ∀ k, k < Sch.sz .num → cs'[off + j + k]? = (Zc .num)[k]? := fun k hk => by have := hzz k hk; rwa [show j * Sch.sz .num = j from Nat.mul_one j] at this
        have HN := Lib.hid (number_rd g (off + j) 3 cs' (ms.getD j []) ((ms.drop (j + 1)).flatten ++ rest) w6 cb base v4 (HP.out.1 _ (getD_mem HJM.out)) hc4 hbk (by have := HB.out.2.2.1; omega) (by have := HB.out.2.1; have := HB.out.2.2.2; omega) hzz (by have := mem_flat_len (getD_mem HJM.out); have := HP.out.2; omega))
        have HI := Lib.hid (fun e w3 (hp : RdPost .num g (off + j) 3 cs' (ms.getD j []) ((ms.drop (j + 1)).flatten ++ rest) w6 cb base e w3) => Lr.item (e := e) (w3 := w3) H5.out HR1.out.og.1 HB.out.2.2.1 HB.out.2.2.2 HB.out.1 hbk HJM.out (by rw [show j * Sch.sz .num = j from Nat.mul_one j]; exact hp))
        generalize hj1 : j + 1 = j1 at yl hcap ⊢
        have i3 : (j : Int) < (j1 : Int) := by omega
        have hix : ∀ wx, (Instr.indexAt 157 (Value.slice (some ⟨g, off, none⟩) j1 c5) (Value.int .i64 (j : Int))).run Tryz.prog wx = .ok (.pointer (some ⟨g, off + j, none⟩)) wx := fun wx => by simp [go_sem, i1, i3]
        clear hj1 hw6
        clear hbk hge hzz hc4 y1 y5 z5
        go_wp2_with fail
        rw [hix]
        go_wp2_with fail
        refine HN.out.mono ?_
        intro e w7 hx
        obtain ⟨rfl, ys, h7, -⟩ := HI.out e w7 hx
        have H7 := Lib.hid h7
        clear h7 hx
        go_wp2_with fail
        go_roundw
        case rel => exact ⟨j + 1, HJM.out, by go_num, Lib.hid ⟨_, _, H7.out⟩⟩
        case measure => have := HJM.out; simp [intOf]; omega
    · go_wp2_with fail
      go_end0
      obtain rfl : j = ms.length := by omega
      obtain ⟨u, xs, h1⟩ := HR.out
      obtain ⟨A, c, rfl, -, -⟩ := h1.og.len_cap
      exact h1.done rfl
set_option maxRecDepth 100000 in
set_option maxHeartbeats 4000000 in
theorem bucket_rd : Rds 113 (.pair .num (.pair .num (.pair (.list .num) (.list .num)))) := by
  intro b o T cs m rest w cb base v hp hc hb hne hle hz hl
  obtain ⟨m0, r0, p0, q0, e0⟩ := hp
  obtain ⟨m1, r1, p1, q1, e1⟩ := q0
  obtain ⟨m2, m3, p2, p3, e2⟩ := q1
  subst e2
  subst e1
  subst e0
  replace hc : Cr w cb base v (m0 ++ (m1 ++ (m2 ++ (m3 ++ rest)))) := by first | exact hc | simpa only [List.append_assoc] using hc
  have hz' : ∀ k, k < szL [.num, .num, (.list .num), (.list .num)] → cs[o + k]? = (([.num, .num, (.list .num), (.list .num)].map Zc).flatten)[k]? := by rw [← Zc_nest [.num, .num, (.list .num), (.list .num)] (by simp)]; exact hz
  have HL := Lib.hid hl
  have HB := Lib.hid (And.intro hne (And.intro hle (And.intro hc.lt hb.lt)))
  have HZ := Lib.hid hz'
  have HP := Lib.hid (show Par .num m0 ∧ Par .num m1 ∧ Par (.list .num) m2 ∧ Par (.list .num) m3 ∧ True from ⟨p0, p1, p2, p3, trivial⟩)
  have hrd := hc.reads
  have H1 := Lib.hid (Rst.start (o := o) hc hb)
  clear hc hb hne hle hz hz' hl p0 p1 p2 p3
  go_enter Tryz.func113, Tryz.ntmps113
  go_wp2_with fail
  have hzz : ∀ i, i < 2 → cs[o + i]? = some (.int .i64 0) := by
    intro i hi
    have e := HZ.out (0 + i) (by show _ < 4; omega)
    have e2 := H1.out.out (o + (0 + i)) (.inr (by show o + 0 ≤ _; omega))
    have e3 : o + i = o + (0 + i) := by omega
    rw [e3, e2, e]
    rcases (show i = 0 ∨ i = 1 by omega) with rfl | rfl <;> rfl
  have h8 : ∀ x ∈ [m0, m1], x.length = 8 := by
    intro x hx
    simp only [List.mem_cons, List.not_mem_nil, or_false] at hx
    rcases hx with rfl | rfl
    · exact HP.out.1
    · exact HP.out.2.1
  have HN := Lib.hid (Rst.nums 2 (by omega) [m0, m1] rfl h8 (rest := m2 ++ (m3 ++ (rest))) (H1.out.recr (by simp only [List.flatten_cons, List.flatten_nil, List.append_assoc, List.nil_append])) HB.out.2.2.1 HB.out.2.2.2 HB.out.1 HB.out.2.1 hzz [(b, o), (b, o + 1)] rfl)
  clear hzz h8
  go_region_held3 (fun _ => True) (trivial) ((go_at_call 65; refine HN.out.mono ?_; rintro e w2 ⟨rfl, v2, cs2, h2⟩; (have H2 := Lib.hid h2); clear h2))
  clear HN
  go_wp2_with fail
  refine (list_int_rd b (o + 2) T cs2 m2 (m3 ++ (rest)) w2 cb base v2 HP.out.2.2.1 H2.out.cr H2.out.bk HB.out.1 HB.out.2.1 (Rst.zero H2.out HZ.out (.list .num) [(.list .num)] rfl) (by have := HL.out; first | omega | (simp only [List.length_append] at this ⊢; omega))).mono ?_
  intro e w3 hx
  obtain ⟨rfl, v3, cs3, h2⟩ := H2.out.step HB.out.2.2.1 HB.out.2.2.2 hx
  have H3 := Lib.hid h2
  clear h2 hx
  go_wp2_with fail
  refine (list_int_rd b (o + 3) T cs3 m3 (rest) w3 cb base v3 HP.out.2.2.2.1 H3.out.cr H3.out.bk HB.out.1 HB.out.2.1 (Rst.zero H3.out HZ.out (.list .num) [] rfl) (by have := HL.out; first | omega | (simp only [List.length_append] at this ⊢; omega))).mono ?_
  intro e w4 hx
  obtain ⟨rfl, v4, cs4, h2⟩ := H3.out.step HB.out.2.2.1 HB.out.2.2.2 hx
  have H4 := Lib.hid h2
  clear h2 hx
  go_wp2_with fail
  go_end0
  exact H4.out.done (by simp) (by simp)
set_option maxRecDepth 100000 in
set_option maxHeartbeats 4000000 in
theorem list_osd_rd : Rdl 108 109 (.pair .bool (.pair .bool (.pair .num (.pair .num (.pair .num .num))))) := by
  intro b o T cs m rest w cb base v hp hc hb hne hle hz hl
  obtain ⟨ms, rfl, hn4, hps⟩ := id hp
  have ho : cs[o]? = some (.slice none 0 0) := hz 0 (by omega)
  have hr := hc.reads
  rw [List.append_assoc] at hc
  have hfl := flat_pos ms hps
  rw [List.length_append, lowL_length] at hl
  have HT := Lib.hid (count_good ms.length (ms.flatten ++ rest) w hc hn4 (by rw [List.length_append]; omega))
  have HB := Lib.hid (And.intro hne (And.intro hle (And.intro hc.lt hb.lt)))
  have HO := Lib.hid (And.intro hb ho)
  have HP := Lib.hid (And.intro hps hl)
  have hn8 : ms.length ≤ 100000000 := by omega
  clear hp hc hb hne hle hz hl ho hfl hps hn4
  go_enter Tryz.func108, Tryz.ntmps108
  go_wp2_with fail
  refine HT.out.mono ?_
  rintro e w2 ⟨rfl, v2, hm, -, hc2⟩
  have HS0 := Lib.hid (Lr.start (s := (.pair .bool (.pair .bool (.pair .num (.pair .num (.pair .num .num)))))) (E := 216) hc2 HO.out.1 hm HB.out.1 HO.out.2)
  clear hm hc2
  go_wp2_with fail
  go_loopw [15] (fun i wr => ∃ j : Nat, j ≤ ms.length ∧ i = .int .i64 (j : Int) ∧ Hid (∃ u xs, Lr (.pair .bool (.pair .bool (.pair .num (.pair .num (.pair .num .num))))) 216 b o T cs ms rest w cb base j j u xs wr)) (fun i _ => ms.length - (intOf i).toNat)
  case atStart => exact ⟨0, Nat.zero_le _, rfl, Lib.hid ⟨_, _, HS0.out⟩⟩
  case round =>
    obtain ⟨j, hj, rfl, HR⟩ := hrel
    by_cases hlt2 : j < ms.length
    · obtain ⟨u, xs, h1⟩ := HR.out
      obtain ⟨A, c, rfl, -, -⟩ := h1.og.len_cap
      have y1 := h1.cell
      have HR1 := Lib.hid h1
      have HJ := Lib.hid (show j + 1 ≤ 100000000 by omega)
      have HJM := Lib.hid hlt2
      have HS := Lib.hid (fun wx (hx : Ab wr wx) => (h1.ab hx).cell)
      have i1 : (0 : Int) ≤ (j : Int) := by omega
      have i2 : (j : Int) < (ms.length : Int) := by omega
      clear h1
      go_wp2_with fail
      have habz : Ab wr (wr.alloc (.cells #[.bool false, .bool false, .int .i64 0, .int .i64 0, .int .i64 0, .int .i64 0] 216)) := (Ab.refl wr).alloc _
      have hbz : Bk (wr.alloc (.cells #[.bool false, .bool false, .int .i64 0, .int .i64 0, .int .i64 0, .int .i64 0] 216)) wr.heap.size 216 #[.bool false, .bool false, .int .i64 0, .int .i64 0, .int .i64 0, .int .i64 0] := Bk.made wr _ _
      obtain ⟨wz, hwz⟩ : ∃ wz, wr.alloc (.cells #[.bool false, .bool false, .int .i64 0, .int .i64 0, .int .i64 0, .int .i64 0] 216) = wz := ⟨_, rfl⟩
      rw [hwz] at habz hbz ⊢
      have HRz := Lib.hid (HR1.out.ab habz)
      have yz := HRz.out.cell
      have yz2 : (wz.alloc (.cells #[.bool false, .bool false, .int .i64 0, .int .i64 0, .int .i64 0, .int .i64 0] 216)).cell? ⟨b, o, none⟩ = some (.slice A j c) := (HRz.out.ab ((Ab.refl wz).alloc _)).cell
      have zz0 : wz.cell? ⟨wr.heap.size, 0, none⟩ = some (.bool false) := hbz.cell rfl
      have zz1 : wz.cell? ⟨wr.heap.size, 1, none⟩ = some (.bool false) := hbz.cell rfl
      have zz2 : wz.cell? ⟨wr.heap.size, 2, none⟩ = some (.int .i64 0) := hbz.cell rfl
      have zz3 : wz.cell? ⟨wr.heap.size, 3, none⟩ = some (.int .i64 0) := hbz.cell rfl
      have zz4 : wz.cell? ⟨wr.heap.size, 4, none⟩ = some (.int .i64 0) := hbz.cell rfl
      have zz5 : wz.cell? ⟨wr.heap.size, 5, none⟩ = some (.int .i64 0) := hbz.cell rfl
      clear hwz habz hbz
      go_region_law ((refine lay_rd (by rfl) _ _ (by rfl) _ _ (by rfl) (by rfl) Tryz.underlying66 (show (Tryz.prog.info? 216).map (fun i => (i.zero, i.size, i.bytes)) = some (some (.agg #[.bool false, .bool false, .int .i64 0, .int .i64 0, .int .i64 0, .int .i64 0]), 6, 40) by kernel_rfl) (by rfl) w.heap.size j xs 1 (Zc (.pair .bool (.pair .bool (.pair .num (.pair .num (.pair .num .num)))))) (HRz.out.ab (by repeat (first | with_reducible exact Ab.refl _ | with_reducible assumption | with_reducible refine Ab.drew ?_ | with_reducible refine Ab.alloc ?_ _))).og (src_row Tryz.underlying66 rfl (Zc_one _) (by repeat (first | with_reducible assumption | with_reducible exact Bk.made _ _ _ | exact Bk.new (by first | (with_reducible rfl) | (simp; done)) | with_reducible refine Bk.drew ?_ | with_reducible refine Bk.alloc ?_ _))) ⟨by have := HJ.out; omega, by omega⟩ (by first | exact Nat.le_trans HRz.out.mv.size (Ab.size (by repeat (first | with_reducible exact Ab.refl _ | with_reducible assumption | with_reducible refine Ab.drew ?_ | with_reducible refine Ab.alloc ?_ _))) | (have := HRz.out.mv.size; simp; omega)) ?_; intro A5 c5 w5 ho5 hg5 hn5; (have y5 := (Lr.grown (HRz.out.ab (by repeat (first | with_reducible exact Ab.refl _ | with_reducible assumption | with_reducible refine Ab.drew ?_ | with_reducible refine Ab.alloc ?_ _))) HB.out.2.2.2 hg5).1); (have z5 := (Lr.grown (HRz.out.ab (by repeat (first | with_reducible exact Ab.refl _ | with_reducible assumption | with_reducible refine Ab.drew ?_ | with_reducible refine Ab.alloc ?_ _))) HB.out.2.2.2 hg5).2); (have H5 := Lib.hid (Lr.app (HRz.out.ab (by repeat (first | with_reducible exact Ab.refl _ | with_reducible assumption | with_reducible refine Ab.drew ?_ | with_reducible refine Ab.alloc ?_ _))) HB.out.2.2.1 HB.out.2.2.2 HB.out.1 HB.out.2.1 ho5 hg5 hn5)); clear ho5 hg5 hn5))
      all_goals
        obtain ⟨g, off, cs', rfl, hcap, hcap2, hbk, hge, hzz⟩ := Lr.next H5.out HR1.out.og.1
        have yl := H5.out.cell
        obtain ⟨v4, hc4⟩ := H5.out.cr' HJM.out
        obtain ⟨w6, hw6⟩ : ∃ w6, w5.setCell ⟨b, o, none⟩ (.slice (some ⟨g, off, none⟩) (j + 1) c5) = w6 := ⟨_, rfl⟩
        rw [hw6] at H5 hbk yl hc4 ⊢
        have HN := Lib.hid (osd_rd g (off + j * 6) 216 cs' (ms.getD j []) ((ms.drop (j + 1)).flatten ++ rest) w6 cb base v4 (HP.out.1 _ (getD_mem HJM.out)) hc4 hbk (by have := HB.out.2.2.1; omega) (by have := HB.out.2.1; have := HB.out.2.2.2; omega) hzz (by have := mem_flat_len (getD_mem HJM.out); have := HP.out.2; omega))
        have HI := Lib.hid (fun e w3 (hp : RdPost (.pair .bool (.pair .bool (.pair .num (.pair .num (.pair .num .num))))) g (off + j * 6) 216 cs' (ms.getD j []) ((ms.drop (j + 1)).flatten ++ rest) w6 cb base e w3) => Lr.item (e := e) (w3 := w3) H5.out HR1.out.og.1 HB.out.2.2.1 HB.out.2.2.2 HB.out.1 hbk HJM.out hp)
        generalize hj1 : j + 1 = j1 at yl hcap ⊢
        have i3 : (j : Int) < (j1 : Int) := by omega
        clear hj1 hw6
        clear hbk hge hzz hc4 y1 y5 z5
        go_wp2_with fail
        refine HN.out.mono ?_
        intro e w7 hx
        obtain ⟨rfl, ys, h7, -⟩ := HI.out e w7 hx
        have H7 := Lib.hid h7
        clear h7 hx
        go_wp2_with fail
        go_roundw
        case rel => exact ⟨j + 1, HJM.out, by go_num, Lib.hid ⟨_, _, H7.out⟩⟩
        case measure => have := HJM.out; simp [intOf]; omega
    · go_wp2_with fail
      go_end0
      obtain rfl : j = ms.length := by omega
      obtain ⟨u, xs, h1⟩ := HR.out
      obtain ⟨A, c, rfl, -, -⟩ := h1.og.len_cap
      exact h1.done rfl
set_option maxRecDepth 100000 in
set_option maxHeartbeats 4000000 in
theorem list_pool_rd : Rdl 110 111 (.pair .num (.pair .num (.pair .num .num))) := by
  intro b o T cs m rest w cb base v hp hc hb hne hle hz hl
  obtain ⟨ms, rfl, hn4, hps⟩ := id hp
  have ho : cs[o]? = some (.slice none 0 0) := hz 0 (by omega)
  have hr := hc.reads
  rw [List.append_assoc] at hc
  have hfl := flat_pos ms hps
  rw [List.length_append, lowL_length] at hl
  have HT := Lib.hid (count_good ms.length (ms.flatten ++ rest) w hc hn4 (by rw [List.length_append]; omega))
  have HB := Lib.hid (And.intro hne (And.intro hle (And.intro hc.lt hb.lt)))
  have HO := Lib.hid (And.intro hb ho)
  have HP := Lib.hid (And.intro hps hl)
  have hn8 : ms.length ≤ 100000000 := by omega
  clear hp hc hb hne hle hz hl ho hfl hps hn4
  go_enter Tryz.func110, Tryz.ntmps110
  go_wp2_with fail
  refine HT.out.mono ?_
  rintro e w2 ⟨rfl, v2, hm, -, hc2⟩
  have HS0 := Lib.hid (Lr.start (s := (.pair .num (.pair .num (.pair .num .num)))) (E := 156) hc2 HO.out.1 hm HB.out.1 HO.out.2)
  clear hm hc2
  go_wp2_with fail
  go_loopw [15] (fun i wr => ∃ j : Nat, j ≤ ms.length ∧ i = .int .i64 (j : Int) ∧ Hid (∃ u xs, Lr (.pair .num (.pair .num (.pair .num .num))) 156 b o T cs ms rest w cb base j j u xs wr)) (fun i _ => ms.length - (intOf i).toNat)
  case atStart => exact ⟨0, Nat.zero_le _, rfl, Lib.hid ⟨_, _, HS0.out⟩⟩
  case round =>
    obtain ⟨j, hj, rfl, HR⟩ := hrel
    by_cases hlt2 : j < ms.length
    · obtain ⟨u, xs, h1⟩ := HR.out
      obtain ⟨A, c, rfl, -, -⟩ := h1.og.len_cap
      have y1 := h1.cell
      have HR1 := Lib.hid h1
      have HJ := Lib.hid (show j + 1 ≤ 100000000 by omega)
      have HJM := Lib.hid hlt2
      have HS := Lib.hid (fun wx (hx : Ab wr wx) => (h1.ab hx).cell)
      have i1 : (0 : Int) ≤ (j : Int) := by omega
      have i2 : (j : Int) < (ms.length : Int) := by omega
      clear h1
      go_wp2_with fail
      have habz : Ab wr (wr.alloc (.cells #[.int .i64 0, .int .i64 0, .int .i64 0, .int .i64 0] 156)) := (Ab.refl wr).alloc _
      have hbz : Bk (wr.alloc (.cells #[.int .i64 0, .int .i64 0, .int .i64 0, .int .i64 0] 156)) wr.heap.size 156 #[.int .i64 0, .int .i64 0, .int .i64 0, .int .i64 0] := Bk.made wr _ _
      obtain ⟨wz, hwz⟩ : ∃ wz, wr.alloc (.cells #[.int .i64 0, .int .i64 0, .int .i64 0, .int .i64 0] 156) = wz := ⟨_, rfl⟩
      rw [hwz] at habz hbz ⊢
      have HRz := Lib.hid (HR1.out.ab habz)
      have yz := HRz.out.cell
      have yz2 : (wz.alloc (.cells #[.int .i64 0, .int .i64 0, .int .i64 0, .int .i64 0] 156)).cell? ⟨b, o, none⟩ = some (.slice A j c) := (HRz.out.ab ((Ab.refl wz).alloc _)).cell
      have zz0 : wz.cell? ⟨wr.heap.size, 0, none⟩ = some (.int .i64 0) := hbz.cell rfl
      have zz1 : wz.cell? ⟨wr.heap.size, 1, none⟩ = some (.int .i64 0) := hbz.cell rfl
      have zz2 : wz.cell? ⟨wr.heap.size, 2, none⟩ = some (.int .i64 0) := hbz.cell rfl
      have zz3 : wz.cell? ⟨wr.heap.size, 3, none⟩ = some (.int .i64 0) := hbz.cell rfl
      clear hwz habz hbz
      go_region_law ((refine lay_rd (by rfl) _ _ (by rfl) _ _ (by rfl) (by rfl) Tryz.underlying67 (show (Tryz.prog.info? 156).map (fun i => (i.zero, i.size, i.bytes)) = some (some (.agg #[.int .i64 0, .int .i64 0, .int .i64 0, .int .i64 0]), 4, 32) by kernel_rfl) (by rfl) w.heap.size j xs 1 (Zc (.pair .num (.pair .num (.pair .num .num)))) (HRz.out.ab (by repeat (first | with_reducible exact Ab.refl _ | with_reducible assumption | with_reducible refine Ab.drew ?_ | with_reducible refine Ab.alloc ?_ _))).og (src_row Tryz.underlying67 rfl (Zc_one _) (by repeat (first | with_reducible assumption | with_reducible exact Bk.made _ _ _ | exact Bk.new (by first | (with_reducible rfl) | (simp; done)) | with_reducible refine Bk.drew ?_ | with_reducible refine Bk.alloc ?_ _))) ⟨by have := HJ.out; omega, by omega⟩ (by first | exact Nat.le_trans HRz.out.mv.size (Ab.size (by repeat (first | with_reducible exact Ab.refl _ | with_reducible assumption | with_reducible refine Ab.drew ?_ | with_reducible refine Ab.alloc ?_ _))) | (have := HRz.out.mv.size; simp; omega)) ?_; intro A5 c5 w5 ho5 hg5 hn5; (have y5 := (Lr.grown (HRz.out.ab (by repeat (first | with_reducible exact Ab.refl _ | with_reducible assumption | with_reducible refine Ab.drew ?_ | with_reducible refine Ab.alloc ?_ _))) HB.out.2.2.2 hg5).1); (have z5 := (Lr.grown (HRz.out.ab (by repeat (first | with_reducible exact Ab.refl _ | with_reducible assumption | with_reducible refine Ab.drew ?_ | with_reducible refine Ab.alloc ?_ _))) HB.out.2.2.2 hg5).2); (have H5 := Lib.hid (Lr.app (HRz.out.ab (by repeat (first | with_reducible exact Ab.refl _ | with_reducible assumption | with_reducible refine Ab.drew ?_ | with_reducible refine Ab.alloc ?_ _))) HB.out.2.2.1 HB.out.2.2.2 HB.out.1 HB.out.2.1 ho5 hg5 hn5)); clear ho5 hg5 hn5))
      all_goals
        obtain ⟨g, off, cs', rfl, hcap, hcap2, hbk, hge, hzz⟩ := Lr.next H5.out HR1.out.og.1
        have yl := H5.out.cell
        obtain ⟨v4, hc4⟩ := H5.out.cr' HJM.out
        obtain ⟨w6, hw6⟩ : ∃ w6, w5.setCell ⟨b, o, none⟩ (.slice (some ⟨g, off, none⟩) (j + 1) c5) = w6 := ⟨_, rfl⟩
        rw [hw6] at H5 hbk yl hc4 ⊢
        have HN := Lib.hid (pool_rd g (off + j * 4) 156 cs' (ms.getD j []) ((ms.drop (j + 1)).flatten ++ rest) w6 cb base v4 (HP.out.1 _ (getD_mem HJM.out)) hc4 hbk (by have := HB.out.2.2.1; omega) (by have := HB.out.2.1; have := HB.out.2.2.2; omega) hzz (by have := mem_flat_len (getD_mem HJM.out); have := HP.out.2; omega))
        have HI := Lib.hid (fun e w3 (hp : RdPost (.pair .num (.pair .num (.pair .num .num))) g (off + j * 4) 156 cs' (ms.getD j []) ((ms.drop (j + 1)).flatten ++ rest) w6 cb base e w3) => Lr.item (e := e) (w3 := w3) H5.out HR1.out.og.1 HB.out.2.2.1 HB.out.2.2.2 HB.out.1 hbk HJM.out hp)
        generalize hj1 : j + 1 = j1 at yl hcap ⊢
        have i3 : (j : Int) < (j1 : Int) := by omega
        clear hj1 hw6
        clear hbk hge hzz hc4 y1 y5 z5
        go_wp2_with fail
        refine HN.out.mono ?_
        intro e w7 hx
        obtain ⟨rfl, ys, h7, -⟩ := HI.out e w7 hx
        have H7 := Lib.hid h7
        clear h7 hx
        go_wp2_with fail
        go_roundw
        case rel => exact ⟨j + 1, HJM.out, by go_num, Lib.hid ⟨_, _, H7.out⟩⟩
        case measure => have := HJM.out; simp [intOf]; omega
    · go_wp2_with fail
      go_end0
      obtain rfl : j = ms.length := by omega
      obtain ⟨u, xs, h1⟩ := HR.out
      obtain ⟨A, c, rfl, -, -⟩ := h1.og.len_cap
      exact h1.done rfl
set_option maxRecDepth 100000 in
set_option maxHeartbeats 4000000 in
theorem list_bucket_rd : Rdl 112 113 (.pair .num (.pair .num (.pair (.list .num) (.list .num)))) := by
  intro b o T cs m rest w cb base v hp hc hb hne hle hz hl
  obtain ⟨ms, rfl, hn4, hps⟩ := id hp
  have ho : cs[o]? = some (.slice none 0 0) := hz 0 (by omega)
  have hr := hc.reads
  rw [List.append_assoc] at hc
  have hfl := flat_pos ms hps
  rw [List.length_append, lowL_length] at hl
  have HT := Lib.hid (count_good ms.length (ms.flatten ++ rest) w hc hn4 (by rw [List.length_append]; omega))
  have HB := Lib.hid (And.intro hne (And.intro hle (And.intro hc.lt hb.lt)))
  have HO := Lib.hid (And.intro hb ho)
  have HP := Lib.hid (And.intro hps hl)
  have hn8 : ms.length ≤ 100000000 := by omega
  clear hp hc hb hne hle hz hl ho hfl hps hn4
  go_enter Tryz.func112, Tryz.ntmps112
  go_wp2_with fail
  refine HT.out.mono ?_
  rintro e w2 ⟨rfl, v2, hm, -, hc2⟩
  have HS0 := Lib.hid (Lr.start (s := (.pair .num (.pair .num (.pair (.list .num) (.list .num))))) (E := 159) hc2 HO.out.1 hm HB.out.1 HO.out.2)
  clear hm hc2
  go_wp2_with fail
  go_loopw [15] (fun i wr => ∃ j : Nat, j ≤ ms.length ∧ i = .int .i64 (j : Int) ∧ Hid (∃ u xs, Lr (.pair .num (.pair .num (.pair (.list .num) (.list .num)))) 159 b o T cs ms rest w cb base j j u xs wr)) (fun i _ => ms.length - (intOf i).toNat)
  case atStart => exact ⟨0, Nat.zero_le _, rfl, Lib.hid ⟨_, _, HS0.out⟩⟩
  case round =>
    obtain ⟨j, hj, rfl, HR⟩ := hrel
    by_cases hlt2 : j < ms.length
    · obtain ⟨u, xs, h1⟩ := HR.out
      obtain ⟨A, c, rfl, -, -⟩ := h1.og.len_cap
      have y1 := h1.cell
      have HR1 := Lib.hid h1
      have HJ := Lib.hid (show j + 1 ≤ 100000000 by omega)
      have HJM := Lib.hid hlt2
      have HS := Lib.hid (fun wx (hx : Ab wr wx) => (h1.ab hx).cell)
      have i1 : (0 : Int) ≤ (j : Int) := by omega
      have i2 : (j : Int) < (ms.length : Int) := by omega
      clear h1
      go_wp2_with fail
      have habz : Ab wr (wr.alloc (.cells #[.int .i64 0, .int .i64 0, .slice none 0 0, .slice none 0 0] 159)) := (Ab.refl wr).alloc _
      have hbz : Bk (wr.alloc (.cells #[.int .i64 0, .int .i64 0, .slice none 0 0, .slice none 0 0] 159)) wr.heap.size 159 #[.int .i64 0, .int .i64 0, .slice none 0 0, .slice none 0 0] := Bk.made wr _ _
      obtain ⟨wz, hwz⟩ : ∃ wz, wr.alloc (.cells #[.int .i64 0, .int .i64 0, .slice none 0 0, .slice none 0 0] 159) = wz := ⟨_, rfl⟩
      rw [hwz] at habz hbz ⊢
      have HRz := Lib.hid (HR1.out.ab habz)
      have yz := HRz.out.cell
      have yz2 : (wz.alloc (.cells #[.int .i64 0, .int .i64 0, .slice none 0 0, .slice none 0 0] 159)).cell? ⟨b, o, none⟩ = some (.slice A j c) := (HRz.out.ab ((Ab.refl wz).alloc _)).cell
      have zz0 : wz.cell? ⟨wr.heap.size, 0, none⟩ = some (.int .i64 0) := hbz.cell rfl
      have zz1 : wz.cell? ⟨wr.heap.size, 1, none⟩ = some (.int .i64 0) := hbz.cell rfl
      have zz2 : wz.cell? ⟨wr.heap.size, 2, none⟩ = some (.slice none 0 0) := hbz.cell rfl
      have zz3 : wz.cell? ⟨wr.heap.size, 3, none⟩ = some (.slice none 0 0) := hbz.cell rfl
      clear hwz habz hbz
      go_region_law ((refine lay_rd (by rfl) _ _ (by rfl) _ _ (by rfl) (by rfl) Tryz.underlying68 (show (Tryz.prog.info? 159).map (fun i => (i.zero, i.size, i.bytes)) = some (some (.agg #[.int .i64 0, .int .i64 0, .slice none 0 0, .slice none 0 0]), 4, 64) by kernel_rfl) (by rfl) w.heap.size j xs 1 (Zc (.pair .num (.pair .num (.pair (.list .num) (.list .num))))) (HRz.out.ab (by repeat (first | with_reducible exact Ab.refl _ | with_reducible assumption | with_reducible refine Ab.drew ?_ | with_reducible refine Ab.alloc ?_ _))).og (src_row Tryz.underlying68 rfl (Zc_one _) (by repeat (first | with_reducible assumption | with_reducible exact Bk.made _ _ _ | exact Bk.new (by first | (with_reducible rfl) | (simp; done)) | with_reducible refine Bk.drew ?_ | with_reducible refine Bk.alloc ?_ _))) ⟨by have := HJ.out; omega, by omega⟩ (by first | exact Nat.le_trans HRz.out.mv.size (Ab.size (by repeat (first | with_reducible exact Ab.refl _ | with_reducible assumption | with_reducible refine Ab.drew ?_ | with_reducible refine Ab.alloc ?_ _))) | (have := HRz.out.mv.size; simp; omega)) ?_; intro A5 c5 w5 ho5 hg5 hn5; (have y5 := (Lr.grown (HRz.out.ab (by repeat (first | with_reducible exact Ab.refl _ | with_reducible assumption | with_reducible refine Ab.drew ?_ | with_reducible refine Ab.alloc ?_ _))) HB.out.2.2.2 hg5).1); (have z5 := (Lr.grown (HRz.out.ab (by repeat (first | with_reducible exact Ab.refl _ | with_reducible assumption | with_reducible refine Ab.drew ?_ | with_reducible refine Ab.alloc ?_ _))) HB.out.2.2.2 hg5).2); (have H5 := Lib.hid (Lr.app (HRz.out.ab (by repeat (first | with_reducible exact Ab.refl _ | with_reducible assumption | with_reducible refine Ab.drew ?_ | with_reducible refine Ab.alloc ?_ _))) HB.out.2.2.1 HB.out.2.2.2 HB.out.1 HB.out.2.1 ho5 hg5 hn5)); clear ho5 hg5 hn5))
      all_goals
        obtain ⟨g, off, cs', rfl, hcap, hcap2, hbk, hge, hzz⟩ := Lr.next H5.out HR1.out.og.1
        have yl := H5.out.cell
        obtain ⟨v4, hc4⟩ := H5.out.cr' HJM.out
        obtain ⟨w6, hw6⟩ : ∃ w6, w5.setCell ⟨b, o, none⟩ (.slice (some ⟨g, off, none⟩) (j + 1) c5) = w6 := ⟨_, rfl⟩
        rw [hw6] at H5 hbk yl hc4 ⊢
        have HN := Lib.hid (bucket_rd g (off + j * 4) 159 cs' (ms.getD j []) ((ms.drop (j + 1)).flatten ++ rest) w6 cb base v4 (HP.out.1 _ (getD_mem HJM.out)) hc4 hbk (by have := HB.out.2.2.1; omega) (by have := HB.out.2.1; have := HB.out.2.2.2; omega) hzz (by have := mem_flat_len (getD_mem HJM.out); have := HP.out.2; omega))
        have HI := Lib.hid (fun e w3 (hp : RdPost (.pair .num (.pair .num (.pair (.list .num) (.list .num)))) g (off + j * 4) 159 cs' (ms.getD j []) ((ms.drop (j + 1)).flatten ++ rest) w6 cb base e w3) => Lr.item (e := e) (w3 := w3) H5.out HR1.out.og.1 HB.out.2.2.1 HB.out.2.2.2 HB.out.1 hbk HJM.out hp)
        generalize hj1 : j + 1 = j1 at yl hcap ⊢
        have i3 : (j : Int) < (j1 : Int) := by omega
        clear hj1 hw6
        clear hbk hge hzz hc4 y1 y5 z5
        go_wp2_with fail
        refine HN.out.mono ?_
        intro e w7 hx
        obtain ⟨rfl, ys, h7, -⟩ := HI.out e w7 hx
        have H7 := Lib.hid h7
        clear h7 hx
        go_wp2_with fail
        go_roundw
        case rel => exact ⟨j + 1, HJM.out, by go_num, Lib.hid ⟨_, _, H7.out⟩⟩
        case measure => have := HJM.out; simp [intOf]; omega
    · go_wp2_with fail
      go_end0
      obtain rfl : j = ms.length := by omega
      obtain ⟨u, xs, h1⟩ := HR.out
      obtain ⟨A, c, rfl, -, -⟩ := h1.og.len_cap
      exact h1.done rfl
set_option maxRecDepth 100000 in
set_option maxHeartbeats 4000000 in
theorem clusterMap_rd : Rds 45 (.pair .num (.pair (.list (.pair .bool (.pair .bool (.pair .num (.pair .num (.pair .num .num)))))) (.pair (.list (.pair .num (.pair .num (.pair .num .num)))) (.pair (.list (.pair .num (.pair .num (.pair (.list .num) (.list .num))))) .num)))) := by
  intro b o T cs m rest w cb base v hp hc hb hne hle hz hl
  obtain ⟨m0, r0, p0, q0, e0⟩ := hp
  obtain ⟨m1, r1, p1, q1, e1⟩ := q0
  obtain ⟨m2, r2, p2, q2, e2⟩ := q1
  obtain ⟨m3, m4, p3, p4, e3⟩ := q2
  subst e3
  subst e2
  subst e1
  subst e0
  replace hc : Cr w cb base v (m0 ++ (m1 ++ (m2 ++ (m3 ++ (m4 ++ rest))))) := by first | exact hc | simpa only [List.append_assoc] using hc
  have hz' : ∀ k, k < szL [.num, (.list (.pair .bool (.pair .bool (.pair .num (.pair .num (.pair .num .num)))))), (.list (.pair .num (.pair .num (.pair .num .num)))), (.list (.pair .num (.pair .num (.pair (.list .num) (.list .num))))), .num] → cs[o + k]? = (([.num, (.list (.pair .bool (.pair .bool (.pair .num (.pair .num (.pair .num .num)))))), (.list (.pair .num (.pair .num (.pair .num .num)))), (.list (.pair .num (.pair .num (.pair (.list .num) (.list .num))))), .num].map Zc).flatten)[k]? := by rw [← Zc_nest [.num, (.list (.pair .bool (.pair .bool (.pair .num (.pair .num (.pair .num .num)))))), (.list (.pair .num (.pair .num (.pair .num .num)))), (.list (.pair .num (.pair .num (.pair (.list .num) (.list .num))))), .num] (by simp)]; exact hz
  have HL := Lib.hid hl
  have HB := Lib.hid (And.intro hne (And.intro hle (And.intro hc.lt hb.lt)))
  have HZ := Lib.hid hz'
  have HP := Lib.hid (show Par .num m0 ∧ Par (.list (.pair .bool (.pair .bool (.pair .num (.pair .num (.pair .num .num)))))) m1 ∧ Par (.list (.pair .num (.pair .num (.pair .num .num)))) m2 ∧ Par (.list (.pair .num (.pair .num (.pair (.list .num) (.list .num))))) m3 ∧ Par .num m4 ∧ True from ⟨p0, p1, p2, p3, p4, trivial⟩)
  have hrd := hc.reads
  have H1 := Lib.hid (Rst.start (o := o) hc hb)
  clear hc hb hne hle hz hz' hl p0 p1 p2 p3 p4
  go_enter Tryz.func45, Tryz.ntmps45
  go_wp2_with fail
  refine (number_rd b (o) T cs m0 (m1 ++ (m2 ++ (m3 ++ (m4 ++ (rest))))) w cb base v HP.out.1 H1.out.cr H1.out.bk HB.out.1 HB.out.2.1 (Rst.zero H1.out HZ.out .num [(.list (.pair .bool (.pair .bool (.pair .num (.pair .num (.pair .num .num)))))), (.list (.pair .num (.pair .num (.pair .num .num)))), (.list (.pair .num (.pair .num (.pair (.list .num) (.list .num))))), .num] rfl) (by have := HL.out; first | omega | (simp only [List.length_append] at this ⊢; omega))).mono ?_
  intro e w2 hx
  obtain ⟨rfl, v2, cs2, h2⟩ := H1.out.step HB.out.2.2.1 HB.out.2.2.2 hx
  have H2 := Lib.hid h2
  clear h2 hx
  go_wp2_with fail
  refine (list_osd_rd b (o + 1) T cs2 m1 (m2 ++ (m3 ++ (m4 ++ (rest)))) w2 cb base v2 HP.out.2.1 H2.out.cr H2.out.bk HB.out.1 HB.out.2.1 (Rst.zero H2.out HZ.out (.list (.pair .bool (.pair .bool (.pair .num (.pair .num (.pair .num .num)))))) [(.list (.pair .num (.pair .num (.pair .num .num)))), (.list (.pair .num (.pair .num (.pair (.list .num) (.list .num))))), .num] rfl) (by have := HL.out; first | omega | (simp only [List.length_append] at this ⊢; omega))).mono ?_
  intro e w3 hx
  obtain ⟨rfl, v3, cs3, h2⟩ := H2.out.step HB.out.2.2.1 HB.out.2.2.2 hx
  have H3 := Lib.hid h2
  clear h2 hx
  go_wp2_with fail
  refine (list_pool_rd b (o + 2) T cs3 m2 (m3 ++ (m4 ++ (rest))) w3 cb base v3 HP.out.2.2.1 H3.out.cr H3.out.bk HB.out.1 HB.out.2.1 (Rst.zero H3.out HZ.out (.list (.pair .num (.pair .num (.pair .num .num)))) [(.list (.pair .num (.pair .num (.pair (.list .num) (.list .num))))), .num] rfl) (by have := HL.out; first | omega | (simp only [List.length_append] at this ⊢; omega))).mono ?_
  intro e w4 hx
  obtain ⟨rfl, v4, cs4, h2⟩ := H3.out.step HB.out.2.2.1 HB.out.2.2.2 hx
  have H4 := Lib.hid h2
  clear h2 hx
  go_wp2_with fail
  refine (list_bucket_rd b (o + 3) T cs4 m3 (m4 ++ (rest)) w4 cb base v4 HP.out.2.2.2.1 H4.out.cr H4.out.bk HB.out.1 HB.out.2.1 (Rst.zero H4.out HZ.out (.list (.pair .num (.pair .num (.pair (.list .num) (.list .num))))) [.num] rfl) (by have := HL.out; first | omega | (simp only [List.length_append] at this ⊢; omega))).mono ?_
  intro e w5 hx
  obtain ⟨rfl, v5, cs5, h2⟩ := H4.out.step HB.out.2.2.1 HB.out.2.2.2 hx
  have H5 := Lib.hid h2
  clear h2 hx
  go_wp2_with fail
  refine (number_rd b (o + 4) T cs5 m4 (rest) w5 cb base v5 HP.out.2.2.2.2.1 H5.out.cr H5.out.bk HB.out.1 HB.out.2.1 (Rst.zero H5.out HZ.out .num [] rfl) (by have := HL.out; first | omega | (simp only [List.length_append] at this ⊢; omega))).mono ?_
  intro e w6 hx
  obtain ⟨rfl, v6, cs6, h2⟩ := H5.out.step HB.out.2.2.1 HB.out.2.2.2 hx
  have H6 := Lib.hid h2
  clear h2 hx
  go_wp2_with fail
  go_end0
  exact H6.out.done (by simp) (by simp)
set_option maxRecDepth 100000 in
set_option maxHeartbeats 4000000 in
theorem change_rd : Rds 71 (.pair .num (.pair .num (.pair .num (.pair (.pair .num (.pair .num (.pair .num .num))) (.pair .num (.pair .num (.pair (.list .num) (.list .num)))))))) := by
  intro b o T cs m rest w cb base v hp hc hb hne hle hz hl
  obtain ⟨m0, r0, p0, q0, e0⟩ := hp
  obtain ⟨m1, r1, p1, q1, e1⟩ := q0
  obtain ⟨m2, r2, p2, q2, e2⟩ := q1
  obtain ⟨m3, m4, p3, p4, e3⟩ := q2
  subst e3
  subst e2
  subst e1
  subst e0
  replace hc : Cr w cb base v (m0 ++ (m1 ++ (m2 ++ (m3 ++ (m4 ++ rest))))) := by first | exact hc | simpa only [List.append_assoc] using hc
  have hz' : ∀ k, k < szL [.num, .num, .num, (.pair .num (.pair .num (.pair .num .num))), (.pair .num (.pair .num (.pair (.list .num) (.list .num))))] → cs[o + k]? = (([.num, .num, .num, (.pair .num (.pair .num (.pair .num .num))), (.pair .num (.pair .num (.pair (.list .num) (.list .num))))].map Zc).flatten)[k]? := by rw [← Zc_nest [.num, .num, .num, (.pair .num (.pair .num (.pair .num .num))), (.pair .num (.pair .num (.pair (.list .num) (.list .num))))] (by simp)]; exact hz
  have HL := Lib.hid hl
  have HB := Lib.hid (And.intro hne (And.intro hle (And.intro hc.lt hb.lt)))
  have HZ := Lib.hid hz'
  have HP := Lib.hid (show Par .num m0 ∧ Par .num m1 ∧ Par .num m2 ∧ Par (.pair .num (.pair .num (.pair .num .num))) m3 ∧ Par (.pair .num (.pair .num (.pair (.list .num) (.list .num)))) m4 ∧ True from ⟨p0, p1, p2, p3, p4, trivial⟩)
  have hrd := hc.reads
  have H1 := Lib.hid (Rst.start (o := o) hc hb)
  clear hc hb hne hle hz hz' hl p0 p1 p2 p3 p4
  go_enter Tryz.func71, Tryz.ntmps71
  go_wp2_with fail
  have hzz : ∀ i, i < 3 → cs[o + i]? = some (.int .i64 0) := by
    intro i hi
    have e := HZ.out (0 + i) (by show _ < 11; omega)
    have e2 := H1.out.out (o + (0 + i)) (.inr (by show o + 0 ≤ _; omega))
    have e3 : o + i = o + (0 + i) := by omega
    rw [e3, e2, e]
    rcases (show i = 0 ∨ i = 1 ∨ i = 2 by omega) with rfl | rfl | rfl <;> rfl
  have h8 : ∀ x ∈ [m0, m1, m2], x.length = 8 := by
    intro x hx
    simp only [List.mem_cons, List.not_mem_nil, or_false] at hx
    rcases hx with rfl | rfl | rfl
    · exact HP.out.1
    · exact HP.out.2.1
    · exact HP.out.2.2.1
  have HN := Lib.hid (Rst.nums 3 (by omega) [m0, m1, m2] rfl h8 (rest := m3 ++ (m4 ++ (rest))) (H1.out.recr (by simp only [List.flatten_cons, List.flatten_nil, List.append_assoc, List.nil_append])) HB.out.2.2.1 HB.out.2.2.2 HB.out.1 HB.out.2.1 hzz [(b, o), (b, o + 1), (b, o + 2)] rfl)
  clear hzz h8
  go_region_held3 (fun _ => True) (trivial) ((go_at_call 65; refine HN.out.mono ?_; rintro e w2 ⟨rfl, v2, cs2, h2⟩; (have H2 := Lib.hid h2); clear h2))
  clear HN
  go_wp2_with fail
  refine (pool_rd b (o + 3) T cs2 m3 (m4 ++ (rest)) w2 cb base v2 HP.out.2.2.2.1 H2.out.cr H2.out.bk HB.out.1 HB.out.2.1 (Rst.zero H2.out HZ.out (.pair .num (.pair .num (.pair .num .num))) [(.pair .num (.pair .num (.pair (.list .num) (.list .num))))] rfl) (by have := HL.out; first | omega | (simp only [List.length_append] at this ⊢; omega))).mono ?_
  intro e w3 hx
  obtain ⟨rfl, v3, cs3, h2⟩ := H2.out.step HB.out.2.2.1 HB.out.2.2.2 hx
  have H3 := Lib.hid h2
  clear h2 hx
  go_wp2_with fail
  refine (bucket_rd b (o + 7) T cs3 m4 (rest) w3 cb base v3 HP.out.2.2.2.2.1 H3.out.cr H3.out.bk HB.out.1 HB.out.2.1 (Rst.zero H3.out HZ.out (.pair .num (.pair .num (.pair (.list .num) (.list .num)))) [] rfl) (by have := HL.out; first | omega | (simp only [List.length_append] at this ⊢; omega))).mono ?_
  intro e w4 hx
  obtain ⟨rfl, v4, cs4, h2⟩ := H3.out.step HB.out.2.2.1 HB.out.2.2.2 hx
  have H4 := Lib.hid h2
  clear h2 hx
  go_wp2_with fail
  go_end0
  exact H4.out.done (by simp) (by simp)
set_option maxRecDepth 100000 in
set_option maxHeartbeats 4000000 in
theorem list_change_rd : Rdl 70 71 (.pair .num (.pair .num (.pair .num (.pair (.pair .num (.pair .num (.pair .num .num))) (.pair .num (.pair .num (.pair (.list .num) (.list .num)))))))) := by
  intro b o T cs m rest w cb base v hp hc hb hne hle hz hl
  obtain ⟨ms, rfl, hn4, hps⟩ := id hp
  have ho : cs[o]? = some (.slice none 0 0) := hz 0 (by omega)
  have hr := hc.reads
  rw [List.append_assoc] at hc
  have hfl := flat_pos ms hps
  rw [List.length_append, lowL_length] at hl
  have HT := Lib.hid (count_good ms.length (ms.flatten ++ rest) w hc hn4 (by rw [List.length_append]; omega))
  have HB := Lib.hid (And.intro hne (And.intro hle (And.intro hc.lt hb.lt)))
  have HO := Lib.hid (And.intro hb ho)
  have HP := Lib.hid (And.intro hps hl)
  have hn8 : ms.length ≤ 100000000 := by omega
  clear hp hc hb hne hle hz hl ho hfl hps hn4
  go_enter Tryz.func70, Tryz.ntmps70
  go_wp2_with fail
  refine HT.out.mono ?_
  rintro e w2 ⟨rfl, v2, hm, -, hc2⟩
  have HS0 := Lib.hid (Lr.start (s := (.pair .num (.pair .num (.pair .num (.pair (.pair .num (.pair .num (.pair .num .num))) (.pair .num (.pair .num (.pair (.list .num) (.list .num))))))))) (E := 161) hc2 HO.out.1 hm HB.out.1 HO.out.2)
  clear hm hc2
  go_wp2_with fail
  go_loopw [15] (fun i wr => ∃ j : Nat, j ≤ ms.length ∧ i = .int .i64 (j : Int) ∧ Hid (∃ u xs, Lr (.pair .num (.pair .num (.pair .num (.pair (.pair .num (.pair .num (.pair .num .num))) (.pair .num (.pair .num (.pair (.list .num) (.list .num)))))))) 161 b o T cs ms rest w cb base j j u xs wr)) (fun i _ => ms.length - (intOf i).toNat)
  case atStart => exact ⟨0, Nat.zero_le _, rfl, Lib.hid ⟨_, _, HS0.out⟩⟩
  case round =>
    obtain ⟨j, hj, rfl, HR⟩ := hrel
    by_cases hlt2 : j < ms.length
    · obtain ⟨u, xs, h1⟩ := HR.out
      obtain ⟨A, c, rfl, -, -⟩ := h1.og.len_cap
      have y1 := h1.cell
      have HR1 := Lib.hid h1
      have HJ := Lib.hid (show j + 1 ≤ 100000000 by omega)
      have HJM := Lib.hid hlt2
      have HS := Lib.hid (fun wx (hx : Ab wr wx) => (h1.ab hx).cell)
      have i1 : (0 : Int) ≤ (j : Int) := by omega
      have i2 : (j : Int) < (ms.length : Int) := by omega
      clear h1
      go_wp2_with fail
      have habz : Ab wr (wr.alloc (.cells #[.int .i64 0, .int .i64 0, .int .i64 0, .int .i64 0, .int .i64 0, .int .i64 0, .int .i64 0, .int .i64 0, .int .i64 0, .slice none 0 0, .slice none 0 0] 161)) := (Ab.refl wr).alloc _
      have hbz : Bk (wr.alloc (.cells #[.int .i64 0, .int .i64 0, .int .i64 0, .int .i64 0, .int .i64 0, .int .i64 0, .int .i64 0, .int .i64 0, .int .i64 0, .slice none 0 0, .slice none 0 0] 161)) wr.heap.size 161 #[.int .i64 0, .int .i64 0, .int .i64 0, .int .i64 0, .int .i64 0, .int .i64 0, .int .i64 0, .int .i64 0, .int .i64 0, .slice none 0 0, .slice none 0 0] := Bk.made wr _ _
      obtain ⟨wz, hwz⟩ : ∃ wz, wr.alloc (.cells #[.int .i64 0, .int .i64 0, .int .i64 0, .int .i64 0, .int .i64 0, .int .i64 0, .int .i64 0, .int .i64 0, .int .i64 0, .slice none 0 0, .slice none 0 0] 161) = wz := ⟨_, rfl⟩
      rw [hwz] at habz hbz ⊢
      have HRz := Lib.hid (HR1.out.ab habz)
      have yz := HRz.out.cell
      have yz2 : (wz.alloc (.cells #[.int .i64 0, .int .i64 0, .int .i64 0, .int .i64 0, .int .i64 0, .int .i64 0, .int .i64 0, .int .i64 0, .int .i64 0, .slice none 0 0, .slice none 0 0] 161)).cell? ⟨b, o, none⟩ = some (.slice A j c) := (HRz.out.ab ((Ab.refl wz).alloc _)).cell
      have zz0 : wz.cell? ⟨wr.heap.size, 0, none⟩ = some (.int .i64 0) := hbz.cell rfl
      have zz1 : wz.cell? ⟨wr.heap.size, 1, none⟩ = some (.int .i64 0) := hbz.cell rfl
      have zz2 : wz.cell? ⟨wr.heap.size, 2, none⟩ = some (.int .i64 0) := hbz.cell rfl
      have zz3 : wz.cell? ⟨wr.heap.size, 3, none⟩ = some (.int .i64 0) := hbz.cell rfl
      have zz4 : wz.cell? ⟨wr.heap.size, 4, none⟩ = some (.int .i64 0) := hbz.cell rfl
      have zz5 : wz.cell? ⟨wr.heap.size, 5, none⟩ = some (.int .i64 0) := hbz.cell rfl
      have zz6 : wz.cell? ⟨wr.heap.size, 6, none⟩ = some (.int .i64 0) := hbz.cell rfl
      have zz7 : wz.cell? ⟨wr.heap.size, 7, none⟩ = some (.int .i64 0) := hbz.cell rfl
      have zz8 : wz.cell? ⟨wr.heap.size, 8, none⟩ = some (.int .i64 0) := hbz.cell rfl
      have zz9 : wz.cell? ⟨wr.heap.size, 9, none⟩ = some (.slice none 0 0) := hbz.cell rfl
      have zz10 : wz.cell? ⟨wr.heap.size, 10, none⟩ = some (.slice none 0 0) := hbz.cell rfl
      clear hwz habz hbz
      go_region_law ((refine lay_rd (by rfl) _ _ (by rfl) _ _ (by rfl) (by rfl) Tryz.underlying28 (show (Tryz.prog.info? 161).map (fun i => (i.zero, i.size, i.bytes)) = some (some (.agg #[.int .i64 0, .int .i64 0, .int .i64 0, .int .i64 0, .int .i64 0, .int .i64 0, .int .i64 0, .int .i64 0, .int .i64 0, .slice none 0 0, .slice none 0 0]), 11, 120) by kernel_rfl) (by rfl) w.heap.size j xs 1 (Zc (.pair .num (.pair .num (.pair .num (.pair (.pair .num (.pair .num (.pair .num .num))) (.pair .num (.pair .num (.pair (.list .num) (.list .num))))))))) (HRz.out.ab (by repeat (first | with_reducible exact Ab.refl _ | with_reducible assumption | with_reducible refine Ab.drew ?_ | with_reducible refine Ab.alloc ?_ _))).og (src_row Tryz.underlying28 rfl (Zc_one _) (by repeat (first | with_reducible assumption | with_reducible exact Bk.made _ _ _ | exact Bk.new (by first | (with_reducible rfl) | (simp; done)) | with_reducible refine Bk.drew ?_ | with_reducible refine Bk.alloc ?_ _))) ⟨by have := HJ.out; omega, by omega⟩ (by first | exact Nat.le_trans HRz.out.mv.size (Ab.size (by repeat (first | with_reducible exact Ab.refl _ | with_reducible assumption | with_reducible refine Ab.drew ?_ | with_reducible refine Ab.alloc ?_ _))) | (have := HRz.out.mv.size; simp; omega)) ?_; intro A5 c5 w5 ho5 hg5 hn5; (have y5 := (Lr.grown (HRz.out.ab (by repeat (first | with_reducible exact Ab.refl _ | with_reducible assumption | with_reducible refine Ab.drew ?_ | with_reducible refine Ab.alloc ?_ _))) HB.out.2.2.2 hg5).1); (have z5 := (Lr.grown (HRz.out.ab (by repeat (first | with_reducible exact Ab.refl _ | with_reducible assumption | with_reducible refine Ab.drew ?_ | with_reducible refine Ab.alloc ?_ _))) HB.out.2.2.2 hg5).2); (have H5 := Lib.hid (Lr.app (HRz.out.ab (by repeat (first | with_reducible exact Ab.refl _ | with_reducible assumption | with_reducible refine Ab.drew ?_ | with_reducible refine Ab.alloc ?_ _))) HB.out.2.2.1 HB.out.2.2.2 HB.out.1 HB.out.2.1 ho5 hg5 hn5)); clear ho5 hg5 hn5))
      all_goals
        obtain ⟨g, off, cs', rfl, hcap, hcap2, hbk, hge, hzz⟩ := Lr.next H5.out HR1.out.og.1
        have yl := H5.out.cell
        obtain ⟨v4, hc4⟩ := H5.out.cr' HJM.out
        obtain ⟨w6, hw6⟩ : ∃ w6, w5.setCell ⟨b, o, none⟩ (.slice (some ⟨g, off, none⟩) (j + 1) c5) = w6 := ⟨_, rfl⟩
        rw [hw6] at H5 hbk yl hc4 ⊢
        have HN := Lib.hid (change_rd g (off + j * 11) 161 cs' (ms.getD j []) ((ms.drop (j + 1)).flatten ++ rest) w6 cb base v4 (HP.out.1 _ (getD_mem HJM.out)) hc4 hbk (by have := HB.out.2.2.1; omega) (by have := HB.out.2.1; have := HB.out.2.2.2; omega) hzz (by have := mem_flat_len (getD_mem HJM.out); have := HP.out.2; omega))
        have HI := Lib.hid (fun e w3 (hp : RdPost (.pair .num (.pair .num (.pair .num (.pair (.pair .num (.pair .num (.pair .num .num))) (.pair .num (.pair .num (.pair (.list .num) (.list .num)))))))) g (off + j * 11) 161 cs' (ms.getD j []) ((ms.drop (j + 1)).flatten ++ rest) w6 cb base e w3) => Lr.item (e := e) (w3 := w3) H5.out HR1.out.og.1 HB.out.2.2.1 HB.out.2.2.2 HB.out.1 hbk HJM.out hp)
        generalize hj1 : j + 1 = j1 at yl hcap ⊢
        have i3 : (j : Int) < (j1 : Int) := by omega
        clear hj1 hw6
        clear hbk hge hzz hc4 y1 y5 z5
        go_wp2_with fail
        refine HN.out.mono ?_
        intro e w7 hx
        obtain ⟨rfl, ys, h7, -⟩ := HI.out e w7 hx
        have H7 := Lib.hid h7
        clear h7 hx
        go_wp2_with fail
        go_roundw
        case rel => exact ⟨j + 1, HJM.out, by go_num, Lib.hid ⟨_, _, H7.out⟩⟩
        case measure => have := HJM.out; simp [intOf]; omega
    · go_wp2_with fail
      go_end0
      obtain rfl : j = ms.length := by omega
      obtain ⟨u, xs, h1⟩ := HR.out
      obtain ⟨A, c, rfl, -, -⟩ := h1.og.len_cap
      exact h1.done rfl
set_option maxRecDepth 100000 in
set_option maxHeartbeats 4000000 in
theorem inc_rd : Rds 40 (.pair .num (.list (.pair .num (.pair .num (.pair .num (.pair (.pair .num (.pair .num (.pair .num .num))) (.pair .num (.pair .num (.pair (.list .num) (.list .num)))))))))) := by
  intro b o T cs m rest w cb base v hp hc hb hne hle hz hl
  obtain ⟨m0, m1, p0, p1, e0⟩ := hp
  subst e0
  replace hc : Cr w cb base v (m0 ++ (m1 ++ rest)) := by first | exact hc | simpa only [List.append_assoc] using hc
  have hz' : ∀ k, k < szL [.num, (.list (.pair .num (.pair .num (.pair .num (.pair (.pair .num (.pair .num (.pair .num .num))) (.pair .num (.pair .num (.pair (.list .num) (.list .num)))))))))] → cs[o + k]? = (([.num, (.list (.pair .num (.pair .num (.pair .num (.pair (.pair .num (.pair .num (.pair .num .num))) (.pair .num (.pair .num (.pair (.list .num) (.list .num)))))))))].map Zc).flatten)[k]? := by rw [← Zc_nest [.num, (.list (.pair .num (.pair .num (.pair .num (.pair (.pair .num (.pair .num (.pair .num .num))) (.pair .num (.pair .num (.pair (.list .num) (.list .num)))))))))] (by simp)]; exact hz
  have HL := Lib.hid hl
  have HB := Lib.hid (And.intro hne (And.intro hle (And.intro hc.lt hb.lt)))
  have HZ := Lib.hid hz'
  have HP := Lib.hid (show Par .num m0 ∧ Par (.list (.pair .num (.pair .num (.pair .num (.pair (.pair .num (.pair .num (.pair .num .num))) (.pair .num (.pair .num (.pair (.list .num) (.list .num))))))))) m1 ∧ True from ⟨p0, p1, trivial⟩)
  have hrd := hc.reads
  have H1 := Lib.hid (Rst.start (o := o) hc hb)
  clear hc hb hne hle hz hz' hl p0 p1
  go_enter Tryz.func40, Tryz.ntmps40
  go_wp2_with fail
  refine (number_rd b (o) T cs m0 (m1 ++ (rest)) w cb base v HP.out.1 H1.out.cr H1.out.bk HB.out.1 HB.out.2.1 (Rst.zero H1.out HZ.out .num [(.list (.pair .num (.pair .num (.pair .num (.pair (.pair .num (.pair .num (.pair .num .num))) (.pair .num (.pair .num (.pair (.list .num) (.list .num)))))))))] rfl) (by have := HL.out; first | omega | (simp only [List.length_append] at this ⊢; omega))).mono ?_
  intro e w2 hx
  obtain ⟨rfl, v2, cs2, h2⟩ := H1.out.step HB.out.2.2.1 HB.out.2.2.2 hx
  have H2 := Lib.hid h2
  clear h2 hx
  go_wp2_with fail
  refine (list_change_rd b (o + 1) T cs2 m1 (rest) w2 cb base v2 HP.out.2.1 H2.out.cr H2.out.bk HB.out.1 HB.out.2.1 (Rst.zero H2.out HZ.out (.list (.pair .num (.pair .num (.pair .num (.pair (.pair .num (.pair .num (.pair .num .num))) (.pair .num (.pair .num (.pair (.list .num) (.list .num))))))))) [] rfl) (by have := HL.out; first | omega | (simp only [List.length_append] at this ⊢; omega))).mono ?_
  intro e w3 hx
  obtain ⟨rfl, v3, cs3, h2⟩ := H2.out.step HB.out.2.2.1 HB.out.2.2.2 hx
  have H3 := Lib.hid h2
  clear h2 hx
  go_wp2_with fail
  go_end0
  exact H3.out.done (by simp) (by simp)
set_option maxRecDepth 100000 in
set_option maxHeartbeats 4000000 in
theorem entry_rd : Rds 73 (.pair (.pair .num .num) (.pair .bool (.pair .num (.pair .text (.pair .num .num))))) := by
  intro b o T cs m rest w cb base v hp hc hb hne hle hz hl
  obtain ⟨m0, r0, p0, q0, e0⟩ := hp
  obtain ⟨m1, r1, p1, q1, e1⟩ := q0
  obtain ⟨m2, r2, p2, q2, e2⟩ := q1
  obtain ⟨m3, r3, p3, q3, e3⟩ := q2
  obtain ⟨m4, m5, p4, p5, e4⟩ := q3
  subst e4
  subst e3
  subst e2
  subst e1
  subst e0
  replace hc : Cr w cb base v (m0 ++ (m1 ++ (m2 ++ (m3 ++ (m4 ++ (m5 ++ rest)))))) := by first | exact hc | simpa only [List.append_assoc] using hc
  have hz' : ∀ k, k < szL [(.pair .num .num), .bool, .num, .text, .num, .num] → cs[o + k]? = (([(.pair .num .num), .bool, .num, .text, .num, .num].map Zc).flatten)[k]? := by rw [← Zc_nest [(.pair .num .num), .bool, .num, .text, .num, .num] (by simp)]; exact hz
  have HL := Lib.hid hl
  have HB := Lib.hid (And.intro hne (And.intro hle (And.intro hc.lt hb.lt)))
  have HZ := Lib.hid hz'
  have HP := Lib.hid (show Par (.pair .num .num) m0 ∧ Par .bool m1 ∧ Par .num m2 ∧ Par .text m3 ∧ Par .num m4 ∧ Par .num m5 ∧ True from ⟨p0, p1, p2, p3, p4, p5, trivial⟩)
  have hrd := hc.reads
  have H1 := Lib.hid (Rst.start (o := o) hc hb)
  clear hc hb hne hle hz hz' hl p0 p1 p2 p3 p4 p5
  go_enter Tryz.func73, Tryz.ntmps73
  go_wp2_with fail
  refine (version_rd b (o) T cs m0 (m1 ++ (m2 ++ (m3 ++ (m4 ++ (m5 ++ (rest)))))) w cb base v HP.out.1 H1.out.cr H1.out.bk HB.out.1 HB.out.2.1 (Rst.zero H1.out HZ.out (.pair .num .num) [.bool, .num, .text, .num, .num] rfl) (by have := HL.out; first | omega | (simp only [List.length_append] at this ⊢; omega))).mono ?_
  intro e w2 hx
  obtain ⟨rfl, v2, cs2, h2⟩ := H1.out.step HB.out.2.2.1 HB.out.2.2.2 hx
  have H2 := Lib.hid h2
  clear h2 hx
  go_wp2_with fail
  refine (truth_rd b (o + 2) T cs2 m1 (m2 ++ (m3 ++ (m4 ++ (m5 ++ (rest))))) w2 cb base v2 HP.out.2.1 H2.out.cr H2.out.bk HB.out.1 HB.out.2.1 (Rst.zero H2.out HZ.out .bool [.num, .text, .num, .num] rfl) (by have := HL.out; first | omega | (simp only [List.length_append] at this ⊢; omega))).mono ?_
  intro e w3 hx
  obtain ⟨rfl, v3, cs3, h2⟩ := H2.out.step HB.out.2.2.1 HB.out.2.2.2 hx
  have H3 := Lib.hid h2
  clear h2 hx
  go_wp2_with fail
  refine (errno_rd b (o + 3) T cs3 m2 (m3 ++ (m4 ++ (m5 ++ (rest)))) w3 cb base v3 HP.out.2.2.1 H3.out.cr H3.out.bk HB.out.1 HB.out.2.1 (Rst.zero H3.out HZ.out .num [.text, .num, .num] rfl) (by have := HL.out; first | omega | (simp only [List.length_append] at this ⊢; omega))).mono ?_
  intro e w4 hx
  obtain ⟨rfl, v4, cs4, h2⟩ := H3.out.step HB.out.2.2.1 HB.out.2.2.2 hx
  have H4 := Lib.hid h2
  clear h2 hx
  go_wp2_with fail
  refine (text_rd b (o + 4) T cs4 m3 (m4 ++ (m5 ++ (rest))) w4 cb base v4 HP.out.2.2.2.1 H4.out.cr H4.out.bk HB.out.1 HB.out.2.1 (Rst.zero H4.out HZ.out .text [.num, .num] rfl) (by have := HL.out; first | omega | (simp only [List.length_append] at this ⊢; omega))).mono ?_
  intro e w5 hx
  obtain ⟨rfl, v5, cs5, h2⟩ := H4.out.step HB.out.2.2.1 HB.out.2.2.2 hx
  have H5 := Lib.hid h2
  clear h2 hx
  go_wp2_with fail
  have hzz : ∀ i, i < 2 → cs5[o + 5 + i]? = some (.int .i64 0) := by
    intro i hi
    have e := HZ.out (5 + i) (by show _ < 7; omega)
    have e2 := H5.out.out (o + (5 + i)) (.inr (by show o + 5 ≤ _; omega))
    have e3 : o + 5 + i = o + (5 + i) := by omega
    rw [e3, e2, e]
    rcases (show i = 0 ∨ i = 1 by omega) with rfl | rfl <;> rfl
  have h8 : ∀ x ∈ [m4, m5], x.length = 8 := by
    intro x hx
    simp only [List.mem_cons, List.not_mem_nil, or_false] at hx
    rcases hx with rfl | rfl
    · exact HP.out.2.2.2.2.1
    · exact HP.out.2.2.2.2.2.1
  have HN := Lib.hid (Rst.nums 2 (by omega) [m4, m5] rfl h8 (rest := rest) (H5.out.recr (by simp only [List.flatten_cons, List.flatten_nil, List.append_assoc, List.nil_append])) HB.out.2.2.1 HB.out.2.2.2 HB.out.1 HB.out.2.1 hzz [(b, o + 5), (b, o + 6)] rfl)
  clear hzz h8
  go_region_held3 (fun _ => True) (trivial) ((go_at_call 65; refine HN.out.mono ?_; rintro e w6 ⟨rfl, v6, cs6, h2⟩; (have H6 := Lib.hid h2); clear h2))
  clear HN
  go_wp2_with fail
  go_end0
  exact H6.out.done (by simp) (by simp)
set_option maxRecDepth 100000 in
set_option maxHeartbeats 4000000 in
theorem last_rd : Rds 124 (.pair .num (.pair .num (.pair .num (.pair .num .num)))) := by
  intro b o T cs m rest w cb base v hp hc hb hne hle hz hl
  obtain ⟨m0, r0, p0, q0, e0⟩ := hp
  obtain ⟨m1, r1, p1, q1, e1⟩ := q0
  obtain ⟨m2, m3, p2, p3, e2⟩ := q1
  subst e2
  subst e1
  subst e0
  replace hc : Cr w cb base v (m0 ++ (m1 ++ (m2 ++ (m3 ++ rest)))) := by first | exact hc | simpa only [List.append_assoc] using hc
  have hz' : ∀ k, k < szL [.num, .num, .num, (.pair .num .num)] → cs[o + k]? = (([.num, .num, .num, (.pair .num .num)].map Zc).flatten)[k]? := by rw [← Zc_nest [.num, .num, .num, (.pair .num .num)] (by simp)]; exact hz
  have HL := Lib.hid hl
  have HB := Lib.hid (And.intro hne (And.intro hle (And.intro hc.lt hb.lt)))
  have HZ := Lib.hid hz'
  have HP := Lib.hid (show Par .num m0 ∧ Par .num m1 ∧ Par .num m2 ∧ Par (.pair .num .num) m3 ∧ True from ⟨p0, p1, p2, p3, trivial⟩)
  have hrd := hc.reads
  have H1 := Lib.hid (Rst.start (o := o) hc hb)
  clear hc hb hne hle hz hz' hl p0 p1 p2 p3
  go_enter Tryz.func124, Tryz.ntmps124
  go_wp2_with fail
  have hzz : ∀ i, i < 2 → cs[o + i]? = some (.int .i64 0) := by
    intro i hi
    have e := HZ.out (0 + i) (by show _ < 5; omega)
    have e2 := H1.out.out (o + (0 + i)) (.inr (by show o + 0 ≤ _; omega))
    have e3 : o + i = o + (0 + i) := by omega
    rw [e3, e2, e]
    rcases (show i = 0 ∨ i = 1 by omega) with rfl | rfl <;> rfl
  have h8 : ∀ x ∈ [m0, m1], x.length = 8 := by
    intro x hx
    simp only [List.mem_cons, List.not_mem_nil, or_false] at hx
    rcases hx with rfl | rfl
    · exact HP.out.1
    · exact HP.out.2.1
  have HN := Lib.hid (Rst.nums 2 (by omega) [m0, m1] rfl h8 (rest := m2 ++ (m3 ++ (rest))) (H1.out.recr (by simp only [List.flatten_cons, List.flatten_nil, List.append_assoc, List.nil_append])) HB.out.2.2.1 HB.out.2.2.2 HB.out.1 HB.out.2.1 hzz [(b, o), (b, o + 1)] rfl)
  clear hzz h8
  go_region_held3 (fun _ => True) (trivial) ((go_at_call 65; refine HN.out.mono ?_; rintro e w2 ⟨rfl, v2, cs2, h2⟩; (have H2 := Lib.hid h2); clear h2))
  clear HN
  go_wp2_with fail
  refine (errno_rd b (o + 2) T cs2 m2 (m3 ++ (rest)) w2 cb base v2 HP.out.2.2.1 H2.out.cr H2.out.bk HB.out.1 HB.out.2.1 (Rst.zero H2.out HZ.out .num [(.pair .num .num)] rfl) (by have := HL.out; first | omega | (simp only [List.length_append] at this ⊢; omega))).mono ?_
  intro e w3 hx
  obtain ⟨rfl, v3, cs3, h2⟩ := H2.out.step HB.out.2.2.1 HB.out.2.2.2 hx
  have H3 := Lib.hid h2
  clear h2 hx
  go_wp2_with fail
  refine (version_rd b (o + 3) T cs3 m3 (rest) w3 cb base v3 HP.out.2.2.2.1 H3.out.cr H3.out.bk HB.out.1 HB.out.2.1 (Rst.zero H3.out HZ.out (.pair .num .num) [] rfl) (by have := HL.out; first | omega | (simp only [List.length_append] at this ⊢; omega))).mono ?_
  intro e w4 hx
  obtain ⟨rfl, v4, cs4, h2⟩ := H3.out.step HB.out.2.2.1 HB.out.2.2.2 hx
  have H4 := Lib.hid h2
  clear h2 hx
  go_wp2_with fail
  go_end0
  exact H4.out.done (by simp) (by simp)
set_option maxRecDepth 100000 in
set_option maxHeartbeats 4000000 in
theorem item_rd : Rds 77 (.pair .text (.pair (.pair .num .num) .word)) := by
  intro b o T cs m rest w cb base v hp hc hb hne hle hz hl
  obtain ⟨m0, r0, p0, q0, e0⟩ := hp
  obtain ⟨m1, m2, p1, p2, e1⟩ := q0
  subst e1
  subst e0
  replace hc : Cr w cb base v (m0 ++ (m1 ++ (m2 ++ rest))) := by first | exact hc | simpa only [List.append_assoc] using hc
  have hz' : ∀ k, k < szL [.text, (.pair .num .num), .word] → cs[o + k]? = (([.text, (.pair .num .num), .word].map Zc).flatten)[k]? := by rw [← Zc_nest [.text, (.pair .num .num), .word] (by simp)]; exact hz
  have HL := Lib.hid hl
  have HB := Lib.hid (And.intro hne (And.intro hle (And.intro hc.lt hb.lt)))
  have HZ := Lib.hid hz'
  have HP := Lib.hid (show Par .text m0 ∧ Par (.pair .num .num) m1 ∧ Par .word m2 ∧ True from ⟨p0, p1, p2, trivial⟩)
  have hrd := hc.reads
  have H1 := Lib.hid (Rst.start (o := o) hc hb)
  clear hc hb hne hle hz hz' hl p0 p1 p2
  go_enter Tryz.func77, Tryz.ntmps77
  go_wp2_with fail
  refine (text_rd b (o) T cs m0 (m1 ++ (m2 ++ (rest))) w cb base v HP.out.1 H1.out.cr H1.out.bk HB.out.1 HB.out.2.1 (Rst.zero H1.out HZ.out .text [(.pair .num .num), .word] rfl) (by have := HL.out; first | omega | (simp only [List.length_append] at this ⊢; omega))).mono ?_
  intro e w2 hx
  obtain ⟨rfl, v2, cs2, h2⟩ := H1.out.step HB.out.2.2.1 HB.out.2.2.2 hx
  have H2 := Lib.hid h2
  clear h2 hx
  go_wp2_with fail
  refine (version_rd b (o + 1) T cs2 m1 (m2 ++ (rest)) w2 cb base v2 HP.out.2.1 H2.out.cr H2.out.bk HB.out.1 HB.out.2.1 (Rst.zero H2.out HZ.out (.pair .num .num) [.word] rfl) (by have := HL.out; first | omega | (simp only [List.length_append] at this ⊢; omega))).mono ?_
  intro e w3 hx
  obtain ⟨rfl, v3, cs3, h2⟩ := H2.out.step HB.out.2.2.1 HB.out.2.2.2 hx
  have H3 := Lib.hid h2
  clear h2 hx
  go_wp2_with fail
  refine (word_rd b (o + 3) T cs3 m2 (rest) w3 cb base v3 HP.out.2.2.1 H3.out.cr H3.out.bk HB.out.1 HB.out.2.1 (Rst.zero H3.out HZ.out .word [] rfl) (by have := HL.out; first | omega | (simp only [List.length_append] at this ⊢; omega))).mono ?_
  intro e w4 hx
  obtain ⟨rfl, v4, cs4, h2⟩ := H3.out.step HB.out.2.2.1 HB.out.2.2.2 hx
  have H4 := Lib.hid h2
  clear h2 hx
  go_wp2_with fail
  go_end0
  exact H4.out.done (by simp) (by simp)
set_option maxRecDepth 100000 in
set_option maxHeartbeats 4000000 in
theorem list_entry_rd : Rdl 122 73 (.pair (.pair .num .num) (.pair .bool (.pair .num (.pair .text (.pair .num .num))))) := by
  intro b o T cs m rest w cb base v hp hc hb hne hle hz hl
  obtain ⟨ms, rfl, hn4, hps⟩ := id hp
  have ho : cs[o]? = some (.slice none 0 0) := hz 0 (by omega)
  have hr := hc.reads
  rw [List.append_assoc] at hc
  have hfl := flat_pos ms hps
  rw [List.length_append, lowL_length] at hl
  have HT := Lib.hid (count_good ms.length (ms.flatten ++ rest) w hc hn4 (by rw [List.length_append]; omega))
  have HB := Lib.hid (And.intro hne (And.intro hle (And.intro hc.lt hb.lt)))
  have HO := Lib.hid (And.intro hb ho)
  have HP := Lib.hid (And.intro hps hl)
  have hn8 : ms.length ≤ 100000000 := by omega
  clear hp hc hb hne hle hz hl ho hfl hps hn4
  go_enter Tryz.func122, Tryz.ntmps122
  go_wp2_with fail
  refine HT.out.mono ?_
  rintro e w2 ⟨rfl, v2, hm, -, hc2⟩
  have HS0 := Lib.hid (Lr.start (s := (.pair (.pair .num .num) (.pair .bool (.pair .num (.pair .text (.pair .num .num)))))) (E := 40) hc2 HO.out.1 hm HB.out.1 HO.out.2)
  clear hm hc2
  go_wp2_with fail
  go_loopw [15] (fun i wr => ∃ j : Nat, j ≤ ms.length ∧ i = .int .i64 (j : Int) ∧ Hid (∃ u xs, Lr (.pair (.pair .num .num) (.pair .bool (.pair .num (.pair .text (.pair .num .num))))) 40 b o T cs ms rest w cb base j j u xs wr)) (fun i _ => ms.length - (intOf i).toNat)
  case atStart => exact ⟨0, Nat.zero_le _, rfl, Lib.hid ⟨_, _, HS0.out⟩⟩
  case round =>
    obtain ⟨j, hj, rfl, HR⟩ := hrel
    by_cases hlt2 : j < ms.length
    · obtain ⟨u, xs, h1⟩ := HR.out
      obtain ⟨A, c, rfl, -, -⟩ := h1.og.len_cap
      have y1 := h1.cell
      have HR1 := Lib.hid h1
      have HJ := Lib.hid (show j + 1 ≤ 100000000 by omega)
      have HJM := Lib.hid hlt2
      have HS := Lib.hid (fun wx (hx : Ab wr wx) => (h1.ab hx).cell)
      have i1 : (0 : Int) ≤ (j : Int) := by omega
      have i2 : (j : Int) < (ms.length : Int) := by omega
      clear h1
      go_wp2_with fail
      have habz : Ab wr (wr.alloc (.cells #[.int .i64 0, .int .i64 0, .bool false, .int .i64 0, .string ⟨#[]⟩, .int .i64 0, .int .i64 0] 40)) := (Ab.refl wr).alloc _
      have hbz : Bk (wr.alloc (.cells #[.int .i64 0, .int .i64 0, .bool false, .int .i64 0, .string ⟨#[]⟩, .int .i64 0, .int .i64 0] 40)) wr.heap.size 40 #[.int .i64 0, .int .i64 0, .bool false, .int .i64 0, .string ⟨#[]⟩, .int .i64 0, .int .i64 0] := Bk.made wr _ _
      obtain ⟨wz, hwz⟩ : ∃ wz, wr.alloc (.cells #[.int .i64 0, .int .i64 0, .bool false, .int .i64 0, .string ⟨#[]⟩, .int .i64 0, .int .i64 0] 40) = wz := ⟨_, rfl⟩
      rw [hwz] at habz hbz ⊢
      have HRz := Lib.hid (HR1.out.ab habz)
      have yz := HRz.out.cell
      have yz2 : (wz.alloc (.cells #[.int .i64 0, .int .i64 0, .bool false, .int .i64 0, .string ⟨#[]⟩, .int .i64 0, .int .i64 0] 40)).cell? ⟨b, o, none⟩ = some (.slice A j c) := (HRz.out.ab ((Ab.refl wz).alloc _)).cell
      have zz0 : wz.cell? ⟨wr.heap.size, 0, none⟩ = some (.int .i64 0) := hbz.cell rfl
      have zz1 : wz.cell? ⟨wr.heap.size, 1, none⟩ = some (.int .i64 0) := hbz.cell rfl
      have zz2 : wz.cell? ⟨wr.heap.size, 2, none⟩ = some (.bool false) := hbz.cell rfl
      have zz3 : wz.cell? ⟨wr.heap.size, 3, none⟩ = some (.int .i64 0) := hbz.cell rfl
      have zz4 : wz.cell? ⟨wr.heap.size, 4, none⟩ = some (.string ⟨#[]⟩) := hbz.cell rfl
      have zz5 : wz.cell? ⟨wr.heap.size, 5, none⟩ = some (.int .i64 0) := hbz.cell rfl
      have zz6 : wz.cell? ⟨wr.heap.size, 6, none⟩ = some (.int .i64 0) := hbz.cell rfl
      clear hwz habz hbz
      go_region_law ((refine lay_rd (by rfl) _ _ (by rfl) _ _ (by rfl) (by rfl) Tryz.underlying33 (show (Tryz.prog.info? 40).map (fun i => (i.zero, i.size, i.bytes)) = some (some (.agg #[.int .i64 0, .int .i64 0, .bool false, .int .i64 0, .string ⟨#[]⟩, .int .i64 0, .int .i64 0]), 7, 64) by kernel_rfl) (by rfl) w.heap.size j xs 1 (Zc (.pair (.pair .num .num) (.pair .bool (.pair .num (.pair .text (.pair .num .num)))))) (HRz.out.ab (by repeat (first | with_reducible exact Ab.refl _ | with_reducible assumption | with_reducible refine Ab.drew ?_ | with_reducible refine Ab.alloc ?_ _))).og (src_row Tryz.underlying33 rfl (Zc_one _) (by repeat (first | with_reducible assumption | with_reducible exact Bk.made _ _ _ | exact Bk.new (by first | (with_reducible rfl) | (simp; done)) | with_reducible refine Bk.drew ?_ | with_reducible refine Bk.alloc ?_ _))) ⟨by have := HJ.out; omega, by omega⟩ (by first | exact Nat.le_trans HRz.out.mv.size (Ab.size (by repeat (first | with_reducible exact Ab.refl _ | with_reducible assumption | with_reducible refine Ab.drew ?_ | with_reducible refine Ab.alloc ?_ _))) | (have := HRz.out.mv.size; simp; omega)) ?_; intro A5 c5 w5 ho5 hg5 hn5; (have y5 := (Lr.grown (HRz.out.ab (by repeat (first | with_reducible exact Ab.refl _ | with_reducible assumption | with_reducible refine Ab.drew ?_ | with_reducible refine Ab.alloc ?_ _))) HB.out.2.2.2 hg5).1); (have z5 := (Lr.grown (HRz.out.ab (by repeat (first | with_reducible exact Ab.refl _ | with_reducible assumption | with_reducible refine Ab.drew ?_ | with_reducible refine Ab.alloc ?_ _))) HB.out.2.2.2 hg5).2); (have H5 := Lib.hid (Lr.app (HRz.out.ab (by repeat (first | with_reducible exact Ab.refl _ | with_reducible assumption | with_reducible refine Ab.drew ?_ | with_reducible refine Ab.alloc ?_ _))) HB.out.2.2.1 HB.out.2.2.2 HB.out.1 HB.out.2.1 ho5 hg5 hn5)); clear ho5 hg5 hn5))
      all_goals
        obtain ⟨g, off, cs', rfl, hcap, hcap2, hbk, hge, hzz⟩ := Lr.next H5.out HR1.out.og.1
        have yl := H5.out.cell
        obtain ⟨v4, hc4⟩ := H5.out.cr' HJM.out
        obtain ⟨w6, hw6⟩ : ∃ w6, w5.setCell ⟨b, o, none⟩ (.slice (some ⟨g, off, none⟩) (j + 1) c5) = w6 := ⟨_, rfl⟩
        rw [hw6] at H5 hbk yl hc4 ⊢
        have HN := Lib.hid (entry_rd g (off + j * 7) 40 cs' (ms.getD j []) ((ms.drop (j + 1)).flatten ++ rest) w6 cb base v4 (HP.out.1 _ (getD_mem HJM.out)) hc4 hbk (by have := HB.out.2.2.1; omega) (by have := HB.out.2.1; have := HB.out.2.2.2; omega) hzz (by have := mem_flat_len (getD_mem HJM.out); have := HP.out.2; omega))
        have HI := Lib.hid (fun e w3 (hp : RdPost (.pair (.pair .num .num) (.pair .bool (.pair .num (.pair .text (.pair .num .num))))) g (off + j * 7) 40 cs' (ms.getD j []) ((ms.drop (j + 1)).flatten ++ rest) w6 cb base e w3) => Lr.item (e := e) (w3 := w3) H5.out HR1.out.og.1 HB.out.2.2.1 HB.out.2.2.2 HB.out.1 hbk HJM.out hp)
        generalize hj1 : j + 1 = j1 at yl hcap ⊢
        have i3 : (j : Int) < (j1 : Int) := by omega
        clear hj1 hw6
        clear hbk hge hzz hc4 y1 y5 z5
        go_wp2_with fail
        refine HN.out.mono ?_
        intro e w7 hx
        obtain ⟨rfl, ys, h7, -⟩ := HI.out e w7 hx
        have H7 := Lib.hid h7
        clear h7 hx
        go_wp2_with fail
        go_roundw
        case rel => exact ⟨j + 1, HJM.out, by go_num, Lib.hid ⟨_, _, H7.out⟩⟩
        case measure => have := HJM.out; simp [intOf]; omega
    · go_wp2_with fail
      go_end0
      obtain rfl : j = ms.length := by omega
      obtain ⟨u, xs, h1⟩ := HR.out
      obtain ⟨A, c, rfl, -, -⟩ := h1.og.len_cap
      exact h1.done rfl
set_option maxRecDepth 100000 in
set_option maxHeartbeats 4000000 in
theorem list_last_rd : Rdl 123 124 (.pair .num (.pair .num (.pair .num (.pair .num .num)))) := by
  intro b o T cs m rest w cb base v hp hc hb hne hle hz hl
  obtain ⟨ms, rfl, hn4, hps⟩ := id hp
  have ho : cs[o]? = some (.slice none 0 0) := hz 0 (by omega)
  have hr := hc.reads
  rw [List.append_assoc] at hc
  have hfl := flat_pos ms hps
  rw [List.length_append, lowL_length] at hl
  have HT := Lib.hid (count_good ms.length (ms.flatten ++ rest) w hc hn4 (by rw [List.length_append]; omega))
  have HB := Lib.hid (And.intro hne (And.intro hle (And.intro hc.lt hb.lt)))
  have HO := Lib.hid (And.intro hb ho)
  have HP := Lib.hid (And.intro hps hl)
  have hn8 : ms.length ≤ 100000000 := by omega
  clear hp hc hb hne hle hz hl ho hfl hps hn4
  go_enter Tryz.func123, Tryz.ntmps123
  go_wp2_with fail
  refine HT.out.mono ?_
  rintro e w2 ⟨rfl, v2, hm, -, hc2⟩
  have HS0 := Lib.hid (Lr.start (s := (.pair .num (.pair .num (.pair .num (.pair .num .num))))) (E := 241) hc2 HO.out.1 hm HB.out.1 HO.out.2)
  clear hm hc2
  go_wp2_with fail
  go_loopw [15] (fun i wr => ∃ j : Nat, j ≤ ms.length ∧ i = .int .i64 (j : Int) ∧ Hid (∃ u xs, Lr (.pair .num (.pair .num (.pair .num (.pair .num .num)))) 241 b o T cs ms rest w cb base j j u xs wr)) (fun i _ => ms.length - (intOf i).toNat)
  case atStart => exact ⟨0, Nat.zero_le _, rfl, Lib.hid ⟨_, _, HS0.out⟩⟩
  case round =>
    obtain ⟨j, hj, rfl, HR⟩ := hrel
    by_cases hlt2 : j < ms.length
    · obtain ⟨u, xs, h1⟩ := HR.out
      obtain ⟨A, c, rfl, -, -⟩ := h1.og.len_cap
      have y1 := h1.cell
      have HR1 := Lib.hid h1
      have HJ := Lib.hid (show j + 1 ≤ 100000000 by omega)
      have HJM := Lib.hid hlt2
      have HS := Lib.hid (fun wx (hx : Ab wr wx) => (h1.ab hx).cell)
      have i1 : (0 : Int) ≤ (j : Int) := by omega
      have i2 : (j : Int) < (ms.length : Int) := by omega
      clear h1
      go_wp2_with fail
      have habz : Ab wr (wr.alloc (.cells #[.int .i64 0, .int .i64 0, .int .i64 0, .int .i64 0, .int .i64 0] 241)) := (Ab.refl wr).alloc _
      have hbz : Bk (wr.alloc (.cells #[.int .i64 0, .int .i64 0, .int .i64 0, .int .i64 0, .int .i64 0] 241)) wr.heap.size 241 #[.int .i64 0, .int .i64 0, .int .i64 0, .int .i64 0, .int .i64 0] := Bk.made wr _ _
      obtain ⟨wz, hwz⟩ : ∃ wz, wr.alloc (.cells #[.int .i64 0, .int .i64 0, .int .i64 0, .int .i64 0, .int .i64 0] 241) = wz := ⟨_, rfl⟩
      rw [hwz] at habz hbz ⊢
      have HRz := Lib.hid (HR1.out.ab habz)
      have yz := HRz.out.cell
      have yz2 : (wz.alloc (.cells #[.int .i64 0, .int .i64 0, .int .i64 0, .int .i64 0, .int .i64 0] 241)).cell? ⟨b, o, none⟩ = some (.slice A j c) := (HRz.out.ab ((Ab.refl wz).alloc _)).cell
      have zz0 : wz.cell? ⟨wr.heap.size, 0, none⟩ = some (.int .i64 0) := hbz.cell rfl
      have zz1 : wz.cell? ⟨wr.heap.size, 1, none⟩ = some (.int .i64 0) := hbz.cell rfl
      have zz2 : wz.cell? ⟨wr.heap.size, 2, none⟩ = some (.int .i64 0) := hbz.cell rfl
      have zz3 : wz.cell? ⟨wr.heap.size, 3, none⟩ = some (.int .i64 0) := hbz.cell rfl
      have zz4 : wz.cell? ⟨wr.heap.size, 4, none⟩ = some (.int .i64 0) := hbz.cell rfl
      clear hwz habz hbz
      go_region_law ((refine lay_rd (by rfl) _ _ (by rfl) _ _ (by rfl) (by rfl) Tryz.underlying34 (show (Tryz.prog.info? 241).map (fun i => (i.zero, i.size, i.bytes)) = some (some (.agg #[.int .i64 0, .int .i64 0, .int .i64 0, .int .i64 0, .int .i64 0]), 5, 40) by kernel_rfl) (by rfl) w.heap.size j xs 1 (Zc (.pair .num (.pair .num (.pair .num (.pair .num .num))))) (HRz.out.ab (by repeat (first | with_reducible exact Ab.refl _ | with_reducible assumption | with_reducible refine Ab.drew ?_ | with_reducible refine Ab.alloc ?_ _))).og (src_row Tryz.underlying34 rfl (Zc_one _) (by repeat (first | with_reducible assumption | with_reducible exact Bk.made _ _ _ | exact Bk.new (by first | (with_reducible rfl) | (simp; done)) | with_reducible refine Bk.drew ?_ | with_reducible refine Bk.alloc ?_ _))) ⟨by have := HJ.out; omega, by omega⟩ (by first | exact Nat.le_trans HRz.out.mv.size (Ab.size (by repeat (first | with_reducible exact Ab.refl _ | with_reducible assumption | with_reducible refine Ab.drew ?_ | with_reducible refine Ab.alloc ?_ _))) | (have := HRz.out.mv.size; simp; omega)) ?_; intro A5 c5 w5 ho5 hg5 hn5; (have y5 := (Lr.grown (HRz.out.ab (by repeat (first | with_reducible exact Ab.refl _ | with_reducible assumption | with_reducible refine Ab.drew ?_ | with_reducible refine Ab.alloc ?_ _))) HB.out.2.2.2 hg5).1); (have z5 := (Lr.grown (HRz.out.ab (by repeat (first | with_reducible exact Ab.refl _ | with_reducible assumption | with_reducible refine Ab.drew ?_ | with_reducible refine Ab.alloc ?_ _))) HB.out.2.2.2 hg5).2); (have H5 := Lib.hid (Lr.app (HRz.out.ab (by repeat (first | with_reducible exact Ab.refl _ | with_reducible assumption | with_reducible refine Ab.drew ?_ | with_reducible refine Ab.alloc ?_ _))) HB.out.2.2.1 HB.out.2.2.2 HB.out.1 HB.out.2.1 ho5 hg5 hn5)); clear ho5 hg5 hn5))
      all_goals
        obtain ⟨g, off, cs', rfl, hcap, hcap2, hbk, hge, hzz⟩ := Lr.next H5.out HR1.out.og.1
        have yl := H5.out.cell
        obtain ⟨v4, hc4⟩ := H5.out.cr' HJM.out
        obtain ⟨w6, hw6⟩ : ∃ w6, w5.setCell ⟨b, o, none⟩ (.slice (some ⟨g, off, none⟩) (j + 1) c5) = w6 := ⟨_, rfl⟩
        rw [hw6] at H5 hbk yl hc4 ⊢
        have HN := Lib.hid (last_rd g (off + j * 5) 241 cs' (ms.getD j []) ((ms.drop (j + 1)).flatten ++ rest) w6 cb base v4 (HP.out.1 _ (getD_mem HJM.out)) hc4 hbk (by have := HB.out.2.2.1; omega) (by have := HB.out.2.1; have := HB.out.2.2.2; omega) hzz (by have := mem_flat_len (getD_mem HJM.out); have := HP.out.2; omega))
        have HI := Lib.hid (fun e w3 (hp : RdPost (.pair .num (.pair .num (.pair .num (.pair .num .num)))) g (off + j * 5) 241 cs' (ms.getD j []) ((ms.drop (j + 1)).flatten ++ rest) w6 cb base e w3) => Lr.item (e := e) (w3 := w3) H5.out HR1.out.og.1 HB.out.2.2.1 HB.out.2.2.2 HB.out.1 hbk HJM.out hp)
        generalize hj1 : j + 1 = j1 at yl hcap ⊢
        have i3 : (j : Int) < (j1 : Int) := by omega
        clear hj1 hw6
        clear hbk hge hzz hc4 y1 y5 z5
        go_wp2_with fail
        refine HN.out.mono ?_
        intro e w7 hx
        obtain ⟨rfl, ys, h7, -⟩ := HI.out e w7 hx
        have H7 := Lib.hid h7
        clear h7 hx
        go_wp2_with fail
        go_roundw
        case rel => exact ⟨j + 1, HJM.out, by go_num, Lib.hid ⟨_, _, H7.out⟩⟩
        case measure => have := HJM.out; simp [intOf]; omega
    · go_wp2_with fail
      go_end0
      obtain rfl : j = ms.length := by omega
      obtain ⟨u, xs, h1⟩ := HR.out
      obtain ⟨A, c, rfl, -, -⟩ := h1.og.len_cap
      exact h1.done rfl
set_option maxRecDepth 100000 in
set_option maxHeartbeats 4000000 in
theorem list_item_rd : Rdl 76 77 (.pair .text (.pair (.pair .num .num) .word)) := by
  intro b o T cs m rest w cb base v hp hc hb hne hle hz hl
  obtain ⟨ms, rfl, hn4, hps⟩ := id hp
  have ho : cs[o]? = some (.slice none 0 0) := hz 0 (by omega)
  have hr := hc.reads
  rw [List.append_assoc] at hc
  have hfl := flat_pos ms hps
  rw [List.length_append, lowL_length] at hl
  have HT := Lib.hid (count_good ms.length (ms.flatten ++ rest) w hc hn4 (by rw [List.length_append]; omega))
  have HB := Lib.hid (And.intro hne (And.intro hle (And.intro hc.lt hb.lt)))
  have HO := Lib.hid (And.intro hb ho)
  have HP := Lib.hid (And.intro hps hl)
  have hn8 : ms.length ≤ 100000000 := by omega
  clear hp hc hb hne hle hz hl ho hfl hps hn4
  go_enter Tryz.func76, Tryz.ntmps76
  go_wp2_with fail
  refine HT.out.mono ?_
  rintro e w2 ⟨rfl, v2, hm, -, hc2⟩
  have HS0 := Lib.hid (Lr.start (s := (.pair .text (.pair (.pair .num .num) .word))) (E := 177) hc2 HO.out.1 hm HB.out.1 HO.out.2)
  clear hm hc2
  go_wp2_with fail
  go_loopw [15] (fun i wr => ∃ j : Nat, j ≤ ms.length ∧ i = .int .i64 (j : Int) ∧ Hid (∃ u xs, Lr (.pair .text (.pair (.pair .num .num) .word)) 177 b o T cs ms rest w cb base j j u xs wr)) (fun i _ => ms.length - (intOf i).toNat)
  case atStart => exact ⟨0, Nat.zero_le _, rfl, Lib.hid ⟨_, _, HS0.out⟩⟩
  case round =>
    obtain ⟨j, hj, rfl, HR⟩ := hrel
    by_cases hlt2 : j < ms.length
    · obtain ⟨u, xs, h1⟩ := HR.out
      obtain ⟨A, c, rfl, -, -⟩ := h1.og.len_cap
      have y1 := h1.cell
      have HR1 := Lib.hid h1
      have HJ := Lib.hid (show j + 1 ≤ 100000000 by omega)
      have HJM := Lib.hid hlt2
      have HS := Lib.hid (fun wx (hx : Ab wr wx) => (h1.ab hx).cell)
      have i1 : (0 : Int) ≤ (j : Int) := by omega
      have i2 : (j : Int) < (ms.length : Int) := by omega
      clear h1
      go_wp2_with fail
      have habz : Ab wr (wr.alloc (.cells #[.string ⟨#[]⟩, .int .i64 0, .int .i64 0, .int .u32 0] 177)) := (Ab.refl wr).alloc _
      have hbz : Bk (wr.alloc (.cells #[.string ⟨#[]⟩, .int .i64 0, .int .i64 0, .int .u32 0] 177)) wr.heap.size 177 #[.string ⟨#[]⟩, .int .i64 0, .int .i64 0, .int .u32 0] := Bk.made wr _ _
      obtain ⟨wz, hwz⟩ : ∃ wz, wr.alloc (.cells #[.string ⟨#[]⟩, .int .i64 0, .int .i64 0, .int .u32 0] 177) = wz := ⟨_, rfl⟩
      rw [hwz] at habz hbz ⊢
      have HRz := Lib.hid (HR1.out.ab habz)
      have yz := HRz.out.cell
      have yz2 : (wz.alloc (.cells #[.string ⟨#[]⟩, .int .i64 0, .int .i64 0, .int .u32 0] 177)).cell? ⟨b, o, none⟩ = some (.slice A j c) := (HRz.out.ab ((Ab.refl wz).alloc _)).cell
      have zz0 : wz.cell? ⟨wr.heap.size, 0, none⟩ = some (.string ⟨#[]⟩) := hbz.cell rfl
      have zz1 : wz.cell? ⟨wr.heap.size, 1, none⟩ = some (.int .i64 0) := hbz.cell rfl
      have zz2 : wz.cell? ⟨wr.heap.size, 2, none⟩ = some (.int .i64 0) := hbz.cell rfl
      have zz3 : wz.cell? ⟨wr.heap.size, 3, none⟩ = some (.int .u32 0) := hbz.cell rfl
      clear hwz habz hbz
      go_region_law ((refine lay_rd (by rfl) _ _ (by rfl) _ _ (by rfl) (by rfl) Tryz.underlying35 (show (Tryz.prog.info? 177).map (fun i => (i.zero, i.size, i.bytes)) = some (some (.agg #[.string ⟨#[]⟩, .int .i64 0, .int .i64 0, .int .u32 0]), 4, 40) by kernel_rfl) (by rfl) w.heap.size j xs 1 (Zc (.pair .text (.pair (.pair .num .num) .word))) (HRz.out.ab (by repeat (first | with_reducible exact Ab.refl _ | with_reducible assumption | with_reducible refine Ab.drew ?_ | with_reducible refine Ab.alloc ?_ _))).og (src_row Tryz.underlying35 rfl (Zc_one _) (by repeat (first | with_reducible assumption | with_reducible exact Bk.made _ _ _ | exact Bk.new (by first | (with_reducible rfl) | (simp; done)) | with_reducible refine Bk.drew ?_ | with_reducible refine Bk.alloc ?_ _))) ⟨by have := HJ.out; omega, by omega⟩ (by first | exact Nat.le_trans HRz.out.mv.size (Ab.size (by repeat (first | with_reducible exact Ab.refl _ | with_reducible assumption | with_reducible refine Ab.drew ?_ | with_reducible refine Ab.alloc ?_ _))) | (have := HRz.out.mv.size; simp; omega)) ?_; intro A5 c5 w5 ho5 hg5 hn5; (have y5 := (Lr.grown (HRz.out.ab (by repeat (first | with_reducible exact Ab.refl _ | with_reducible assumption | with_reducible refine Ab.drew ?_ | with_reducible refine Ab.alloc ?_ _))) HB.out.2.2.2 hg5).1); (have z5 := (Lr.grown (HRz.out.ab (by repeat (first | with_reducible exact Ab.refl _ | with_reducible assumption | with_reducible refine Ab.drew ?_ | with_reducible refine Ab.alloc ?_ _))) HB.out.2.2.2 hg5).2); (have H5 := Lib.hid (Lr.app (HRz.out.ab (by repeat (first | with_reducible exact Ab.refl _ | with_reducible assumption | with_reducible refine Ab.drew ?_ | with_reducible refine Ab.alloc ?_ _))) HB.out.2.2.1 HB.out.2.2.2 HB.out.1 HB.out.2.1 ho5 hg5 hn5)); clear ho5 hg5 hn5))
      all_goals
        obtain ⟨g, off, cs', rfl, hcap, hcap2, hbk, hge, hzz⟩ := Lr.next H5.out HR1.out.og.1
        have yl := H5.out.cell
        obtain ⟨v4, hc4⟩ := H5.out.cr' HJM.out
        obtain ⟨w6, hw6⟩ : ∃ w6, w5.setCell ⟨b, o, none⟩ (.slice (some ⟨g, off, none⟩) (j + 1) c5) = w6 := ⟨_, rfl⟩
        rw [hw6] at H5 hbk yl hc4 ⊢
        have HN := Lib.hid (item_rd g (off + j * 4) 177 cs' (ms.getD j []) ((ms.drop (j + 1)).flatten ++ rest) w6 cb base v4 (HP.out.1 _ (getD_mem HJM.out)) hc4 hbk (by have := HB.out.2.2.1; omega) (by have := HB.out.2.1; have := HB.out.2.2.2; omega) hzz (by have := mem_flat_len (getD_mem HJM.out); have := HP.out.2; omega))
        have HI := Lib.hid (fun e w3 (hp : RdPost (.pair .text (.pair (.pair .num .num) .word)) g (off + j * 4) 177 cs' (ms.getD j []) ((ms.drop (j + 1)).flatten ++ rest) w6 cb base e w3) => Lr.item (e := e) (w3 := w3) H5.out HR1.out.og.1 HB.out.2.2.1 HB.out.2.2.2 HB.out.1 hbk HJM.out hp)
        generalize hj1 : j + 1 = j1 at yl hcap ⊢
        have i3 : (j : Int) < (j1 : Int) := by omega
        clear hj1 hw6
        clear hbk hge hzz hc4 y1 y5 z5
        go_wp2_with fail
        refine HN.out.mono ?_
        intro e w7 hx
        obtain ⟨rfl, ys, h7, -⟩ := HI.out e w7 hx
        have H7 := Lib.hid h7
        clear h7 hx
        go_wp2_with fail
        go_roundw
        case rel => exact ⟨j + 1, HJM.out, by go_num, Lib.hid ⟨_, _, H7.out⟩⟩
        case measure => have := HJM.out; simp [intOf]; omega
    · go_wp2_with fail
      go_end0
      obtain rfl : j = ms.length := by omega
      obtain ⟨u, xs, h1⟩ := HR.out
      obtain ⟨A, c, rfl, -, -⟩ := h1.og.len_cap
      exact h1.done rfl
set_option maxRecDepth 100000 in
set_option maxHeartbeats 4000000 in
theorem state_rd : Rds 50 (.pair .num (.pair (.pair .num .num) (.pair (.list (.pair (.pair .num .num) (.pair .bool (.pair .num (.pair .text (.pair .num .num)))))) (.pair (.list (.pair .num (.pair .num (.pair .num (.pair .num .num))))) (.list (.pair .text (.pair (.pair .num .num) .word))))))) := by
  intro b o T cs m rest w cb base v hp hc hb hne hle hz hl
  obtain ⟨m0, r0, p0, q0, e0⟩ := hp
  obtain ⟨m1, r1, p1, q1, e1⟩ := q0
  obtain ⟨m2, r2, p2, q2, e2⟩ := q1
  obtain ⟨m3, m4, p3, p4, e3⟩ := q2
  subst e3
  subst e2
  subst e1
  subst e0
  replace hc : Cr w cb base v (m0 ++ (m1 ++ (m2 ++ (m3 ++ (m4 ++ rest))))) := by first | exact hc | simpa only [List.append_assoc] using hc
  have hz' : ∀ k, k < szL [.num, (.pair .num .num), (.list (.pair (.pair .num .num) (.pair .bool (.pair .num (.pair .text (.pair .num .num)))))), (.list (.pair .num (.pair .num (.pair .num (.pair .num .num))))), (.list (.pair .text (.pair (.pair .num .num) .word)))] → cs[o + k]? = (([.num, (.pair .num .num), (.list (.pair (.pair .num .num) (.pair .bool (.pair .num (.pair .text (.pair .num .num)))))), (.list (.pair .num (.pair .num (.pair .num (.pair .num .num))))), (.list (.pair .text (.pair (.pair .num .num) .word)))].map Zc).flatten)[k]? := by rw [← Zc_nest [.num, (.pair .num .num), (.list (.pair (.pair .num .num) (.pair .bool (.pair .num (.pair .text (.pair .num .num)))))), (.list (.pair .num (.pair .num (.pair .num (.pair .num .num))))), (.list (.pair .text (.pair (.pair .num .num) .word)))] (by simp)]; exact hz
  have HL := Lib.hid hl
  have HB := Lib.hid (And.intro hne (And.intro hle (And.intro hc.lt hb.lt)))
  have HZ := Lib.hid hz'
  have HP := Lib.hid (show Par .num m0 ∧ Par (.pair .num .num) m1 ∧ Par (.list (.pair (.pair .num .num) (.pair .bool (.pair .num (.pair .text (.pair .num .num)))))) m2 ∧ Par (.list (.pair .num (.pair .num (.pair .num (.pair .num .num))))) m3 ∧ Par (.list (.pair .text (.pair (.pair .num .num) .word))) m4 ∧ True from ⟨p0, p1, p2, p3, p4, trivial⟩)
  have hrd := hc.reads
  have H1 := Lib.hid (Rst.start (o := o) hc hb)
  clear hc hb hne hle hz hz' hl p0 p1 p2 p3 p4
  go_enter Tryz.func50, Tryz.ntmps50
  go_wp2_with fail
  refine (number_rd b (o) T cs m0 (m1 ++ (m2 ++ (m3 ++ (m4 ++ (rest))))) w cb base v HP.out.1 H1.out.cr H1.out.bk HB.out.1 HB.out.2.1 (Rst.zero H1.out HZ.out .num [(.pair .num .num), (.list (.pair (.pair .num .num) (.pair .bool (.pair .num (.pair .text (.pair .num .num)))))), (.list (.pair .num (.pair .num (.pair .num (.pair .num .num))))), (.list (.pair .text (.pair (.pair .num .num) .word)))] rfl) (by have := HL.out; first | omega | (simp only [List.length_append] at this ⊢; omega))).mono ?_
  intro e w2 hx
  obtain ⟨rfl, v2, cs2, h2⟩ := H1.out.step HB.out.2.2.1 HB.out.2.2.2 hx
  have H2 := Lib.hid h2
  clear h2 hx
  go_wp2_with fail
  refine (version_rd b (o + 1) T cs2 m1 (m2 ++ (m3 ++ (m4 ++ (rest)))) w2 cb base v2 HP.out.2.1 H2.out.cr H2.out.bk HB.out.1 HB.out.2.1 (Rst.zero H2.out HZ.out (.pair .num .num) [(.list (.pair (.pair .num .num) (.pair .bool (.pair .num (.pair .text (.pair .num .num)))))), (.list (.pair .num (.pair .num (.pair .num (.pair .num .num))))), (.list (.pair .text (.pair (.pair .num .num) .word)))] rfl) (by have := HL.out; first | omega | (simp only [List.length_append] at this ⊢; omega))).mono ?_
  intro e w3 hx
  obtain ⟨rfl, v3, cs3, h2⟩ := H2.out.step HB.out.2.2.1 HB.out.2.2.2 hx
  have H3 := Lib.hid h2
  clear h2 hx
  go_wp2_with fail
  refine (list_entry_rd b (o + 3) T cs3 m2 (m3 ++ (m4 ++ (rest))) w3 cb base v3 HP.out.2.2.1 H3.out.cr H3.out.bk HB.out.1 HB.out.2.1 (Rst.zero H3.out HZ.out (.list (.pair (.pair .num .num) (.pair .bool (.pair .num (.pair .text (.pair .num .num)))))) [(.list (.pair .num (.pair .num (.pair .num (.pair .num .num))))), (.list (.pair .text (.pair (.pair .num .num) .word)))] rfl) (by have := HL.out; first | omega | (simp only [List.length_append] at this ⊢; omega))).mono ?_
  intro e w4 hx
  obtain ⟨rfl, v4, cs4, h2⟩ := H3.out.step HB.out.2.2.1 HB.out.2.2.2 hx
  have H4 := Lib.hid h2
  clear h2 hx
  go_wp2_with fail
  refine (list_last_rd b (o + 4) T cs4 m3 (m4 ++ (rest)) w4 cb base v4 HP.out.2.2.2.1 H4.out.cr H4.out.bk HB.out.1 HB.out.2.1 (Rst.zero H4.out HZ.out (.list (.pair .num (.pair .num (.pair .num (.pair .num .num))))) [(.list (.pair .text (.pair (.pair .num .num) .word)))] rfl) (by have := HL.out; first | omega | (simp only [List.length_append] at this ⊢; omega))).mono ?_
  intro e w5 hx
  obtain ⟨rfl, v5, cs5, h2⟩ := H4.out.step HB.out.2.2.1 HB.out.2.2.2 hx
  have H5 := Lib.hid h2
  clear h2 hx
  go_wp2_with fail
  refine (list_item_rd b (o + 5) T cs5 m4 (rest) w5 cb base v5 HP.out.2.2.2.2.1 H5.out.cr H5.out.bk HB.out.1 HB.out.2.1 (Rst.zero H5.out HZ.out (.list (.pair .text (.pair (.pair .num .num) .word))) [] rfl) (by have := HL.out; first | omega | (simp only [List.length_append] at this ⊢; omega))).mono ?_
  intro e w6 hx
  obtain ⟨rfl, v6, cs6, h2⟩ := H5.out.step HB.out.2.2.1 HB.out.2.2.2 hx
  have H6 := Lib.hid h2
  clear h2 hx
  go_wp2_with fail
  go_end0
  exact H6.out.done (by simp) (by simp)
set_option maxRecDepth 100000 in
set_option maxHeartbeats 4000000 in
theorem step_rd : Rds 131 (.pair .num (.pair (.pair .num .num) (.pair .text (.pair .num (.pair .num (.pair .text .data)))))) := by
  intro b o T cs m rest w cb base v hp hc hb hne hle hz hl
  obtain ⟨m0, r0, p0, q0, e0⟩ := hp
  obtain ⟨m1, r1, p1, q1, e1⟩ := q0
  obtain ⟨m2, r2, p2, q2, e2⟩ := q1
  obtain ⟨m3, r3, p3, q3, e3⟩ := q2
  obtain ⟨m4, r4, p4, q4, e4⟩ := q3
  obtain ⟨m5, m6, p5, p6, e5⟩ := q4
  subst e5
  subst e4
  subst e3
  subst e2
  subst e1
  subst e0
  replace hc : Cr w cb base v (m0 ++ (m1 ++ (m2 ++ (m3 ++ (m4 ++ (m5 ++ (m6 ++ rest))))))) := by first | exact hc | simpa only [List.append_assoc] using hc
  have hz' : ∀ k, k < szL [.num, (.pair .num .num), .text, .num, .num, .text, .data] → cs[o + k]? = (([.num, (.pair .num .num), .text, .num, .num, .text, .data].map Zc).flatten)[k]? := by rw [← Zc_nest [.num, (.pair .num .num), .text, .num, .num, .text, .data] (by simp)]; exact hz
  have HL := Lib.hid hl
  have HB := Lib.hid (And.intro hne (And.intro hle (And.intro hc.lt hb.lt)))
  have HZ := Lib.hid hz'
  have HP := Lib.hid (show Par .num m0 ∧ Par (.pair .num .num) m1 ∧ Par .text m2 ∧ Par .num m3 ∧ Par .num m4 ∧ Par .text m5 ∧ Par .data m6 ∧ True from ⟨p0, p1, p2, p3, p4, p5, p6, trivial⟩)
  have hrd := hc.reads
  have H1 := Lib.hid (Rst.start (o := o) hc hb)
  clear hc hb hne hle hz hz' hl p0 p1 p2 p3 p4 p5 p6
  go_enter Tryz.func131, Tryz.ntmps131
  go_wp2_with fail
  refine (number_rd b (o) T cs m0 (m1 ++ (m2 ++ (m3 ++ (m4 ++ (m5 ++ (m6 ++ (rest))))))) w cb base v HP.out.1 H1.out.cr H1.out.bk HB.out.1 HB.out.2.1 (Rst.zero H1.out HZ.out .num [(.pair .num .num), .text, .num, .num, .text, .data] rfl) (by have := HL.out; first | omega | (simp only [List.length_append] at this ⊢; omega))).mono ?_
  intro e w2 hx
  obtain ⟨rfl, v2, cs2, h2⟩ := H1.out.step HB.out.2.2.1 HB.out.2.2.2 hx
  have H2 := Lib.hid h2
  clear h2 hx
  go_wp2_with fail
  refine (pg_rd b (o + 1) T cs2 m1 (m2 ++ (m3 ++ (m4 ++ (m5 ++ (m6 ++ (rest)))))) w2 cb base v2 HP.out.2.1 H2.out.cr H2.out.bk HB.out.1 HB.out.2.1 (Rst.zero H2.out HZ.out (.pair .num .num) [.text, .num, .num, .text, .data] rfl) (by have := HL.out; first | omega | (simp only [List.length_append] at this ⊢; omega))).mono ?_
  intro e w3 hx
  obtain ⟨rfl, v3, cs3, h2⟩ := H2.out.step HB.out.2.2.1 HB.out.2.2.2 hx
  have H3 := Lib.hid h2
  clear h2 hx
  go_wp2_with fail
  refine (text_rd b (o + 3) T cs3 m2 (m3 ++ (m4 ++ (m5 ++ (m6 ++ (rest))))) w3 cb base v3 HP.out.2.2.1 H3.out.cr H3.out.bk HB.out.1 HB.out.2.1 (Rst.zero H3.out HZ.out .text [.num, .num, .text, .data] rfl) (by have := HL.out; first | omega | (simp only [List.length_append] at this ⊢; omega))).mono ?_
  intro e w4 hx
  obtain ⟨rfl, v4, cs4, h2⟩ := H3.out.step HB.out.2.2.1 HB.out.2.2.2 hx
  have H4 := Lib.hid h2
  clear h2 hx
  go_wp2_with fail
  have hzz : ∀ i, i < 2 → cs4[o + 4 + i]? = some (.int .i64 0) := by
    intro i hi
    have e := HZ.out (4 + i) (by show _ < 8; omega)
    have e2 := H4.out.out (o + (4 + i)) (.inr (by show o + 4 ≤ _; omega))
    have e3 : o + 4 + i = o + (4 + i) := by omega
    rw [e3, e2, e]
    rcases (show i = 0 ∨ i = 1 by omega) with rfl | rfl <;> rfl
  have h8 : ∀ x ∈ [m3, m4], x.length = 8 := by
    intro x hx
    simp only [List.mem_cons, List.not_mem_nil, or_false] at hx
    rcases hx with rfl | rfl
    · exact HP.out.2.2.2.1
    · exact HP.out.2.2.2.2.1
  have HN := Lib.hid (Rst.nums 2 (by omega) [m3, m4] rfl h8 (rest := m5 ++ (m6 ++ (rest))) (H4.out.recr (by simp only [List.flatten_cons, List.flatten_nil, List.append_assoc, List.nil_append])) HB.out.2.2.1 HB.out.2.2.2 HB.out.1 HB.out.2.1 hzz [(b, o + 4), (b, o + 5)] rfl)
  clear hzz h8
  go_region_held3 (fun _ => True) (trivial) ((go_at_call 65; refine HN.out.mono ?_; rintro e w5 ⟨rfl, v5, cs5, h2⟩; (have H5 := Lib.hid h2); clear h2))
  clear HN
  go_wp2_with fail
  refine (text_rd b (o + 6) T cs5 m5 (m6 ++ (rest)) w5 cb base v5 HP.out.2.2.2.2.2.1 H5.out.cr H5.out.bk HB.out.1 HB.out.2.1 (Rst.zero H5.out HZ.out .text [.data] rfl) (by have := HL.out; first | omega | (simp only [List.length_append] at this ⊢; omega))).mono ?_
  intro e w6 hx
  obtain ⟨rfl, v6, cs6, h2⟩ := H5.out.step HB.out.2.2.1 HB.out.2.2.2 hx
  have H6 := Lib.hid h2
  clear h2 hx
  go_wp2_with fail
  refine (data_rd b (o + 7) T cs6 m6 (rest) w6 cb base v6 HP.out.2.2.2.2.2.2.1 H6.out.cr H6.out.bk HB.out.1 HB.out.2.1 (Rst.zero H6.out HZ.out .data [] rfl) (by have := HL.out; first | omega | (simp only [List.length_append] at this ⊢; omega))).mono ?_
  intro e w7 hx
  obtain ⟨rfl, v7, cs7, h2⟩ := H6.out.step HB.out.2.2.1 HB.out.2.2.2 hx
  have H7 := Lib.hid h2
  clear h2 hx
  go_wp2_with fail
  go_end0
  exact H7.out.done (by simp) (by simp)
set_option maxRecDepth 100000 in
set_option maxHeartbeats 4000000 in
theorem list_step_rd : Rdl 130 131 (.pair .num (.pair (.pair .num .num) (.pair .text (.pair .num (.pair .num (.pair .text .data)))))) := by
  intro b o T cs m rest w cb base v hp hc hb hne hle hz hl
  obtain ⟨ms, rfl, hn4, hps⟩ := id hp
  have ho : cs[o]? = some (.slice none 0 0) := hz 0 (by omega)
  have hr := hc.reads
  rw [List.append_assoc] at hc
  have hfl := flat_pos ms hps
  rw [List.length_append, lowL_length] at hl
  have HT := Lib.hid (count_good ms.length (ms.flatten ++ rest) w hc hn4 (by rw [List.length_append]; omega))
  have HB := Lib.hid (And.intro hne (And.intro hle (And.intro hc.lt hb.lt)))
  have HO := Lib.hid (And.intro hb ho)
  have HP := Lib.hid (And.intro hps hl)
  have hn8 : ms.length ≤ 100000000 := by omega
  clear hp hc hb hne hle hz hl ho hfl hps hn4
  go_enter Tryz.func130, Tryz.ntmps130
  go_wp2_with fail
  refine HT.out.mono ?_
  rintro e w2 ⟨rfl, v2, hm, -, hc2⟩
  have HS0 := Lib.hid (Lr.start (s := (.pair .num (.pair (.pair .num .num) (.pair .text (.pair .num (.pair .num (.pair .text .data))))))) (E := 252) hc2 HO.out.1 hm HB.out.1 HO.out.2)
  clear hm hc2
  go_wp2_with fail
  go_loopw [15] (fun i wr => ∃ j : Nat, j ≤ ms.length ∧ i = .int .i64 (j : Int) ∧ Hid (∃ u xs, Lr (.pair .num (.pair (.pair .num .num) (.pair .text (.pair .num (.pair .num (.pair .text .data)))))) 252 b o T cs ms rest w cb base j j u xs wr)) (fun i _ => ms.length - (intOf i).toNat)
  case atStart => exact ⟨0, Nat.zero_le _, rfl, Lib.hid ⟨_, _, HS0.out⟩⟩
  case round =>
    obtain ⟨j, hj, rfl, HR⟩ := hrel
    by_cases hlt2 : j < ms.length
    · obtain ⟨u, xs, h1⟩ := HR.out
      obtain ⟨A, c, rfl, -, -⟩ := h1.og.len_cap
      have y1 := h1.cell
      have HR1 := Lib.hid h1
      have HJ := Lib.hid (show j + 1 ≤ 100000000 by omega)
      have HJM := Lib.hid hlt2
      have HS := Lib.hid (fun wx (hx : Ab wr wx) => (h1.ab hx).cell)
      have i1 : (0 : Int) ≤ (j : Int) := by omega
      have i2 : (j : Int) < (ms.length : Int) := by omega
      clear h1
      go_wp2_with fail
      have habz : Ab wr (wr.alloc (.cells #[.int .i64 0, .int .i64 0, .int .i64 0, .string ⟨#[]⟩, .int .i64 0, .int .i64 0, .string ⟨#[]⟩, .slice none 0 0] 252)) := (Ab.refl wr).alloc _
      have hbz : Bk (wr.alloc (.cells #[.int .i64 0, .int .i64 0, .int .i64 0, .string ⟨#[]⟩, .int .i64 0, .int .i64 0, .string ⟨#[]⟩, .slice none 0 0] 252)) wr.heap.size 252 #[.int .i64 0, .int .i64 0, .int .i64 0, .string ⟨#[]⟩, .int .i64 0, .int .i64 0, .string ⟨#[]⟩, .slice none 0 0] := Bk.made wr _ _
      obtain ⟨wz, hwz⟩ : ∃ wz, wr.alloc (.cells #[.int .i64 0, .int .i64 0, .int .i64 0, .string ⟨#[]⟩, .int .i64 0, .int .i64 0, .string ⟨#[]⟩, .slice none 0 0] 252) = wz := ⟨_, rfl⟩
      rw [hwz] at habz hbz ⊢
      have HRz := Lib.hid (HR1.out.ab habz)
      have yz := HRz.out.cell
      have yz2 : (wz.alloc (.cells #[.int .i64 0, .int .i64 0, .int .i64 0, .string ⟨#[]⟩, .int .i64 0, .int .i64 0, .string ⟨#[]⟩, .slice none 0 0] 252)).cell? ⟨b, o, none⟩ = some (.slice A j c) := (HRz.out.ab ((Ab.refl wz).alloc _)).cell
      have zz0 : wz.cell? ⟨wr.heap.size, 0, none⟩ = some (.int .i64 0) := hbz.cell rfl
      have zz1 : wz.cell? ⟨wr.heap.size, 1, none⟩ = some (.int .i64 0) := hbz.cell rfl
      have zz2 : wz.cell? ⟨wr.heap.size, 2, none⟩ = some (.int .i64 0) := hbz.cell rfl
      have zz3 : wz.cell? ⟨wr.heap.size, 3, none⟩ = some (.string ⟨#[]⟩) := hbz.cell rfl
      have zz4 : wz.cell? ⟨wr.heap.size, 4, none⟩ = some (.int .i64 0) := hbz.cell rfl
      have zz5 : wz.cell? ⟨wr.heap.size, 5, none⟩ = some (.int .i64 0) := hbz.cell rfl
      have zz6 : wz.cell? ⟨wr.heap.size, 6, none⟩ = some (.string ⟨#[]⟩) := hbz.cell rfl
      have zz7 : wz.cell? ⟨wr.heap.size, 7, none⟩ = some (.slice none 0 0) := hbz.cell rfl
      clear hwz habz hbz
      go_region_law ((refine lay_rd (by rfl) _ _ (by rfl) _ _ (by rfl) (by rfl) Tryz.underlying81 (show (Tryz.prog.info? 252).map (fun i => (i.zero, i.size, i.bytes)) = some (some (.agg #[.int .i64 0, .int .i64 0, .int .i64 0, .string ⟨#[]⟩, .int .i64 0, .int .i64 0, .string ⟨#[]⟩, .slice none 0 0]), 8, 96) by kernel_rfl) (by rfl) w.heap.size j xs 1 (Zc (.pair .num (.pair (.pair .num .num) (.pair .text (.pair .num (.pair .num (.pair .text .data))))))) (HRz.out.ab (by repeat (first | with_reducible exact Ab.refl _ | with_reducible assumption | with_reducible refine Ab.drew ?_ | with_reducible refine Ab.alloc ?_ _))).og (src_row Tryz.underlying81 rfl (Zc_one _) (by repeat (first | with_reducible assumption | with_reducible exact Bk.made _ _ _ | exact Bk.new (by first | (with_reducible rfl) | (simp; done)) | with_reducible refine Bk.drew ?_ | with_reducible refine Bk.alloc ?_ _))) ⟨by have := HJ.out; omega, by omega⟩ (by first | exact Nat.le_trans HRz.out.mv.size (Ab.size (by repeat (first | with_reducible exact Ab.refl _ | with_reducible assumption | with_reducible refine Ab.drew ?_ | with_reducible refine Ab.alloc ?_ _))) | (have := HRz.out.mv.size; simp; omega)) ?_; intro A5 c5 w5 ho5 hg5 hn5; (have y5 := (Lr.grown (HRz.out.ab (by repeat (first | with_reducible exact Ab.refl _ | with_reducible assumption | with_reducible refine Ab.drew ?_ | with_reducible refine Ab.alloc ?_ _))) HB.out.2.2.2 hg5).1); (have z5 := (Lr.grown (HRz.out.ab (by repeat (first | with_reducible exact Ab.refl _ | with_reducible assumption | with_reducible refine Ab.drew ?_ | with_reducible refine Ab.alloc ?_ _))) HB.out.2.2.2 hg5).2); (have H5 := Lib.hid (Lr.app (HRz.out.ab (by repeat (first | with_reducible exact Ab.refl _ | with_reducible assumption | with_reducible refine Ab.drew ?_ | with_reducible refine Ab.alloc ?_ _))) HB.out.2.2.1 HB.out.2.2.2 HB.out.1 HB.out.2.1 ho5 hg5 hn5)); clear ho5 hg5 hn5))
      all_goals
        obtain ⟨g, off, cs', rfl, hcap, hcap2, hbk, hge, hzz⟩ := Lr.next H5.out HR1.out.og.1
        have yl := H5.out.cell
        obtain ⟨v4, hc4⟩ := H5.out.cr' HJM.out
        obtain ⟨w6, hw6⟩ : ∃ w6, w5.setCell ⟨b, o, none⟩ (.slice (some ⟨g, off, none⟩) (j + 1) c5) = w6 := ⟨_, rfl⟩
        rw [hw6] at H5 hbk yl hc4 ⊢
        have HN := Lib.hid (step_rd g (off + j * 8) 252 cs' (ms.getD j []) ((ms.drop (j + 1)).flatten ++ rest) w6 cb base v4 (HP.out.1 _ (getD_mem HJM.out)) hc4 hbk (by have := HB.out.2.2.1; omega) (by have := HB.out.2.1; have := HB.out.2.2.2; omega) hzz (by have := mem_flat_len (getD_mem HJM.out); have := HP.out.2; omega))
        have HI := Lib.hid (fun e w3 (hp : RdPost (.pair .num (.pair (.pair .num .num) (.pair .text (.pair .num (.pair .num (.pair .text .data)))))) g (off + j * 8) 252 cs' (ms.getD j []) ((ms.drop (j + 1)).flatten ++ rest) w6 cb base e w3) => Lr.item (e := e) (w3 := w3) H5.out HR1.out.og.1 HB.out.2.2.1 HB.out.2.2.2 HB.out.1 hbk HJM.out hp)
        generalize hj1 : j + 1 = j1 at yl hcap ⊢
        have i3 : (j : Int) < (j1 : Int) := by omega
        clear hj1 hw6
        clear hbk hge hzz hc4 y1 y5 z5
        go_wp2_with fail
        refine HN.out.mono ?_
        intro e w7 hx
        obtain ⟨rfl, ys, h7, -⟩ := HI.out e w7 hx
        have H7 := Lib.hid h7
        clear h7 hx
        go_wp2_with fail
        go_roundw
        case rel => exact ⟨j + 1, HJM.out, by go_num, Lib.hid ⟨_, _, H7.out⟩⟩
        case measure => have := HJM.out; simp [intOf]; omega
    · go_wp2_with fail
      go_end0
      obtain rfl : j = ms.length := by omega
      obtain ⟨u, xs, h1⟩ := HR.out
      obtain ⟨A, c, rfl, -, -⟩ := h1.og.len_cap
      exact h1.done rfl
set_option maxRecDepth 100000 in
set_option maxHeartbeats 4000000 in
theorem tx_rd : Rds 55 (.list (.pair .num (.pair (.pair .num .num) (.pair .text (.pair .num (.pair .num (.pair .text .data))))))) := by
  intro b o T cs m rest w cb base v hp hc hb hne hle hz hl
  obtain ⟨m0, p0, rfl⟩ : ∃ m0, Par (.list (.pair .num (.pair (.pair .num .num) (.pair .text (.pair .num (.pair .num (.pair .text .data))))))) m0 ∧ m0 = m := ⟨m, hp, rfl⟩
  replace hc : Cr w cb base v (m0 ++ rest) := by first | exact hc | simpa only [List.append_assoc] using hc
  have hz' : ∀ k, k < szL [(.list (.pair .num (.pair (.pair .num .num) (.pair .text (.pair .num (.pair .num (.pair .text .data)))))))] → cs[o + k]? = (([(.list (.pair .num (.pair (.pair .num .num) (.pair .text (.pair .num (.pair .num (.pair .text .data)))))))].map Zc).flatten)[k]? := by rw [← Zc_nest [(.list (.pair .num (.pair (.pair .num .num) (.pair .text (.pair .num (.pair .num (.pair .text .data)))))))] (by simp)]; exact hz
  have HL := Lib.hid hl
  have HB := Lib.hid (And.intro hne (And.intro hle (And.intro hc.lt hb.lt)))
  have HZ := Lib.hid hz'
  have HP := Lib.hid (show Par (.list (.pair .num (.pair (.pair .num .num) (.pair .text (.pair .num (.pair .num (.pair .text .data))))))) m0 ∧ True from ⟨p0, trivial⟩)
  have hrd := hc.reads
  have H1 := Lib.hid (Rst.start (o := o) hc hb)
  clear hp hc hb hne hle hz hz' hl p0
  go_enter Tryz.func55, Tryz.ntmps55
  go_wp2_with fail
  refine (list_step_rd b (o) T cs m0 (rest) w cb base v HP.out.1 H1.out.cr H1.out.bk HB.out.1 HB.out.2.1 (Rst.zero H1.out HZ.out (.list (.pair .num (.pair (.pair .num .num) (.pair .text (.pair .num (.pair .num (.pair .text .data))))))) [] rfl) (by have := HL.out; first | omega | (simp only [List.length_append] at this ⊢; omega))).mono ?_
  intro e w2 hx
  obtain ⟨rfl, v2, cs2, h2⟩ := H1.out.step HB.out.2.2.1 HB.out.2.2.2 hx
  have H2 := Lib.hid h2
  clear h2 hx
  go_wp2_with fail
  go_end0
  exact H2.out.done (by simp) (by simp)
set_option maxRecDepth 100000 in
set_option maxHeartbeats 4000000 in
theorem list_string_rd : Rdl 135 136 .text := by
  intro b o T cs m rest w cb base v hp hc hb hne hle hz hl
  obtain ⟨ms, rfl, hn4, hps⟩ := id hp
  have ho : cs[o]? = some (.slice none 0 0) := hz 0 (by omega)
  have hr := hc.reads
  rw [List.append_assoc] at hc
  have hfl := flat_pos ms hps
  rw [List.length_append, lowL_length] at hl
  have HT := Lib.hid (count_good ms.length (ms.flatten ++ rest) w hc hn4 (by rw [List.length_append]; omega))
  have HB := Lib.hid (And.intro hne (And.intro hle (And.intro hc.lt hb.lt)))
  have HO := Lib.hid (And.intro hb ho)
  have HP := Lib.hid (And.intro hps hl)
  have hn8 : ms.length ≤ 100000000 := by omega
  clear hp hc hb hne hle hz hl ho hfl hps hn4
  go_enter Tryz.func135, Tryz.ntmps135
  go_wp2_with fail
  refine HT.out.mono ?_
  rintro e w2 ⟨rfl, v2, hm, -, hc2⟩
  have HS0 := Lib.hid (Lr.start (s := .text) (E := 9) hc2 HO.out.1 hm HB.out.1 HO.out.2)
  clear hm hc2
  go_wp2_with fail
  go_loopw [15] (fun i wr => ∃ j : Nat, j ≤ ms.length ∧ i = .int .i64 (j : Int) ∧ Hid (∃ u xs, Lr .text 9 b o T cs ms rest w cb base j j u xs wr)) (fun i _ => ms.length - (intOf i).toNat)
  case atStart => exact ⟨0, Nat.zero_le _, rfl, Lib.hid ⟨_, _, HS0.out⟩⟩
  case round =>
    obtain ⟨j, hj, rfl, HR⟩ := hrel
    by_cases hlt2 : j < ms.length
    · obtain ⟨u, xs, h1⟩ := HR.out
      obtain ⟨A, c, rfl, -, -⟩ := h1.og.len_cap
      have y1 := h1.cell
      have HR1 := Lib.hid h1
      have HJ := Lib.hid (show j + 1 ≤ 100000000 by omega)
      have HJM := Lib.hid hlt2
      have HS := Lib.hid (fun wx (hx : Ab wr wx) => (h1.ab hx).cell)
      have i1 : (0 : Int) ≤ (j : Int) := by omega
      have i2 : (j : Int) < (ms.length : Int) := by omega
      clear h1
      go_wp2_with (at_builtin; refine wpList_rd rfl _ _ (by rfl) _ _ (by rfl) (by rfl) Tryz.underlying46 (show (Tryz.prog.info? 9).map (fun i => (i.zero, i.size, i.bytes)) = some (some (.string ⟨#[]⟩), 1, 16) by kernel_rfl) (by rfl) w.heap.size j xs 1 (Zc .text) (HR1.out.ab (by repeat (first | with_reducible exact Ab.refl _ | with_reducible assumption | with_reducible refine Ab.drew ?_ | with_reducible refine Ab.alloc ?_ _))).og (src_row Tryz.underlying46 rfl (Zc_one _) (by repeat (first | with_reducible assumption | with_reducible exact Bk.made _ _ _ | exact Bk.new (by first | (with_reducible rfl) | (simp; done)) | with_reducible refine Bk.drew ?_ | with_reducible refine Bk.alloc ?_ _))) ⟨by have := HJ.out; omega, by omega⟩ (by first | exact Nat.le_trans HR1.out.mv.size (Ab.size (by repeat (first | with_reducible exact Ab.refl _ | with_reducible assumption | with_reducible refine Ab.drew ?_ | with_reducible refine Ab.alloc ?_ _))) | (have := HR1.out.mv.size; simp; omega)) ?_; intro A5 c5 w5 ho5 hg5 hn5; (have y5 := (Lr.grown (HR1.out.ab (by repeat (first | with_reducible exact Ab.refl _ | with_reducible assumption | with_reducible refine Ab.drew ?_ | with_reducible refine Ab.alloc ?_ _))) HB.out.2.2.2 hg5).1); (have z5 := (Lr.grown (HR1.out.ab (by repeat (first | with_reducible exact Ab.refl _ | with_reducible assumption | with_reducible refine Ab.drew ?_ | with_reducible refine Ab.alloc ?_ _))) HB.out.2.2.2 hg5).2); (have H5 := Lib.hid (Lr.app (HR1.out.ab (by repeat (first | with_reducible exact Ab.refl _ | with_reducible assumption | with_reducible refine Ab.drew ?_ | with_reducible refine Ab.alloc ?_ _))) HB.out.2.2.1 HB.out.2.2.2 HB.out.1 HB.out.2.1 ho5 hg5 hn5)); clear ho5 hg5 hn5)
      go_wp2_with fail
      all_goals
        obtain ⟨g, off, cs', rfl, hcap, hcap2, hbk, hge, hzz⟩ := Lr.next H5.out HR1.out.og.1
        have yl := H5.out.cell
        obtain ⟨v4, hc4⟩ := H5.out.cr' HJM.out
        obtain ⟨w6, hw6⟩ : ∃ w6, w5.setCell ⟨b, o, none⟩ (.slice (some ⟨g, off, none⟩) (j + 1) c5) = w6 := ⟨_, rfl⟩
        rw [hw6] at H5 hbk yl hc4 ⊢
        replace hzz : ∀ k, k < Sch.sz .text → cs'[off + j + k]? = (Zc .text)[k]? := fun k hk => by have := hzz k hk; rwa [show j * Sch.sz .text = j from Nat.mul_one j] at this
        have HN := Lib.hid (text_rd g (off + j) 9 cs' (ms.getD j []) ((ms.drop (j + 1)).flatten ++ rest) w6 cb base v4 (HP.out.1 _ (getD_mem HJM.out)) hc4 hbk (by have := HB.out.2.2.1; omega) (by have := HB.out.2.1; have := HB.out.2.2.2; omega) hzz (by have := mem_flat_len (getD_mem HJM.out); have := HP.out.2; omega))
        have HI := Lib.hid (fun e w3 (hp : RdPost .text g (off + j) 9 cs' (ms.getD j []) ((ms.drop (j + 1)).flatten ++ rest) w6 cb base e w3) => Lr.item (e := e) (w3 := w3) H5.out HR1.out.og.1 HB.out.2.2.1 HB.out.2.2.2 HB.out.1 hbk HJM.out (by rw [show j * Sch.sz .text = j from Nat.mul_one j]; exact hp))
        generalize hj1 : j + 1 = j1 at yl hcap ⊢
        have i3 : (j : Int) < (j1 : Int) := by omega
        have hix : ∀ wx, (Instr.indexAt 46 (Value.slice (some ⟨g, off, none⟩) j1 c5) (Value.int .i64 (j : Int))).run Tryz.prog wx = .ok (.pointer (some ⟨g, off + j, none⟩)) wx := fun wx => by simp [go_sem, i1, i3]
        clear hj1 hw6
        clear hbk hge hzz hc4 y1 y5 z5
        go_wp2_with fail
        rw [hix]
        go_wp2_with fail
        refine HN.out.mono ?_
        intro e w7 hx
        obtain ⟨rfl, ys, h7, -⟩ := HI.out e w7 hx
        have H7 := Lib.hid h7
        clear h7 hx
        go_wp2_with fail
        go_roundw
        case rel => exact ⟨j + 1, HJM.out, by go_num, Lib.hid ⟨_, _, H7.out⟩⟩
        case measure => have := HJM.out; simp [intOf]; omega
    · go_wp2_with fail
      go_end0
      obtain rfl : j = ms.length := by omega
      obtain ⟨u, xs, h1⟩ := HR.out
      obtain ⟨A, c, rfl, -, -⟩ := h1.og.len_cap
      exact h1.done rfl
set_option maxRecDepth 100000 in
set_option maxHeartbeats 4000000 in
theorem texts_rd : Rds 60 (.list .text) := by
  intro b o T cs m rest w cb base v hp hc hb hne hle hz hl
  obtain ⟨m0, p0, rfl⟩ : ∃ m0, Par (.list .text) m0 ∧ m0 = m := ⟨m, hp, rfl⟩
  replace hc : Cr w cb base v (m0 ++ rest) := by first | exact hc | simpa only [List.append_assoc] using hc
  have hz' : ∀ k, k < szL [(.list .text)] → cs[o + k]? = (([(.list .text)].map Zc).flatten)[k]? := by rw [← Zc_nest [(.list .text)] (by simp)]; exact hz
  have HL := Lib.hid hl
  have HB := Lib.hid (And.intro hne (And.intro hle (And.intro hc.lt hb.lt)))
  have HZ := Lib.hid hz'
  have HP := Lib.hid (show Par (.list .text) m0 ∧ True from ⟨p0, trivial⟩)
  have hrd := hc.reads
  have H1 := Lib.hid (Rst.start (o := o) hc hb)
  clear hp hc hb hne hle hz hz' hl p0
  go_enter Tryz.func60, Tryz.ntmps60
  go_wp2_with fail
  refine (list_string_rd b (o) T cs m0 (rest) w cb base v HP.out.1 H1.out.cr H1.out.bk HB.out.1 HB.out.2.1 (Rst.zero H1.out HZ.out (.list .text) [] rfl) (by have := HL.out; first | omega | (simp only [List.length_append] at this ⊢; omega))).mono ?_
  intro e w2 hx
  obtain ⟨rfl, v2, cs2, h2⟩ := H1.out.step HB.out.2.2.1 HB.out.2.2.2 hx
  have H2 := Lib.hid h2
  clear h2 hx
  go_wp2_with fail
  go_end0
  exact H2.out.done (by simp) (by simp)
end Go.Proofs.YtphbaaaklgiloaaGreat.Dg

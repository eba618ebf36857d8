/- wire.ReadMsg of bytes that are one too few: the coder. Made by wip/gen_msg.py. -/
import Derived.Test.YtphbaaaklgiloaaGreatWrRm
namespace Go.Proofs.YtphbaaaklgiloaaGreat.Dg
open Go.RowKit
attribute [local go_sem ↓] Go.wp_at_zero Go.wp_at_succ
theorem take_last (A B : List UInt8) (h : B.length = 8) : (A ++ B).take ((A ++ B).length - 1) = A ++ B.take 7 := by
  rw [List.length_append, h, List.take_append, List.take_of_length_le (by omega), show A.length + 8 - 1 - A.length = 7 by omega]
theorem number_short {w : World} {cb base : Nat} {v : Value} {r : List UInt8} (h : Cr w cb base v r) (hr : r.length < 8) (p : Value) :
    Calls Tryz.prog 63 #[.pointer (some ⟨cb, 0, none⟩), p] w fun e w' => e = .panicked wrong ∧ w = w' := by
  have hrd := h.reads
  have HH := Lib.hid h
  clear h
  go_enter Tryz.func63, Tryz.ntmps63
  go_wp2_with fail
  refine (take_short 8 w HH.out hr).mono ?_
  rintro e w2 ⟨rfl, rfl⟩
  exact ⟨rfl, rfl, rfl⟩
theorem errno_short {w : World} {cb base : Nat} {v p : Value} {r : List UInt8} (h : Cr w cb base v r) (hr : r.length < 8) :
    Calls Tryz.prog 78 #[.pointer (some ⟨cb, 0, none⟩), p] w fun e w' => e = .panicked wrong ∧ w = w' := by
  have HH := Lib.hid h
  clear h
  go_enter Tryz.func78, Tryz.ntmps78
  go_wp2_with fail
  refine (number_short HH.out hr _).mono ?_
  rintro e w2 ⟨rfl, rfl⟩
  exact ⟨rfl, rfl, rfl⟩
set_option maxRecDepth 100000 in
set_option maxHeartbeats 4000000 in
theorem msg_short (b o : Nat) (T : TypeId) (cs : Array Value) (m : List UInt8) (w : World) (cb base : Nat) (v : Value) (hp : Par (.pair .num (.pair (.pair .num .num) (.pair (.pair .num .num) (.pair .num (.pair .num (.pair (.pair .num .num) (.pair .num (.pair .num (.pair .num (.pair (.list (.pair .num (.pair .num .data))) (.pair (.list (.pair .num (.list (.pair .num (.pair .num (.pair .num (.pair (.pair .num (.pair .num (.pair .num .num))) (.pair .num (.pair .num (.pair (.list .num) (.list .num))))))))))) (.pair (.list (.pair .num (.pair .num (.pair .num (.pair (.pair .num (.pair .num (.pair .num .num))) (.pair .num (.pair .num (.pair (.list .num) (.list .num))))))))) (.pair (.pair .num (.pair (.pair .num .num) (.pair (.pair .num .num) .num))) (.pair (.pair .num (.pair (.pair .num .num) (.pair (.list (.pair (.pair .num .num) (.pair .bool (.pair .num (.pair .text (.pair .num .num)))))) (.pair (.list (.pair .num (.pair .num (.pair .num (.pair .num .num))))) (.list (.pair .text (.pair (.pair .num .num) .word))))))) (.pair (.pair (.pair .num .num) (.pair .bool (.pair .num (.pair .text (.pair .num .num))))) (.pair (.pair .text (.pair (.pair .num .num) .data)) (.pair (.pair .num (.pair .text (.pair .data (.pair .num .num)))) (.pair (.list (.pair .text (.pair (.pair .num .num) .word))) (.pair (.list .text) .num))))))))))))))))))) m) (hc : Cr w cb base v (m.take (m.length - 1))) (hb : Bk w b T cs) (hne : b ≠ cb) (hle : base ≤ b)
    (hz : ∀ k, k < Sch.sz (.pair .num (.pair (.pair .num .num) (.pair (.pair .num .num) (.pair .num (.pair .num (.pair (.pair .num .num) (.pair .num (.pair .num (.pair .num (.pair (.list (.pair .num (.pair .num .data))) (.pair (.list (.pair .num (.list (.pair .num (.pair .num (.pair .num (.pair (.pair .num (.pair .num (.pair .num .num))) (.pair .num (.pair .num (.pair (.list .num) (.list .num))))))))))) (.pair (.list (.pair .num (.pair .num (.pair .num (.pair (.pair .num (.pair .num (.pair .num .num))) (.pair .num (.pair .num (.pair (.list .num) (.list .num))))))))) (.pair (.pair .num (.pair (.pair .num .num) (.pair (.pair .num .num) .num))) (.pair (.pair .num (.pair (.pair .num .num) (.pair (.list (.pair (.pair .num .num) (.pair .bool (.pair .num (.pair .text (.pair .num .num)))))) (.pair (.list (.pair .num (.pair .num (.pair .num (.pair .num .num))))) (.list (.pair .text (.pair (.pair .num .num) .word))))))) (.pair (.pair (.pair .num .num) (.pair .bool (.pair .num (.pair .text (.pair .num .num))))) (.pair (.pair .text (.pair (.pair .num .num) .data)) (.pair (.pair .num (.pair .text (.pair .data (.pair .num .num)))) (.pair (.list (.pair .text (.pair (.pair .num .num) .word))) (.pair (.list .text) .num))))))))))))))))))) → cs[o + k]? = (Zc (.pair .num (.pair (.pair .num .num) (.pair (.pair .num .num) (.pair .num (.pair .num (.pair (.pair .num .num) (.pair .num (.pair .num (.pair .num (.pair (.list (.pair .num (.pair .num .data))) (.pair (.list (.pair .num (.list (.pair .num (.pair .num (.pair .num (.pair (.pair .num (.pair .num (.pair .num .num))) (.pair .num (.pair .num (.pair (.list .num) (.list .num))))))))))) (.pair (.list (.pair .num (.pair .num (.pair .num (.pair (.pair .num (.pair .num (.pair .num .num))) (.pair .num (.pair .num (.pair (.list .num) (.list .num))))))))) (.pair (.pair .num (.pair (.pair .num .num) (.pair (.pair .num .num) .num))) (.pair (.pair .num (.pair (.pair .num .num) (.pair (.list (.pair (.pair .num .num) (.pair .bool (.pair .num (.pair .text (.pair .num .num)))))) (.pair (.list (.pair .num (.pair .num (.pair .num (.pair .num .num))))) (.list (.pair .text (.pair (.pair .num .num) .word))))))) (.pair (.pair (.pair .num .num) (.pair .bool (.pair .num (.pair .text (.pair .num .num))))) (.pair (.pair .text (.pair (.pair .num .num) .data)) (.pair (.pair .num (.pair .text (.pair .data (.pair .num .num)))) (.pair (.list (.pair .text (.pair (.pair .num .num) .word))) (.pair (.list .text) .num))))))))))))))))))))[k]?) (hl : m.length ≤ 100000000) :
    Calls Tryz.prog 33 #[.pointer (some ⟨cb, 0, none⟩), .pointer (some ⟨b, o, none⟩)] w fun e w' => e = .panicked wrong ∧ ∃ cs', Bk w' b T cs' ∧ cs'.size = cs.size ∧ Mv (fun k => k = cb ∨ k = b) w w' := by
  obtain ⟨m0, r0, p0, q0, e0⟩ := hp
  obtain ⟨m1, r1, p1, q1, e1⟩ := q0
  obtain ⟨m2, r2, p2, q2, e2⟩ := q1
  obtain ⟨m3, r3, p3, q3, e3⟩ := q2
  obtain ⟨m4, r4, p4, q4, e4⟩ := q3
  obtain ⟨m5, r5, p5, q5, e5⟩ := q4
  obtain ⟨m6, r6, p6, q6, e6⟩ := q5
  obtain ⟨m7, r7, p7, q7, e7⟩ := q6
  obtain ⟨m8, r8, p8, q8, e8⟩ := q7
  obtain ⟨m9, r9, p9, q9, e9⟩ := q8
  obtain ⟨m10, r10, p10, q10, e10⟩ := q9
  obtain ⟨m11, r11, p11, q11, e11⟩ := q10
  obtain ⟨m12, r12, p12, q12, e12⟩ := q11
  obtain ⟨m13, r13, p13, q13, e13⟩ := q12
  obtain ⟨m14, r14, p14, q14, e14⟩ := q13
  obtain ⟨m15, r15, p15, q15, e15⟩ := q14
  obtain ⟨m16, r16, p16, q16, e16⟩ := q15
  obtain ⟨m17, r17, p17, q17, e17⟩ := q16
  obtain ⟨m18, m19, p18, p19, e18⟩ := q17
  subst e18
  subst e17
  subst e16
  subst e15
  subst e14
  subst e13
  subst e12
  subst e11
  subst e10
  subst e9
  subst e8
  subst e7
  subst e6
  subst e5
  subst e4
  subst e3
  subst e2
  subst e1
  subst e0
  obtain ⟨r, hr, hr8⟩ : ∃ r, m19.take 7 = r ∧ r.length < 8 := ⟨_, rfl, by rw [List.length_take]; omega⟩
  have hL8 : m19.length = 8 := p19
  have htk := take_last (m0 ++ (m1 ++ (m2 ++ (m3 ++ (m4 ++ (m5 ++ (m6 ++ (m7 ++ (m8 ++ (m9 ++ (m10 ++ (m11 ++ (m12 ++ (m13 ++ (m14 ++ (m15 ++ (m16 ++ (m17 ++ (m18))))))))))))))))))) m19 hL8
  rw [hr] at htk
  replace hc : Cr w cb base v (m0 ++ (m1 ++ (m2 ++ (m3 ++ (m4 ++ (m5 ++ (m6 ++ (m7 ++ (m8 ++ (m9 ++ (m10 ++ (m11 ++ (m12 ++ (m13 ++ (m14 ++ (m15 ++ (m16 ++ (m17 ++ (m18 ++ (r)))))))))))))))))))) := by
    simp only [List.append_assoc] at hc htk ⊢
    rw [htk] at hc
    exact hc
  have hz' : ∀ k, k < szL [.num, (.pair .num .num), (.pair .num .num), .num, .num, (.pair .num .num), .num, .num, .num, (.list (.pair .num (.pair .num .data))), (.list (.pair .num (.list (.pair .num (.pair .num (.pair .num (.pair (.pair .num (.pair .num (.pair .num .num))) (.pair .num (.pair .num (.pair (.list .num) (.list .num))))))))))), (.list (.pair .num (.pair .num (.pair .num (.pair (.pair .num (.pair .num (.pair .num .num))) (.pair .num (.pair .num (.pair (.list .num) (.list .num))))))))), (.pair .num (.pair (.pair .num .num) (.pair (.pair .num .num) .num))), (.pair .num (.pair (.pair .num .num) (.pair (.list (.pair (.pair .num .num) (.pair .bool (.pair .num (.pair .text (.pair .num .num)))))) (.pair (.list (.pair .num (.pair .num (.pair .num (.pair .num .num))))) (.list (.pair .text (.pair (.pair .num .num) .word))))))), (.pair (.pair .num .num) (.pair .bool (.pair .num (.pair .text (.pair .num .num))))), (.pair .text (.pair (.pair .num .num) .data)), (.pair .num (.pair .text (.pair .data (.pair .num .num)))), (.list (.pair .text (.pair (.pair .num .num) .word))), (.list .text), .num] → cs[o + k]? = (([.num, (.pair .num .num), (.pair .num .num), .num, .num, (.pair .num .num), .num, .num, .num, (.list (.pair .num (.pair .num .data))), (.list (.pair .num (.list (.pair .num (.pair .num (.pair .num (.pair (.pair .num (.pair .num (.pair .num .num))) (.pair .num (.pair .num (.pair (.list .num) (.list .num))))))))))), (.list (.pair .num (.pair .num (.pair .num (.pair (.pair .num (.pair .num (.pair .num .num))) (.pair .num (.pair .num (.pair (.list .num) (.list .num))))))))), (.pair .num (.pair (.pair .num .num) (.pair (.pair .num .num) .num))), (.pair .num (.pair (.pair .num .num) (.pair (.list (.pair (.pair .num .num) (.pair .bool (.pair .num (.pair .text (.pair .num .num)))))) (.pair (.list (.pair .num (.pair .num (.pair .num (.pair .num .num))))) (.list (.pair .text (.pair (.pair .num .num) .word))))))), (.pair (.pair .num .num) (.pair .bool (.pair .num (.pair .text (.pair .num .num))))), (.pair .text (.pair (.pair .num .num) .data)), (.pair .num (.pair .text (.pair .data (.pair .num .num)))), (.list (.pair .text (.pair (.pair .num .num) .word))), (.list .text), .num].map Zc).flatten)[k]? := by rw [← Zc_nest [.num, (.pair .num .num), (.pair .num .num), .num, .num, (.pair .num .num), .num, .num, .num, (.list (.pair .num (.pair .num .data))), (.list (.pair .num (.list (.pair .num (.pair .num (.pair .num (.pair (.pair .num (.pair .num (.pair .num .num))) (.pair .num (.pair .num (.pair (.list .num) (.list .num))))))))))), (.list (.pair .num (.pair .num (.pair .num (.pair (.pair .num (.pair .num (.pair .num .num))) (.pair .num (.pair .num (.pair (.list .num) (.list .num))))))))), (.pair .num (.pair (.pair .num .num) (.pair (.pair .num .num) .num))), (.pair .num (.pair (.pair .num .num) (.pair (.list (.pair (.pair .num .num) (.pair .bool (.pair .num (.pair .text (.pair .num .num)))))) (.pair (.list (.pair .num (.pair .num (.pair .num (.pair .num .num))))) (.list (.pair .text (.pair (.pair .num .num) .word))))))), (.pair (.pair .num .num) (.pair .bool (.pair .num (.pair .text (.pair .num .num))))), (.pair .text (.pair (.pair .num .num) .data)), (.pair .num (.pair .text (.pair .data (.pair .num .num)))), (.list (.pair .text (.pair (.pair .num .num) .word))), (.list .text), .num] (by simp)]; exact hz
  have HL := Lib.hid hl
  have HB := Lib.hid (And.intro hne (And.intro hle (And.intro hc.lt hb.lt)))
  have HZ := Lib.hid hz'
  have HP := Lib.hid (show Par .num m0 ∧ Par (.pair .num .num) m1 ∧ Par (.pair .num .num) m2 ∧ Par .num m3 ∧ Par .num m4 ∧ Par (.pair .num .num) m5 ∧ Par .num m6 ∧ Par .num m7 ∧ Par .num m8 ∧ Par (.list (.pair .num (.pair .num .data))) m9 ∧ Par (.list (.pair .num (.list (.pair .num (.pair .num (.pair .num (.pair (.pair .num (.pair .num (.pair .num .num))) (.pair .num (.pair .num (.pair (.list .num) (.list .num))))))))))) m10 ∧ Par (.list (.pair .num (.pair .num (.pair .num (.pair (.pair .num (.pair .num (.pair .num .num))) (.pair .num (.pair .num (.pair (.list .num) (.list .num))))))))) m11 ∧ Par (.pair .num (.pair (.pair .num .num) (.pair (.pair .num .num) .num))) m12 ∧ Par (.pair .num (.pair (.pair .num .num) (.pair (.list (.pair (.pair .num .num) (.pair .bool (.pair .num (.pair .text (.pair .num .num)))))) (.pair (.list (.pair .num (.pair .num (.pair .num (.pair .num .num))))) (.list (.pair .text (.pair (.pair .num .num) .word))))))) m13 ∧ Par (.pair (.pair .num .num) (.pair .bool (.pair .num (.pair .text (.pair .num .num))))) m14 ∧ Par (.pair .text (.pair (.pair .num .num) .data)) m15 ∧ Par (.pair .num (.pair .text (.pair .data (.pair .num .num)))) m16 ∧ Par (.list (.pair .text (.pair (.pair .num .num) .word))) m17 ∧ Par (.list .text) m18 ∧ Par .num m19 ∧ True from ⟨p0, p1, p2, p3, p4, p5, p6, p7, p8, p9, p10, p11, p12, p13, p14, p15, p16, p17, p18, p19, trivial⟩)
  have hrd := hc.reads
  have H1 := Lib.hid (Rst.start (o := o) hc hb)
  clear hc hb hne hle hz hz' hl p0 p1 p2 p3 p4 p5 p6 p7 p8 p9 p10 p11 p12 p13 p14 p15 p16 p17 p18 p19
  go_enter Tryz.func33, Tryz.ntmps33
  go_wp2_with fail
  refine (number_rd b (o) T cs m0 (m1 ++ (m2 ++ (m3 ++ (m4 ++ (m5 ++ (m6 ++ (m7 ++ (m8 ++ (m9 ++ (m10 ++ (m11 ++ (m12 ++ (m13 ++ (m14 ++ (m15 ++ (m16 ++ (m17 ++ (m18 ++ r)))))))))))))))))) w cb base v HP.out.1 H1.out.cr H1.out.bk HB.out.1 HB.out.2.1 (Rst.zero H1.out HZ.out .num [(.pair .num .num), (.pair .num .num), .num, .num, (.pair .num .num), .num, .num, .num, (.list (.pair .num (.pair .num .data))), (.list (.pair .num (.list (.pair .num (.pair .num (.pair .num (.pair (.pair .num (.pair .num (.pair .num .num))) (.pair .num (.pair .num (.pair (.list .num) (.list .num))))))))))), (.list (.pair .num (.pair .num (.pair .num (.pair (.pair .num (.pair .num (.pair .num .num))) (.pair .num (.pair .num (.pair (.list .num) (.list .num))))))))), (.pair .num (.pair (.pair .num .num) (.pair (.pair .num .num) .num))), (.pair .num (.pair (.pair .num .num) (.pair (.list (.pair (.pair .num .num) (.pair .bool (.pair .num (.pair .text (.pair .num .num)))))) (.pair (.list (.pair .num (.pair .num (.pair .num (.pair .num .num))))) (.list (.pair .text (.pair (.pair .num .num) .word))))))), (.pair (.pair .num .num) (.pair .bool (.pair .num (.pair .text (.pair .num .num))))), (.pair .text (.pair (.pair .num .num) .data)), (.pair .num (.pair .text (.pair .data (.pair .num .num)))), (.list (.pair .text (.pair (.pair .num .num) .word))), (.list .text), .num] rfl) (by have := HL.out; first | omega | (simp only [List.length_append] at this ⊢; omega))).mono ?_
  intro e w2 hx
  obtain ⟨rfl, v2, cs2, h2⟩ := H1.out.step HB.out.2.2.1 HB.out.2.2.2 hx
  have H2 := Lib.hid h2
  clear h2 hx
  go_wp2_with fail
  refine (node_rd b (o + 1) T cs2 m1 (m2 ++ (m3 ++ (m4 ++ (m5 ++ (m6 ++ (m7 ++ (m8 ++ (m9 ++ (m10 ++ (m11 ++ (m12 ++ (m13 ++ (m14 ++ (m15 ++ (m16 ++ (m17 ++ (m18 ++ r))))))))))))))))) w2 cb base v2 HP.out.2.1 H2.out.cr H2.out.bk HB.out.1 HB.out.2.1 (Rst.zero H2.out HZ.out (.pair .num .num) [(.pair .num .num), .num, .num, (.pair .num .num), .num, .num, .num, (.list (.pair .num (.pair .num .data))), (.list (.pair .num (.list (.pair .num (.pair .num (.pair .num (.pair (.pair .num (.pair .num (.pair .num .num))) (.pair .num (.pair .num (.pair (.list .num) (.list .num))))))))))), (.list (.pair .num (.pair .num (.pair .num (.pair (.pair .num (.pair .num (.pair .num .num))) (.pair .num (.pair .num (.pair (.list .num) (.list .num))))))))), (.pair .num (.pair (.pair .num .num) (.pair (.pair .num .num) .num))), (.pair .num (.pair (.pair .num .num) (.pair (.list (.pair (.pair .num .num) (.pair .bool (.pair .num (.pair .text (.pair .num .num)))))) (.pair (.list (.pair .num (.pair .num (.pair .num (.pair .num .num))))) (.list (.pair .text (.pair (.pair .num .num) .word))))))), (.pair (.pair .num .num) (.pair .bool (.pair .num (.pair .text (.pair .num .num))))), (.pair .text (.pair (.pair .num .num) .data)), (.pair .num (.pair .text (.pair .data (.pair .num .num)))), (.list (.pair .text (.pair (.pair .num .num) .word))), (.list .text), .num] rfl) (by have := HL.out; first | omega | (simp only [List.length_append] at this ⊢; omega))).mono ?_
  intro e w3 hx
  obtain ⟨rfl, v3, cs3, h2⟩ := H2.out.step HB.out.2.2.1 HB.out.2.2.2 hx
  have H3 := Lib.hid h2
  clear h2 hx
  go_wp2_with fail
  refine (node_rd b (o + 3) T cs3 m2 (m3 ++ (m4 ++ (m5 ++ (m6 ++ (m7 ++ (m8 ++ (m9 ++ (m10 ++ (m11 ++ (m12 ++ (m13 ++ (m14 ++ (m15 ++ (m16 ++ (m17 ++ (m18 ++ r)))))))))))))))) w3 cb base v3 HP.out.2.2.1 H3.out.cr H3.out.bk HB.out.1 HB.out.2.1 (Rst.zero H3.out HZ.out (.pair .num .num) [.num, .num, (.pair .num .num), .num, .num, .num, (.list (.pair .num (.pair .num .data))), (.list (.pair .num (.list (.pair .num (.pair .num (.pair .num (.pair (.pair .num (.pair .num (.pair .num .num))) (.pair .num (.pair .num (.pair (.list .num) (.list .num))))))))))), (.list (.pair .num (.pair .num (.pair .num (.pair (.pair .num (.pair .num (.pair .num .num))) (.pair .num (.pair .num (.pair (.list .num) (.list .num))))))))), (.pair .num (.pair (.pair .num .num) (.pair (.pair .num .num) .num))), (.pair .num (.pair (.pair .num .num) (.pair (.list (.pair (.pair .num .num) (.pair .bool (.pair .num (.pair .text (.pair .num .num)))))) (.pair (.list (.pair .num (.pair .num (.pair .num (.pair .num .num))))) (.list (.pair .text (.pair (.pair .num .num) .word))))))), (.pair (.pair .num .num) (.pair .bool (.pair .num (.pair .text (.pair .num .num))))), (.pair .text (.pair (.pair .num .num) .data)), (.pair .num (.pair .text (.pair .data (.pair .num .num)))), (.list (.pair .text (.pair (.pair .num .num) .word))), (.list .text), .num] rfl) (by have := HL.out; first | omega | (simp only [List.length_append] at this ⊢; omega))).mono ?_
  intro e w4 hx
  obtain ⟨rfl, v4, cs4, h2⟩ := H3.out.step HB.out.2.2.1 HB.out.2.2.2 hx
  have H4 := Lib.hid h2
  clear h2 hx
  go_wp2_with fail
  have hzz : ∀ i, i < 2 → cs4[o + 5 + i]? = some (.int .i64 0) := by
    intro i hi
    have e := HZ.out (5 + i) (by show _ < 46; omega)
    have e2 := H4.out.out (o + (5 + i)) (.inr (by show o + 5 ≤ _; omega))
    have e3 : o + 5 + i = o + (5 + i) := by omega
    rw [e3, e2, e]
    rcases (show i = 0 ∨ i = 1 by omega) with rfl | rfl <;> rfl
  have h8 : ∀ x ∈ [m3, m4], x.length = 8 := by
    intro x hx
    simp only [List.mem_cons, List.not_mem_nil, or_false] at hx
    rcases hx with rfl | rfl
    · exact HP.out.2.2.2.1
    · exact HP.out.2.2.2.2.1
  have HN := Lib.hid (Rst.nums 2 (by omega) [m3, m4] rfl h8 (rest := m5 ++ (m6 ++ (m7 ++ (m8 ++ (m9 ++ (m10 ++ (m11 ++ (m12 ++ (m13 ++ (m14 ++ (m15 ++ (m16 ++ (m17 ++ (m18 ++ r)))))))))))))) (H4.out.recr (by simp only [List.flatten_cons, List.flatten_nil, List.append_assoc, List.nil_append])) HB.out.2.2.1 HB.out.2.2.2 HB.out.1 HB.out.2.1 hzz [(b, o + 5), (b, o + 6)] rfl)
  clear hzz h8
  go_region_held3 (fun _ => True) (trivial) ((go_at_call 65; refine HN.out.mono ?_; rintro e w5 ⟨rfl, v5, cs5, h2⟩; (have H5 := Lib.hid h2); clear h2))
  clear HN
  go_wp2_with fail
  refine (pg_rd b (o + 7) T cs5 m5 (m6 ++ (m7 ++ (m8 ++ (m9 ++ (m10 ++ (m11 ++ (m12 ++ (m13 ++ (m14 ++ (m15 ++ (m16 ++ (m17 ++ (m18 ++ r))))))))))))) w5 cb base v5 HP.out.2.2.2.2.2.1 H5.out.cr H5.out.bk HB.out.1 HB.out.2.1 (Rst.zero H5.out HZ.out (.pair .num .num) [.num, .num, .num, (.list (.pair .num (.pair .num .data))), (.list (.pair .num (.list (.pair .num (.pair .num (.pair .num (.pair (.pair .num (.pair .num (.pair .num .num))) (.pair .num (.pair .num (.pair (.list .num) (.list .num))))))))))), (.list (.pair .num (.pair .num (.pair .num (.pair (.pair .num (.pair .num (.pair .num .num))) (.pair .num (.pair .num (.pair (.list .num) (.list .num))))))))), (.pair .num (.pair (.pair .num .num) (.pair (.pair .num .num) .num))), (.pair .num (.pair (.pair .num .num) (.pair (.list (.pair (.pair .num .num) (.pair .bool (.pair .num (.pair .text (.pair .num .num)))))) (.pair (.list (.pair .num (.pair .num (.pair .num (.pair .num .num))))) (.list (.pair .text (.pair (.pair .num .num) .word))))))), (.pair (.pair .num .num) (.pair .bool (.pair .num (.pair .text (.pair .num .num))))), (.pair .text (.pair (.pair .num .num) .data)), (.pair .num (.pair .text (.pair .data (.pair .num .num)))), (.list (.pair .text (.pair (.pair .num .num) .word))), (.list .text), .num] rfl) (by have := HL.out; first | omega | (simp only [List.length_append] at this ⊢; omega))).mono ?_
  intro e w6 hx
  obtain ⟨rfl, v6, cs6, h2⟩ := H5.out.step HB.out.2.2.1 HB.out.2.2.2 hx
  have H6 := Lib.hid h2
  clear h2 hx
  go_wp2_with fail
  have hzz : ∀ i, i < 3 → cs6[o + 9 + i]? = some (.int .i64 0) := by
    intro i hi
    have e := HZ.out (9 + i) (by show _ < 46; omega)
    have e2 := H6.out.out (o + (9 + i)) (.inr (by show o + 9 ≤ _; omega))
    have e3 : o + 9 + i = o + (9 + i) := by omega
    rw [e3, e2, e]
    rcases (show i = 0 ∨ i = 1 ∨ i = 2 by omega) with rfl | rfl | rfl <;> rfl
  have h8 : ∀ x ∈ [m6, m7, m8], x.length = 8 := by
    intro x hx
    simp only [List.mem_cons, List.not_mem_nil, or_false] at hx
    rcases hx with rfl | rfl | rfl
    · exact HP.out.2.2.2.2.2.2.1
    · exact HP.out.2.2.2.2.2.2.2.1
    · exact HP.out.2.2.2.2.2.2.2.2.1
  have HN := Lib.hid (Rst.nums 3 (by omega) [m6, m7, m8] rfl h8 (rest := m9 ++ (m10 ++ (m11 ++ (m12 ++ (m13 ++ (m14 ++ (m15 ++ (m16 ++ (m17 ++ (m18 ++ r)))))))))) (H6.out.recr (by simp only [List.flatten_cons, List.flatten_nil, List.append_assoc, List.nil_append])) HB.out.2.2.1 HB.out.2.2.2 HB.out.1 HB.out.2.1 hzz [(b, o + 9), (b, o + 10), (b, o + 11)] rfl)
  clear hzz h8
  go_region_held3 (fun _ => True) (trivial) ((go_at_call 65; refine HN.out.mono ?_; rintro e w7 ⟨rfl, v7, cs7, h2⟩; (have H7 := Lib.hid h2); clear h2))
  clear HN
  go_wp2_with fail
  refine (list_slot_rd b (o + 12) T cs7 m9 (m10 ++ (m11 ++ (m12 ++ (m13 ++ (m14 ++ (m15 ++ (m16 ++ (m17 ++ (m18 ++ r))))))))) w7 cb base v7 HP.out.2.2.2.2.2.2.2.2.2.1 H7.out.cr H7.out.bk HB.out.1 HB.out.2.1 (Rst.zero H7.out HZ.out (.list (.pair .num (.pair .num .data))) [(.list (.pair .num (.list (.pair .num (.pair .num (.pair .num (.pair (.pair .num (.pair .num (.pair .num .num))) (.pair .num (.pair .num (.pair (.list .num) (.list .num))))))))))), (.list (.pair .num (.pair .num (.pair .num (.pair (.pair .num (.pair .num (.pair .num .num))) (.pair .num (.pair .num (.pair (.list .num) (.list .num))))))))), (.pair .num (.pair (.pair .num .num) (.pair (.pair .num .num) .num))), (.pair .num (.pair (.pair .num .num) (.pair (.list (.pair (.pair .num .num) (.pair .bool (.pair .num (.pair .text (.pair .num .num)))))) (.pair (.list (.pair .num (.pair .num (.pair .num (.pair .num .num))))) (.list (.pair .text (.pair (.pair .num .num) .word))))))), (.pair (.pair .num .num) (.pair .bool (.pair .num (.pair .text (.pair .num .num))))), (.pair .text (.pair (.pair .num .num) .data)), (.pair .num (.pair .text (.pair .data (.pair .num .num)))), (.list (.pair .text (.pair (.pair .num .num) .word))), (.list .text), .num] rfl) (by have := HL.out; first | omega | (simp only [List.length_append] at this ⊢; omega))).mono ?_
  intro e w8 hx
  obtain ⟨rfl, v8, cs8, h2⟩ := H7.out.step HB.out.2.2.1 HB.out.2.2.2 hx
  have H8 := Lib.hid h2
  clear h2 hx
  go_wp2_with fail
  refine (list_inc_rd b (o + 13) T cs8 m10 (m11 ++ (m12 ++ (m13 ++ (m14 ++ (m15 ++ (m16 ++ (m17 ++ (m18 ++ r)))))))) w8 cb base v8 HP.out.2.2.2.2.2.2.2.2.2.2.1 H8.out.cr H8.out.bk HB.out.1 HB.out.2.1 (Rst.zero H8.out HZ.out (.list (.pair .num (.list (.pair .num (.pair .num (.pair .num (.pair (.pair .num (.pair .num (.pair .num .num))) (.pair .num (.pair .num (.pair (.list .num) (.list .num))))))))))) [(.list (.pair .num (.pair .num (.pair .num (.pair (.pair .num (.pair .num (.pair .num .num))) (.pair .num (.pair .num (.pair (.list .num) (.list .num))))))))), (.pair .num (.pair (.pair .num .num) (.pair (.pair .num .num) .num))), (.pair .num (.pair (.pair .num .num) (.pair (.list (.pair (.pair .num .num) (.pair .bool (.pair .num (.pair .text (.pair .num .num)))))) (.pair (.list (.pair .num (.pair .num (.pair .num (.pair .num .num))))) (.list (.pair .text (.pair (.pair .num .num) .word))))))), (.pair (.pair .num .num) (.pair .bool (.pair .num (.pair .text (.pair .num .num))))), (.pair .text (.pair (.pair .num .num) .data)), (.pair .num (.pair .text (.pair .data (.pair .num .num)))), (.list (.pair .text (.pair (.pair .num .num) .word))), (.list .text), .num] rfl) (by have := HL.out; first | omega | (simp only [List.length_append] at this ⊢; omega))).mono ?_
  intro e w9 hx
  obtain ⟨rfl, v9, cs9, h2⟩ := H8.out.step HB.out.2.2.1 HB.out.2.2.2 hx
  have H9 := Lib.hid h2
  clear h2 hx
  go_wp2_with fail
  refine (list_change_rd b (o + 14) T cs9 m11 (m12 ++ (m13 ++ (m14 ++ (m15 ++ (m16 ++ (m17 ++ (m18 ++ r))))))) w9 cb base v9 HP.out.2.2.2.2.2.2.2.2.2.2.2.1 H9.out.cr H9.out.bk HB.out.1 HB.out.2.1 (Rst.zero H9.out HZ.out (.list (.pair .num (.pair .num (.pair .num (.pair (.pair .num (.pair .num (.pair .num .num))) (.pair .num (.pair .num (.pair (.list .num) (.list .num))))))))) [(.pair .num (.pair (.pair .num .num) (.pair (.pair .num .num) .num))), (.pair .num (.pair (.pair .num .num) (.pair (.list (.pair (.pair .num .num) (.pair .bool (.pair .num (.pair .text (.pair .num .num)))))) (.pair (.list (.pair .num (.pair .num (.pair .num (.pair .num .num))))) (.list (.pair .text (.pair (.pair .num .num) .word))))))), (.pair (.pair .num .num) (.pair .bool (.pair .num (.pair .text (.pair .num .num))))), (.pair .text (.pair (.pair .num .num) .data)), (.pair .num (.pair .text (.pair .data (.pair .num .num)))), (.list (.pair .text (.pair (.pair .num .num) .word))), (.list .text), .num] rfl) (by have := HL.out; first | omega | (simp only [List.length_append] at this ⊢; omega))).mono ?_
  intro e w10 hx
  obtain ⟨rfl, v10, cs10, h2⟩ := H9.out.step HB.out.2.2.1 HB.out.2.2.2 hx
  have H10 := Lib.hid h2
  clear h2 hx
  go_wp2_with fail
  refine (info_rd b (o + 15) T cs10 m12 (m13 ++ (m14 ++ (m15 ++ (m16 ++ (m17 ++ (m18 ++ r)))))) w10 cb base v10 HP.out.2.2.2.2.2.2.2.2.2.2.2.2.1 H10.out.cr H10.out.bk HB.out.1 HB.out.2.1 (Rst.zero H10.out HZ.out (.pair .num (.pair (.pair .num .num) (.pair (.pair .num .num) .num))) [(.pair .num (.pair (.pair .num .num) (.pair (.list (.pair (.pair .num .num) (.pair .bool (.pair .num (.pair .text (.pair .num .num)))))) (.pair (.list (.pair .num (.pair .num (.pair .num (.pair .num .num))))) (.list (.pair .text (.pair (.pair .num .num) .word))))))), (.pair (.pair .num .num) (.pair .bool (.pair .num (.pair .text (.pair .num .num))))), (.pair .text (.pair (.pair .num .num) .data)), (.pair .num (.pair .text (.pair .data (.pair .num .num)))), (.list (.pair .text (.pair (.pair .num .num) .word))), (.list .text), .num] rfl) (by have := HL.out; first | omega | (simp only [List.length_append] at this ⊢; omega))).mono ?_
  intro e w11 hx
  obtain ⟨rfl, v11, cs11, h2⟩ := H10.out.step HB.out.2.2.1 HB.out.2.2.2 hx
  have H11 := Lib.hid h2
  clear h2 hx
  go_wp2_with fail
  refine (state_rd b (o + 21) T cs11 m13 (m14 ++ (m15 ++ (m16 ++ (m17 ++ (m18 ++ r))))) w11 cb base v11 HP.out.2.2.2.2.2.2.2.2.2.2.2.2.2.1 H11.out.cr H11.out.bk HB.out.1 HB.out.2.1 (Rst.zero H11.out HZ.out (.pair .num (.pair (.pair .num .num) (.pair (.list (.pair (.pair .num .num) (.pair .bool (.pair .num (.pair .text (.pair .num .num)))))) (.pair (.list (.pair .num (.pair .num (.pair .num (.pair .num .num))))) (.list (.pair .text (.pair (.pair .num .num) .word))))))) [(.pair (.pair .num .num) (.pair .bool (.pair .num (.pair .text (.pair .num .num))))), (.pair .text (.pair (.pair .num .num) .data)), (.pair .num (.pair .text (.pair .data (.pair .num .num)))), (.list (.pair .text (.pair (.pair .num .num) .word))), (.list .text), .num] rfl) (by have := HL.out; first | omega | (simp only [List.length_append] at this ⊢; omega))).mono ?_
  intro e w12 hx
  obtain ⟨rfl, v12, cs12, h2⟩ := H11.out.step HB.out.2.2.1 HB.out.2.2.2 hx
  have H12 := Lib.hid h2
  clear h2 hx
  go_wp2_with fail
  refine (entry_rd b (o + 27) T cs12 m14 (m15 ++ (m16 ++ (m17 ++ (m18 ++ r)))) w12 cb base v12 HP.out.2.2.2.2.2.2.2.2.2.2.2.2.2.2.1 H12.out.cr H12.out.bk HB.out.1 HB.out.2.1 (Rst.zero H12.out HZ.out (.pair (.pair .num .num) (.pair .bool (.pair .num (.pair .text (.pair .num .num))))) [(.pair .text (.pair (.pair .num .num) .data)), (.pair .num (.pair .text (.pair .data (.pair .num .num)))), (.list (.pair .text (.pair (.pair .num .num) .word))), (.list .text), .num] rfl) (by have := HL.out; first | omega | (simp only [List.length_append] at this ⊢; omega))).mono ?_
  intro e w13 hx
  obtain ⟨rfl, v13, cs13, h2⟩ := H12.out.step HB.out.2.2.1 HB.out.2.2.2 hx
  have H13 := Lib.hid h2
  clear h2 hx
  go_wp2_with fail
  refine (object_rd b (o + 34) T cs13 m15 (m16 ++ (m17 ++ (m18 ++ r))) w13 cb base v13 HP.out.2.2.2.2.2.2.2.2.2.2.2.2.2.2.2.1 H13.out.cr H13.out.bk HB.out.1 HB.out.2.1 (Rst.zero H13.out HZ.out (.pair .text (.pair (.pair .num .num) .data)) [(.pair .num (.pair .text (.pair .data (.pair .num .num)))), (.list (.pair .text (.pair (.pair .num .num) .word))), (.list .text), .num] rfl) (by have := HL.out; first | omega | (simp only [List.length_append] at this ⊢; omega))).mono ?_
  intro e w14 hx
  obtain ⟨rfl, v14, cs14, h2⟩ := H13.out.step HB.out.2.2.1 HB.out.2.2.2 hx
  have H14 := Lib.hid h2
  clear h2 hx
  go_wp2_with fail
  refine (op_rd b (o + 38) T cs14 m16 (m17 ++ (m18 ++ r)) w14 cb base v14 HP.out.2.2.2.2.2.2.2.2.2.2.2.2.2.2.2.2.1 H14.out.cr H14.out.bk HB.out.1 HB.out.2.1 (Rst.zero H14.out HZ.out (.pair .num (.pair .text (.pair .data (.pair .num .num)))) [(.list (.pair .text (.pair (.pair .num .num) .word))), (.list .text), .num] rfl) (by have := HL.out; first | omega | (simp only [List.length_append] at this ⊢; omega))).mono ?_
  intro e w15 hx
  obtain ⟨rfl, v15, cs15, h2⟩ := H14.out.step HB.out.2.2.1 HB.out.2.2.2 hx
  have H15 := Lib.hid h2
  clear h2 hx
  go_wp2_with fail
  refine (list_item_rd b (o + 43) T cs15 m17 (m18 ++ r) w15 cb base v15 HP.out.2.2.2.2.2.2.2.2.2.2.2.2.2.2.2.2.2.1 H15.out.cr H15.out.bk HB.out.1 HB.out.2.1 (Rst.zero H15.out HZ.out (.list (.pair .text (.pair (.pair .num .num) .word))) [(.list .text), .num] rfl) (by have := HL.out; first | omega | (simp only [List.length_append] at this ⊢; omega))).mono ?_
  intro e w16 hx
  obtain ⟨rfl, v16, cs16, h2⟩ := H15.out.step HB.out.2.2.1 HB.out.2.2.2 hx
  have H16 := Lib.hid h2
  clear h2 hx
  go_wp2_with fail
  refine (texts_rd b (o + 44) T cs16 m18 r w16 cb base v16 HP.out.2.2.2.2.2.2.2.2.2.2.2.2.2.2.2.2.2.2.1 H16.out.cr H16.out.bk HB.out.1 HB.out.2.1 (Rst.zero H16.out HZ.out (.list .text) [.num] rfl) (by have := HL.out; first | omega | (simp only [List.length_append] at this ⊢; omega))).mono ?_
  intro e w17 hx
  obtain ⟨rfl, v17, cs17, h2⟩ := H16.out.step HB.out.2.2.1 HB.out.2.2.2 hx
  have H17 := Lib.hid h2
  clear h2 hx
  go_wp2_with fail
  refine (errno_short (w := w17) H17.out.cr hr8).mono ?_
  rintro e wz ⟨rfl, rfl⟩
  exact ⟨rfl, rfl, _, H17.out.bk, H17.out.size, H17.out.mv⟩
end Go.Proofs.YtphbaaaklgiloaaGreat.Dg

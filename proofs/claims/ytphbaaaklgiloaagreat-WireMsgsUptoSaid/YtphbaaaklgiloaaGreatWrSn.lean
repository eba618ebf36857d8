/- wire's reference: what a message reaches besides. Made by wip/gen_put2.py. -/
import Derived.Test.YtphbaaaklgiloaaGreatWrSm
namespace Go.Proofs.YtphbaaaklgiloaaGreat.Dg
open Go.RowKit
attribute [local go_sem ↓] Go.wp_at_zero Go.wp_at_succ
variable {w w' : World} {base : Nat} {v : Value} {l : List UInt8}
attribute [local simp] lowL_length numL_length boolL_length textL_length dataL_length
theorem bndI {a R : List UInt8} (h : a.length + R.length ≤ 130000000000000) : a.length ≤ 150000000000000 := by omega
theorem bndC {a R P R2 : List UInt8} (h : a.length + R.length ≤ 130000000000000) (e : R = P ++ R2) : a.length + P.length ≤ 130000000000000 := by
  rw [e, List.length_append] at h; omega
theorem bndL {a f R t m : List UInt8} (h : a.length + (f ++ R).length ≤ 130000000000000) (h2 : t.length + m.length ≤ f.length) : (a ++ t).length + m.length ≤ 130000000000000 := by
  rw [List.length_append] at h ⊢; omega
theorem bndT {a f R t m : List UInt8} (h : a.length + (f ++ R).length ≤ 130000000000000) (h2 : t.length + m.length ≤ f.length) : (a ++ t).length ≤ 150000000000000 := by
  rw [List.length_append] at h ⊢; omega
set_option maxRecDepth 100000 in
set_option maxHeartbeats 40000000 in
theorem putMsg_r (n0 : Int) (n1_0 : Int) (n1_1 : Int) (n2_0 : Int) (n2_1 : Int) (n3 : Int) (n4 : Int) (n5_0 : Int) (n5_1 : Int) (n6 : Int) (n7 : Int) (n8 : Int) (A9 : Option Addr) (q9 c9 : Nat) (d9 : List UInt8) (A10 : Option Addr) (q10 c10 : Nat) (d10 : List UInt8) (A11 : Option Addr) (q11 c11 : Nat) (d11 : List UInt8) (n12_0 : Int) (n12_1_0 : Int) (n12_1_1 : Int) (n12_2_0 : Int) (n12_2_1 : Int) (n12_3 : Int) (n13_0 : Int) (n13_1_0 : Int) (n13_1_1 : Int) (A13_2 : Option Addr) (q13_2 c13_2 : Nat) (d13_2 : List UInt8) (A13_3 : Option Addr) (q13_3 c13_3 : Nat) (d13_3 : List UInt8) (A13_4 : Option Addr) (q13_4 c13_4 : Nat) (d13_4 : List UInt8) (n14_0_0 : Int) (n14_0_1 : Int) (t14_1 : Bool) (n14_2 : Int) (s14_3 : ByteArray) (n14_4 : Int) (n14_5 : Int) (s15_0 : ByteArray) (n15_1_0 : Int) (n15_1_1 : Int) (A15_2 : Option Addr) (q15_2 c15_2 : Nat) (d15_2 : List UInt8) (n16_0 : Int) (s16_1 : ByteArray) (A16_2 : Option Addr) (q16_2 c16_2 : Nat) (d16_2 : List UInt8) (n16_3_0 : Int) (n16_3_1 : Int) (A17 : Option Addr) (q17 c17 : Nat) (d17 : List UInt8) (A18 : Option Addr) (q18 c18 : Nat) (d18 : List UInt8) (n19 : Int) (w : World) (h : Ob w base v l) (hb : base ≤ w.heap.size) (h9 : EncF w base (.list (.pair .num (.pair .num .data))) (fun _ => some (.slice A9 q9 c9)) d9) (h10 : EncF w base (.list (.pair .num (.list (.pair .num (.pair .num (.pair .num (.pair (.pair .num (.pair .num (.pair .num .num))) (.pair .num (.pair .num (.pair (.list .num) (.list .num))))))))))) (fun _ => some (.slice A10 q10 c10)) d10) (h11 : EncF w base (.list (.pair .num (.pair .num (.pair .num (.pair (.pair .num (.pair .num (.pair .num .num))) (.pair .num (.pair .num (.pair (.list .num) (.list .num))))))))) (fun _ => some (.slice A11 q11 c11)) d11) (h13_2 : EncF w base (.list (.pair (.pair .num .num) (.pair .bool (.pair .num (.pair .text (.pair .num .num)))))) (fun _ => some (.slice A13_2 q13_2 c13_2)) d13_2) (h13_3 : EncF w base (.list (.pair .num (.pair .num (.pair .num (.pair .num .num))))) (fun _ => some (.slice A13_3 q13_3 c13_3)) d13_3) (h13_4 : EncF w base (.list (.pair .text (.pair (.pair .num .num) .word))) (fun _ => some (.slice A13_4 q13_4 c13_4)) d13_4) (h15_2 : Bs w base (.slice A15_2 q15_2 c15_2) d15_2) (h16_2 : Bs w base (.slice A16_2 q16_2 c16_2) d16_2) (h17 : EncF w base (.list (.pair .text (.pair (.pair .num .num) .word))) (fun _ => some (.slice A17 q17 c17)) d17) (h18 : EncF w base (.list .text) (fun _ => some (.slice A18 q18 c18)) d18) (hl : l.length + ((numL n0 ++ ((numL n1_0 ++ numL n1_1) ++ ((numL n2_0 ++ numL n2_1) ++ (numL n3 ++ (numL n4 ++ ((numL n5_0 ++ numL n5_1) ++ (numL n6 ++ (numL n7 ++ (numL n8 ++ (d9 ++ (d10 ++ (d11 ++ ((numL n12_0 ++ ((numL n12_1_0 ++ numL n12_1_1) ++ ((numL n12_2_0 ++ numL n12_2_1) ++ numL n12_3))) ++ ((numL n13_0 ++ ((numL n13_1_0 ++ numL n13_1_1) ++ (d13_2 ++ (d13_3 ++ d13_4)))) ++ (((numL n14_0_0 ++ numL n14_0_1) ++ (boolL t14_1 ++ (numL n14_2 ++ (textL s14_3.data.toList ++ (numL n14_4 ++ numL n14_5))))) ++ ((textL s15_0.data.toList ++ ((numL n15_1_0 ++ numL n15_1_1) ++ dataL d15_2)) ++ ((numL n16_0 ++ (textL s16_1.data.toList ++ (dataL d16_2 ++ (numL n16_3_0 ++ numL n16_3_1)))) ++ (d17 ++ (d18 ++ numL n19)))))))))))))))))))).length ≤ 130000000000000) :
    Calls Tryz.prog 34 #[v, .agg #[.int .i64 n0, .int .i64 n1_0, .int .i64 n1_1, .int .i64 n2_0, .int .i64 n2_1, .int .i64 n3, .int .i64 n4, .int .i64 n5_0, .int .i64 n5_1, .int .i64 n6, .int .i64 n7, .int .i64 n8, .slice A9 q9 c9, .slice A10 q10 c10, .slice A11 q11 c11, .int .i64 n12_0, .int .i64 n12_1_0, .int .i64 n12_1_1, .int .i64 n12_2_0, .int .i64 n12_2_1, .int .i64 n12_3, .int .i64 n13_0, .int .i64 n13_1_0, .int .i64 n13_1_1, .slice A13_2 q13_2 c13_2, .slice A13_3 q13_3 c13_3, .slice A13_4 q13_4 c13_4, .int .i64 n14_0_0, .int .i64 n14_0_1, .bool t14_1, .int .i64 n14_2, .string s14_3, .int .i64 n14_4, .int .i64 n14_5, .string s15_0, .int .i64 n15_1_0, .int .i64 n15_1_1, .slice A15_2 q15_2 c15_2, .int .i64 n16_0, .string s16_1, .slice A16_2 q16_2 c16_2, .int .i64 n16_3_0, .int .i64 n16_3_1, .slice A17 q17 c17, .slice A18 q18 c18, .int .i64 n19]] w (PtPost w base l ((numL n0 ++ ((numL n1_0 ++ numL n1_1) ++ ((numL n2_0 ++ numL n2_1) ++ (numL n3 ++ (numL n4 ++ ((numL n5_0 ++ numL n5_1) ++ (numL n6 ++ (numL n7 ++ (numL n8 ++ (d9 ++ (d10 ++ (d11 ++ ((numL n12_0 ++ ((numL n12_1_0 ++ numL n12_1_1) ++ ((numL n12_2_0 ++ numL n12_2_1) ++ numL n12_3))) ++ ((numL n13_0 ++ ((numL n13_1_0 ++ numL n13_1_1) ++ (d13_2 ++ (d13_3 ++ d13_4)))) ++ (((numL n14_0_0 ++ numL n14_0_1) ++ (boolL t14_1 ++ (numL n14_2 ++ (textL s14_3.data.toList ++ (numL n14_4 ++ numL n14_5))))) ++ ((textL s15_0.data.toList ++ ((numL n15_1_0 ++ numL n15_1_1) ++ dataL d15_2)) ++ ((numL n16_0 ++ (textL s16_1.data.toList ++ (dataL d16_2 ++ (numL n16_3_0 ++ numL n16_3_1)))) ++ (d17 ++ (d18 ++ numL n19))))))))))))))))))))) := by
  obtain ⟨CS, hCS⟩ : ∃ CS : Array Value, #[.int .i64 n0, .int .i64 n1_0, .int .i64 n1_1, .int .i64 n2_0, .int .i64 n2_1, .int .i64 n3, .int .i64 n4, .int .i64 n5_0, .int .i64 n5_1, .int .i64 n6, .int .i64 n7, .int .i64 n8, .slice A9 q9 c9, .slice A10 q10 c10, .slice A11 q11 c11, .int .i64 n12_0, .int .i64 n12_1_0, .int .i64 n12_1_1, .int .i64 n12_2_0, .int .i64 n12_2_1, .int .i64 n12_3, .int .i64 n13_0, .int .i64 n13_1_0, .int .i64 n13_1_1, .slice A13_2 q13_2 c13_2, .slice A13_3 q13_3 c13_3, .slice A13_4 q13_4 c13_4, .int .i64 n14_0_0, .int .i64 n14_0_1, .bool t14_1, .int .i64 n14_2, .string s14_3, .int .i64 n14_4, .int .i64 n14_5, .string s15_0, .int .i64 n15_1_0, .int .i64 n15_1_1, .slice A15_2 q15_2 c15_2, .int .i64 n16_0, .string s16_1, .slice A16_2 q16_2 c16_2, .int .i64 n16_3_0, .int .i64 n16_3_1, .slice A17 q17 c17, .slice A18 q18 c18, .int .i64 n19] = CS := ⟨_, rfl⟩
  rw [hCS]
  have cc0 : CS[0]? = some (.int .i64 n0) := by rw [← hCS]; rfl
  have cc1 : CS[1]? = some (.int .i64 n1_0) := by rw [← hCS]; rfl
  have cc2 : CS[2]? = some (.int .i64 n1_1) := by rw [← hCS]; rfl
  have cc3 : CS[3]? = some (.int .i64 n2_0) := by rw [← hCS]; rfl
  have cc4 : CS[4]? = some (.int .i64 n2_1) := by rw [← hCS]; rfl
  have cc5 : CS[5]? = some (.int .i64 n3) := by rw [← hCS]; rfl
  have cc6 : CS[6]? = some (.int .i64 n4) := by rw [← hCS]; rfl
  have cc7 : CS[7]? = some (.int .i64 n5_0) := by rw [← hCS]; rfl
  have cc8 : CS[8]? = some (.int .i64 n5_1) := by rw [← hCS]; rfl
  have cc9 : CS[9]? = some (.int .i64 n6) := by rw [← hCS]; rfl
  have cc10 : CS[10]? = some (.int .i64 n7) := by rw [← hCS]; rfl
  have cc11 : CS[11]? = some (.int .i64 n8) := by rw [← hCS]; rfl
  have cc12 : CS[12]? = some (.slice A9 q9 c9) := by rw [← hCS]; rfl
  have cc13 : CS[13]? = some (.slice A10 q10 c10) := by rw [← hCS]; rfl
  have cc14 : CS[14]? = some (.slice A11 q11 c11) := by rw [← hCS]; rfl
  have cc15 : CS[15]? = some (.int .i64 n12_0) := by rw [← hCS]; rfl
  have cc16 : CS[16]? = some (.int .i64 n12_1_0) := by rw [← hCS]; rfl
  have cc17 : CS[17]? = some (.int .i64 n12_1_1) := by rw [← hCS]; rfl
  have cc18 : CS[18]? = some (.int .i64 n12_2_0) := by rw [← hCS]; rfl
  have cc19 : CS[19]? = some (.int .i64 n12_2_1) := by rw [← hCS]; rfl
  have cc20 : CS[20]? = some (.int .i64 n12_3) := by rw [← hCS]; rfl
  have cc21 : CS[21]? = some (.int .i64 n13_0) := by rw [← hCS]; rfl
  have cc22 : CS[22]? = some (.int .i64 n13_1_0) := by rw [← hCS]; rfl
  have cc23 : CS[23]? = some (.int .i64 n13_1_1) := by rw [← hCS]; rfl
  have cc24 : CS[24]? = some (.slice A13_2 q13_2 c13_2) := by rw [← hCS]; rfl
  have cc25 : CS[25]? = some (.slice A13_3 q13_3 c13_3) := by rw [← hCS]; rfl
  have cc26 : CS[26]? = some (.slice A13_4 q13_4 c13_4) := by rw [← hCS]; rfl
  have cc27 : CS[27]? = some (.int .i64 n14_0_0) := by rw [← hCS]; rfl
  have cc28 : CS[28]? = some (.int .i64 n14_0_1) := by rw [← hCS]; rfl
  have cc29 : CS[29]? = some (.bool t14_1) := by rw [← hCS]; rfl
  have cc30 : CS[30]? = some (.int .i64 n14_2) := by rw [← hCS]; rfl
  have cc31 : CS[31]? = some (.string s14_3) := by rw [← hCS]; rfl
  have cc32 : CS[32]? = some (.int .i64 n14_4) := by rw [← hCS]; rfl
  have cc33 : CS[33]? = some (.int .i64 n14_5) := by rw [← hCS]; rfl
  have cc34 : CS[34]? = some (.string s15_0) := by rw [← hCS]; rfl
  have cc35 : CS[35]? = some (.int .i64 n15_1_0) := by rw [← hCS]; rfl
  have cc36 : CS[36]? = some (.int .i64 n15_1_1) := by rw [← hCS]; rfl
  have cc37 : CS[37]? = some (.slice A15_2 q15_2 c15_2) := by rw [← hCS]; rfl
  have cc38 : CS[38]? = some (.int .i64 n16_0) := by rw [← hCS]; rfl
  have cc39 : CS[39]? = some (.string s16_1) := by rw [← hCS]; rfl
  have cc40 : CS[40]? = some (.slice A16_2 q16_2 c16_2) := by rw [← hCS]; rfl
  have cc41 : CS[41]? = some (.int .i64 n16_3_0) := by rw [← hCS]; rfl
  have cc42 : CS[42]? = some (.int .i64 n16_3_1) := by rw [← hCS]; rfl
  have cc43 : CS[43]? = some (.slice A17 q17 c17) := by rw [← hCS]; rfl
  have cc44 : CS[44]? = some (.slice A18 q18 c18) := by rw [← hCS]; rfl
  have cc45 : CS[45]? = some (.int .i64 n19) := by rw [← hCS]; rfl
  clear hCS
  have HCC := Lib.hid (And.intro cc0 (And.intro cc1 (And.intro cc2 (And.intro cc3 (And.intro cc4 (And.intro cc5 (And.intro cc6 (And.intro cc7 (And.intro cc8 (And.intro cc9 (And.intro cc10 (And.intro cc11 (And.intro cc12 (And.intro cc13 (And.intro cc14 (And.intro cc15 (And.intro cc16 (And.intro cc17 (And.intro cc18 (And.intro cc19 (And.intro cc20 (And.intro cc21 (And.intro cc22 (And.intro cc23 (And.intro cc24 (And.intro cc25 (And.intro cc26 (And.intro cc27 (And.intro cc28 (And.intro cc29 (And.intro cc30 (And.intro cc31 (And.intro cc32 (And.intro cc33 (And.intro cc34 (And.intro cc35 (And.intro cc36 (And.intro cc37 (And.intro cc38 (And.intro cc39 (And.intro cc40 (And.intro cc41 (And.intro cc42 (And.intro cc43 (And.intro cc44 (cc45))))))))))))))))))))))))))))))))))))))))))))))
  clear cc0 cc1 cc2 cc3 cc4 cc5 cc6 cc7 cc8 cc9 cc10 cc11 cc12 cc13 cc14 cc15 cc16 cc17 cc18 cc19 cc20 cc21 cc22 cc23 cc24 cc25 cc26 cc27 cc28 cc29 cc30 cc31 cc32 cc33 cc34 cc35 cc36 cc37 cc38 cc39 cc40 cc41 cc42 cc43 cc44 cc45
  obtain ⟨SA1, SQ1, SC1, rfl⟩ := h.shape
  have H1 := Lib.hid (And.intro (h.alloc (.cells CS 48)) (And.intro ((Fr.refl base w).alloc (.cells CS 48)) (Bk.made w 48 CS)))
  have hb1 : base ≤ (w.alloc (.cells CS 48)).heap.size := by simp; omega
  obtain ⟨B9, n9, x9, ms9, y9, g9, i9, j9, p9, rfl⟩ := h9
  injection y9 with y9
  injection y9 with ya9 yb9 yc9
  subst ya9 yb9 yc9
  have L9 := Lib.hid (And.intro j9 p9)
  have qq9 : q9 ≤ 9223372036854775807 := by omega
  clear j9 p9
  obtain ⟨B10, n10, x10, ms10, y10, g10, i10, j10, p10, rfl⟩ := h10
  injection y10 with y10
  injection y10 with ya10 yb10 yc10
  subst ya10 yb10 yc10
  have L10 := Lib.hid (And.intro j10 p10)
  have qq10 : q10 ≤ 9223372036854775807 := by omega
  clear j10 p10
  obtain ⟨B11, n11, x11, ms11, y11, g11, i11, j11, p11, rfl⟩ := h11
  injection y11 with y11
  injection y11 with ya11 yb11 yc11
  subst ya11 yb11 yc11
  have L11 := Lib.hid (And.intro j11 p11)
  have qq11 : q11 ≤ 9223372036854775807 := by omega
  clear j11 p11
  obtain ⟨B13_2, n13_2, x13_2, ms13_2, y13_2, g13_2, i13_2, j13_2, p13_2, rfl⟩ := h13_2
  injection y13_2 with y13_2
  injection y13_2 with ya13_2 yb13_2 yc13_2
  subst ya13_2 yb13_2 yc13_2
  have L13_2 := Lib.hid (And.intro j13_2 p13_2)
  have qq13_2 : q13_2 ≤ 9223372036854775807 := by omega
  clear j13_2 p13_2
  obtain ⟨B13_3, n13_3, x13_3, ms13_3, y13_3, g13_3, i13_3, j13_3, p13_3, rfl⟩ := h13_3
  injection y13_3 with y13_3
  injection y13_3 with ya13_3 yb13_3 yc13_3
  subst ya13_3 yb13_3 yc13_3
  have L13_3 := Lib.hid (And.intro j13_3 p13_3)
  have qq13_3 : q13_3 ≤ 9223372036854775807 := by omega
  clear j13_3 p13_3
  obtain ⟨B13_4, n13_4, x13_4, ms13_4, y13_4, g13_4, i13_4, j13_4, p13_4, rfl⟩ := h13_4
  injection y13_4 with y13_4
  injection y13_4 with ya13_4 yb13_4 yc13_4
  subst ya13_4 yb13_4 yc13_4
  have L13_4 := Lib.hid (And.intro j13_4 p13_4)
  have qq13_4 : q13_4 ≤ 9223372036854775807 := by omega
  clear j13_4 p13_4
  have L15_2 := Lib.hid h15_2
  clear h15_2
  have L16_2 := Lib.hid h16_2
  clear h16_2
  obtain ⟨B17, n17, x17, ms17, y17, g17, i17, j17, p17, rfl⟩ := h17
  injection y17 with y17
  injection y17 with ya17 yb17 yc17
  subst ya17 yb17 yc17
  have L17 := Lib.hid (And.intro j17 p17)
  have qq17 : q17 ≤ 9223372036854775807 := by omega
  clear j17 p17
  obtain ⟨B18, n18, x18, ms18, y18, g18, i18, j18, p18, rfl⟩ := h18
  injection y18 with y18
  injection y18 with ya18 yb18 yc18
  subst ya18 yb18 yc18
  have L18 := Lib.hid (And.intro j18 p18)
  have qq18 : q18 ≤ 9223372036854775807 := by omega
  clear j18 p18
  have HL := Lib.hid hl
  have HL0 := Lib.hid (show l.length + (numL n0 ++ (numL n1_0 ++ (numL n1_1 ++ (numL n2_0 ++ (numL n2_1 ++ (numL n3 ++ (numL n4 ++ (numL n5_0 ++ (numL n5_1 ++ (numL n6 ++ (numL n7 ++ (numL n8 ++ (lowL q9 4 ++ (ms9.flatten ++ (lowL q10 4 ++ (ms10.flatten ++ (lowL q11 4 ++ (ms11.flatten ++ (numL n12_0 ++ (numL n12_1_0 ++ (numL n12_1_1 ++ (numL n12_2_0 ++ (numL n12_2_1 ++ (numL n12_3 ++ (numL n13_0 ++ (numL n13_1_0 ++ (numL n13_1_1 ++ (lowL q13_2 4 ++ (ms13_2.flatten ++ (lowL q13_3 4 ++ (ms13_3.flatten ++ (lowL q13_4 4 ++ (ms13_4.flatten ++ (numL n14_0_0 ++ (numL n14_0_1 ++ (boolL t14_1 ++ (numL n14_2 ++ (textL s14_3.data.toList ++ (numL n14_4 ++ (numL n14_5 ++ (textL s15_0.data.toList ++ (numL n15_1_0 ++ (numL n15_1_1 ++ (dataL d15_2 ++ (numL n16_0 ++ (textL s16_1.data.toList ++ (dataL d16_2 ++ (numL n16_3_0 ++ (numL n16_3_1 ++ (lowL q17 4 ++ (ms17.flatten ++ (lowL q18 4 ++ (ms18.flatten ++ numL n19))))))))))))))))))))))))))))))))))))))))))))))))))))).length ≤ 130000000000000 from by have := HL.out; simp only [List.length_append, Nat.add_assoc] at this ⊢; exact this)
  have E0 := Lib.hid (show l ++ (numL n0 ++ (numL n1_0 ++ (numL n1_1 ++ (numL n2_0 ++ (numL n2_1 ++ (numL n3 ++ (numL n4 ++ (numL n5_0 ++ (numL n5_1 ++ (numL n6 ++ (numL n7 ++ (numL n8 ++ (lowL q9 4 ++ (ms9.flatten ++ (lowL q10 4 ++ (ms10.flatten ++ (lowL q11 4 ++ (ms11.flatten ++ (numL n12_0 ++ (numL n12_1_0 ++ (numL n12_1_1 ++ (numL n12_2_0 ++ (numL n12_2_1 ++ (numL n12_3 ++ (numL n13_0 ++ (numL n13_1_0 ++ (numL n13_1_1 ++ (lowL q13_2 4 ++ (ms13_2.flatten ++ (lowL q13_3 4 ++ (ms13_3.flatten ++ (lowL q13_4 4 ++ (ms13_4.flatten ++ (numL n14_0_0 ++ (numL n14_0_1 ++ (boolL t14_1 ++ (numL n14_2 ++ (textL s14_3.data.toList ++ (numL n14_4 ++ (numL n14_5 ++ (textL s15_0.data.toList ++ (numL n15_1_0 ++ (numL n15_1_1 ++ (dataL d15_2 ++ (numL n16_0 ++ (textL s16_1.data.toList ++ (dataL d16_2 ++ (numL n16_3_0 ++ (numL n16_3_1 ++ (lowL q17 4 ++ (ms17.flatten ++ (lowL q18 4 ++ (ms18.flatten ++ numL n19))))))))))))))))))))))))))))))))))))))))))))))))))))) = l ++ ((numL n0 ++ ((numL n1_0 ++ numL n1_1) ++ ((numL n2_0 ++ numL n2_1) ++ (numL n3 ++ (numL n4 ++ ((numL n5_0 ++ numL n5_1) ++ (numL n6 ++ (numL n7 ++ (numL n8 ++ ((lowL q9 4 ++ ms9.flatten) ++ ((lowL q10 4 ++ ms10.flatten) ++ ((lowL q11 4 ++ ms11.flatten) ++ ((numL n12_0 ++ ((numL n12_1_0 ++ numL n12_1_1) ++ ((numL n12_2_0 ++ numL n12_2_1) ++ numL n12_3))) ++ ((numL n13_0 ++ ((numL n13_1_0 ++ numL n13_1_1) ++ ((lowL q13_2 4 ++ ms13_2.flatten) ++ ((lowL q13_3 4 ++ ms13_3.flatten) ++ (lowL q13_4 4 ++ ms13_4.flatten))))) ++ (((numL n14_0_0 ++ numL n14_0_1) ++ (boolL t14_1 ++ (numL n14_2 ++ (textL s14_3.data.toList ++ (numL n14_4 ++ numL n14_5))))) ++ ((textL s15_0.data.toList ++ ((numL n15_1_0 ++ numL n15_1_1) ++ dataL d15_2)) ++ ((numL n16_0 ++ (textL s16_1.data.toList ++ (dataL d16_2 ++ (numL n16_3_0 ++ numL n16_3_1)))) ++ ((lowL q17 4 ++ ms17.flatten) ++ ((lowL q18 4 ++ ms18.flatten) ++ numL n19)))))))))))))))))))) from by simp only [List.append_assoc])
  clear HL
  clear h hl
  go_enter Tryz.func34, Tryz.ntmps34
  have fc0 := H1.out.2.2.cell (i := 0) (v := .int .i64 n0) (HCC.out.1)
  go_wp2_with fail
  refine (rint_w n0 _ H1.out.1 hb1 (bndI HL0.out)).mono ?_
  rintro e w2 ⟨v2, rfl, ho, hf⟩
  obtain ⟨SA2, SQ2, SC2, rfl⟩ := ho.shape
  obtain ⟨a2, ha⟩ : ∃ a, l ++ numL n0 = a := ⟨_, rfl⟩
  have H2 := Lib.hid (show Ob w2 base _ a2 ∧ Fr base w w2 ∧ Bk w2 w.heap.size 48 CS from ⟨by rw [← ha]; first | exact ho | simpa only [List.append_assoc] using ho, H1.out.2.1.trans hf, H1.out.2.2.fr (by decide) hf⟩)
  have E2 := Lib.hid (show a2 ++ (numL n1_0 ++ (numL n1_1 ++ (numL n2_0 ++ (numL n2_1 ++ (numL n3 ++ (numL n4 ++ (numL n5_0 ++ (numL n5_1 ++ (numL n6 ++ (numL n7 ++ (numL n8 ++ (lowL q9 4 ++ (ms9.flatten ++ (lowL q10 4 ++ (ms10.flatten ++ (lowL q11 4 ++ (ms11.flatten ++ (numL n12_0 ++ (numL n12_1_0 ++ (numL n12_1_1 ++ (numL n12_2_0 ++ (numL n12_2_1 ++ (numL n12_3 ++ (numL n13_0 ++ (numL n13_1_0 ++ (numL n13_1_1 ++ (lowL q13_2 4 ++ (ms13_2.flatten ++ (lowL q13_3 4 ++ (ms13_3.flatten ++ (lowL q13_4 4 ++ (ms13_4.flatten ++ (numL n14_0_0 ++ (numL n14_0_1 ++ (boolL t14_1 ++ (numL n14_2 ++ (textL s14_3.data.toList ++ (numL n14_4 ++ (numL n14_5 ++ (textL s15_0.data.toList ++ (numL n15_1_0 ++ (numL n15_1_1 ++ (dataL d15_2 ++ (numL n16_0 ++ (textL s16_1.data.toList ++ (dataL d16_2 ++ (numL n16_3_0 ++ (numL n16_3_1 ++ (lowL q17 4 ++ (ms17.flatten ++ (lowL q18 4 ++ (ms18.flatten ++ numL n19)))))))))))))))))))))))))))))))))))))))))))))))))))) = l ++ ((numL n0 ++ ((numL n1_0 ++ numL n1_1) ++ ((numL n2_0 ++ numL n2_1) ++ (numL n3 ++ (numL n4 ++ ((numL n5_0 ++ numL n5_1) ++ (numL n6 ++ (numL n7 ++ (numL n8 ++ ((lowL q9 4 ++ ms9.flatten) ++ ((lowL q10 4 ++ ms10.flatten) ++ ((lowL q11 4 ++ ms11.flatten) ++ ((numL n12_0 ++ ((numL n12_1_0 ++ numL n12_1_1) ++ ((numL n12_2_0 ++ numL n12_2_1) ++ numL n12_3))) ++ ((numL n13_0 ++ ((numL n13_1_0 ++ numL n13_1_1) ++ ((lowL q13_2 4 ++ ms13_2.flatten) ++ ((lowL q13_3 4 ++ ms13_3.flatten) ++ (lowL q13_4 4 ++ ms13_4.flatten))))) ++ (((numL n14_0_0 ++ numL n14_0_1) ++ (boolL t14_1 ++ (numL n14_2 ++ (textL s14_3.data.toList ++ (numL n14_4 ++ numL n14_5))))) ++ ((textL s15_0.data.toList ++ ((numL n15_1_0 ++ numL n15_1_1) ++ dataL d15_2)) ++ ((numL n16_0 ++ (textL s16_1.data.toList ++ (dataL d16_2 ++ (numL n16_3_0 ++ numL n16_3_1)))) ++ ((lowL q17 4 ++ ms17.flatten) ++ ((lowL q18 4 ++ ms18.flatten) ++ numL n19)))))))))))))))))))) from by rw [← E0.out, ← ha]; simp only [List.append_assoc])
  have HL2 := Lib.hid (show a2.length + (numL n1_0 ++ (numL n1_1 ++ (numL n2_0 ++ (numL n2_1 ++ (numL n3 ++ (numL n4 ++ (numL n5_0 ++ (numL n5_1 ++ (numL n6 ++ (numL n7 ++ (numL n8 ++ (lowL q9 4 ++ (ms9.flatten ++ (lowL q10 4 ++ (ms10.flatten ++ (lowL q11 4 ++ (ms11.flatten ++ (numL n12_0 ++ (numL n12_1_0 ++ (numL n12_1_1 ++ (numL n12_2_0 ++ (numL n12_2_1 ++ (numL n12_3 ++ (numL n13_0 ++ (numL n13_1_0 ++ (numL n13_1_1 ++ (lowL q13_2 4 ++ (ms13_2.flatten ++ (lowL q13_3 4 ++ (ms13_3.flatten ++ (lowL q13_4 4 ++ (ms13_4.flatten ++ (numL n14_0_0 ++ (numL n14_0_1 ++ (boolL t14_1 ++ (numL n14_2 ++ (textL s14_3.data.toList ++ (numL n14_4 ++ (numL n14_5 ++ (textL s15_0.data.toList ++ (numL n15_1_0 ++ (numL n15_1_1 ++ (dataL d15_2 ++ (numL n16_0 ++ (textL s16_1.data.toList ++ (dataL d16_2 ++ (numL n16_3_0 ++ (numL n16_3_1 ++ (lowL q17 4 ++ (ms17.flatten ++ (lowL q18 4 ++ (ms18.flatten ++ numL n19)))))))))))))))))))))))))))))))))))))))))))))))))))).length ≤ 130000000000000 from by have := HL0.out; rw [← ha]; simp only [List.length_append, Nat.add_assoc] at this ⊢; exact this)
  have hb2 : base ≤ w2.heap.size := Nat.le_trans hb1 hf.size
  clear ha E0 HL0
  clear ho hf fc0
  have fc1 := H2.out.2.2.cell (i := 1) (v := .int .i64 n1_0) (HCC.out.2.1)
  have fc2 := H2.out.2.2.cell (i := 2) (v := .int .i64 n1_1) (HCC.out.2.2.1)
  go_wp2_with fail
  refine (putNode_r n1_0 n1_1 _ H2.out.1 hb2 (bndC (R2 := (numL n2_0 ++ (numL n2_1 ++ (numL n3 ++ (numL n4 ++ (numL n5_0 ++ (numL n5_1 ++ (numL n6 ++ (numL n7 ++ (numL n8 ++ (lowL q9 4 ++ (ms9.flatten ++ (lowL q10 4 ++ (ms10.flatten ++ (lowL q11 4 ++ (ms11.flatten ++ (numL n12_0 ++ (numL n12_1_0 ++ (numL n12_1_1 ++ (numL n12_2_0 ++ (numL n12_2_1 ++ (numL n12_3 ++ (numL n13_0 ++ (numL n13_1_0 ++ (numL n13_1_1 ++ (lowL q13_2 4 ++ (ms13_2.flatten ++ (lowL q13_3 4 ++ (ms13_3.flatten ++ (lowL q13_4 4 ++ (ms13_4.flatten ++ (numL n14_0_0 ++ (numL n14_0_1 ++ (boolL t14_1 ++ (numL n14_2 ++ (textL s14_3.data.toList ++ (numL n14_4 ++ (numL n14_5 ++ (textL s15_0.data.toList ++ (numL n15_1_0 ++ (numL n15_1_1 ++ (dataL d15_2 ++ (numL n16_0 ++ (textL s16_1.data.toList ++ (dataL d16_2 ++ (numL n16_3_0 ++ (numL n16_3_1 ++ (lowL q17 4 ++ (ms17.flatten ++ (lowL q18 4 ++ (ms18.flatten ++ numL n19))))))))))))))))))))))))))))))))))))))))))))))))))) HL2.out (by simp only [List.append_assoc]))).mono ?_
  rintro e w3 ⟨v3, rfl, ho, hf⟩
  obtain ⟨SA3, SQ3, SC3, rfl⟩ := ho.shape
  obtain ⟨a3, ha⟩ : ∃ a, a2 ++ (numL n1_0 ++ numL n1_1) = a := ⟨_, rfl⟩
  have H3 := Lib.hid (show Ob w3 base _ a3 ∧ Fr base w w3 ∧ Bk w3 w.heap.size 48 CS from ⟨by rw [← ha]; first | exact ho | simpa only [List.append_assoc] using ho, H2.out.2.1.trans hf, H2.out.2.2.fr (by decide) hf⟩)
  have E3 := Lib.hid (show a3 ++ (numL n2_0 ++ (numL n2_1 ++ (numL n3 ++ (numL n4 ++ (numL n5_0 ++ (numL n5_1 ++ (numL n6 ++ (numL n7 ++ (numL n8 ++ (lowL q9 4 ++ (ms9.flatten ++ (lowL q10 4 ++ (ms10.flatten ++ (lowL q11 4 ++ (ms11.flatten ++ (numL n12_0 ++ (numL n12_1_0 ++ (numL n12_1_1 ++ (numL n12_2_0 ++ (numL n12_2_1 ++ (numL n12_3 ++ (numL n13_0 ++ (numL n13_1_0 ++ (numL n13_1_1 ++ (lowL q13_2 4 ++ (ms13_2.flatten ++ (lowL q13_3 4 ++ (ms13_3.flatten ++ (lowL q13_4 4 ++ (ms13_4.flatten ++ (numL n14_0_0 ++ (numL n14_0_1 ++ (boolL t14_1 ++ (numL n14_2 ++ (textL s14_3.data.toList ++ (numL n14_4 ++ (numL n14_5 ++ (textL s15_0.data.toList ++ (numL n15_1_0 ++ (numL n15_1_1 ++ (dataL d15_2 ++ (numL n16_0 ++ (textL s16_1.data.toList ++ (dataL d16_2 ++ (numL n16_3_0 ++ (numL n16_3_1 ++ (lowL q17 4 ++ (ms17.flatten ++ (lowL q18 4 ++ (ms18.flatten ++ numL n19)))))))))))))))))))))))))))))))))))))))))))))))))) = l ++ ((numL n0 ++ ((numL n1_0 ++ numL n1_1) ++ ((numL n2_0 ++ numL n2_1) ++ (numL n3 ++ (numL n4 ++ ((numL n5_0 ++ numL n5_1) ++ (numL n6 ++ (numL n7 ++ (numL n8 ++ ((lowL q9 4 ++ ms9.flatten) ++ ((lowL q10 4 ++ ms10.flatten) ++ ((lowL q11 4 ++ ms11.flatten) ++ ((numL n12_0 ++ ((numL n12_1_0 ++ numL n12_1_1) ++ ((numL n12_2_0 ++ numL n12_2_1) ++ numL n12_3))) ++ ((numL n13_0 ++ ((numL n13_1_0 ++ numL n13_1_1) ++ ((lowL q13_2 4 ++ ms13_2.flatten) ++ ((lowL q13_3 4 ++ ms13_3.flatten) ++ (lowL q13_4 4 ++ ms13_4.flatten))))) ++ (((numL n14_0_0 ++ numL n14_0_1) ++ (boolL t14_1 ++ (numL n14_2 ++ (textL s14_3.data.toList ++ (numL n14_4 ++ numL n14_5))))) ++ ((textL s15_0.data.toList ++ ((numL n15_1_0 ++ numL n15_1_1) ++ dataL d15_2)) ++ ((numL n16_0 ++ (textL s16_1.data.toList ++ (dataL d16_2 ++ (numL n16_3_0 ++ numL n16_3_1)))) ++ ((lowL q17 4 ++ ms17.flatten) ++ ((lowL q18 4 ++ ms18.flatten) ++ numL n19)))))))))))))))))))) from by rw [← E2.out, ← ha]; simp only [List.append_assoc])
  have HL3 := Lib.hid (show a3.length + (numL n2_0 ++ (numL n2_1 ++ (numL n3 ++ (numL n4 ++ (numL n5_0 ++ (numL n5_1 ++ (numL n6 ++ (numL n7 ++ (numL n8 ++ (lowL q9 4 ++ (ms9.flatten ++ (lowL q10 4 ++ (ms10.flatten ++ (lowL q11 4 ++ (ms11.flatten ++ (numL n12_0 ++ (numL n12_1_0 ++ (numL n12_1_1 ++ (numL n12_2_0 ++ (numL n12_2_1 ++ (numL n12_3 ++ (numL n13_0 ++ (numL n13_1_0 ++ (numL n13_1_1 ++ (lowL q13_2 4 ++ (ms13_2.flatten ++ (lowL q13_3 4 ++ (ms13_3.flatten ++ (lowL q13_4 4 ++ (ms13_4.flatten ++ (numL n14_0_0 ++ (numL n14_0_1 ++ (boolL t14_1 ++ (numL n14_2 ++ (textL s14_3.data.toList ++ (numL n14_4 ++ (numL n14_5 ++ (textL s15_0.data.toList ++ (numL n15_1_0 ++ (numL n15_1_1 ++ (dataL d15_2 ++ (numL n16_0 ++ (textL s16_1.data.toList ++ (dataL d16_2 ++ (numL n16_3_0 ++ (numL n16_3_1 ++ (lowL q17 4 ++ (ms17.flatten ++ (lowL q18 4 ++ (ms18.flatten ++ numL n19)))))))))))))))))))))))))))))))))))))))))))))))))).length ≤ 130000000000000 from by have := HL2.out; rw [← ha]; simp only [List.length_append, Nat.add_assoc] at this ⊢; exact this)
  have hb3 : base ≤ w3.heap.size := Nat.le_trans hb2 hf.size
  clear ha E2 HL2 H2
  clear ho hf fc1 fc2
  have fc3 := H3.out.2.2.cell (i := 3) (v := .int .i64 n2_0) (HCC.out.2.2.2.1)
  have fc4 := H3.out.2.2.cell (i := 4) (v := .int .i64 n2_1) (HCC.out.2.2.2.2.1)
  go_wp2_with fail
  refine (putNode_r n2_0 n2_1 _ H3.out.1 hb3 (bndC (R2 := (numL n3 ++ (numL n4 ++ (numL n5_0 ++ (numL n5_1 ++ (numL n6 ++ (numL n7 ++ (numL n8 ++ (lowL q9 4 ++ (ms9.flatten ++ (lowL q10 4 ++ (ms10.flatten ++ (lowL q11 4 ++ (ms11.flatten ++ (numL n12_0 ++ (numL n12_1_0 ++ (numL n12_1_1 ++ (numL n12_2_0 ++ (numL n12_2_1 ++ (numL n12_3 ++ (numL n13_0 ++ (numL n13_1_0 ++ (numL n13_1_1 ++ (lowL q13_2 4 ++ (ms13_2.flatten ++ (lowL q13_3 4 ++ (ms13_3.flatten ++ (lowL q13_4 4 ++ (ms13_4.flatten ++ (numL n14_0_0 ++ (numL n14_0_1 ++ (boolL t14_1 ++ (numL n14_2 ++ (textL s14_3.data.toList ++ (numL n14_4 ++ (numL n14_5 ++ (textL s15_0.data.toList ++ (numL n15_1_0 ++ (numL n15_1_1 ++ (dataL d15_2 ++ (numL n16_0 ++ (textL s16_1.data.toList ++ (dataL d16_2 ++ (numL n16_3_0 ++ (numL n16_3_1 ++ (lowL q17 4 ++ (ms17.flatten ++ (lowL q18 4 ++ (ms18.flatten ++ numL n19))))))))))))))))))))))))))))))))))))))))))))))))) HL3.out (by simp only [List.append_assoc]))).mono ?_
  rintro e w4 ⟨v4, rfl, ho, hf⟩
  obtain ⟨SA4, SQ4, SC4, rfl⟩ := ho.shape
  obtain ⟨a4, ha⟩ : ∃ a, a3 ++ (numL n2_0 ++ numL n2_1) = a := ⟨_, rfl⟩
  have H4 := Lib.hid (show Ob w4 base _ a4 ∧ Fr base w w4 ∧ Bk w4 w.heap.size 48 CS from ⟨by rw [← ha]; first | exact ho | simpa only [List.append_assoc] using ho, H3.out.2.1.trans hf, H3.out.2.2.fr (by decide) hf⟩)
  have E4 := Lib.hid (show a4 ++ (numL n3 ++ (numL n4 ++ (numL n5_0 ++ (numL n5_1 ++ (numL n6 ++ (numL n7 ++ (numL n8 ++ (lowL q9 4 ++ (ms9.flatten ++ (lowL q10 4 ++ (ms10.flatten ++ (lowL q11 4 ++ (ms11.flatten ++ (numL n12_0 ++ (numL n12_1_0 ++ (numL n12_1_1 ++ (numL n12_2_0 ++ (numL n12_2_1 ++ (numL n12_3 ++ (numL n13_0 ++ (numL n13_1_0 ++ (numL n13_1_1 ++ (lowL q13_2 4 ++ (ms13_2.flatten ++ (lowL q13_3 4 ++ (ms13_3.flatten ++ (lowL q13_4 4 ++ (ms13_4.flatten ++ (numL n14_0_0 ++ (numL n14_0_1 ++ (boolL t14_1 ++ (numL n14_2 ++ (textL s14_3.data.toList ++ (numL n14_4 ++ (numL n14_5 ++ (textL s15_0.data.toList ++ (numL n15_1_0 ++ (numL n15_1_1 ++ (dataL d15_2 ++ (numL n16_0 ++ (textL s16_1.data.toList ++ (dataL d16_2 ++ (numL n16_3_0 ++ (numL n16_3_1 ++ (lowL q17 4 ++ (ms17.flatten ++ (lowL q18 4 ++ (ms18.flatten ++ numL n19)))))))))))))))))))))))))))))))))))))))))))))))) = l ++ ((numL n0 ++ ((numL n1_0 ++ numL n1_1) ++ ((numL n2_0 ++ numL n2_1) ++ (numL n3 ++ (numL n4 ++ ((numL n5_0 ++ numL n5_1) ++ (numL n6 ++ (numL n7 ++ (numL n8 ++ ((lowL q9 4 ++ ms9.flatten) ++ ((lowL q10 4 ++ ms10.flatten) ++ ((lowL q11 4 ++ ms11.flatten) ++ ((numL n12_0 ++ ((numL n12_1_0 ++ numL n12_1_1) ++ ((numL n12_2_0 ++ numL n12_2_1) ++ numL n12_3))) ++ ((numL n13_0 ++ ((numL n13_1_0 ++ numL n13_1_1) ++ ((lowL q13_2 4 ++ ms13_2.flatten) ++ ((lowL q13_3 4 ++ ms13_3.flatten) ++ (lowL q13_4 4 ++ ms13_4.flatten))))) ++ (((numL n14_0_0 ++ numL n14_0_1) ++ (boolL t14_1 ++ (numL n14_2 ++ (textL s14_3.data.toList ++ (numL n14_4 ++ numL n14_5))))) ++ ((textL s15_0.data.toList ++ ((numL n15_1_0 ++ numL n15_1_1) ++ dataL d15_2)) ++ ((numL n16_0 ++ (textL s16_1.data.toList ++ (dataL d16_2 ++ (numL n16_3_0 ++ numL n16_3_1)))) ++ ((lowL q17 4 ++ ms17.flatten) ++ ((lowL q18 4 ++ ms18.flatten) ++ numL n19)))))))))))))))))))) from by rw [← E3.out, ← ha]; simp only [List.append_assoc])
  have HL4 := Lib.hid (show a4.length + (numL n3 ++ (numL n4 ++ (numL n5_0 ++ (numL n5_1 ++ (numL n6 ++ (numL n7 ++ (numL n8 ++ (lowL q9 4 ++ (ms9.flatten ++ (lowL q10 4 ++ (ms10.flatten ++ (lowL q11 4 ++ (ms11.flatten ++ (numL n12_0 ++ (numL n12_1_0 ++ (numL n12_1_1 ++ (numL n12_2_0 ++ (numL n12_2_1 ++ (numL n12_3 ++ (numL n13_0 ++ (numL n13_1_0 ++ (numL n13_1_1 ++ (lowL q13_2 4 ++ (ms13_2.flatten ++ (lowL q13_3 4 ++ (ms13_3.flatten ++ (lowL q13_4 4 ++ (ms13_4.flatten ++ (numL n14_0_0 ++ (numL n14_0_1 ++ (boolL t14_1 ++ (numL n14_2 ++ (textL s14_3.data.toList ++ (numL n14_4 ++ (numL n14_5 ++ (textL s15_0.data.toList ++ (numL n15_1_0 ++ (numL n15_1_1 ++ (dataL d15_2 ++ (numL n16_0 ++ (textL s16_1.data.toList ++ (dataL d16_2 ++ (numL n16_3_0 ++ (numL n16_3_1 ++ (lowL q17 4 ++ (ms17.flatten ++ (lowL q18 4 ++ (ms18.flatten ++ numL n19)))))))))))))))))))))))))))))))))))))))))))))))).length ≤ 130000000000000 from by have := HL3.out; rw [← ha]; simp only [List.length_append, Nat.add_assoc] at this ⊢; exact this)
  have hb4 : base ≤ w4.heap.size := Nat.le_trans hb3 hf.size
  clear ha E3 HL3 H3
  clear ho hf fc3 fc4
  have fc5 := H4.out.2.2.cell (i := 5) (v := .int .i64 n3) (HCC.out.2.2.2.2.2.1)
  go_wp2_with fail
  refine (rint_w n3 _ H4.out.1 hb4 (bndI HL4.out)).mono ?_
  rintro e w5 ⟨v5, rfl, ho, hf⟩
  obtain ⟨SA5, SQ5, SC5, rfl⟩ := ho.shape
  obtain ⟨a5, ha⟩ : ∃ a, a4 ++ numL n3 = a := ⟨_, rfl⟩
  have H5 := Lib.hid (show Ob w5 base _ a5 ∧ Fr base w w5 ∧ Bk w5 w.heap.size 48 CS from ⟨by rw [← ha]; first | exact ho | simpa only [List.append_assoc] using ho, H4.out.2.1.trans hf, H4.out.2.2.fr (by decide) hf⟩)
  have E5 := Lib.hid (show a5 ++ (numL n4 ++ (numL n5_0 ++ (numL n5_1 ++ (numL n6 ++ (numL n7 ++ (numL n8 ++ (lowL q9 4 ++ (ms9.flatten ++ (lowL q10 4 ++ (ms10.flatten ++ (lowL q11 4 ++ (ms11.flatten ++ (numL n12_0 ++ (numL n12_1_0 ++ (numL n12_1_1 ++ (numL n12_2_0 ++ (numL n12_2_1 ++ (numL n12_3 ++ (numL n13_0 ++ (numL n13_1_0 ++ (numL n13_1_1 ++ (lowL q13_2 4 ++ (ms13_2.flatten ++ (lowL q13_3 4 ++ (ms13_3.flatten ++ (lowL q13_4 4 ++ (ms13_4.flatten ++ (numL n14_0_0 ++ (numL n14_0_1 ++ (boolL t14_1 ++ (numL n14_2 ++ (textL s14_3.data.toList ++ (numL n14_4 ++ (numL n14_5 ++ (textL s15_0.data.toList ++ (numL n15_1_0 ++ (numL n15_1_1 ++ (dataL d15_2 ++ (numL n16_0 ++ (textL s16_1.data.toList ++ (dataL d16_2 ++ (numL n16_3_0 ++ (numL n16_3_1 ++ (lowL q17 4 ++ (ms17.flatten ++ (lowL q18 4 ++ (ms18.flatten ++ numL n19))))))))))))))))))))))))))))))))))))))))))))))) = l ++ ((numL n0 ++ ((numL n1_0 ++ numL n1_1) ++ ((numL n2_0 ++ numL n2_1) ++ (numL n3 ++ (numL n4 ++ ((numL n5_0 ++ numL n5_1) ++ (numL n6 ++ (numL n7 ++ (numL n8 ++ ((lowL q9 4 ++ ms9.flatten) ++ ((lowL q10 4 ++ ms10.flatten) ++ ((lowL q11 4 ++ ms11.flatten) ++ ((numL n12_0 ++ ((numL n12_1_0 ++ numL n12_1_1) ++ ((numL n12_2_0 ++ numL n12_2_1) ++ numL n12_3))) ++ ((numL n13_0 ++ ((numL n13_1_0 ++ numL n13_1_1) ++ ((lowL q13_2 4 ++ ms13_2.flatten) ++ ((lowL q13_3 4 ++ ms13_3.flatten) ++ (lowL q13_4 4 ++ ms13_4.flatten))))) ++ (((numL n14_0_0 ++ numL n14_0_1) ++ (boolL t14_1 ++ (numL n14_2 ++ (textL s14_3.data.toList ++ (numL n14_4 ++ numL n14_5))))) ++ ((textL s15_0.data.toList ++ ((numL n15_1_0 ++ numL n15_1_1) ++ dataL d15_2)) ++ ((numL n16_0 ++ (textL s16_1.data.toList ++ (dataL d16_2 ++ (numL n16_3_0 ++ numL n16_3_1)))) ++ ((lowL q17 4 ++ ms17.flatten) ++ ((lowL q18 4 ++ ms18.flatten) ++ numL n19)))))))))))))))))))) from by rw [← E4.out, ← ha]; simp only [List.append_assoc])
  have HL5 := Lib.hid (show a5.length + (numL n4 ++ (numL n5_0 ++ (numL n5_1 ++ (numL n6 ++ (numL n7 ++ (numL n8 ++ (lowL q9 4 ++ (ms9.flatten ++ (lowL q10 4 ++ (ms10.flatten ++ (lowL q11 4 ++ (ms11.flatten ++ (numL n12_0 ++ (numL n12_1_0 ++ (numL n12_1_1 ++ (numL n12_2_0 ++ (numL n12_2_1 ++ (numL n12_3 ++ (numL n13_0 ++ (numL n13_1_0 ++ (numL n13_1_1 ++ (lowL q13_2 4 ++ (ms13_2.flatten ++ (lowL q13_3 4 ++ (ms13_3.flatten ++ (lowL q13_4 4 ++ (ms13_4.flatten ++ (numL n14_0_0 ++ (numL n14_0_1 ++ (boolL t14_1 ++ (numL n14_2 ++ (textL s14_3.data.toList ++ (numL n14_4 ++ (numL n14_5 ++ (textL s15_0.data.toList ++ (numL n15_1_0 ++ (numL n15_1_1 ++ (dataL d15_2 ++ (numL n16_0 ++ (textL s16_1.data.toList ++ (dataL d16_2 ++ (numL n16_3_0 ++ (numL n16_3_1 ++ (lowL q17 4 ++ (ms17.flatten ++ (lowL q18 4 ++ (ms18.flatten ++ numL n19))))))))))))))))))))))))))))))))))))))))))))))).length ≤ 130000000000000 from by have := HL4.out; rw [← ha]; simp only [List.length_append, Nat.add_assoc] at this ⊢; exact this)
  have hb5 : base ≤ w5.heap.size := Nat.le_trans hb4 hf.size
  clear ha E4 HL4 H4
  clear ho hf fc5
  have fc6 := H5.out.2.2.cell (i := 6) (v := .int .i64 n4) (HCC.out.2.2.2.2.2.2.1)
  go_wp2_with fail
  refine (rint_w n4 _ H5.out.1 hb5 (bndI HL5.out)).mono ?_
  rintro e w6 ⟨v6, rfl, ho, hf⟩
  obtain ⟨SA6, SQ6, SC6, rfl⟩ := ho.shape
  obtain ⟨a6, ha⟩ : ∃ a, a5 ++ numL n4 = a := ⟨_, rfl⟩
  have H6 := Lib.hid (show Ob w6 base _ a6 ∧ Fr base w w6 ∧ Bk w6 w.heap.size 48 CS from ⟨by rw [← ha]; first | exact ho | simpa only [List.append_assoc] using ho, H5.out.2.1.trans hf, H5.out.2.2.fr (by decide) hf⟩)
  have E6 := Lib.hid (show a6 ++ (numL n5_0 ++ (numL n5_1 ++ (numL n6 ++ (numL n7 ++ (numL n8 ++ (lowL q9 4 ++ (ms9.flatten ++ (lowL q10 4 ++ (ms10.flatten ++ (lowL q11 4 ++ (ms11.flatten ++ (numL n12_0 ++ (numL n12_1_0 ++ (numL n12_1_1 ++ (numL n12_2_0 ++ (numL n12_2_1 ++ (numL n12_3 ++ (numL n13_0 ++ (numL n13_1_0 ++ (numL n13_1_1 ++ (lowL q13_2 4 ++ (ms13_2.flatten ++ (lowL q13_3 4 ++ (ms13_3.flatten ++ (lowL q13_4 4 ++ (ms13_4.flatten ++ (numL n14_0_0 ++ (numL n14_0_1 ++ (boolL t14_1 ++ (numL n14_2 ++ (textL s14_3.data.toList ++ (numL n14_4 ++ (numL n14_5 ++ (textL s15_0.data.toList ++ (numL n15_1_0 ++ (numL n15_1_1 ++ (dataL d15_2 ++ (numL n16_0 ++ (textL s16_1.data.toList ++ (dataL d16_2 ++ (numL n16_3_0 ++ (numL n16_3_1 ++ (lowL q17 4 ++ (ms17.flatten ++ (lowL q18 4 ++ (ms18.flatten ++ numL n19)))))))))))))))))))))))))))))))))))))))))))))) = l ++ ((numL n0 ++ ((numL n1_0 ++ numL n1_1) ++ ((numL n2_0 ++ numL n2_1) ++ (numL n3 ++ (numL n4 ++ ((numL n5_0 ++ numL n5_1) ++ (numL n6 ++ (numL n7 ++ (numL n8 ++ ((lowL q9 4 ++ ms9.flatten) ++ ((lowL q10 4 ++ ms10.flatten) ++ ((lowL q11 4 ++ ms11.flatten) ++ ((numL n12_0 ++ ((numL n12_1_0 ++ numL n12_1_1) ++ ((numL n12_2_0 ++ numL n12_2_1) ++ numL n12_3))) ++ ((numL n13_0 ++ ((numL n13_1_0 ++ numL n13_1_1) ++ ((lowL q13_2 4 ++ ms13_2.flatten) ++ ((lowL q13_3 4 ++ ms13_3.flatten) ++ (lowL q13_4 4 ++ ms13_4.flatten))))) ++ (((numL n14_0_0 ++ numL n14_0_1) ++ (boolL t14_1 ++ (numL n14_2 ++ (textL s14_3.data.toList ++ (numL n14_4 ++ numL n14_5))))) ++ ((textL s15_0.data.toList ++ ((numL n15_1_0 ++ numL n15_1_1) ++ dataL d15_2)) ++ ((numL n16_0 ++ (textL s16_1.data.toList ++ (dataL d16_2 ++ (numL n16_3_0 ++ numL n16_3_1)))) ++ ((lowL q17 4 ++ ms17.flatten) ++ ((lowL q18 4 ++ ms18.flatten) ++ numL n19)))))))))))))))))))) from by rw [← E5.out, ← ha]; simp only [List.append_assoc])
  have HL6 := Lib.hid (show a6.length + (numL n5_0 ++ (numL n5_1 ++ (numL n6 ++ (numL n7 ++ (numL n8 ++ (lowL q9 4 ++ (ms9.flatten ++ (lowL q10 4 ++ (ms10.flatten ++ (lowL q11 4 ++ (ms11.flatten ++ (numL n12_0 ++ (numL n12_1_0 ++ (numL n12_1_1 ++ (numL n12_2_0 ++ (numL n12_2_1 ++ (numL n12_3 ++ (numL n13_0 ++ (numL n13_1_0 ++ (numL n13_1_1 ++ (lowL q13_2 4 ++ (ms13_2.flatten ++ (lowL q13_3 4 ++ (ms13_3.flatten ++ (lowL q13_4 4 ++ (ms13_4.flatten ++ (numL n14_0_0 ++ (numL n14_0_1 ++ (boolL t14_1 ++ (numL n14_2 ++ (textL s14_3.data.toList ++ (numL n14_4 ++ (numL n14_5 ++ (textL s15_0.data.toList ++ (numL n15_1_0 ++ (numL n15_1_1 ++ (dataL d15_2 ++ (numL n16_0 ++ (textL s16_1.data.toList ++ (dataL d16_2 ++ (numL n16_3_0 ++ (numL n16_3_1 ++ (lowL q17 4 ++ (ms17.flatten ++ (lowL q18 4 ++ (ms18.flatten ++ numL n19)))))))))))))))))))))))))))))))))))))))))))))).length ≤ 130000000000000 from by have := HL5.out; rw [← ha]; simp only [List.length_append, Nat.add_assoc] at this ⊢; exact this)
  have hb6 : base ≤ w6.heap.size := Nat.le_trans hb5 hf.size
  clear ha E5 HL5 H5
  clear ho hf fc6
  have fc7 := H6.out.2.2.cell (i := 7) (v := .int .i64 n5_0) (HCC.out.2.2.2.2.2.2.2.1)
  have fc8 := H6.out.2.2.cell (i := 8) (v := .int .i64 n5_1) (HCC.out.2.2.2.2.2.2.2.2.1)
  go_wp2_with fail
  refine (putPg_r n5_0 n5_1 _ H6.out.1 hb6 (bndC (R2 := (numL n6 ++ (numL n7 ++ (numL n8 ++ (lowL q9 4 ++ (ms9.flatten ++ (lowL q10 4 ++ (ms10.flatten ++ (lowL q11 4 ++ (ms11.flatten ++ (numL n12_0 ++ (numL n12_1_0 ++ (numL n12_1_1 ++ (numL n12_2_0 ++ (numL n12_2_1 ++ (numL n12_3 ++ (numL n13_0 ++ (numL n13_1_0 ++ (numL n13_1_1 ++ (lowL q13_2 4 ++ (ms13_2.flatten ++ (lowL q13_3 4 ++ (ms13_3.flatten ++ (lowL q13_4 4 ++ (ms13_4.flatten ++ (numL n14_0_0 ++ (numL n14_0_1 ++ (boolL t14_1 ++ (numL n14_2 ++ (textL s14_3.data.toList ++ (numL n14_4 ++ (numL n14_5 ++ (textL s15_0.data.toList ++ (numL n15_1_0 ++ (numL n15_1_1 ++ (dataL d15_2 ++ (numL n16_0 ++ (textL s16_1.data.toList ++ (dataL d16_2 ++ (numL n16_3_0 ++ (numL n16_3_1 ++ (lowL q17 4 ++ (ms17.flatten ++ (lowL q18 4 ++ (ms18.flatten ++ numL n19))))))))))))))))))))))))))))))))))))))))))))) HL6.out (by simp only [List.append_assoc]))).mono ?_
  rintro e w7 ⟨v7, rfl, ho, hf⟩
  obtain ⟨SA7, SQ7, SC7, rfl⟩ := ho.shape
  obtain ⟨a7, ha⟩ : ∃ a, a6 ++ (numL n5_0 ++ numL n5_1) = a := ⟨_, rfl⟩
  have H7 := Lib.hid (show Ob w7 base _ a7 ∧ Fr base w w7 ∧ Bk w7 w.heap.size 48 CS from ⟨by rw [← ha]; first | exact ho | simpa only [List.append_assoc] using ho, H6.out.2.1.trans hf, H6.out.2.2.fr (by decide) hf⟩)
  have E7 := Lib.hid (show a7 ++ (numL n6 ++ (numL n7 ++ (numL n8 ++ (lowL q9 4 ++ (ms9.flatten ++ (lowL q10 4 ++ (ms10.flatten ++ (lowL q11 4 ++ (ms11.flatten ++ (numL n12_0 ++ (numL n12_1_0 ++ (numL n12_1_1 ++ (numL n12_2_0 ++ (numL n12_2_1 ++ (numL n12_3 ++ (numL n13_0 ++ (numL n13_1_0 ++ (numL n13_1_1 ++ (lowL q13_2 4 ++ (ms13_2.flatten ++ (lowL q13_3 4 ++ (ms13_3.flatten ++ (lowL q13_4 4 ++ (ms13_4.flatten ++ (numL n14_0_0 ++ (numL n14_0_1 ++ (boolL t14_1 ++ (numL n14_2 ++ (textL s14_3.data.toList ++ (numL n14_4 ++ (numL n14_5 ++ (textL s15_0.data.toList ++ (numL n15_1_0 ++ (numL n15_1_1 ++ (dataL d15_2 ++ (numL n16_0 ++ (textL s16_1.data.toList ++ (dataL d16_2 ++ (numL n16_3_0 ++ (numL n16_3_1 ++ (lowL q17 4 ++ (ms17.flatten ++ (lowL q18 4 ++ (ms18.flatten ++ numL n19)))))))))))))))))))))))))))))))))))))))))))) = l ++ ((numL n0 ++ ((numL n1_0 ++ numL n1_1) ++ ((numL n2_0 ++ numL n2_1) ++ (numL n3 ++ (numL n4 ++ ((numL n5_0 ++ numL n5_1) ++ (numL n6 ++ (numL n7 ++ (numL n8 ++ ((lowL q9 4 ++ ms9.flatten) ++ ((lowL q10 4 ++ ms10.flatten) ++ ((lowL q11 4 ++ ms11.flatten) ++ ((numL n12_0 ++ ((numL n12_1_0 ++ numL n12_1_1) ++ ((numL n12_2_0 ++ numL n12_2_1) ++ numL n12_3))) ++ ((numL n13_0 ++ ((numL n13_1_0 ++ numL n13_1_1) ++ ((lowL q13_2 4 ++ ms13_2.flatten) ++ ((lowL q13_3 4 ++ ms13_3.flatten) ++ (lowL q13_4 4 ++ ms13_4.flatten))))) ++ (((numL n14_0_0 ++ numL n14_0_1) ++ (boolL t14_1 ++ (numL n14_2 ++ (textL s14_3.data.toList ++ (numL n14_4 ++ numL n14_5))))) ++ ((textL s15_0.data.toList ++ ((numL n15_1_0 ++ numL n15_1_1) ++ dataL d15_2)) ++ ((numL n16_0 ++ (textL s16_1.data.toList ++ (dataL d16_2 ++ (numL n16_3_0 ++ numL n16_3_1)))) ++ ((lowL q17 4 ++ ms17.flatten) ++ ((lowL q18 4 ++ ms18.flatten) ++ numL n19)))))))))))))))))))) from by rw [← E6.out, ← ha]; simp only [List.append_assoc])
  have HL7 := Lib.hid (show a7.length + (numL n6 ++ (numL n7 ++ (numL n8 ++ (lowL q9 4 ++ (ms9.flatten ++ (lowL q10 4 ++ (ms10.flatten ++ (lowL q11 4 ++ (ms11.flatten ++ (numL n12_0 ++ (numL n12_1_0 ++ (numL n12_1_1 ++ (numL n12_2_0 ++ (numL n12_2_1 ++ (numL n12_3 ++ (numL n13_0 ++ (numL n13_1_0 ++ (numL n13_1_1 ++ (lowL q13_2 4 ++ (ms13_2.flatten ++ (lowL q13_3 4 ++ (ms13_3.flatten ++ (lowL q13_4 4 ++ (ms13_4.flatten ++ (numL n14_0_0 ++ (numL n14_0_1 ++ (boolL t14_1 ++ (numL n14_2 ++ (textL s14_3.data.toList ++ (numL n14_4 ++ (numL n14_5 ++ (textL s15_0.data.toList ++ (numL n15_1_0 ++ (numL n15_1_1 ++ (dataL d15_2 ++ (numL n16_0 ++ (textL s16_1.data.toList ++ (dataL d16_2 ++ (numL n16_3_0 ++ (numL n16_3_1 ++ (lowL q17 4 ++ (ms17.flatten ++ (lowL q18 4 ++ (ms18.flatten ++ numL n19)))))))))))))))))))))))))))))))))))))))))))).length ≤ 130000000000000 from by have := HL6.out; rw [← ha]; simp only [List.length_append, Nat.add_assoc] at this ⊢; exact this)
  have hb7 : base ≤ w7.heap.size := Nat.le_trans hb6 hf.size
  clear ha E6 HL6 H6
  clear ho hf fc7 fc8
  have fc9 := H7.out.2.2.cell (i := 9) (v := .int .i64 n6) (HCC.out.2.2.2.2.2.2.2.2.2.1)
  go_wp2_with fail
  refine (rint_w n6 _ H7.out.1 hb7 (bndI HL7.out)).mono ?_
  rintro e w8 ⟨v8, rfl, ho, hf⟩
  obtain ⟨SA8, SQ8, SC8, rfl⟩ := ho.shape
  obtain ⟨a8, ha⟩ : ∃ a, a7 ++ numL n6 = a := ⟨_, rfl⟩
  have H8 := Lib.hid (show Ob w8 base _ a8 ∧ Fr base w w8 ∧ Bk w8 w.heap.size 48 CS from ⟨by rw [← ha]; first | exact ho | simpa only [List.append_assoc] using ho, H7.out.2.1.trans hf, H7.out.2.2.fr (by decide) hf⟩)
  have E8 := Lib.hid (show a8 ++ (numL n7 ++ (numL n8 ++ (lowL q9 4 ++ (ms9.flatten ++ (lowL q10 4 ++ (ms10.flatten ++ (lowL q11 4 ++ (ms11.flatten ++ (numL n12_0 ++ (numL n12_1_0 ++ (numL n12_1_1 ++ (numL n12_2_0 ++ (numL n12_2_1 ++ (numL n12_3 ++ (numL n13_0 ++ (numL n13_1_0 ++ (numL n13_1_1 ++ (lowL q13_2 4 ++ (ms13_2.flatten ++ (lowL q13_3 4 ++ (ms13_3.flatten ++ (lowL q13_4 4 ++ (ms13_4.flatten ++ (numL n14_0_0 ++ (numL n14_0_1 ++ (boolL t14_1 ++ (numL n14_2 ++ (textL s14_3.data.toList ++ (numL n14_4 ++ (numL n14_5 ++ (textL s15_0.data.toList ++ (numL n15_1_0 ++ (numL n15_1_1 ++ (dataL d15_2 ++ (numL n16_0 ++ (textL s16_1.data.toList ++ (dataL d16_2 ++ (numL n16_3_0 ++ (numL n16_3_1 ++ (lowL q17 4 ++ (ms17.flatten ++ (lowL q18 4 ++ (ms18.flatten ++ numL n19))))))))))))))))))))))))))))))))))))))))))) = l ++ ((numL n0 ++ ((numL n1_0 ++ numL n1_1) ++ ((numL n2_0 ++ numL n2_1) ++ (numL n3 ++ (numL n4 ++ ((numL n5_0 ++ numL n5_1) ++ (numL n6 ++ (numL n7 ++ (numL n8 ++ ((lowL q9 4 ++ ms9.flatten) ++ ((lowL q10 4 ++ ms10.flatten) ++ ((lowL q11 4 ++ ms11.flatten) ++ ((numL n12_0 ++ ((numL n12_1_0 ++ numL n12_1_1) ++ ((numL n12_2_0 ++ numL n12_2_1) ++ numL n12_3))) ++ ((numL n13_0 ++ ((numL n13_1_0 ++ numL n13_1_1) ++ ((lowL q13_2 4 ++ ms13_2.flatten) ++ ((lowL q13_3 4 ++ ms13_3.flatten) ++ (lowL q13_4 4 ++ ms13_4.flatten))))) ++ (((numL n14_0_0 ++ numL n14_0_1) ++ (boolL t14_1 ++ (numL n14_2 ++ (textL s14_3.data.toList ++ (numL n14_4 ++ numL n14_5))))) ++ ((textL s15_0.data.toList ++ ((numL n15_1_0 ++ numL n15_1_1) ++ dataL d15_2)) ++ ((numL n16_0 ++ (textL s16_1.data.toList ++ (dataL d16_2 ++ (numL n16_3_0 ++ numL n16_3_1)))) ++ ((lowL q17 4 ++ ms17.flatten) ++ ((lowL q18 4 ++ ms18.flatten) ++ numL n19)))))))))))))))))))) from by rw [← E7.out, ← ha]; simp only [List.append_assoc])
  have HL8 := Lib.hid (show a8.length + (numL n7 ++ (numL n8 ++ (lowL q9 4 ++ (ms9.flatten ++ (lowL q10 4 ++ (ms10.flatten ++ (lowL q11 4 ++ (ms11.flatten ++ (numL n12_0 ++ (numL n12_1_0 ++ (numL n12_1_1 ++ (numL n12_2_0 ++ (numL n12_2_1 ++ (numL n12_3 ++ (numL n13_0 ++ (numL n13_1_0 ++ (numL n13_1_1 ++ (lowL q13_2 4 ++ (ms13_2.flatten ++ (lowL q13_3 4 ++ (ms13_3.flatten ++ (lowL q13_4 4 ++ (ms13_4.flatten ++ (numL n14_0_0 ++ (numL n14_0_1 ++ (boolL t14_1 ++ (numL n14_2 ++ (textL s14_3.data.toList ++ (numL n14_4 ++ (numL n14_5 ++ (textL s15_0.data.toList ++ (numL n15_1_0 ++ (numL n15_1_1 ++ (dataL d15_2 ++ (numL n16_0 ++ (textL s16_1.data.toList ++ (dataL d16_2 ++ (numL n16_3_0 ++ (numL n16_3_1 ++ (lowL q17 4 ++ (ms17.flatten ++ (lowL q18 4 ++ (ms18.flatten ++ numL n19))))))))))))))))))))))))))))))))))))))))))).length ≤ 130000000000000 from by have := HL7.out; rw [← ha]; simp only [List.length_append, Nat.add_assoc] at this ⊢; exact this)
  have hb8 : base ≤ w8.heap.size := Nat.le_trans hb7 hf.size
  clear ha E7 HL7 H7
  clear ho hf fc9
  have fc10 := H8.out.2.2.cell (i := 10) (v := .int .i64 n7) (HCC.out.2.2.2.2.2.2.2.2.2.2.1)
  go_wp2_with fail
  refine (rint_w n7 _ H8.out.1 hb8 (bndI HL8.out)).mono ?_
  rintro e w9 ⟨v9, rfl, ho, hf⟩
  obtain ⟨SA9, SQ9, SC9, rfl⟩ := ho.shape
  obtain ⟨a9, ha⟩ : ∃ a, a8 ++ numL n7 = a := ⟨_, rfl⟩
  have H9 := Lib.hid (show Ob w9 base _ a9 ∧ Fr base w w9 ∧ Bk w9 w.heap.size 48 CS from ⟨by rw [← ha]; first | exact ho | simpa only [List.append_assoc] using ho, H8.out.2.1.trans hf, H8.out.2.2.fr (by decide) hf⟩)
  have E9 := Lib.hid (show a9 ++ (numL n8 ++ (lowL q9 4 ++ (ms9.flatten ++ (lowL q10 4 ++ (ms10.flatten ++ (lowL q11 4 ++ (ms11.flatten ++ (numL n12_0 ++ (numL n12_1_0 ++ (numL n12_1_1 ++ (numL n12_2_0 ++ (numL n12_2_1 ++ (numL n12_3 ++ (numL n13_0 ++ (numL n13_1_0 ++ (numL n13_1_1 ++ (lowL q13_2 4 ++ (ms13_2.flatten ++ (lowL q13_3 4 ++ (ms13_3.flatten ++ (lowL q13_4 4 ++ (ms13_4.flatten ++ (numL n14_0_0 ++ (numL n14_0_1 ++ (boolL t14_1 ++ (numL n14_2 ++ (textL s14_3.data.toList ++ (numL n14_4 ++ (numL n14_5 ++ (textL s15_0.data.toList ++ (numL n15_1_0 ++ (numL n15_1_1 ++ (dataL d15_2 ++ (numL n16_0 ++ (textL s16_1.data.toList ++ (dataL d16_2 ++ (numL n16_3_0 ++ (numL n16_3_1 ++ (lowL q17 4 ++ (ms17.flatten ++ (lowL q18 4 ++ (ms18.flatten ++ numL n19)))))))))))))))))))))))))))))))))))))))))) = l ++ ((numL n0 ++ ((numL n1_0 ++ numL n1_1) ++ ((numL n2_0 ++ numL n2_1) ++ (numL n3 ++ (numL n4 ++ ((numL n5_0 ++ numL n5_1) ++ (numL n6 ++ (numL n7 ++ (numL n8 ++ ((lowL q9 4 ++ ms9.flatten) ++ ((lowL q10 4 ++ ms10.flatten) ++ ((lowL q11 4 ++ ms11.flatten) ++ ((numL n12_0 ++ ((numL n12_1_0 ++ numL n12_1_1) ++ ((numL n12_2_0 ++ numL n12_2_1) ++ numL n12_3))) ++ ((numL n13_0 ++ ((numL n13_1_0 ++ numL n13_1_1) ++ ((lowL q13_2 4 ++ ms13_2.flatten) ++ ((lowL q13_3 4 ++ ms13_3.flatten) ++ (lowL q13_4 4 ++ ms13_4.flatten))))) ++ (((numL n14_0_0 ++ numL n14_0_1) ++ (boolL t14_1 ++ (numL n14_2 ++ (textL s14_3.data.toList ++ (numL n14_4 ++ numL n14_5))))) ++ ((textL s15_0.data.toList ++ ((numL n15_1_0 ++ numL n15_1_1) ++ dataL d15_2)) ++ ((numL n16_0 ++ (textL s16_1.data.toList ++ (dataL d16_2 ++ (numL n16_3_0 ++ numL n16_3_1)))) ++ ((lowL q17 4 ++ ms17.flatten) ++ ((lowL q18 4 ++ ms18.flatten) ++ numL n19)))))))))))))))))))) from by rw [← E8.out, ← ha]; simp only [List.append_assoc])
  have HL9 := Lib.hid (show a9.length + (numL n8 ++ (lowL q9 4 ++ (ms9.flatten ++ (lowL q10 4 ++ (ms10.flatten ++ (lowL q11 4 ++ (ms11.flatten ++ (numL n12_0 ++ (numL n12_1_0 ++ (numL n12_1_1 ++ (numL n12_2_0 ++ (numL n12_2_1 ++ (numL n12_3 ++ (numL n13_0 ++ (numL n13_1_0 ++ (numL n13_1_1 ++ (lowL q13_2 4 ++ (ms13_2.flatten ++ (lowL q13_3 4 ++ (ms13_3.flatten ++ (lowL q13_4 4 ++ (ms13_4.flatten ++ (numL n14_0_0 ++ (numL n14_0_1 ++ (boolL t14_1 ++ (numL n14_2 ++ (textL s14_3.data.toList ++ (numL n14_4 ++ (numL n14_5 ++ (textL s15_0.data.toList ++ (numL n15_1_0 ++ (numL n15_1_1 ++ (dataL d15_2 ++ (numL n16_0 ++ (textL s16_1.data.toList ++ (dataL d16_2 ++ (numL n16_3_0 ++ (numL n16_3_1 ++ (lowL q17 4 ++ (ms17.flatten ++ (lowL q18 4 ++ (ms18.flatten ++ numL n19)))))))))))))))))))))))))))))))))))))))))).length ≤ 130000000000000 from by have := HL8.out; rw [← ha]; simp only [List.length_append, Nat.add_assoc] at this ⊢; exact this)
  have hb9 : base ≤ w9.heap.size := Nat.le_trans hb8 hf.size
  clear ha E8 HL8 H8
  clear ho hf fc10
  have fc11 := H9.out.2.2.cell (i := 11) (v := .int .i64 n8) (HCC.out.2.2.2.2.2.2.2.2.2.2.2.1)
  go_wp2_with fail
  refine (rint_w n8 _ H9.out.1 hb9 (bndI HL9.out)).mono ?_
  rintro e w10 ⟨v10, rfl, ho, hf⟩
  obtain ⟨SA10, SQ10, SC10, rfl⟩ := ho.shape
  obtain ⟨a10, ha⟩ : ∃ a, a9 ++ numL n8 = a := ⟨_, rfl⟩
  have H10 := Lib.hid (show Ob w10 base _ a10 ∧ Fr base w w10 ∧ Bk w10 w.heap.size 48 CS from ⟨by rw [← ha]; first | exact ho | simpa only [List.append_assoc] using ho, H9.out.2.1.trans hf, H9.out.2.2.fr (by decide) hf⟩)
  have E10 := Lib.hid (show a10 ++ (lowL q9 4 ++ (ms9.flatten ++ (lowL q10 4 ++ (ms10.flatten ++ (lowL q11 4 ++ (ms11.flatten ++ (numL n12_0 ++ (numL n12_1_0 ++ (numL n12_1_1 ++ (numL n12_2_0 ++ (numL n12_2_1 ++ (numL n12_3 ++ (numL n13_0 ++ (numL n13_1_0 ++ (numL n13_1_1 ++ (lowL q13_2 4 ++ (ms13_2.flatten ++ (lowL q13_3 4 ++ (ms13_3.flatten ++ (lowL q13_4 4 ++ (ms13_4.flatten ++ (numL n14_0_0 ++ (numL n14_0_1 ++ (boolL t14_1 ++ (numL n14_2 ++ (textL s14_3.data.toList ++ (numL n14_4 ++ (numL n14_5 ++ (textL s15_0.data.toList ++ (numL n15_1_0 ++ (numL n15_1_1 ++ (dataL d15_2 ++ (numL n16_0 ++ (textL s16_1.data.toList ++ (dataL d16_2 ++ (numL n16_3_0 ++ (numL n16_3_1 ++ (lowL q17 4 ++ (ms17.flatten ++ (lowL q18 4 ++ (ms18.flatten ++ numL n19))))))))))))))))))))))))))))))))))))))))) = l ++ ((numL n0 ++ ((numL n1_0 ++ numL n1_1) ++ ((numL n2_0 ++ numL n2_1) ++ (numL n3 ++ (numL n4 ++ ((numL n5_0 ++ numL n5_1) ++ (numL n6 ++ (numL n7 ++ (numL n8 ++ ((lowL q9 4 ++ ms9.flatten) ++ ((lowL q10 4 ++ ms10.flatten) ++ ((lowL q11 4 ++ ms11.flatten) ++ ((numL n12_0 ++ ((numL n12_1_0 ++ numL n12_1_1) ++ ((numL n12_2_0 ++ numL n12_2_1) ++ numL n12_3))) ++ ((numL n13_0 ++ ((numL n13_1_0 ++ numL n13_1_1) ++ ((lowL q13_2 4 ++ ms13_2.flatten) ++ ((lowL q13_3 4 ++ ms13_3.flatten) ++ (lowL q13_4 4 ++ ms13_4.flatten))))) ++ (((numL n14_0_0 ++ numL n14_0_1) ++ (boolL t14_1 ++ (numL n14_2 ++ (textL s14_3.data.toList ++ (numL n14_4 ++ numL n14_5))))) ++ ((textL s15_0.data.toList ++ ((numL n15_1_0 ++ numL n15_1_1) ++ dataL d15_2)) ++ ((numL n16_0 ++ (textL s16_1.data.toList ++ (dataL d16_2 ++ (numL n16_3_0 ++ numL n16_3_1)))) ++ ((lowL q17 4 ++ ms17.flatten) ++ ((lowL q18 4 ++ ms18.flatten) ++ numL n19)))))))))))))))))))) from by rw [← E9.out, ← ha]; simp only [List.append_assoc])
  have HL10 := Lib.hid (show a10.length + (lowL q9 4 ++ (ms9.flatten ++ (lowL q10 4 ++ (ms10.flatten ++ (lowL q11 4 ++ (ms11.flatten ++ (numL n12_0 ++ (numL n12_1_0 ++ (numL n12_1_1 ++ (numL n12_2_0 ++ (numL n12_2_1 ++ (numL n12_3 ++ (numL n13_0 ++ (numL n13_1_0 ++ (numL n13_1_1 ++ (lowL q13_2 4 ++ (ms13_2.flatten ++ (lowL q13_3 4 ++ (ms13_3.flatten ++ (lowL q13_4 4 ++ (ms13_4.flatten ++ (numL n14_0_0 ++ (numL n14_0_1 ++ (boolL t14_1 ++ (numL n14_2 ++ (textL s14_3.data.toList ++ (numL n14_4 ++ (numL n14_5 ++ (textL s15_0.data.toList ++ (numL n15_1_0 ++ (numL n15_1_1 ++ (dataL d15_2 ++ (numL n16_0 ++ (textL s16_1.data.toList ++ (dataL d16_2 ++ (numL n16_3_0 ++ (numL n16_3_1 ++ (lowL q17 4 ++ (ms17.flatten ++ (lowL q18 4 ++ (ms18.flatten ++ numL n19))))))))))))))))))))))))))))))))))))))))).length ≤ 130000000000000 from by have := HL9.out; rw [← ha]; simp only [List.length_append, Nat.add_assoc] at this ⊢; exact this)
  have hb10 : base ≤ w10.heap.size := Nat.le_trans hb9 hf.size
  clear ha E9 HL9 H9
  clear ho hf fc11
  have fc12 := H10.out.2.2.cell (i := 12) (v := .slice A9 q9 c9) (HCC.out.2.2.2.2.2.2.2.2.2.2.2.2.1)
  go_wp2_with fail
  refine (rcount_any q9 _ H10.out.1 hb10 (bndI HL10.out)).mono ?_
  rintro e w11 ⟨v11, rfl, ho, hf⟩
  obtain ⟨SA11, SQ11, SC11, rfl⟩ := ho.shape
  obtain ⟨a11, ha⟩ : ∃ a, a10 ++ lowL q9 4 = a := ⟨_, rfl⟩
  have H11 := Lib.hid (show Ob w11 base _ a11 ∧ Fr base w w11 ∧ Bk w11 w.heap.size 48 CS from ⟨by rw [← ha]; first | exact ho | simpa only [List.append_assoc] using ho, H10.out.2.1.trans hf, H10.out.2.2.fr (by decide) hf⟩)
  have E11 := Lib.hid (show a11 ++ (ms9.flatten ++ (lowL q10 4 ++ (ms10.flatten ++ (lowL q11 4 ++ (ms11.flatten ++ (numL n12_0 ++ (numL n12_1_0 ++ (numL n12_1_1 ++ (numL n12_2_0 ++ (numL n12_2_1 ++ (numL n12_3 ++ (numL n13_0 ++ (numL n13_1_0 ++ (numL n13_1_1 ++ (lowL q13_2 4 ++ (ms13_2.flatten ++ (lowL q13_3 4 ++ (ms13_3.flatten ++ (lowL q13_4 4 ++ (ms13_4.flatten ++ (numL n14_0_0 ++ (numL n14_0_1 ++ (boolL t14_1 ++ (numL n14_2 ++ (textL s14_3.data.toList ++ (numL n14_4 ++ (numL n14_5 ++ (textL s15_0.data.toList ++ (numL n15_1_0 ++ (numL n15_1_1 ++ (dataL d15_2 ++ (numL n16_0 ++ (textL s16_1.data.toList ++ (dataL d16_2 ++ (numL n16_3_0 ++ (numL n16_3_1 ++ (lowL q17 4 ++ (ms17.flatten ++ (lowL q18 4 ++ (ms18.flatten ++ numL n19)))))))))))))))))))))))))))))))))))))))) = l ++ ((numL n0 ++ ((numL n1_0 ++ numL n1_1) ++ ((numL n2_0 ++ numL n2_1) ++ (numL n3 ++ (numL n4 ++ ((numL n5_0 ++ numL n5_1) ++ (numL n6 ++ (numL n7 ++ (numL n8 ++ ((lowL q9 4 ++ ms9.flatten) ++ ((lowL q10 4 ++ ms10.flatten) ++ ((lowL q11 4 ++ ms11.flatten) ++ ((numL n12_0 ++ ((numL n12_1_0 ++ numL n12_1_1) ++ ((numL n12_2_0 ++ numL n12_2_1) ++ numL n12_3))) ++ ((numL n13_0 ++ ((numL n13_1_0 ++ numL n13_1_1) ++ ((lowL q13_2 4 ++ ms13_2.flatten) ++ ((lowL q13_3 4 ++ ms13_3.flatten) ++ (lowL q13_4 4 ++ ms13_4.flatten))))) ++ (((numL n14_0_0 ++ numL n14_0_1) ++ (boolL t14_1 ++ (numL n14_2 ++ (textL s14_3.data.toList ++ (numL n14_4 ++ numL n14_5))))) ++ ((textL s15_0.data.toList ++ ((numL n15_1_0 ++ numL n15_1_1) ++ dataL d15_2)) ++ ((numL n16_0 ++ (textL s16_1.data.toList ++ (dataL d16_2 ++ (numL n16_3_0 ++ numL n16_3_1)))) ++ ((lowL q17 4 ++ ms17.flatten) ++ ((lowL q18 4 ++ ms18.flatten) ++ numL n19)))))))))))))))))))) from by rw [← E10.out, ← ha]; simp only [List.append_assoc])
  have HL11 := Lib.hid (show a11.length + (ms9.flatten ++ (lowL q10 4 ++ (ms10.flatten ++ (lowL q11 4 ++ (ms11.flatten ++ (numL n12_0 ++ (numL n12_1_0 ++ (numL n12_1_1 ++ (numL n12_2_0 ++ (numL n12_2_1 ++ (numL n12_3 ++ (numL n13_0 ++ (numL n13_1_0 ++ (numL n13_1_1 ++ (lowL q13_2 4 ++ (ms13_2.flatten ++ (lowL q13_3 4 ++ (ms13_3.flatten ++ (lowL q13_4 4 ++ (ms13_4.flatten ++ (numL n14_0_0 ++ (numL n14_0_1 ++ (boolL t14_1 ++ (numL n14_2 ++ (textL s14_3.data.toList ++ (numL n14_4 ++ (numL n14_5 ++ (textL s15_0.data.toList ++ (numL n15_1_0 ++ (numL n15_1_1 ++ (dataL d15_2 ++ (numL n16_0 ++ (textL s16_1.data.toList ++ (dataL d16_2 ++ (numL n16_3_0 ++ (numL n16_3_1 ++ (lowL q17 4 ++ (ms17.flatten ++ (lowL q18 4 ++ (ms18.flatten ++ numL n19)))))))))))))))))))))))))))))))))))))))).length ≤ 130000000000000 from by have := HL10.out; rw [← ha]; simp only [List.length_append, Nat.add_assoc] at this ⊢; exact this)
  have hb11 : base ≤ w11.heap.size := Nat.le_trans hb10 hf.size
  clear ha E10 HL10 H10
  clear ho hf fc12
  have fc12 := H11.out.2.2.cell (i := 12) (v := .slice A9 q9 c9) (HCC.out.2.2.2.2.2.2.2.2.2.2.2.2.1)
  go_wp2_with fail
  clear fc12
  go_loopw [0, 59] (fun b i wr => ∃ j : Nat, j ≤ q9 ∧ i = .int .i64 (j : Int) ∧ Ob wr base b (a11 ++ (ms9.take j).flatten) ∧ Fr base w wr ∧ Bk wr w.heap.size 48 CS) (fun _ i _ => q9 - (intOf i).toNat)
  case atStart => exact ⟨0, Nat.zero_le _, rfl, by simpa using H11.out.1, H11.out.2.1, H11.out.2.2⟩
  case round =>
    obtain ⟨j, hj, rfl, ho, hf, hkb⟩ := hrel
    obtain ⟨SA12, SQ12, SC12, rfl⟩ := ho.shape
    have HR := Lib.hid (And.intro ho (And.intro hf hkb))
    have hbr : base ≤ wr.heap.size := Nat.le_trans hb hf.size
    by_cases hlt : j < q9
    · obtain ⟨b', o', rfl, hb', hits⟩ := L9.out.2 (by omega)
      have it0 : At wr base (.pair .num (.pair .num .data)) b' (o' + j * Sch.sz (.pair .num (.pair .num .data))) (ms9.getD j []) := At.frs ⟨hb', hits j hlt⟩ hf hb
      have it : At wr base (.pair .num (.pair .num .data)) b' (o' + j * 3) (ms9.getD j []) := by simpa [Sch.sz] using it0
      have hle2 := flat_take_le ms9 j (by rw [L9.out.1]; exact hlt)
      have hft := flat_take ms9 j (by rw [L9.out.1]; exact hlt)
      clear it0 hits ho hf hkb
      obtain ⟨mm, hmm⟩ : ∃ mm, ms9.getD j [] = mm := ⟨_, rfl⟩
      rw [hmm] at it hle2 hft
      clear hmm
      obtain ⟨mx9_0, rx9_0, ax9_0, zx9_0, rfl⟩ := it.fst
      replace ax9_0 : At wr base .num b' (o' + j * 3) _ := ax9_0
      obtain ⟨nx9_0, kx9_0, rfl⟩ := ax9_0.num
      obtain ⟨mx9_1, rx9_1, ax9_1, zx9_1, rfl⟩ := zx9_0.fst
      replace ax9_1 : At wr base .num b' (o' + j * 3 + 1) _ := ax9_1
      obtain ⟨nx9_1, kx9_1, rfl⟩ := ax9_1.num
      have ax9_2 := zx9_1
      replace ax9_2 : At wr base .data b' (o' + j * 3 + 2) _ := ax9_2
      obtain ⟨Ax9_2, qx9_2, cx9_2, dx9_2, kx9_2, hx9_2, rfl⟩ := ax9_2.data
      have HF := Lib.hid (And.intro hft hle2)
      have hj0 : (0 : Int) ≤ (j : Int) := by omega
      have hj1 : (j : Int) < (q9 : Int) := by omega
      clear hft hle2
      have Hx9_2 := Lib.hid hx9_2
      clear hx9_2
      clear it ax9_0 zx9_0 ax9_1 zx9_1 ax9_2
      go_wp2_with fail
      refine (putSlot_r nx9_0 nx9_1 Ax9_2 qx9_2 cx9_2 dx9_2 _ (by first | exact HR.out.1 | exact HR.out.1.alloc _) (by first | exact hbr | (simp; omega)) (by first | exact Hx9_2.out | exact Hx9_2.out.abs ((Ab.refl _).alloc _) hbr) (bndL HL11.out HF.out.2)).mono ?_
      rintro e w9 ⟨v9, rfl, ho9, hf9⟩
      have H9 := Lib.hid (And.intro ho9 (show Fr base wr w9 from by first | exact hf9 | exact ((Fr.refl base wr).alloc _).trans hf9))
      clear ho9 hf9
      go_wp2_with fail
      go_roundw
      case rel => exact ⟨j + 1, by omega, by go_num, by rw [HF.out.1]; first | exact H9.out.1 | simpa only [List.append_assoc] using H9.out.1, HR.out.2.1.trans H9.out.2, HR.out.2.2.fr (by decide) H9.out.2⟩
      case measure => simp [intOf]; omega
    · have hjq : j = q9 := by omega
      have htk : ms9.take j = ms9 := List.take_of_length_le (by rw [L9.out.1, hjq]; exact Nat.le_refl _)
      rw [htk] at ho
      obtain ⟨a12, ha⟩ : ∃ a, a11 ++ ms9.flatten = a := ⟨_, rfl⟩
      have H12 := Lib.hid (show Ob wr base _ a12 ∧ Fr base w wr ∧ Bk wr w.heap.size 48 CS from ⟨by rw [← ha]; first | exact ho | simpa only [List.append_assoc] using ho, hf, hkb⟩)
      have E12 := Lib.hid (show a12 ++ (lowL q10 4 ++ (ms10.flatten ++ (lowL q11 4 ++ (ms11.flatten ++ (numL n12_0 ++ (numL n12_1_0 ++ (numL n12_1_1 ++ (numL n12_2_0 ++ (numL n12_2_1 ++ (numL n12_3 ++ (numL n13_0 ++ (numL n13_1_0 ++ (numL n13_1_1 ++ (lowL q13_2 4 ++ (ms13_2.flatten ++ (lowL q13_3 4 ++ (ms13_3.flatten ++ (lowL q13_4 4 ++ (ms13_4.flatten ++ (numL n14_0_0 ++ (numL n14_0_1 ++ (boolL t14_1 ++ (numL n14_2 ++ (textL s14_3.data.toList ++ (numL n14_4 ++ (numL n14_5 ++ (textL s15_0.data.toList ++ (numL n15_1_0 ++ (numL n15_1_1 ++ (dataL d15_2 ++ (numL n16_0 ++ (textL s16_1.data.toList ++ (dataL d16_2 ++ (numL n16_3_0 ++ (numL n16_3_1 ++ (lowL q17 4 ++ (ms17.flatten ++ (lowL q18 4 ++ (ms18.flatten ++ numL n19))))))))))))))))))))))))))))))))))))))) = l ++ ((numL n0 ++ ((numL n1_0 ++ numL n1_1) ++ ((numL n2_0 ++ numL n2_1) ++ (numL n3 ++ (numL n4 ++ ((numL n5_0 ++ numL n5_1) ++ (numL n6 ++ (numL n7 ++ (numL n8 ++ ((lowL q9 4 ++ ms9.flatten) ++ ((lowL q10 4 ++ ms10.flatten) ++ ((lowL q11 4 ++ ms11.flatten) ++ ((numL n12_0 ++ ((numL n12_1_0 ++ numL n12_1_1) ++ ((numL n12_2_0 ++ numL n12_2_1) ++ numL n12_3))) ++ ((numL n13_0 ++ ((numL n13_1_0 ++ numL n13_1_1) ++ ((lowL q13_2 4 ++ ms13_2.flatten) ++ ((lowL q13_3 4 ++ ms13_3.flatten) ++ (lowL q13_4 4 ++ ms13_4.flatten))))) ++ (((numL n14_0_0 ++ numL n14_0_1) ++ (boolL t14_1 ++ (numL n14_2 ++ (textL s14_3.data.toList ++ (numL n14_4 ++ numL n14_5))))) ++ ((textL s15_0.data.toList ++ ((numL n15_1_0 ++ numL n15_1_1) ++ dataL d15_2)) ++ ((numL n16_0 ++ (textL s16_1.data.toList ++ (dataL d16_2 ++ (numL n16_3_0 ++ numL n16_3_1)))) ++ ((lowL q17 4 ++ ms17.flatten) ++ ((lowL q18 4 ++ ms18.flatten) ++ numL n19)))))))))))))))))))) from by rw [← E11.out, ← ha]; simp only [List.append_assoc])
      have HL12 := Lib.hid (show a12.length + (lowL q10 4 ++ (ms10.flatten ++ (lowL q11 4 ++ (ms11.flatten ++ (numL n12_0 ++ (numL n12_1_0 ++ (numL n12_1_1 ++ (numL n12_2_0 ++ (numL n12_2_1 ++ (numL n12_3 ++ (numL n13_0 ++ (numL n13_1_0 ++ (numL n13_1_1 ++ (lowL q13_2 4 ++ (ms13_2.flatten ++ (lowL q13_3 4 ++ (ms13_3.flatten ++ (lowL q13_4 4 ++ (ms13_4.flatten ++ (numL n14_0_0 ++ (numL n14_0_1 ++ (boolL t14_1 ++ (numL n14_2 ++ (textL s14_3.data.toList ++ (numL n14_4 ++ (numL n14_5 ++ (textL s15_0.data.toList ++ (numL n15_1_0 ++ (numL n15_1_1 ++ (dataL d15_2 ++ (numL n16_0 ++ (textL s16_1.data.toList ++ (dataL d16_2 ++ (numL n16_3_0 ++ (numL n16_3_1 ++ (lowL q17 4 ++ (ms17.flatten ++ (lowL q18 4 ++ (ms18.flatten ++ numL n19))))))))))))))))))))))))))))))))))))))).length ≤ 130000000000000 from by have := HL11.out; rw [← ha]; simp only [List.length_append, Nat.add_assoc] at this ⊢; exact this)
      have hb12 := hbr
      clear ha E11 HL11 H11
      obtain ⟨w12, hw12⟩ : ∃ w12, wr = w12 := ⟨_, rfl⟩
      subst hw12
      clear ho hf hkb HR htk
      have fc13 := H12.out.2.2.cell (i := 13) (v := .slice A10 q10 c10) (HCC.out.2.2.2.2.2.2.2.2.2.2.2.2.2.1)
      go_wp2_with fail
      refine (rcount_any q10 _ H12.out.1 hb12 (bndI HL12.out)).mono ?_
      rintro e w13 ⟨v13, rfl, ho, hf⟩
      obtain ⟨SA13, SQ13, SC13, rfl⟩ := ho.shape
      obtain ⟨a13, ha⟩ : ∃ a, a12 ++ lowL q10 4 = a := ⟨_, rfl⟩
      have H13 := Lib.hid (show Ob w13 base _ a13 ∧ Fr base w w13 ∧ Bk w13 w.heap.size 48 CS from ⟨by rw [← ha]; first | exact ho | simpa only [List.append_assoc] using ho, H12.out.2.1.trans hf, H12.out.2.2.fr (by decide) hf⟩)
      have E13 := Lib.hid (show a13 ++ (ms10.flatten ++ (lowL q11 4 ++ (ms11.flatten ++ (numL n12_0 ++ (numL n12_1_0 ++ (numL n12_1_1 ++ (numL n12_2_0 ++ (numL n12_2_1 ++ (numL n12_3 ++ (numL n13_0 ++ (numL n13_1_0 ++ (numL n13_1_1 ++ (lowL q13_2 4 ++ (ms13_2.flatten ++ (lowL q13_3 4 ++ (ms13_3.flatten ++ (lowL q13_4 4 ++ (ms13_4.flatten ++ (numL n14_0_0 ++ (numL n14_0_1 ++ (boolL t14_1 ++ (numL n14_2 ++ (textL s14_3.data.toList ++ (numL n14_4 ++ (numL n14_5 ++ (textL s15_0.data.toList ++ (numL n15_1_0 ++ (numL n15_1_1 ++ (dataL d15_2 ++ (numL n16_0 ++ (textL s16_1.data.toList ++ (dataL d16_2 ++ (numL n16_3_0 ++ (numL n16_3_1 ++ (lowL q17 4 ++ (ms17.flatten ++ (lowL q18 4 ++ (ms18.flatten ++ numL n19)))))))))))))))))))))))))))))))))))))) = l ++ ((numL n0 ++ ((numL n1_0 ++ numL n1_1) ++ ((numL n2_0 ++ numL n2_1) ++ (numL n3 ++ (numL n4 ++ ((numL n5_0 ++ numL n5_1) ++ (numL n6 ++ (numL n7 ++ (numL n8 ++ ((lowL q9 4 ++ ms9.flatten) ++ ((lowL q10 4 ++ ms10.flatten) ++ ((lowL q11 4 ++ ms11.flatten) ++ ((numL n12_0 ++ ((numL n12_1_0 ++ numL n12_1_1) ++ ((numL n12_2_0 ++ numL n12_2_1) ++ numL n12_3))) ++ ((numL n13_0 ++ ((numL n13_1_0 ++ numL n13_1_1) ++ ((lowL q13_2 4 ++ ms13_2.flatten) ++ ((lowL q13_3 4 ++ ms13_3.flatten) ++ (lowL q13_4 4 ++ ms13_4.flatten))))) ++ (((numL n14_0_0 ++ numL n14_0_1) ++ (boolL t14_1 ++ (numL n14_2 ++ (textL s14_3.data.toList ++ (numL n14_4 ++ numL n14_5))))) ++ ((textL s15_0.data.toList ++ ((numL n15_1_0 ++ numL n15_1_1) ++ dataL d15_2)) ++ ((numL n16_0 ++ (textL s16_1.data.toList ++ (dataL d16_2 ++ (numL n16_3_0 ++ numL n16_3_1)))) ++ ((lowL q17 4 ++ ms17.flatten) ++ ((lowL q18 4 ++ ms18.flatten) ++ numL n19)))))))))))))))))))) from by rw [← E12.out, ← ha]; simp only [List.append_assoc])
      have HL13 := Lib.hid (show a13.length + (ms10.flatten ++ (lowL q11 4 ++ (ms11.flatten ++ (numL n12_0 ++ (numL n12_1_0 ++ (numL n12_1_1 ++ (numL n12_2_0 ++ (numL n12_2_1 ++ (numL n12_3 ++ (numL n13_0 ++ (numL n13_1_0 ++ (numL n13_1_1 ++ (lowL q13_2 4 ++ (ms13_2.flatten ++ (lowL q13_3 4 ++ (ms13_3.flatten ++ (lowL q13_4 4 ++ (ms13_4.flatten ++ (numL n14_0_0 ++ (numL n14_0_1 ++ (boolL t14_1 ++ (numL n14_2 ++ (textL s14_3.data.toList ++ (numL n14_4 ++ (numL n14_5 ++ (textL s15_0.data.toList ++ (numL n15_1_0 ++ (numL n15_1_1 ++ (dataL d15_2 ++ (numL n16_0 ++ (textL s16_1.data.toList ++ (dataL d16_2 ++ (numL n16_3_0 ++ (numL n16_3_1 ++ (lowL q17 4 ++ (ms17.flatten ++ (lowL q18 4 ++ (ms18.flatten ++ numL n19)))))))))))))))))))))))))))))))))))))).length ≤ 130000000000000 from by have := HL12.out; rw [← ha]; simp only [List.length_append, Nat.add_assoc] at this ⊢; exact this)
      have hb13 : base ≤ w13.heap.size := Nat.le_trans hb12 hf.size
      clear ha E12 HL12 H12
      clear ho hf fc13
      have fc13 := H13.out.2.2.cell (i := 13) (v := .slice A10 q10 c10) (HCC.out.2.2.2.2.2.2.2.2.2.2.2.2.2.1)
      go_wp2_with fail
      clear fc13
      go_loopw [0, 75] (fun b i wr => ∃ j : Nat, j ≤ q10 ∧ i = .int .i64 (j : Int) ∧ Ob wr base b (a13 ++ (ms10.take j).flatten) ∧ Fr base w wr ∧ Bk wr w.heap.size 48 CS) (fun _ i _ => q10 - (intOf i).toNat)
      case atStart => exact ⟨0, Nat.zero_le _, rfl, by simpa using H13.out.1, H13.out.2.1, H13.out.2.2⟩
      case round =>
        obtain ⟨j, hj, rfl, ho, hf, hkb⟩ := hrel
        obtain ⟨SA14, SQ14, SC14, rfl⟩ := ho.shape
        have HR := Lib.hid (And.intro ho (And.intro hf hkb))
        have hbr : base ≤ wr.heap.size := Nat.le_trans hb hf.size
        by_cases hlt : j < q10
        · obtain ⟨b', o', rfl, hb', hits⟩ := L10.out.2 (by omega)
          have it0 : At wr base (.pair .num (.list (.pair .num (.pair .num (.pair .num (.pair (.pair .num (.pair .num (.pair .num .num))) (.pair .num (.pair .num (.pair (.list .num) (.list .num)))))))))) b' (o' + j * Sch.sz (.pair .num (.list (.pair .num (.pair .num (.pair .num (.pair (.pair .num (.pair .num (.pair .num .num))) (.pair .num (.pair .num (.pair (.list .num) (.list .num))))))))))) (ms10.getD j []) := At.frs ⟨hb', hits j hlt⟩ hf hb
          have it : At wr base (.pair .num (.list (.pair .num (.pair .num (.pair .num (.pair (.pair .num (.pair .num (.pair .num .num))) (.pair .num (.pair .num (.pair (.list .num) (.list .num)))))))))) b' (o' + j * 2) (ms10.getD j []) := by simpa [Sch.sz] using it0
          have hle2 := flat_take_le ms10 j (by rw [L10.out.1]; exact hlt)
          have hft := flat_take ms10 j (by rw [L10.out.1]; exact hlt)
          clear it0 hits ho hf hkb
          obtain ⟨mm, hmm⟩ : ∃ mm, ms10.getD j [] = mm := ⟨_, rfl⟩
          rw [hmm] at it hle2 hft
          clear hmm
          obtain ⟨mx10_0, rx10_0, ax10_0, zx10_0, rfl⟩ := it.fst
          replace ax10_0 : At wr base .num b' (o' + j * 2) _ := ax10_0
          obtain ⟨nx10_0, kx10_0, rfl⟩ := ax10_0.num
          have ax10_1 := zx10_0
          replace ax10_1 : At wr base (.list (.pair .num (.pair .num (.pair .num (.pair (.pair .num (.pair .num (.pair .num .num))) (.pair .num (.pair .num (.pair (.list .num) (.list .num))))))))) b' (o' + j * 2 + 1) _ := ax10_1
          obtain ⟨Ax10_1, qx10_1, cx10_1, dx10_1, kx10_1, hx10_1, rfl⟩ := ax10_1.lst
          have HF := Lib.hid (And.intro hft hle2)
          have hj0 : (0 : Int) ≤ (j : Int) := by omega
          have hj1 : (j : Int) < (q10 : Int) := by omega
          clear hft hle2
          have Hx10_1 := Lib.hid hx10_1
          clear hx10_1
          clear it ax10_0 zx10_0 ax10_1
          go_wp2_with fail
          refine (putInc_r nx10_0 Ax10_1 qx10_1 cx10_1 _ _ (by first | exact HR.out.1 | exact HR.out.1.alloc _) (by first | exact hbr | (simp; omega)) (by first | exact Hx10_1.out | exact Hx10_1.out.abs ((Ab.refl _).alloc _) hbr) (bndL HL13.out HF.out.2)).mono ?_
          rintro e w9 ⟨v9, rfl, ho9, hf9⟩
          have H9 := Lib.hid (And.intro ho9 (show Fr base wr w9 from by first | exact hf9 | exact ((Fr.refl base wr).alloc _).trans hf9))
          clear ho9 hf9
          go_wp2_with fail
          go_roundw
          case rel => exact ⟨j + 1, by omega, by go_num, by rw [HF.out.1]; first | exact H9.out.1 | simpa only [List.append_assoc] using H9.out.1, HR.out.2.1.trans H9.out.2, HR.out.2.2.fr (by decide) H9.out.2⟩
          case measure => simp [intOf]; omega
        · have hjq : j = q10 := by omega
          have htk : ms10.take j = ms10 := List.take_of_length_le (by rw [L10.out.1, hjq]; exact Nat.le_refl _)
          rw [htk] at ho
          obtain ⟨a14, ha⟩ : ∃ a, a13 ++ ms10.flatten = a := ⟨_, rfl⟩
          have H14 := Lib.hid (show Ob wr base _ a14 ∧ Fr base w wr ∧ Bk wr w.heap.size 48 CS from ⟨by rw [← ha]; first | exact ho | simpa only [List.append_assoc] using ho, hf, hkb⟩)
          have E14 := Lib.hid (show a14 ++ (lowL q11 4 ++ (ms11.flatten ++ (numL n12_0 ++ (numL n12_1_0 ++ (numL n12_1_1 ++ (numL n12_2_0 ++ (numL n12_2_1 ++ (numL n12_3 ++ (numL n13_0 ++ (numL n13_1_0 ++ (numL n13_1_1 ++ (lowL q13_2 4 ++ (ms13_2.flatten ++ (lowL q13_3 4 ++ (ms13_3.flatten ++ (lowL q13_4 4 ++ (ms13_4.flatten ++ (numL n14_0_0 ++ (numL n14_0_1 ++ (boolL t14_1 ++ (numL n14_2 ++ (textL s14_3.data.toList ++ (numL n14_4 ++ (numL n14_5 ++ (textL s15_0.data.toList ++ (numL n15_1_0 ++ (numL n15_1_1 ++ (dataL d15_2 ++ (numL n16_0 ++ (textL s16_1.data.toList ++ (dataL d16_2 ++ (numL n16_3_0 ++ (numL n16_3_1 ++ (lowL q17 4 ++ (ms17.flatten ++ (lowL q18 4 ++ (ms18.flatten ++ numL n19))))))))))))))))))))))))))))))))))))) = l ++ ((numL n0 ++ ((numL n1_0 ++ numL n1_1) ++ ((numL n2_0 ++ numL n2_1) ++ (numL n3 ++ (numL n4 ++ ((numL n5_0 ++ numL n5_1) ++ (numL n6 ++ (numL n7 ++ (numL n8 ++ ((lowL q9 4 ++ ms9.flatten) ++ ((lowL q10 4 ++ ms10.flatten) ++ ((lowL q11 4 ++ ms11.flatten) ++ ((numL n12_0 ++ ((numL n12_1_0 ++ numL n12_1_1) ++ ((numL n12_2_0 ++ numL n12_2_1) ++ numL n12_3))) ++ ((numL n13_0 ++ ((numL n13_1_0 ++ numL n13_1_1) ++ ((lowL q13_2 4 ++ ms13_2.flatten) ++ ((lowL q13_3 4 ++ ms13_3.flatten) ++ (lowL q13_4 4 ++ ms13_4.flatten))))) ++ (((numL n14_0_0 ++ numL n14_0_1) ++ (boolL t14_1 ++ (numL n14_2 ++ (textL s14_3.data.toList ++ (numL n14_4 ++ numL n14_5))))) ++ ((textL s15_0.data.toList ++ ((numL n15_1_0 ++ numL n15_1_1) ++ dataL d15_2)) ++ ((numL n16_0 ++ (textL s16_1.data.toList ++ (dataL d16_2 ++ (numL n16_3_0 ++ numL n16_3_1)))) ++ ((lowL q17 4 ++ ms17.flatten) ++ ((lowL q18 4 ++ ms18.flatten) ++ numL n19)))))))))))))))))))) from by rw [← E13.out, ← ha]; simp only [List.append_assoc])
          have HL14 := Lib.hid (show a14.length + (lowL q11 4 ++ (ms11.flatten ++ (numL n12_0 ++ (numL n12_1_0 ++ (numL n12_1_1 ++ (numL n12_2_0 ++ (numL n12_2_1 ++ (numL n12_3 ++ (numL n13_0 ++ (numL n13_1_0 ++ (numL n13_1_1 ++ (lowL q13_2 4 ++ (ms13_2.flatten ++ (lowL q13_3 4 ++ (ms13_3.flatten ++ (lowL q13_4 4 ++ (ms13_4.flatten ++ (numL n14_0_0 ++ (numL n14_0_1 ++ (boolL t14_1 ++ (numL n14_2 ++ (textL s14_3.data.toList ++ (numL n14_4 ++ (numL n14_5 ++ (textL s15_0.data.toList ++ (numL n15_1_0 ++ (numL n15_1_1 ++ (dataL d15_2 ++ (numL n16_0 ++ (textL s16_1.data.toList ++ (dataL d16_2 ++ (numL n16_3_0 ++ (numL n16_3_1 ++ (lowL q17 4 ++ (ms17.flatten ++ (lowL q18 4 ++ (ms18.flatten ++ numL n19))))))))))))))))))))))))))))))))))))).length ≤ 130000000000000 from by have := HL13.out; rw [← ha]; simp only [List.length_append, Nat.add_assoc] at this ⊢; exact this)
          have hb14 := hbr
          clear ha E13 HL13 H13
          obtain ⟨w14, hw14⟩ : ∃ w14, wr = w14 := ⟨_, rfl⟩
          subst hw14
          clear ho hf hkb HR htk
          have fc14 := H14.out.2.2.cell (i := 14) (v := .slice A11 q11 c11) (HCC.out.2.2.2.2.2.2.2.2.2.2.2.2.2.2.1)
          go_wp2_with fail
          refine (rcount_any q11 _ H14.out.1 hb14 (bndI HL14.out)).mono ?_
          rintro e w15 ⟨v15, rfl, ho, hf⟩
          obtain ⟨SA15, SQ15, SC15, rfl⟩ := ho.shape
          obtain ⟨a15, ha⟩ : ∃ a, a14 ++ lowL q11 4 = a := ⟨_, rfl⟩
          have H15 := Lib.hid (show Ob w15 base _ a15 ∧ Fr base w w15 ∧ Bk w15 w.heap.size 48 CS from ⟨by rw [← ha]; first | exact ho | simpa only [List.append_assoc] using ho, H14.out.2.1.trans hf, H14.out.2.2.fr (by decide) hf⟩)
          have E15 := Lib.hid (show a15 ++ (ms11.flatten ++ (numL n12_0 ++ (numL n12_1_0 ++ (numL n12_1_1 ++ (numL n12_2_0 ++ (numL n12_2_1 ++ (numL n12_3 ++ (numL n13_0 ++ (numL n13_1_0 ++ (numL n13_1_1 ++ (lowL q13_2 4 ++ (ms13_2.flatten ++ (lowL q13_3 4 ++ (ms13_3.flatten ++ (lowL q13_4 4 ++ (ms13_4.flatten ++ (numL n14_0_0 ++ (numL n14_0_1 ++ (boolL t14_1 ++ (numL n14_2 ++ (textL s14_3.data.toList ++ (numL n14_4 ++ (numL n14_5 ++ (textL s15_0.data.toList ++ (numL n15_1_0 ++ (numL n15_1_1 ++ (dataL d15_2 ++ (numL n16_0 ++ (textL s16_1.data.toList ++ (dataL d16_2 ++ (numL n16_3_0 ++ (numL n16_3_1 ++ (lowL q17 4 ++ (ms17.flatten ++ (lowL q18 4 ++ (ms18.flatten ++ numL n19)))))))))))))))))))))))))))))))))))) = l ++ ((numL n0 ++ ((numL n1_0 ++ numL n1_1) ++ ((numL n2_0 ++ numL n2_1) ++ (numL n3 ++ (numL n4 ++ ((numL n5_0 ++ numL n5_1) ++ (numL n6 ++ (numL n7 ++ (numL n8 ++ ((lowL q9 4 ++ ms9.flatten) ++ ((lowL q10 4 ++ ms10.flatten) ++ ((lowL q11 4 ++ ms11.flatten) ++ ((numL n12_0 ++ ((numL n12_1_0 ++ numL n12_1_1) ++ ((numL n12_2_0 ++ numL n12_2_1) ++ numL n12_3))) ++ ((numL n13_0 ++ ((numL n13_1_0 ++ numL n13_1_1) ++ ((lowL q13_2 4 ++ ms13_2.flatten) ++ ((lowL q13_3 4 ++ ms13_3.flatten) ++ (lowL q13_4 4 ++ ms13_4.flatten))))) ++ (((numL n14_0_0 ++ numL n14_0_1) ++ (boolL t14_1 ++ (numL n14_2 ++ (textL s14_3.data.toList ++ (numL n14_4 ++ numL n14_5))))) ++ ((textL s15_0.data.toList ++ ((numL n15_1_0 ++ numL n15_1_1) ++ dataL d15_2)) ++ ((numL n16_0 ++ (textL s16_1.data.toList ++ (dataL d16_2 ++ (numL n16_3_0 ++ numL n16_3_1)))) ++ ((lowL q17 4 ++ ms17.flatten) ++ ((lowL q18 4 ++ ms18.flatten) ++ numL n19)))))))))))))))))))) from by rw [← E14.out, ← ha]; simp only [List.append_assoc])
          have HL15 := Lib.hid (show a15.length + (ms11.flatten ++ (numL n12_0 ++ (numL n12_1_0 ++ (numL n12_1_1 ++ (numL n12_2_0 ++ (numL n12_2_1 ++ (numL n12_3 ++ (numL n13_0 ++ (numL n13_1_0 ++ (numL n13_1_1 ++ (lowL q13_2 4 ++ (ms13_2.flatten ++ (lowL q13_3 4 ++ (ms13_3.flatten ++ (lowL q13_4 4 ++ (ms13_4.flatten ++ (numL n14_0_0 ++ (numL n14_0_1 ++ (boolL t14_1 ++ (numL n14_2 ++ (textL s14_3.data.toList ++ (numL n14_4 ++ (numL n14_5 ++ (textL s15_0.data.toList ++ (numL n15_1_0 ++ (numL n15_1_1 ++ (dataL d15_2 ++ (numL n16_0 ++ (textL s16_1.data.toList ++ (dataL d16_2 ++ (numL n16_3_0 ++ (numL n16_3_1 ++ (lowL q17 4 ++ (ms17.flatten ++ (lowL q18 4 ++ (ms18.flatten ++ numL n19)))))))))))))))))))))))))))))))))))).length ≤ 130000000000000 from by have := HL14.out; rw [← ha]; simp only [List.length_append, Nat.add_assoc] at this ⊢; exact this)
          have hb15 : base ≤ w15.heap.size := Nat.le_trans hb14 hf.size
          clear ha E14 HL14 H14
          clear ho hf fc14
          have fc14 := H15.out.2.2.cell (i := 14) (v := .slice A11 q11 c11) (HCC.out.2.2.2.2.2.2.2.2.2.2.2.2.2.2.1)
          go_wp2_with fail
          clear fc14
          go_loopw [0, 91] (fun b i wr => ∃ j : Nat, j ≤ q11 ∧ i = .int .i64 (j : Int) ∧ Ob wr base b (a15 ++ (ms11.take j).flatten) ∧ Fr base w wr ∧ Bk wr w.heap.size 48 CS) (fun _ i _ => q11 - (intOf i).toNat)
          case atStart => exact ⟨0, Nat.zero_le _, rfl, by simpa using H15.out.1, H15.out.2.1, H15.out.2.2⟩
          case round =>
            obtain ⟨j, hj, rfl, ho, hf, hkb⟩ := hrel
            obtain ⟨SA16, SQ16, SC16, rfl⟩ := ho.shape
            have HR := Lib.hid (And.intro ho (And.intro hf hkb))
            have hbr : base ≤ wr.heap.size := Nat.le_trans hb hf.size
            by_cases hlt : j < q11
            · obtain ⟨b', o', rfl, hb', hits⟩ := L11.out.2 (by omega)
              have it0 : At wr base (.pair .num (.pair .num (.pair .num (.pair (.pair .num (.pair .num (.pair .num .num))) (.pair .num (.pair .num (.pair (.list .num) (.list .num)))))))) b' (o' + j * Sch.sz (.pair .num (.pair .num (.pair .num (.pair (.pair .num (.pair .num (.pair .num .num))) (.pair .num (.pair .num (.pair (.list .num) (.list .num))))))))) (ms11.getD j []) := At.frs ⟨hb', hits j hlt⟩ hf hb
              have it : At wr base (.pair .num (.pair .num (.pair .num (.pair (.pair .num (.pair .num (.pair .num .num))) (.pair .num (.pair .num (.pair (.list .num) (.list .num)))))))) b' (o' + j * 11) (ms11.getD j []) := by simpa [Sch.sz] using it0
              have hle2 := flat_take_le ms11 j (by rw [L11.out.1]; exact hlt)
              have hft := flat_take ms11 j (by rw [L11.out.1]; exact hlt)
              clear it0 hits ho hf hkb
              obtain ⟨mm, hmm⟩ : ∃ mm, ms11.getD j [] = mm := ⟨_, rfl⟩
              rw [hmm] at it hle2 hft
              clear hmm
              obtain ⟨mx11_0, rx11_0, ax11_0, zx11_0, rfl⟩ := it.fst
              replace ax11_0 : At wr base .num b' (o' + j * 11) _ := ax11_0
              obtain ⟨nx11_0, kx11_0, rfl⟩ := ax11_0.num
              obtain ⟨mx11_1, rx11_1, ax11_1, zx11_1, rfl⟩ := zx11_0.fst
              replace ax11_1 : At wr base .num b' (o' + j * 11 + 1) _ := ax11_1
              obtain ⟨nx11_1, kx11_1, rfl⟩ := ax11_1.num
              obtain ⟨mx11_2, rx11_2, ax11_2, zx11_2, rfl⟩ := zx11_1.fst
              replace ax11_2 : At wr base .num b' (o' + j * 11 + 2) _ := ax11_2
              obtain ⟨nx11_2, kx11_2, rfl⟩ := ax11_2.num
              obtain ⟨mx11_3, rx11_3, ax11_3, zx11_3, rfl⟩ := zx11_2.fst
              replace ax11_3 : At wr base (.pair .num (.pair .num (.pair .num .num))) b' (o' + j * 11 + 3) _ := ax11_3
              obtain ⟨mx11_3_0, rx11_3_0, ax11_3_0, zx11_3_0, rfl⟩ := ax11_3.fst
              replace ax11_3_0 : At wr base .num b' (o' + j * 11 + 3) _ := ax11_3_0
              obtain ⟨nx11_3_0, kx11_3_0, rfl⟩ := ax11_3_0.num
              obtain ⟨mx11_3_1, rx11_3_1, ax11_3_1, zx11_3_1, rfl⟩ := zx11_3_0.fst
              replace ax11_3_1 : At wr base .num b' (o' + j * 11 + 3 + 1) _ := ax11_3_1
              obtain ⟨nx11_3_1, kx11_3_1, rfl⟩ := ax11_3_1.num
              obtain ⟨mx11_3_2, rx11_3_2, ax11_3_2, zx11_3_2, rfl⟩ := zx11_3_1.fst
              replace ax11_3_2 : At wr base .num b' (o' + j * 11 + 3 + 2) _ := ax11_3_2
              obtain ⟨nx11_3_2, kx11_3_2, rfl⟩ := ax11_3_2.num
              have ax11_3_3 := zx11_3_2
              replace ax11_3_3 : At wr base .num b' (o' + j * 11 + 3 + 3) _ := ax11_3_3
              obtain ⟨nx11_3_3, kx11_3_3, rfl⟩ := ax11_3_3.num
              have ax11_4 := zx11_3
              replace ax11_4 : At wr base (.pair .num (.pair .num (.pair (.list .num) (.list .num)))) b' (o' + j * 11 + 7) _ := ax11_4
              obtain ⟨mx11_4_0, rx11_4_0, ax11_4_0, zx11_4_0, rfl⟩ := ax11_4.fst
              replace ax11_4_0 : At wr base .num b' (o' + j * 11 + 7) _ := ax11_4_0
              obtain ⟨nx11_4_0, kx11_4_0, rfl⟩ := ax11_4_0.num
              obtain ⟨mx11_4_1, rx11_4_1, ax11_4_1, zx11_4_1, rfl⟩ := zx11_4_0.fst
              replace ax11_4_1 : At wr base .num b' (o' + j * 11 + 7 + 1) _ := ax11_4_1
              obtain ⟨nx11_4_1, kx11_4_1, rfl⟩ := ax11_4_1.num
              obtain ⟨mx11_4_2, rx11_4_2, ax11_4_2, zx11_4_2, rfl⟩ := zx11_4_1.fst
              replace ax11_4_2 : At wr base (.list .num) b' (o' + j * 11 + 7 + 2) _ := ax11_4_2
              obtain ⟨Ax11_4_2, qx11_4_2, cx11_4_2, dx11_4_2, kx11_4_2, hx11_4_2, rfl⟩ := ax11_4_2.lst
              have ax11_4_3 := zx11_4_2
              replace ax11_4_3 : At wr base (.list .num) b' (o' + j * 11 + 7 + 3) _ := ax11_4_3
              obtain ⟨Ax11_4_3, qx11_4_3, cx11_4_3, dx11_4_3, kx11_4_3, hx11_4_3, rfl⟩ := ax11_4_3.lst
              have HF := Lib.hid (And.intro hft hle2)
              have hj0 : (0 : Int) ≤ (j : Int) := by omega
              have hj1 : (j : Int) < (q11 : Int) := by omega
              clear hft hle2
              have Hx11_4_2 := Lib.hid hx11_4_2
              clear hx11_4_2
              have Hx11_4_3 := Lib.hid hx11_4_3
              clear hx11_4_3
              clear it ax11_0 zx11_0 ax11_1 zx11_1 ax11_2 zx11_2 ax11_3 zx11_3 ax11_3_0 zx11_3_0 ax11_3_1 zx11_3_1 ax11_3_2 zx11_3_2 ax11_3_3 ax11_4 ax11_4_0 zx11_4_0 ax11_4_1 zx11_4_1 ax11_4_2 zx11_4_2 ax11_4_3
              go_wp2_with fail
              refine (putChange_r nx11_0 nx11_1 nx11_2 nx11_3_0 nx11_3_1 nx11_3_2 nx11_3_3 nx11_4_0 nx11_4_1 Ax11_4_2 qx11_4_2 cx11_4_2 _ Ax11_4_3 qx11_4_3 cx11_4_3 _ _ (by first | exact HR.out.1 | exact HR.out.1.alloc _) (by first | exact hbr | (simp; omega)) (by first | exact Hx11_4_2.out | exact Hx11_4_2.out.abs ((Ab.refl _).alloc _) hbr) (by first | exact Hx11_4_3.out | exact Hx11_4_3.out.abs ((Ab.refl _).alloc _) hbr) (bndL HL15.out HF.out.2)).mono ?_
              rintro e w9 ⟨v9, rfl, ho9, hf9⟩
              have H9 := Lib.hid (And.intro ho9 (show Fr base wr w9 from by first | exact hf9 | exact ((Fr.refl base wr).alloc _).trans hf9))
              clear ho9 hf9
              go_wp2_with fail
              go_roundw
              case rel => exact ⟨j + 1, by omega, by go_num, by rw [HF.out.1]; first | exact H9.out.1 | simpa only [List.append_assoc] using H9.out.1, HR.out.2.1.trans H9.out.2, HR.out.2.2.fr (by decide) H9.out.2⟩
              case measure => simp [intOf]; omega
            · have hjq : j = q11 := by omega
              have htk : ms11.take j = ms11 := List.take_of_length_le (by rw [L11.out.1, hjq]; exact Nat.le_refl _)
              rw [htk] at ho
              obtain ⟨a16, ha⟩ : ∃ a, a15 ++ ms11.flatten = a := ⟨_, rfl⟩
              have H16 := Lib.hid (show Ob wr base _ a16 ∧ Fr base w wr ∧ Bk wr w.heap.size 48 CS from ⟨by rw [← ha]; first | exact ho | simpa only [List.append_assoc] using ho, hf, hkb⟩)
              have E16 := Lib.hid (show a16 ++ (numL n12_0 ++ (numL n12_1_0 ++ (numL n12_1_1 ++ (numL n12_2_0 ++ (numL n12_2_1 ++ (numL n12_3 ++ (numL n13_0 ++ (numL n13_1_0 ++ (numL n13_1_1 ++ (lowL q13_2 4 ++ (ms13_2.flatten ++ (lowL q13_3 4 ++ (ms13_3.flatten ++ (lowL q13_4 4 ++ (ms13_4.flatten ++ (numL n14_0_0 ++ (numL n14_0_1 ++ (boolL t14_1 ++ (numL n14_2 ++ (textL s14_3.data.toList ++ (numL n14_4 ++ (numL n14_5 ++ (textL s15_0.data.toList ++ (numL n15_1_0 ++ (numL n15_1_1 ++ (dataL d15_2 ++ (numL n16_0 ++ (textL s16_1.data.toList ++ (dataL d16_2 ++ (numL n16_3_0 ++ (numL n16_3_1 ++ (lowL q17 4 ++ (ms17.flatten ++ (lowL q18 4 ++ (ms18.flatten ++ numL n19))))))))))))))))))))))))))))))))))) = l ++ ((numL n0 ++ ((numL n1_0 ++ numL n1_1) ++ ((numL n2_0 ++ numL n2_1) ++ (numL n3 ++ (numL n4 ++ ((numL n5_0 ++ numL n5_1) ++ (numL n6 ++ (numL n7 ++ (numL n8 ++ ((lowL q9 4 ++ ms9.flatten) ++ ((lowL q10 4 ++ ms10.flatten) ++ ((lowL q11 4 ++ ms11.flatten) ++ ((numL n12_0 ++ ((numL n12_1_0 ++ numL n12_1_1) ++ ((numL n12_2_0 ++ numL n12_2_1) ++ numL n12_3))) ++ ((numL n13_0 ++ ((numL n13_1_0 ++ numL n13_1_1) ++ ((lowL q13_2 4 ++ ms13_2.flatten) ++ ((lowL q13_3 4 ++ ms13_3.flatten) ++ (lowL q13_4 4 ++ ms13_4.flatten))))) ++ (((numL n14_0_0 ++ numL n14_0_1) ++ (boolL t14_1 ++ (numL n14_2 ++ (textL s14_3.data.toList ++ (numL n14_4 ++ numL n14_5))))) ++ ((textL s15_0.data.toList ++ ((numL n15_1_0 ++ numL n15_1_1) ++ dataL d15_2)) ++ ((numL n16_0 ++ (textL s16_1.data.toList ++ (dataL d16_2 ++ (numL n16_3_0 ++ numL n16_3_1)))) ++ ((lowL q17 4 ++ ms17.flatten) ++ ((lowL q18 4 ++ ms18.flatten) ++ numL n19)))))))))))))))))))) from by rw [← E15.out, ← ha]; simp only [List.append_assoc])
              have HL16 := Lib.hid (show a16.length + (numL n12_0 ++ (numL n12_1_0 ++ (numL n12_1_1 ++ (numL n12_2_0 ++ (numL n12_2_1 ++ (numL n12_3 ++ (numL n13_0 ++ (numL n13_1_0 ++ (numL n13_1_1 ++ (lowL q13_2 4 ++ (ms13_2.flatten ++ (lowL q13_3 4 ++ (ms13_3.flatten ++ (lowL q13_4 4 ++ (ms13_4.flatten ++ (numL n14_0_0 ++ (numL n14_0_1 ++ (boolL t14_1 ++ (numL n14_2 ++ (textL s14_3.data.toList ++ (numL n14_4 ++ (numL n14_5 ++ (textL s15_0.data.toList ++ (numL n15_1_0 ++ (numL n15_1_1 ++ (dataL d15_2 ++ (numL n16_0 ++ (textL s16_1.data.toList ++ (dataL d16_2 ++ (numL n16_3_0 ++ (numL n16_3_1 ++ (lowL q17 4 ++ (ms17.flatten ++ (lowL q18 4 ++ (ms18.flatten ++ numL n19))))))))))))))))))))))))))))))))))).length ≤ 130000000000000 from by have := HL15.out; rw [← ha]; simp only [List.length_append, Nat.add_assoc] at this ⊢; exact this)
              have hb16 := hbr
              clear ha E15 HL15 H15
              obtain ⟨w16, hw16⟩ : ∃ w16, wr = w16 := ⟨_, rfl⟩
              subst hw16
              clear ho hf hkb HR htk
              have fc15 := H16.out.2.2.cell (i := 15) (v := .int .i64 n12_0) (HCC.out.2.2.2.2.2.2.2.2.2.2.2.2.2.2.2.1)
              have fc16 := H16.out.2.2.cell (i := 16) (v := .int .i64 n12_1_0) (HCC.out.2.2.2.2.2.2.2.2.2.2.2.2.2.2.2.2.1)
              have fc17 := H16.out.2.2.cell (i := 17) (v := .int .i64 n12_1_1) (HCC.out.2.2.2.2.2.2.2.2.2.2.2.2.2.2.2.2.2.1)
              have fc18 := H16.out.2.2.cell (i := 18) (v := .int .i64 n12_2_0) (HCC.out.2.2.2.2.2.2.2.2.2.2.2.2.2.2.2.2.2.2.1)
              have fc19 := H16.out.2.2.cell (i := 19) (v := .int .i64 n12_2_1) (HCC.out.2.2.2.2.2.2.2.2.2.2.2.2.2.2.2.2.2.2.2.1)
              have fc20 := H16.out.2.2.cell (i := 20) (v := .int .i64 n12_3) (HCC.out.2.2.2.2.2.2.2.2.2.2.2.2.2.2.2.2.2.2.2.2.1)
              go_wp2_with fail
              refine (putInfo_r n12_0 n12_1_0 n12_1_1 n12_2_0 n12_2_1 n12_3 _ H16.out.1 hb16 (bndC (R2 := (numL n13_0 ++ (numL n13_1_0 ++ (numL n13_1_1 ++ (lowL q13_2 4 ++ (ms13_2.flatten ++ (lowL q13_3 4 ++ (ms13_3.flatten ++ (lowL q13_4 4 ++ (ms13_4.flatten ++ (numL n14_0_0 ++ (numL n14_0_1 ++ (boolL t14_1 ++ (numL n14_2 ++ (textL s14_3.data.toList ++ (numL n14_4 ++ (numL n14_5 ++ (textL s15_0.data.toList ++ (numL n15_1_0 ++ (numL n15_1_1 ++ (dataL d15_2 ++ (numL n16_0 ++ (textL s16_1.data.toList ++ (dataL d16_2 ++ (numL n16_3_0 ++ (numL n16_3_1 ++ (lowL q17 4 ++ (ms17.flatten ++ (lowL q18 4 ++ (ms18.flatten ++ numL n19)))))))))))))))))))))))))))))) HL16.out (by simp only [List.append_assoc]))).mono ?_
              rintro e w17 ⟨v17, rfl, ho, hf⟩
              obtain ⟨SA17, SQ17, SC17, rfl⟩ := ho.shape
              obtain ⟨a17, ha⟩ : ∃ a, a16 ++ (numL n12_0 ++ ((numL n12_1_0 ++ numL n12_1_1) ++ ((numL n12_2_0 ++ numL n12_2_1) ++ numL n12_3))) = a := ⟨_, rfl⟩
              have H17 := Lib.hid (show Ob w17 base _ a17 ∧ Fr base w w17 ∧ Bk w17 w.heap.size 48 CS from ⟨by rw [← ha]; first | exact ho | simpa only [List.append_assoc] using ho, H16.out.2.1.trans hf, H16.out.2.2.fr (by decide) hf⟩)
              have E17 := Lib.hid (show a17 ++ (numL n13_0 ++ (numL n13_1_0 ++ (numL n13_1_1 ++ (lowL q13_2 4 ++ (ms13_2.flatten ++ (lowL q13_3 4 ++ (ms13_3.flatten ++ (lowL q13_4 4 ++ (ms13_4.flatten ++ (numL n14_0_0 ++ (numL n14_0_1 ++ (boolL t14_1 ++ (numL n14_2 ++ (textL s14_3.data.toList ++ (numL n14_4 ++ (numL n14_5 ++ (textL s15_0.data.toList ++ (numL n15_1_0 ++ (numL n15_1_1 ++ (dataL d15_2 ++ (numL n16_0 ++ (textL s16_1.data.toList ++ (dataL d16_2 ++ (numL n16_3_0 ++ (numL n16_3_1 ++ (lowL q17 4 ++ (ms17.flatten ++ (lowL q18 4 ++ (ms18.flatten ++ numL n19))))))))))))))))))))))))))))) = l ++ ((numL n0 ++ ((numL n1_0 ++ numL n1_1) ++ ((numL n2_0 ++ numL n2_1) ++ (numL n3 ++ (numL n4 ++ ((numL n5_0 ++ numL n5_1) ++ (numL n6 ++ (numL n7 ++ (numL n8 ++ ((lowL q9 4 ++ ms9.flatten) ++ ((lowL q10 4 ++ ms10.flatten) ++ ((lowL q11 4 ++ ms11.flatten) ++ ((numL n12_0 ++ ((numL n12_1_0 ++ numL n12_1_1) ++ ((numL n12_2_0 ++ numL n12_2_1) ++ numL n12_3))) ++ ((numL n13_0 ++ ((numL n13_1_0 ++ numL n13_1_1) ++ ((lowL q13_2 4 ++ ms13_2.flatten) ++ ((lowL q13_3 4 ++ ms13_3.flatten) ++ (lowL q13_4 4 ++ ms13_4.flatten))))) ++ (((numL n14_0_0 ++ numL n14_0_1) ++ (boolL t14_1 ++ (numL n14_2 ++ (textL s14_3.data.toList ++ (numL n14_4 ++ numL n14_5))))) ++ ((textL s15_0.data.toList ++ ((numL n15_1_0 ++ numL n15_1_1) ++ dataL d15_2)) ++ ((numL n16_0 ++ (textL s16_1.data.toList ++ (dataL d16_2 ++ (numL n16_3_0 ++ numL n16_3_1)))) ++ ((lowL q17 4 ++ ms17.flatten) ++ ((lowL q18 4 ++ ms18.flatten) ++ numL n19)))))))))))))))))))) from by rw [← E16.out, ← ha]; simp only [List.append_assoc])
              have HL17 := Lib.hid (show a17.length + (numL n13_0 ++ (numL n13_1_0 ++ (numL n13_1_1 ++ (lowL q13_2 4 ++ (ms13_2.flatten ++ (lowL q13_3 4 ++ (ms13_3.flatten ++ (lowL q13_4 4 ++ (ms13_4.flatten ++ (numL n14_0_0 ++ (numL n14_0_1 ++ (boolL t14_1 ++ (numL n14_2 ++ (textL s14_3.data.toList ++ (numL n14_4 ++ (numL n14_5 ++ (textL s15_0.data.toList ++ (numL n15_1_0 ++ (numL n15_1_1 ++ (dataL d15_2 ++ (numL n16_0 ++ (textL s16_1.data.toList ++ (dataL d16_2 ++ (numL n16_3_0 ++ (numL n16_3_1 ++ (lowL q17 4 ++ (ms17.flatten ++ (lowL q18 4 ++ (ms18.flatten ++ numL n19))))))))))))))))))))))))))))).length ≤ 130000000000000 from by have := HL16.out; rw [← ha]; simp only [List.length_append, Nat.add_assoc] at this ⊢; exact this)
              have hb17 : base ≤ w17.heap.size := Nat.le_trans hb16 hf.size
              clear ha E16 HL16 H16
              clear ho hf fc15 fc16 fc17 fc18 fc19 fc20
              have fc21 := H17.out.2.2.cell (i := 21) (v := .int .i64 n13_0) (HCC.out.2.2.2.2.2.2.2.2.2.2.2.2.2.2.2.2.2.2.2.2.2.1)
              have fc22 := H17.out.2.2.cell (i := 22) (v := .int .i64 n13_1_0) (HCC.out.2.2.2.2.2.2.2.2.2.2.2.2.2.2.2.2.2.2.2.2.2.2.1)
              have fc23 := H17.out.2.2.cell (i := 23) (v := .int .i64 n13_1_1) (HCC.out.2.2.2.2.2.2.2.2.2.2.2.2.2.2.2.2.2.2.2.2.2.2.2.1)
              have fc24 := H17.out.2.2.cell (i := 24) (v := .slice A13_2 q13_2 c13_2) (HCC.out.2.2.2.2.2.2.2.2.2.2.2.2.2.2.2.2.2.2.2.2.2.2.2.2.1)
              have fc25 := H17.out.2.2.cell (i := 25) (v := .slice A13_3 q13_3 c13_3) (HCC.out.2.2.2.2.2.2.2.2.2.2.2.2.2.2.2.2.2.2.2.2.2.2.2.2.2.1)
              have fc26 := H17.out.2.2.cell (i := 26) (v := .slice A13_4 q13_4 c13_4) (HCC.out.2.2.2.2.2.2.2.2.2.2.2.2.2.2.2.2.2.2.2.2.2.2.2.2.2.2.1)
              go_wp2_with fail
              refine (putState_r n13_0 n13_1_0 n13_1_1 A13_2 q13_2 c13_2 _ A13_3 q13_3 c13_3 _ A13_4 q13_4 c13_4 _ _ H17.out.1 hb17 (encF_list L13_2.out g13_2 i13_2 H17.out.2.1 hb) (encF_list L13_3.out g13_3 i13_3 H17.out.2.1 hb) (encF_list L13_4.out g13_4 i13_4 H17.out.2.1 hb) (bndC (R2 := (numL n14_0_0 ++ (numL n14_0_1 ++ (boolL t14_1 ++ (numL n14_2 ++ (textL s14_3.data.toList ++ (numL n14_4 ++ (numL n14_5 ++ (textL s15_0.data.toList ++ (numL n15_1_0 ++ (numL n15_1_1 ++ (dataL d15_2 ++ (numL n16_0 ++ (textL s16_1.data.toList ++ (dataL d16_2 ++ (numL n16_3_0 ++ (numL n16_3_1 ++ (lowL q17 4 ++ (ms17.flatten ++ (lowL q18 4 ++ (ms18.flatten ++ numL n19))))))))))))))))))))) HL17.out (by simp only [List.append_assoc]))).mono ?_
              rintro e w18 ⟨v18, rfl, ho, hf⟩
              obtain ⟨SA18, SQ18, SC18, rfl⟩ := ho.shape
              obtain ⟨a18, ha⟩ : ∃ a, a17 ++ (numL n13_0 ++ ((numL n13_1_0 ++ numL n13_1_1) ++ ((lowL q13_2 4 ++ ms13_2.flatten) ++ ((lowL q13_3 4 ++ ms13_3.flatten) ++ (lowL q13_4 4 ++ ms13_4.flatten))))) = a := ⟨_, rfl⟩
              have H18 := Lib.hid (show Ob w18 base _ a18 ∧ Fr base w w18 ∧ Bk w18 w.heap.size 48 CS from ⟨by rw [← ha]; first | exact ho | simpa only [List.append_assoc] using ho, H17.out.2.1.trans hf, H17.out.2.2.fr (by decide) hf⟩)
              have E18 := Lib.hid (show a18 ++ (numL n14_0_0 ++ (numL n14_0_1 ++ (boolL t14_1 ++ (numL n14_2 ++ (textL s14_3.data.toList ++ (numL n14_4 ++ (numL n14_5 ++ (textL s15_0.data.toList ++ (numL n15_1_0 ++ (numL n15_1_1 ++ (dataL d15_2 ++ (numL n16_0 ++ (textL s16_1.data.toList ++ (dataL d16_2 ++ (numL n16_3_0 ++ (numL n16_3_1 ++ (lowL q17 4 ++ (ms17.flatten ++ (lowL q18 4 ++ (ms18.flatten ++ numL n19)))))))))))))))))))) = l ++ ((numL n0 ++ ((numL n1_0 ++ numL n1_1) ++ ((numL n2_0 ++ numL n2_1) ++ (numL n3 ++ (numL n4 ++ ((numL n5_0 ++ numL n5_1) ++ (numL n6 ++ (numL n7 ++ (numL n8 ++ ((lowL q9 4 ++ ms9.flatten) ++ ((lowL q10 4 ++ ms10.flatten) ++ ((lowL q11 4 ++ ms11.flatten) ++ ((numL n12_0 ++ ((numL n12_1_0 ++ numL n12_1_1) ++ ((numL n12_2_0 ++ numL n12_2_1) ++ numL n12_3))) ++ ((numL n13_0 ++ ((numL n13_1_0 ++ numL n13_1_1) ++ ((lowL q13_2 4 ++ ms13_2.flatten) ++ ((lowL q13_3 4 ++ ms13_3.flatten) ++ (lowL q13_4 4 ++ ms13_4.flatten))))) ++ (((numL n14_0_0 ++ numL n14_0_1) ++ (boolL t14_1 ++ (numL n14_2 ++ (textL s14_3.data.toList ++ (numL n14_4 ++ numL n14_5))))) ++ ((textL s15_0.data.toList ++ ((numL n15_1_0 ++ numL n15_1_1) ++ dataL d15_2)) ++ ((numL n16_0 ++ (textL s16_1.data.toList ++ (dataL d16_2 ++ (numL n16_3_0 ++ numL n16_3_1)))) ++ ((lowL q17 4 ++ ms17.flatten) ++ ((lowL q18 4 ++ ms18.flatten) ++ numL n19)))))))))))))))))))) from by rw [← E17.out, ← ha]; simp only [List.append_assoc])
              have HL18 := Lib.hid (show a18.length + (numL n14_0_0 ++ (numL n14_0_1 ++ (boolL t14_1 ++ (numL n14_2 ++ (textL s14_3.data.toList ++ (numL n14_4 ++ (numL n14_5 ++ (textL s15_0.data.toList ++ (numL n15_1_0 ++ (numL n15_1_1 ++ (dataL d15_2 ++ (numL n16_0 ++ (textL s16_1.data.toList ++ (dataL d16_2 ++ (numL n16_3_0 ++ (numL n16_3_1 ++ (lowL q17 4 ++ (ms17.flatten ++ (lowL q18 4 ++ (ms18.flatten ++ numL n19)))))))))))))))))))).length ≤ 130000000000000 from by have := HL17.out; rw [← ha]; simp only [List.length_append, Nat.add_assoc] at this ⊢; exact this)
              have hb18 : base ≤ w18.heap.size := Nat.le_trans hb17 hf.size
              clear ha E17 HL17 H17
              clear ho hf fc21 fc22 fc23 fc24 fc25 fc26
              have fc27 := H18.out.2.2.cell (i := 27) (v := .int .i64 n14_0_0) (HCC.out.2.2.2.2.2.2.2.2.2.2.2.2.2.2.2.2.2.2.2.2.2.2.2.2.2.2.2.1)
              have fc28 := H18.out.2.2.cell (i := 28) (v := .int .i64 n14_0_1) (HCC.out.2.2.2.2.2.2.2.2.2.2.2.2.2.2.2.2.2.2.2.2.2.2.2.2.2.2.2.2.1)
              have fc29 := H18.out.2.2.cell (i := 29) (v := .bool t14_1) (HCC.out.2.2.2.2.2.2.2.2.2.2.2.2.2.2.2.2.2.2.2.2.2.2.2.2.2.2.2.2.2.1)
              have fc30 := H18.out.2.2.cell (i := 30) (v := .int .i64 n14_2) (HCC.out.2.2.2.2.2.2.2.2.2.2.2.2.2.2.2.2.2.2.2.2.2.2.2.2.2.2.2.2.2.2.1)
              have fc31 := H18.out.2.2.cell (i := 31) (v := .string s14_3) (HCC.out.2.2.2.2.2.2.2.2.2.2.2.2.2.2.2.2.2.2.2.2.2.2.2.2.2.2.2.2.2.2.2.1)
              have fc32 := H18.out.2.2.cell (i := 32) (v := .int .i64 n14_4) (HCC.out.2.2.2.2.2.2.2.2.2.2.2.2.2.2.2.2.2.2.2.2.2.2.2.2.2.2.2.2.2.2.2.2.1)
              have fc33 := H18.out.2.2.cell (i := 33) (v := .int .i64 n14_5) (HCC.out.2.2.2.2.2.2.2.2.2.2.2.2.2.2.2.2.2.2.2.2.2.2.2.2.2.2.2.2.2.2.2.2.2.1)
              go_wp2_with fail
              refine (putEntry_r n14_0_0 n14_0_1 t14_1 n14_2 s14_3 n14_4 n14_5 _ H18.out.1 hb18 (bndC (R2 := (textL s15_0.data.toList ++ (numL n15_1_0 ++ (numL n15_1_1 ++ (dataL d15_2 ++ (numL n16_0 ++ (textL s16_1.data.toList ++ (dataL d16_2 ++ (numL n16_3_0 ++ (numL n16_3_1 ++ (lowL q17 4 ++ (ms17.flatten ++ (lowL q18 4 ++ (ms18.flatten ++ numL n19)))))))))))))) HL18.out (by simp only [List.append_assoc]))).mono ?_
              rintro e w19 ⟨v19, rfl, ho, hf⟩
              obtain ⟨SA19, SQ19, SC19, rfl⟩ := ho.shape
              obtain ⟨a19, ha⟩ : ∃ a, a18 ++ ((numL n14_0_0 ++ numL n14_0_1) ++ (boolL t14_1 ++ (numL n14_2 ++ (textL s14_3.data.toList ++ (numL n14_4 ++ numL n14_5))))) = a := ⟨_, rfl⟩
              have H19 := Lib.hid (show Ob w19 base _ a19 ∧ Fr base w w19 ∧ Bk w19 w.heap.size 48 CS from ⟨by rw [← ha]; first | exact ho | simpa only [List.append_assoc] using ho, H18.out.2.1.trans hf, H18.out.2.2.fr (by decide) hf⟩)
              have E19 := Lib.hid (show a19 ++ (textL s15_0.data.toList ++ (numL n15_1_0 ++ (numL n15_1_1 ++ (dataL d15_2 ++ (numL n16_0 ++ (textL s16_1.data.toList ++ (dataL d16_2 ++ (numL n16_3_0 ++ (numL n16_3_1 ++ (lowL q17 4 ++ (ms17.flatten ++ (lowL q18 4 ++ (ms18.flatten ++ numL n19))))))))))))) = l ++ ((numL n0 ++ ((numL n1_0 ++ numL n1_1) ++ ((numL n2_0 ++ numL n2_1) ++ (numL n3 ++ (numL n4 ++ ((numL n5_0 ++ numL n5_1) ++ (numL n6 ++ (numL n7 ++ (numL n8 ++ ((lowL q9 4 ++ ms9.flatten) ++ ((lowL q10 4 ++ ms10.flatten) ++ ((lowL q11 4 ++ ms11.flatten) ++ ((numL n12_0 ++ ((numL n12_1_0 ++ numL n12_1_1) ++ ((numL n12_2_0 ++ numL n12_2_1) ++ numL n12_3))) ++ ((numL n13_0 ++ ((numL n13_1_0 ++ numL n13_1_1) ++ ((lowL q13_2 4 ++ ms13_2.flatten) ++ ((lowL q13_3 4 ++ ms13_3.flatten) ++ (lowL q13_4 4 ++ ms13_4.flatten))))) ++ (((numL n14_0_0 ++ numL n14_0_1) ++ (boolL t14_1 ++ (numL n14_2 ++ (textL s14_3.data.toList ++ (numL n14_4 ++ numL n14_5))))) ++ ((textL s15_0.data.toList ++ ((numL n15_1_0 ++ numL n15_1_1) ++ dataL d15_2)) ++ ((numL n16_0 ++ (textL s16_1.data.toList ++ (dataL d16_2 ++ (numL n16_3_0 ++ numL n16_3_1)))) ++ ((lowL q17 4 ++ ms17.flatten) ++ ((lowL q18 4 ++ ms18.flatten) ++ numL n19)))))))))))))))))))) from by rw [← E18.out, ← ha]; simp only [List.append_assoc])
              have HL19 := Lib.hid (show a19.length + (textL s15_0.data.toList ++ (numL n15_1_0 ++ (numL n15_1_1 ++ (dataL d15_2 ++ (numL n16_0 ++ (textL s16_1.data.toList ++ (dataL d16_2 ++ (numL n16_3_0 ++ (numL n16_3_1 ++ (lowL q17 4 ++ (ms17.flatten ++ (lowL q18 4 ++ (ms18.flatten ++ numL n19))))))))))))).length ≤ 130000000000000 from by have := HL18.out; rw [← ha]; simp only [List.length_append, Nat.add_assoc] at this ⊢; exact this)
              have hb19 : base ≤ w19.heap.size := Nat.le_trans hb18 hf.size
              clear ha E18 HL18 H18
              clear ho hf fc27 fc28 fc29 fc30 fc31 fc32 fc33
              have fc34 := H19.out.2.2.cell (i := 34) (v := .string s15_0) (HCC.out.2.2.2.2.2.2.2.2.2.2.2.2.2.2.2.2.2.2.2.2.2.2.2.2.2.2.2.2.2.2.2.2.2.2.1)
              have fc35 := H19.out.2.2.cell (i := 35) (v := .int .i64 n15_1_0) (HCC.out.2.2.2.2.2.2.2.2.2.2.2.2.2.2.2.2.2.2.2.2.2.2.2.2.2.2.2.2.2.2.2.2.2.2.2.1)
              have fc36 := H19.out.2.2.cell (i := 36) (v := .int .i64 n15_1_1) (HCC.out.2.2.2.2.2.2.2.2.2.2.2.2.2.2.2.2.2.2.2.2.2.2.2.2.2.2.2.2.2.2.2.2.2.2.2.2.1)
              have fc37 := H19.out.2.2.cell (i := 37) (v := .slice A15_2 q15_2 c15_2) (HCC.out.2.2.2.2.2.2.2.2.2.2.2.2.2.2.2.2.2.2.2.2.2.2.2.2.2.2.2.2.2.2.2.2.2.2.2.2.2.1)
              go_wp2_with fail
              refine (putObject_r s15_0 n15_1_0 n15_1_1 A15_2 q15_2 c15_2 d15_2 _ H19.out.1 hb19 (L15_2.out.frs H19.out.2.1 hb) (bndC (R2 := (numL n16_0 ++ (textL s16_1.data.toList ++ (dataL d16_2 ++ (numL n16_3_0 ++ (numL n16_3_1 ++ (lowL q17 4 ++ (ms17.flatten ++ (lowL q18 4 ++ (ms18.flatten ++ numL n19)))))))))) HL19.out (by simp only [List.append_assoc]))).mono ?_
              rintro e w20 ⟨v20, rfl, ho, hf⟩
              obtain ⟨SA20, SQ20, SC20, rfl⟩ := ho.shape
              obtain ⟨a20, ha⟩ : ∃ a, a19 ++ (textL s15_0.data.toList ++ ((numL n15_1_0 ++ numL n15_1_1) ++ dataL d15_2)) = a := ⟨_, rfl⟩
              have H20 := Lib.hid (show Ob w20 base _ a20 ∧ Fr base w w20 ∧ Bk w20 w.heap.size 48 CS from ⟨by rw [← ha]; first | exact ho | simpa only [List.append_assoc] using ho, H19.out.2.1.trans hf, H19.out.2.2.fr (by decide) hf⟩)
              have E20 := Lib.hid (show a20 ++ (numL n16_0 ++ (textL s16_1.data.toList ++ (dataL d16_2 ++ (numL n16_3_0 ++ (numL n16_3_1 ++ (lowL q17 4 ++ (ms17.flatten ++ (lowL q18 4 ++ (ms18.flatten ++ numL n19))))))))) = l ++ ((numL n0 ++ ((numL n1_0 ++ numL n1_1) ++ ((numL n2_0 ++ numL n2_1) ++ (numL n3 ++ (numL n4 ++ ((numL n5_0 ++ numL n5_1) ++ (numL n6 ++ (numL n7 ++ (numL n8 ++ ((lowL q9 4 ++ ms9.flatten) ++ ((lowL q10 4 ++ ms10.flatten) ++ ((lowL q11 4 ++ ms11.flatten) ++ ((numL n12_0 ++ ((numL n12_1_0 ++ numL n12_1_1) ++ ((numL n12_2_0 ++ numL n12_2_1) ++ numL n12_3))) ++ ((numL n13_0 ++ ((numL n13_1_0 ++ numL n13_1_1) ++ ((lowL q13_2 4 ++ ms13_2.flatten) ++ ((lowL q13_3 4 ++ ms13_3.flatten) ++ (lowL q13_4 4 ++ ms13_4.flatten))))) ++ (((numL n14_0_0 ++ numL n14_0_1) ++ (boolL t14_1 ++ (numL n14_2 ++ (textL s14_3.data.toList ++ (numL n14_4 ++ numL n14_5))))) ++ ((textL s15_0.data.toList ++ ((numL n15_1_0 ++ numL n15_1_1) ++ dataL d15_2)) ++ ((numL n16_0 ++ (textL s16_1.data.toList ++ (dataL d16_2 ++ (numL n16_3_0 ++ numL n16_3_1)))) ++ ((lowL q17 4 ++ ms17.flatten) ++ ((lowL q18 4 ++ ms18.flatten) ++ numL n19)))))))))))))))))))) from by rw [← E19.out, ← ha]; simp only [List.append_assoc])
              have HL20 := Lib.hid (show a20.length + (numL n16_0 ++ (textL s16_1.data.toList ++ (dataL d16_2 ++ (numL n16_3_0 ++ (numL n16_3_1 ++ (lowL q17 4 ++ (ms17.flatten ++ (lowL q18 4 ++ (ms18.flatten ++ numL n19))))))))).length ≤ 130000000000000 from by have := HL19.out; rw [← ha]; simp only [List.length_append, Nat.add_assoc] at this ⊢; exact this)
              have hb20 : base ≤ w20.heap.size := Nat.le_trans hb19 hf.size
              clear ha E19 HL19 H19
              clear ho hf fc34 fc35 fc36 fc37
              have fc38 := H20.out.2.2.cell (i := 38) (v := .int .i64 n16_0) (HCC.out.2.2.2.2.2.2.2.2.2.2.2.2.2.2.2.2.2.2.2.2.2.2.2.2.2.2.2.2.2.2.2.2.2.2.2.2.2.2.1)
              have fc39 := H20.out.2.2.cell (i := 39) (v := .string s16_1) (HCC.out.2.2.2.2.2.2.2.2.2.2.2.2.2.2.2.2.2.2.2.2.2.2.2.2.2.2.2.2.2.2.2.2.2.2.2.2.2.2.2.1)
              have fc40 := H20.out.2.2.cell (i := 40) (v := .slice A16_2 q16_2 c16_2) (HCC.out.2.2.2.2.2.2.2.2.2.2.2.2.2.2.2.2.2.2.2.2.2.2.2.2.2.2.2.2.2.2.2.2.2.2.2.2.2.2.2.2.1)
              have fc41 := H20.out.2.2.cell (i := 41) (v := .int .i64 n16_3_0) (HCC.out.2.2.2.2.2.2.2.2.2.2.2.2.2.2.2.2.2.2.2.2.2.2.2.2.2.2.2.2.2.2.2.2.2.2.2.2.2.2.2.2.2.1)
              have fc42 := H20.out.2.2.cell (i := 42) (v := .int .i64 n16_3_1) (HCC.out.2.2.2.2.2.2.2.2.2.2.2.2.2.2.2.2.2.2.2.2.2.2.2.2.2.2.2.2.2.2.2.2.2.2.2.2.2.2.2.2.2.2.1)
              go_wp2_with fail
              refine (putOp_r n16_0 s16_1 A16_2 q16_2 c16_2 d16_2 n16_3_0 n16_3_1 _ H20.out.1 hb20 (L16_2.out.frs H20.out.2.1 hb) (bndC (R2 := (lowL q17 4 ++ (ms17.flatten ++ (lowL q18 4 ++ (ms18.flatten ++ numL n19))))) HL20.out (by simp only [List.append_assoc]))).mono ?_
              rintro e w21 ⟨v21, rfl, ho, hf⟩
              obtain ⟨SA21, SQ21, SC21, rfl⟩ := ho.shape
              obtain ⟨a21, ha⟩ : ∃ a, a20 ++ (numL n16_0 ++ (textL s16_1.data.toList ++ (dataL d16_2 ++ (numL n16_3_0 ++ numL n16_3_1)))) = a := ⟨_, rfl⟩
              have H21 := Lib.hid (show Ob w21 base _ a21 ∧ Fr base w w21 ∧ Bk w21 w.heap.size 48 CS from ⟨by rw [← ha]; first | exact ho | simpa only [List.append_assoc] using ho, H20.out.2.1.trans hf, H20.out.2.2.fr (by decide) hf⟩)
              have E21 := Lib.hid (show a21 ++ (lowL q17 4 ++ (ms17.flatten ++ (lowL q18 4 ++ (ms18.flatten ++ numL n19)))) = l ++ ((numL n0 ++ ((numL n1_0 ++ numL n1_1) ++ ((numL n2_0 ++ numL n2_1) ++ (numL n3 ++ (numL n4 ++ ((numL n5_0 ++ numL n5_1) ++ (numL n6 ++ (numL n7 ++ (numL n8 ++ ((lowL q9 4 ++ ms9.flatten) ++ ((lowL q10 4 ++ ms10.flatten) ++ ((lowL q11 4 ++ ms11.flatten) ++ ((numL n12_0 ++ ((numL n12_1_0 ++ numL n12_1_1) ++ ((numL n12_2_0 ++ numL n12_2_1) ++ numL n12_3))) ++ ((numL n13_0 ++ ((numL n13_1_0 ++ numL n13_1_1) ++ ((lowL q13_2 4 ++ ms13_2.flatten) ++ ((lowL q13_3 4 ++ ms13_3.flatten) ++ (lowL q13_4 4 ++ ms13_4.flatten))))) ++ (((numL n14_0_0 ++ numL n14_0_1) ++ (boolL t14_1 ++ (numL n14_2 ++ (textL s14_3.data.toList ++ (numL n14_4 ++ numL n14_5))))) ++ ((textL s15_0.data.toList ++ ((numL n15_1_0 ++ numL n15_1_1) ++ dataL d15_2)) ++ ((numL n16_0 ++ (textL s16_1.data.toList ++ (dataL d16_2 ++ (numL n16_3_0 ++ numL n16_3_1)))) ++ ((lowL q17 4 ++ ms17.flatten) ++ ((lowL q18 4 ++ ms18.flatten) ++ numL n19)))))))))))))))))))) from by rw [← E20.out, ← ha]; simp only [List.append_assoc])
              have HL21 := Lib.hid (show a21.length + (lowL q17 4 ++ (ms17.flatten ++ (lowL q18 4 ++ (ms18.flatten ++ numL n19)))).length ≤ 130000000000000 from by have := HL20.out; rw [← ha]; simp only [List.length_append, Nat.add_assoc] at this ⊢; exact this)
              have hb21 : base ≤ w21.heap.size := Nat.le_trans hb20 hf.size
              clear ha E20 HL20 H20
              clear ho hf fc38 fc39 fc40 fc41 fc42
              have fc43 := H21.out.2.2.cell (i := 43) (v := .slice A17 q17 c17) (HCC.out.2.2.2.2.2.2.2.2.2.2.2.2.2.2.2.2.2.2.2.2.2.2.2.2.2.2.2.2.2.2.2.2.2.2.2.2.2.2.2.2.2.2.2.1)
              go_wp2_with fail
              refine (rcount_any q17 _ H21.out.1 hb21 (bndI HL21.out)).mono ?_
              rintro e w22 ⟨v22, rfl, ho, hf⟩
              obtain ⟨SA22, SQ22, SC22, rfl⟩ := ho.shape
              obtain ⟨a22, ha⟩ : ∃ a, a21 ++ lowL q17 4 = a := ⟨_, rfl⟩
              have H22 := Lib.hid (show Ob w22 base _ a22 ∧ Fr base w w22 ∧ Bk w22 w.heap.size 48 CS from ⟨by rw [← ha]; first | exact ho | simpa only [List.append_assoc] using ho, H21.out.2.1.trans hf, H21.out.2.2.fr (by decide) hf⟩)
              have E22 := Lib.hid (show a22 ++ (ms17.flatten ++ (lowL q18 4 ++ (ms18.flatten ++ numL n19))) = l ++ ((numL n0 ++ ((numL n1_0 ++ numL n1_1) ++ ((numL n2_0 ++ numL n2_1) ++ (numL n3 ++ (numL n4 ++ ((numL n5_0 ++ numL n5_1) ++ (numL n6 ++ (numL n7 ++ (numL n8 ++ ((lowL q9 4 ++ ms9.flatten) ++ ((lowL q10 4 ++ ms10.flatten) ++ ((lowL q11 4 ++ ms11.flatten) ++ ((numL n12_0 ++ ((numL n12_1_0 ++ numL n12_1_1) ++ ((numL n12_2_0 ++ numL n12_2_1) ++ numL n12_3))) ++ ((numL n13_0 ++ ((numL n13_1_0 ++ numL n13_1_1) ++ ((lowL q13_2 4 ++ ms13_2.flatten) ++ ((lowL q13_3 4 ++ ms13_3.flatten) ++ (lowL q13_4 4 ++ ms13_4.flatten))))) ++ (((numL n14_0_0 ++ numL n14_0_1) ++ (boolL t14_1 ++ (numL n14_2 ++ (textL s14_3.data.toList ++ (numL n14_4 ++ numL n14_5))))) ++ ((textL s15_0.data.toList ++ ((numL n15_1_0 ++ numL n15_1_1) ++ dataL d15_2)) ++ ((numL n16_0 ++ (textL s16_1.data.toList ++ (dataL d16_2 ++ (numL n16_3_0 ++ numL n16_3_1)))) ++ ((lowL q17 4 ++ ms17.flatten) ++ ((lowL q18 4 ++ ms18.flatten) ++ numL n19)))))))))))))))))))) from by rw [← E21.out, ← ha]; simp only [List.append_assoc])
              have HL22 := Lib.hid (show a22.length + (ms17.flatten ++ (lowL q18 4 ++ (ms18.flatten ++ numL n19))).length ≤ 130000000000000 from by have := HL21.out; rw [← ha]; simp only [List.length_append, Nat.add_assoc] at this ⊢; exact this)
              have hb22 : base ≤ w22.heap.size := Nat.le_trans hb21 hf.size
              clear ha E21 HL21 H21
              clear ho hf fc43
              have fc43 := H22.out.2.2.cell (i := 43) (v := .slice A17 q17 c17) (HCC.out.2.2.2.2.2.2.2.2.2.2.2.2.2.2.2.2.2.2.2.2.2.2.2.2.2.2.2.2.2.2.2.2.2.2.2.2.2.2.2.2.2.2.2.1)
              go_wp2_with fail
              clear fc43
              go_loopw [0, 127] (fun b i wr => ∃ j : Nat, j ≤ q17 ∧ i = .int .i64 (j : Int) ∧ Ob wr base b (a22 ++ (ms17.take j).flatten) ∧ Fr base w wr ∧ Bk wr w.heap.size 48 CS) (fun _ i _ => q17 - (intOf i).toNat)
              case atStart => exact ⟨0, Nat.zero_le _, rfl, by simpa using H22.out.1, H22.out.2.1, H22.out.2.2⟩
              case round =>
                obtain ⟨j, hj, rfl, ho, hf, hkb⟩ := hrel
                obtain ⟨SA23, SQ23, SC23, rfl⟩ := ho.shape
                have HR := Lib.hid (And.intro ho (And.intro hf hkb))
                have hbr : base ≤ wr.heap.size := Nat.le_trans hb hf.size
                by_cases hlt : j < q17
                · obtain ⟨b', o', rfl, hb', hits⟩ := L17.out.2 (by omega)
                  have it0 : At wr base (.pair .text (.pair (.pair .num .num) .word)) b' (o' + j * Sch.sz (.pair .text (.pair (.pair .num .num) .word))) (ms17.getD j []) := At.frs ⟨hb', hits j hlt⟩ hf hb
                  have it : At wr base (.pair .text (.pair (.pair .num .num) .word)) b' (o' + j * 4) (ms17.getD j []) := by simpa [Sch.sz] using it0
                  have hle2 := flat_take_le ms17 j (by rw [L17.out.1]; exact hlt)
                  have hft := flat_take ms17 j (by rw [L17.out.1]; exact hlt)
                  clear it0 hits ho hf hkb
                  obtain ⟨mm, hmm⟩ : ∃ mm, ms17.getD j [] = mm := ⟨_, rfl⟩
                  rw [hmm] at it hle2 hft
                  clear hmm
                  obtain ⟨mx17_0, rx17_0, ax17_0, zx17_0, rfl⟩ := it.fst
                  replace ax17_0 : At wr base .text b' (o' + j * 4) _ := ax17_0
                  obtain ⟨sx17_0, kx17_0, rfl⟩ := ax17_0.text
                  obtain ⟨mx17_1, rx17_1, ax17_1, zx17_1, rfl⟩ := zx17_0.fst
                  replace ax17_1 : At wr base (.pair .num .num) b' (o' + j * 4 + 1) _ := ax17_1
                  obtain ⟨mx17_1_0, rx17_1_0, ax17_1_0, zx17_1_0, rfl⟩ := ax17_1.fst
                  replace ax17_1_0 : At wr base .num b' (o' + j * 4 + 1) _ := ax17_1_0
                  obtain ⟨nx17_1_0, kx17_1_0, rfl⟩ := ax17_1_0.num
                  have ax17_1_1 := zx17_1_0
                  replace ax17_1_1 : At wr base .num b' (o' + j * 4 + 1 + 1) _ := ax17_1_1
                  obtain ⟨nx17_1_1, kx17_1_1, rfl⟩ := ax17_1_1.num
                  have ax17_2 := zx17_1
                  replace ax17_2 : At wr base .word b' (o' + j * 4 + 3) _ := ax17_2
                  obtain ⟨nx17_2, hx17_2, kx17_2, rfl⟩ := ax17_2.word
                  have HF := Lib.hid (And.intro hft hle2)
                  have hj0 : (0 : Int) ≤ (j : Int) := by omega
                  have hj1 : (j : Int) < (q17 : Int) := by omega
                  clear hft hle2
                  have Hx17_2 := Lib.hid hx17_2
                  clear hx17_2
                  clear it ax17_0 zx17_0 ax17_1 zx17_1 ax17_1_0 zx17_1_0 ax17_1_1 ax17_2
                  go_wp2_with fail
                  refine (putItem_r sx17_0 nx17_1_0 nx17_1_1 nx17_2 _ (by first | exact HR.out.1 | exact HR.out.1.alloc _) (by first | exact hbr | (simp; omega)) Hx17_2.out (bndL HL22.out HF.out.2)).mono ?_
                  rintro e w9 ⟨v9, rfl, ho9, hf9⟩
                  have H9 := Lib.hid (And.intro ho9 (show Fr base wr w9 from by first | exact hf9 | exact ((Fr.refl base wr).alloc _).trans hf9))
                  clear ho9 hf9
                  go_wp2_with fail
                  go_roundw
                  case rel => exact ⟨j + 1, by omega, by go_num, by rw [HF.out.1]; first | exact H9.out.1 | simpa only [List.append_assoc] using H9.out.1, HR.out.2.1.trans H9.out.2, HR.out.2.2.fr (by decide) H9.out.2⟩
                  case measure => simp [intOf]; omega
                · have hjq : j = q17 := by omega
                  have htk : ms17.take j = ms17 := List.take_of_length_le (by rw [L17.out.1, hjq]; exact Nat.le_refl _)
                  rw [htk] at ho
                  obtain ⟨a23, ha⟩ : ∃ a, a22 ++ ms17.flatten = a := ⟨_, rfl⟩
                  have H23 := Lib.hid (show Ob wr base _ a23 ∧ Fr base w wr ∧ Bk wr w.heap.size 48 CS from ⟨by rw [← ha]; first | exact ho | simpa only [List.append_assoc] using ho, hf, hkb⟩)
                  have E23 := Lib.hid (show a23 ++ (lowL q18 4 ++ (ms18.flatten ++ numL n19)) = l ++ ((numL n0 ++ ((numL n1_0 ++ numL n1_1) ++ ((numL n2_0 ++ numL n2_1) ++ (numL n3 ++ (numL n4 ++ ((numL n5_0 ++ numL n5_1) ++ (numL n6 ++ (numL n7 ++ (numL n8 ++ ((lowL q9 4 ++ ms9.flatten) ++ ((lowL q10 4 ++ ms10.flatten) ++ ((lowL q11 4 ++ ms11.flatten) ++ ((numL n12_0 ++ ((numL n12_1_0 ++ numL n12_1_1) ++ ((numL n12_2_0 ++ numL n12_2_1) ++ numL n12_3))) ++ ((numL n13_0 ++ ((numL n13_1_0 ++ numL n13_1_1) ++ ((lowL q13_2 4 ++ ms13_2.flatten) ++ ((lowL q13_3 4 ++ ms13_3.flatten) ++ (lowL q13_4 4 ++ ms13_4.flatten))))) ++ (((numL n14_0_0 ++ numL n14_0_1) ++ (boolL t14_1 ++ (numL n14_2 ++ (textL s14_3.data.toList ++ (numL n14_4 ++ numL n14_5))))) ++ ((textL s15_0.data.toList ++ ((numL n15_1_0 ++ numL n15_1_1) ++ dataL d15_2)) ++ ((numL n16_0 ++ (textL s16_1.data.toList ++ (dataL d16_2 ++ (numL n16_3_0 ++ numL n16_3_1)))) ++ ((lowL q17 4 ++ ms17.flatten) ++ ((lowL q18 4 ++ ms18.flatten) ++ numL n19)))))))))))))))))))) from by rw [← E22.out, ← ha]; simp only [List.append_assoc])
                  have HL23 := Lib.hid (show a23.length + (lowL q18 4 ++ (ms18.flatten ++ numL n19)).length ≤ 130000000000000 from by have := HL22.out; rw [← ha]; simp only [List.length_append, Nat.add_assoc] at this ⊢; exact this)
                  have hb23 := hbr
                  clear ha E22 HL22 H22
                  obtain ⟨w23, hw23⟩ : ∃ w23, wr = w23 := ⟨_, rfl⟩
                  subst hw23
                  clear ho hf hkb HR htk
                  have fc44 := H23.out.2.2.cell (i := 44) (v := .slice A18 q18 c18) (HCC.out.2.2.2.2.2.2.2.2.2.2.2.2.2.2.2.2.2.2.2.2.2.2.2.2.2.2.2.2.2.2.2.2.2.2.2.2.2.2.2.2.2.2.2.2.1)
                  go_wp2_with fail
                  refine (rcount_any q18 _ H23.out.1 hb23 (bndI HL23.out)).mono ?_
                  rintro e w24 ⟨v24, rfl, ho, hf⟩
                  obtain ⟨SA24, SQ24, SC24, rfl⟩ := ho.shape
                  obtain ⟨a24, ha⟩ : ∃ a, a23 ++ lowL q18 4 = a := ⟨_, rfl⟩
                  have H24 := Lib.hid (show Ob w24 base _ a24 ∧ Fr base w w24 ∧ Bk w24 w.heap.size 48 CS from ⟨by rw [← ha]; first | exact ho | simpa only [List.append_assoc] using ho, H23.out.2.1.trans hf, H23.out.2.2.fr (by decide) hf⟩)
                  have E24 := Lib.hid (show a24 ++ (ms18.flatten ++ numL n19) = l ++ ((numL n0 ++ ((numL n1_0 ++ numL n1_1) ++ ((numL n2_0 ++ numL n2_1) ++ (numL n3 ++ (numL n4 ++ ((numL n5_0 ++ numL n5_1) ++ (numL n6 ++ (numL n7 ++ (numL n8 ++ ((lowL q9 4 ++ ms9.flatten) ++ ((lowL q10 4 ++ ms10.flatten) ++ ((lowL q11 4 ++ ms11.flatten) ++ ((numL n12_0 ++ ((numL n12_1_0 ++ numL n12_1_1) ++ ((numL n12_2_0 ++ numL n12_2_1) ++ numL n12_3))) ++ ((numL n13_0 ++ ((numL n13_1_0 ++ numL n13_1_1) ++ ((lowL q13_2 4 ++ ms13_2.flatten) ++ ((lowL q13_3 4 ++ ms13_3.flatten) ++ (lowL q13_4 4 ++ ms13_4.flatten))))) ++ (((numL n14_0_0 ++ numL n14_0_1) ++ (boolL t14_1 ++ (numL n14_2 ++ (textL s14_3.data.toList ++ (numL n14_4 ++ numL n14_5))))) ++ ((textL s15_0.data.toList ++ ((numL n15_1_0 ++ numL n15_1_1) ++ dataL d15_2)) ++ ((numL n16_0 ++ (textL s16_1.data.toList ++ (dataL d16_2 ++ (numL n16_3_0 ++ numL n16_3_1)))) ++ ((lowL q17 4 ++ ms17.flatten) ++ ((lowL q18 4 ++ ms18.flatten) ++ numL n19)))))))))))))))))))) from by rw [← E23.out, ← ha]; simp only [List.append_assoc])
                  have HL24 := Lib.hid (show a24.length + (ms18.flatten ++ numL n19).length ≤ 130000000000000 from by have := HL23.out; rw [← ha]; simp only [List.length_append, Nat.add_assoc] at this ⊢; exact this)
                  have hb24 : base ≤ w24.heap.size := Nat.le_trans hb23 hf.size
                  clear ha E23 HL23 H23
                  clear ho hf fc44
                  have fc44 := H24.out.2.2.cell (i := 44) (v := .slice A18 q18 c18) (HCC.out.2.2.2.2.2.2.2.2.2.2.2.2.2.2.2.2.2.2.2.2.2.2.2.2.2.2.2.2.2.2.2.2.2.2.2.2.2.2.2.2.2.2.2.2.1)
                  go_wp2_with fail
                  clear fc44
                  go_loopw [0, 143] (fun b i wr => ∃ j : Nat, j ≤ q18 ∧ i = .int .i64 (j : Int) ∧ Ob wr base b (a24 ++ (ms18.take j).flatten) ∧ Fr base w wr ∧ Bk wr w.heap.size 48 CS) (fun _ i _ => q18 - (intOf i).toNat)
                  case atStart => exact ⟨0, Nat.zero_le _, rfl, by simpa using H24.out.1, H24.out.2.1, H24.out.2.2⟩
                  case round =>
                    obtain ⟨j, hj, rfl, ho, hf, hkb⟩ := hrel
                    obtain ⟨SA25, SQ25, SC25, rfl⟩ := ho.shape
                    have HR := Lib.hid (And.intro ho (And.intro hf hkb))
                    have hbr : base ≤ wr.heap.size := Nat.le_trans hb hf.size
                    by_cases hlt : j < q18
                    · obtain ⟨b', o', rfl, hb', hits⟩ := L18.out.2 (by omega)
                      have it0 : At wr base .text b' (o' + j * Sch.sz .text) (ms18.getD j []) := At.frs ⟨hb', hits j hlt⟩ hf hb
                      have it : At wr base .text b' (o' + j) (ms18.getD j []) := by simpa [Sch.sz] using it0
                      have hle2 := flat_take_le ms18 j (by rw [L18.out.1]; exact hlt)
                      have hft := flat_take ms18 j (by rw [L18.out.1]; exact hlt)
                      clear it0 hits ho hf hkb
                      obtain ⟨mm, hmm⟩ : ∃ mm, ms18.getD j [] = mm := ⟨_, rfl⟩
                      rw [hmm] at it hle2 hft
                      clear hmm
                      obtain ⟨sx18_, kx18_, rfl⟩ := it.text
                      have HF := Lib.hid (And.intro hft hle2)
                      have hj0 : (0 : Int) ≤ (j : Int) := by omega
                      have hj1 : (j : Int) < (q18 : Int) := by omega
                      clear hft hle2
                      clear it
                      obtain ⟨Ac, cc, w8, hcv, hbs, hab⟩ := conv_text sx18_ (by have h := bndL HL24.out HF.out.2; rw [textL_length] at h; simp at h; omega) wr
                      have H8 := Lib.hid (And.intro (HR.out.1.ab hab) (Fr.of_ab (base := base) hab))
                      have hb8 : base ≤ w8.heap.size := Nat.le_trans hbr hab.size
                      have HBS := Lib.hid hbs
                      clear hbs hab
                      go_wp2_with fail
                      refine (rbytes_w _ sx18_.data.toList _ _ HBS.out H8.out.1 hb8 (by have h := bndL HL24.out HF.out.2; rw [textL_length] at h; omega)).mono ?_
                      rintro e w9 ⟨v9, rfl, ho9, hf9⟩
                      have H9 := Lib.hid (And.intro ho9 (show Fr base wr w9 from by first | exact hf9 | exact ((Fr.refl base wr).alloc _).trans hf9 | exact H8.out.2.trans hf9))
                      clear ho9 hf9
                      go_wp2_with fail
                      go_roundw
                      case rel => exact ⟨j + 1, by omega, by go_num, by rw [HF.out.1]; first | exact H9.out.1 | simpa only [List.append_assoc] using H9.out.1 | (have hz := H9.out.1; rw [show dataL sx18_.data.toList = textL sx18_.data.toList from rfl] at hz; simpa only [List.append_assoc] using hz), HR.out.2.1.trans H9.out.2, HR.out.2.2.fr (by decide) H9.out.2⟩
                      case measure => simp [intOf]; omega
                    · have hjq : j = q18 := by omega
                      have htk : ms18.take j = ms18 := List.take_of_length_le (by rw [L18.out.1, hjq]; exact Nat.le_refl _)
                      rw [htk] at ho
                      obtain ⟨a25, ha⟩ : ∃ a, a24 ++ ms18.flatten = a := ⟨_, rfl⟩
                      have H25 := Lib.hid (show Ob wr base _ a25 ∧ Fr base w wr ∧ Bk wr w.heap.size 48 CS from ⟨by rw [← ha]; first | exact ho | simpa only [List.append_assoc] using ho, hf, hkb⟩)
                      have E25 := Lib.hid (show a25 ++ numL n19 = l ++ ((numL n0 ++ ((numL n1_0 ++ numL n1_1) ++ ((numL n2_0 ++ numL n2_1) ++ (numL n3 ++ (numL n4 ++ ((numL n5_0 ++ numL n5_1) ++ (numL n6 ++ (numL n7 ++ (numL n8 ++ ((lowL q9 4 ++ ms9.flatten) ++ ((lowL q10 4 ++ ms10.flatten) ++ ((lowL q11 4 ++ ms11.flatten) ++ ((numL n12_0 ++ ((numL n12_1_0 ++ numL n12_1_1) ++ ((numL n12_2_0 ++ numL n12_2_1) ++ numL n12_3))) ++ ((numL n13_0 ++ ((numL n13_1_0 ++ numL n13_1_1) ++ ((lowL q13_2 4 ++ ms13_2.flatten) ++ ((lowL q13_3 4 ++ ms13_3.flatten) ++ (lowL q13_4 4 ++ ms13_4.flatten))))) ++ (((numL n14_0_0 ++ numL n14_0_1) ++ (boolL t14_1 ++ (numL n14_2 ++ (textL s14_3.data.toList ++ (numL n14_4 ++ numL n14_5))))) ++ ((textL s15_0.data.toList ++ ((numL n15_1_0 ++ numL n15_1_1) ++ dataL d15_2)) ++ ((numL n16_0 ++ (textL s16_1.data.toList ++ (dataL d16_2 ++ (numL n16_3_0 ++ numL n16_3_1)))) ++ ((lowL q17 4 ++ ms17.flatten) ++ ((lowL q18 4 ++ ms18.flatten) ++ numL n19)))))))))))))))))))) from by rw [← E24.out, ← ha]; simp only [List.append_assoc])
                      have HL25 := Lib.hid (show a25.length + (numL n19 : List UInt8).length ≤ 130000000000000 from by have := HL24.out; rw [← ha]; simp only [List.length_append, Nat.add_assoc] at this ⊢; exact this)
                      have hb25 := hbr
                      clear ha E24 HL24 H24
                      obtain ⟨w25, hw25⟩ : ∃ w25, wr = w25 := ⟨_, rfl⟩
                      subst hw25
                      clear ho hf hkb HR htk
                      have fc45 := H25.out.2.2.cell (i := 45) (v := .int .i64 n19) (HCC.out.2.2.2.2.2.2.2.2.2.2.2.2.2.2.2.2.2.2.2.2.2.2.2.2.2.2.2.2.2.2.2.2.2.2.2.2.2.2.2.2.2.2.2.2.2)
                      go_wp2_with fail
                      refine (rint_w n19 _ H25.out.1 hb25 (bndI HL25.out)).mono ?_
                      rintro e w26 ⟨v26, rfl, ho, hf⟩
                      obtain ⟨SA26, SQ26, SC26, rfl⟩ := ho.shape
                      obtain ⟨a26, ha⟩ : ∃ a, a25 ++ numL n19 = a := ⟨_, rfl⟩
                      have H26 := Lib.hid (show Ob w26 base _ a26 ∧ Fr base w w26 ∧ Bk w26 w.heap.size 48 CS from ⟨by rw [← ha]; first | exact ho | simpa only [List.append_assoc] using ho, H25.out.2.1.trans hf, H25.out.2.2.fr (by decide) hf⟩)
                      have E26 := Lib.hid (show a26 ++ [] = l ++ ((numL n0 ++ ((numL n1_0 ++ numL n1_1) ++ ((numL n2_0 ++ numL n2_1) ++ (numL n3 ++ (numL n4 ++ ((numL n5_0 ++ numL n5_1) ++ (numL n6 ++ (numL n7 ++ (numL n8 ++ ((lowL q9 4 ++ ms9.flatten) ++ ((lowL q10 4 ++ ms10.flatten) ++ ((lowL q11 4 ++ ms11.flatten) ++ ((numL n12_0 ++ ((numL n12_1_0 ++ numL n12_1_1) ++ ((numL n12_2_0 ++ numL n12_2_1) ++ numL n12_3))) ++ ((numL n13_0 ++ ((numL n13_1_0 ++ numL n13_1_1) ++ ((lowL q13_2 4 ++ ms13_2.flatten) ++ ((lowL q13_3 4 ++ ms13_3.flatten) ++ (lowL q13_4 4 ++ ms13_4.flatten))))) ++ (((numL n14_0_0 ++ numL n14_0_1) ++ (boolL t14_1 ++ (numL n14_2 ++ (textL s14_3.data.toList ++ (numL n14_4 ++ numL n14_5))))) ++ ((textL s15_0.data.toList ++ ((numL n15_1_0 ++ numL n15_1_1) ++ dataL d15_2)) ++ ((numL n16_0 ++ (textL s16_1.data.toList ++ (dataL d16_2 ++ (numL n16_3_0 ++ numL n16_3_1)))) ++ ((lowL q17 4 ++ ms17.flatten) ++ ((lowL q18 4 ++ ms18.flatten) ++ numL n19)))))))))))))))))))) from by rw [← E25.out, ← ha]; simp only [List.append_nil])
                      have HL26 := Lib.hid (show a26.length + ([] : List UInt8).length ≤ 130000000000000 from by have := HL25.out; rw [← ha]; simp only [List.length_append, List.length_nil, Nat.add_zero] at this ⊢; exact this)
                      have hb26 : base ≤ w26.heap.size := Nat.le_trans hb25 hf.size
                      clear ha E25 HL25 H25
                      clear ho hf fc45
                      go_wp2_with fail
                      go_ret
                      exact ⟨.slice SA26 SQ26 SC26, rfl, (by have hz := H26.out.1; have he := E26.out; rw [List.append_nil] at he; rw [← he]; exact hz), H26.out.2.1⟩
end Go.Proofs.YtphbaaaklgiloaaGreat.Dg

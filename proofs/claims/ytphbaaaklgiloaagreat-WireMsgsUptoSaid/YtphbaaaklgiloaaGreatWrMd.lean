/- wire: the reference's Msg: a message's cells stay one row. Made by wip/gen_msg.py. -/
import Derived.Test.YtphbaaaklgiloaaGreatWrMa
import Derived.Test.YtphbaaaklgiloaaGreatWrSn
import Derived.Laws.Rows
namespace Go.Proofs.YtphbaaaklgiloaaGreat.Dg
open Go.RowKit
attribute [local go_sem ↓] Go.wp_at_zero Go.wp_at_succ
variable {v : Value}
theorem enc_one {w : World} {base : Nat} {s : Sch} {f : Nat → Option Value} {m : List UInt8} (u : Value) (h : EncF w base (.list s) f m) (hf : f 0 = some u) : EncF w base (.list s) (fun _ => some u) m :=
  EncF.congr (fun _ _ _ => rfl) _ _ _ _ (fun k hk => by
    have : k = 0 := by simp only [Sch.sz] at hk; omega
    subst this
    exact hf.symm) h
theorem encPM {w : World} {base : Nat} : ∀ (s : Sch) (f : Nat → Option Value) (m : List UInt8), EncF w base s f m → EncP w (fun b => b < base) s f m
  | .num, _, _, h => h
  | .word, _, _, h => h
  | .bool, _, _, h => h
  | .text, _, _, h => h
  | .data, f, m, h => by
    obtain ⟨v, l, h1, ⟨A, c, hv, h2, h3, h4⟩, h5⟩ := h
    refine ⟨v, l, h1, ⟨A, c, hv, h2, h3, fun hn => ?_⟩, h5⟩
    obtain ⟨b, off, hA, hb, hc⟩ := h4 hn
    exact ⟨b, off, hA, hb, hc⟩
  | .pair a b, f, m, h => by
    obtain ⟨m1, m2, h1, h2, h3⟩ := h
    exact ⟨m1, m2, encPM a f m1 h1, encPM b _ m2 h2, h3⟩
  | .list s, f, m, h => by
    obtain ⟨A, n, c, ms, h1, h2, h3, h4, h5, h6⟩ := h
    refine ⟨A, n, c, ms, h1, h2, h3, h4, fun hn => ?_, h6⟩
    obtain ⟨b, o, hA, hb, hi⟩ := h5 hn
    exact ⟨b, o, hA, hb, fun i hin => encPM s _ _ (hi i hin)⟩
theorem leaves_Msg {w : World} {F : Nat → Prop} {cs : Array Value} {m : List UInt8} (hs : cs.size = 46) (h : EncP w F (.pair .num (.pair (.pair .num .num) (.pair (.pair .num .num) (.pair .num (.pair .num (.pair (.pair .num .num) (.pair .num (.pair .num (.pair .num (.pair (.list (.pair .num (.pair .num .data))) (.pair (.list (.pair .num (.list (.pair .num (.pair .num (.pair .num (.pair (.pair .num (.pair .num (.pair .num .num))) (.pair .num (.pair .num (.pair (.list .num) (.list .num))))))))))) (.pair (.list (.pair .num (.pair .num (.pair .num (.pair (.pair .num (.pair .num (.pair .num .num))) (.pair .num (.pair .num (.pair (.list .num) (.list .num))))))))) (.pair (.pair .num (.pair (.pair .num .num) (.pair (.pair .num .num) .num))) (.pair (.pair .num (.pair (.pair .num .num) (.pair (.list (.pair (.pair .num .num) (.pair .bool (.pair .num (.pair .text (.pair .num .num)))))) (.pair (.list (.pair .num (.pair .num (.pair .num (.pair .num .num))))) (.list (.pair .text (.pair (.pair .num .num) .word))))))) (.pair (.pair (.pair .num .num) (.pair .bool (.pair .num (.pair .text (.pair .num .num))))) (.pair (.pair .text (.pair (.pair .num .num) .data)) (.pair (.pair .num (.pair .text (.pair .data (.pair .num .num)))) (.pair (.list (.pair .text (.pair (.pair .num .num) .word))) (.pair (.list .text) .num))))))))))))))))))) (fun k => cs[0 + k]?) m) : ∃ (x0 : Int) (x1 : Int) (x2 : Int) (x3 : Int) (x4 : Int) (x5 : Int) (x6 : Int) (x7 : Int) (x8 : Int) (x9 : Int) (x10 : Int) (x11 : Int) (A12 : Option Addr) (q12 c12 : Nat) (A13 : Option Addr) (q13 c13 : Nat) (A14 : Option Addr) (q14 c14 : Nat) (x15 : Int) (x16 : Int) (x17 : Int) (x18 : Int) (x19 : Int) (x20 : Int) (x21 : Int) (x22 : Int) (x23 : Int) (A24 : Option Addr) (q24 c24 : Nat) (A25 : Option Addr) (q25 c25 : Nat) (A26 : Option Addr) (q26 c26 : Nat) (x27 : Int) (x28 : Int) (x29 : Bool) (x30 : Int) (x31 : ByteArray) (x32 : Int) (x33 : Int) (x34 : ByteArray) (x35 : Int) (x36 : Int) (A37 : Option Addr) (q37 c37 : Nat) (x38 : Int) (x39 : ByteArray) (A40 : Option Addr) (q40 c40 : Nat) (x41 : Int) (x42 : Int) (A43 : Option Addr) (q43 c43 : Nat) (A44 : Option Addr) (q44 c44 : Nat) (x45 : Int), cs = #[.int .i64 x0, .int .i64 x1, .int .i64 x2, .int .i64 x3, .int .i64 x4, .int .i64 x5, .int .i64 x6, .int .i64 x7, .int .i64 x8, .int .i64 x9, .int .i64 x10, .int .i64 x11, .slice A12 q12 c12, .slice A13 q13 c13, .slice A14 q14 c14, .int .i64 x15, .int .i64 x16, .int .i64 x17, .int .i64 x18, .int .i64 x19, .int .i64 x20, .int .i64 x21, .int .i64 x22, .int .i64 x23, .slice A24 q24 c24, .slice A25 q25 c25, .slice A26 q26 c26, .int .i64 x27, .int .i64 x28, .bool x29, .int .i64 x30, .string x31, .int .i64 x32, .int .i64 x33, .string x34, .int .i64 x35, .int .i64 x36, .slice A37 q37 c37, .int .i64 x38, .string x39, .slice A40 q40 c40, .int .i64 x41, .int .i64 x42, .slice A43 q43 c43, .slice A44 q44 c44, .int .i64 x45] := by
  obtain ⟨_, _, l1, r1, -⟩ := h
  obtain ⟨x0, e0, -⟩ := l1
  obtain ⟨_, _, l3, r3, -⟩ := r1
  obtain ⟨_, _, l4, r4, -⟩ := l3
  obtain ⟨x1, e1, -⟩ := l4
  obtain ⟨x2, e2, -⟩ := r4
  obtain ⟨_, _, l7, r7, -⟩ := r3
  obtain ⟨_, _, l8, r8, -⟩ := l7
  obtain ⟨x3, e3, -⟩ := l8
  obtain ⟨x4, e4, -⟩ := r8
  obtain ⟨_, _, l11, r11, -⟩ := r7
  obtain ⟨x5, e5, -⟩ := l11
  obtain ⟨_, _, l13, r13, -⟩ := r11
  obtain ⟨x6, e6, -⟩ := l13
  obtain ⟨_, _, l15, r15, -⟩ := r13
  obtain ⟨_, _, l16, r16, -⟩ := l15
  obtain ⟨x7, e7, -⟩ := l16
  obtain ⟨x8, e8, -⟩ := r16
  obtain ⟨_, _, l19, r19, -⟩ := r15
  obtain ⟨x9, e9, -⟩ := l19
  obtain ⟨_, _, l21, r21, -⟩ := r19
  obtain ⟨x10, e10, -⟩ := l21
  obtain ⟨_, _, l23, r23, -⟩ := r21
  obtain ⟨x11, e11, -⟩ := l23
  obtain ⟨_, _, l25, r25, -⟩ := r23
  obtain ⟨A12, q12, c12, _, e12, -⟩ := l25
  obtain ⟨_, _, l27, r27, -⟩ := r25
  obtain ⟨A13, q13, c13, _, e13, -⟩ := l27
  obtain ⟨_, _, l29, r29, -⟩ := r27
  obtain ⟨A14, q14, c14, _, e14, -⟩ := l29
  obtain ⟨_, _, l31, r31, -⟩ := r29
  obtain ⟨_, _, l32, r32, -⟩ := l31
  obtain ⟨x15, e15, -⟩ := l32
  obtain ⟨_, _, l34, r34, -⟩ := r32
  obtain ⟨_, _, l35, r35, -⟩ := l34
  obtain ⟨x16, e16, -⟩ := l35
  obtain ⟨x17, e17, -⟩ := r35
  obtain ⟨_, _, l38, r38, -⟩ := r34
  obtain ⟨_, _, l39, r39, -⟩ := l38
  obtain ⟨x18, e18, -⟩ := l39
  obtain ⟨x19, e19, -⟩ := r39
  obtain ⟨x20, e20, -⟩ := r38
  obtain ⟨_, _, l43, r43, -⟩ := r31
  obtain ⟨_, _, l44, r44, -⟩ := l43
  obtain ⟨x21, e21, -⟩ := l44
  obtain ⟨_, _, l46, r46, -⟩ := r44
  obtain ⟨_, _, l47, r47, -⟩ := l46
  obtain ⟨x22, e22, -⟩ := l47
  obtain ⟨x23, e23, -⟩ := r47
  obtain ⟨_, _, l50, r50, -⟩ := r46
  obtain ⟨A24, q24, c24, _, e24, -⟩ := l50
  obtain ⟨_, _, l52, r52, -⟩ := r50
  obtain ⟨A25, q25, c25, _, e25, -⟩ := l52
  obtain ⟨A26, q26, c26, _, e26, -⟩ := r52
  obtain ⟨_, _, l55, r55, -⟩ := r43
  obtain ⟨_, _, l56, r56, -⟩ := l55
  obtain ⟨_, _, l57, r57, -⟩ := l56
  obtain ⟨x27, e27, -⟩ := l57
  obtain ⟨x28, e28, -⟩ := r57
  obtain ⟨_, _, l60, r60, -⟩ := r56
  obtain ⟨x29, e29, -⟩ := l60
  obtain ⟨_, _, l62, r62, -⟩ := r60
  obtain ⟨x30, e30, -⟩ := l62
  obtain ⟨_, _, l64, r64, -⟩ := r62
  obtain ⟨x31, e31, -⟩ := l64
  obtain ⟨_, _, l66, r66, -⟩ := r64
  obtain ⟨x32, e32, -⟩ := l66
  obtain ⟨x33, e33, -⟩ := r66
  obtain ⟨_, _, l69, r69, -⟩ := r55
  obtain ⟨_, _, l70, r70, -⟩ := l69
  obtain ⟨x34, e34, -⟩ := l70
  obtain ⟨_, _, l72, r72, -⟩ := r70
  obtain ⟨_, _, l73, r73, -⟩ := l72
  obtain ⟨x35, e35, -⟩ := l73
  obtain ⟨x36, e36, -⟩ := r73
  obtain ⟨v37, l37_, e37, ⟨A37, c37, rfl, -⟩, -⟩ := r72
  obtain ⟨_, _, l77, r77, -⟩ := r69
  obtain ⟨_, _, l78, r78, -⟩ := l77
  obtain ⟨x38, e38, -⟩ := l78
  obtain ⟨_, _, l80, r80, -⟩ := r78
  obtain ⟨x39, e39, -⟩ := l80
  obtain ⟨_, _, l82, r82, -⟩ := r80
  obtain ⟨v40, l40_, e40, ⟨A40, c40, rfl, -⟩, -⟩ := l82
  obtain ⟨_, _, l84, r84, -⟩ := r82
  obtain ⟨x41, e41, -⟩ := l84
  obtain ⟨x42, e42, -⟩ := r84
  obtain ⟨_, _, l87, r87, -⟩ := r77
  obtain ⟨A43, q43, c43, _, e43, -⟩ := l87
  obtain ⟨_, _, l89, r89, -⟩ := r87
  obtain ⟨A44, q44, c44, _, e44, -⟩ := l89
  obtain ⟨x45, e45, -⟩ := r89
  replace e0 : cs[0]? = some (.int .i64 x0) := by first | exact e0 | simpa using e0
  replace e1 : cs[1]? = some (.int .i64 x1) := by first | exact e1 | simpa using e1
  replace e2 : cs[2]? = some (.int .i64 x2) := by first | exact e2 | simpa using e2
  replace e3 : cs[3]? = some (.int .i64 x3) := by first | exact e3 | simpa using e3
  replace e4 : cs[4]? = some (.int .i64 x4) := by first | exact e4 | simpa using e4
  replace e5 : cs[5]? = some (.int .i64 x5) := by first | exact e5 | simpa using e5
  replace e6 : cs[6]? = some (.int .i64 x6) := by first | exact e6 | simpa using e6
  replace e7 : cs[7]? = some (.int .i64 x7) := by first | exact e7 | simpa using e7
  replace e8 : cs[8]? = some (.int .i64 x8) := by first | exact e8 | simpa using e8
  replace e9 : cs[9]? = some (.int .i64 x9) := by first | exact e9 | simpa using e9
  replace e10 : cs[10]? = some (.int .i64 x10) := by first | exact e10 | simpa using e10
  replace e11 : cs[11]? = some (.int .i64 x11) := by first | exact e11 | simpa using e11
  replace e12 : cs[12]? = some (.slice A12 q12 c12) := by first | exact e12 | simpa using e12
  replace e13 : cs[13]? = some (.slice A13 q13 c13) := by first | exact e13 | simpa using e13
  replace e14 : cs[14]? = some (.slice A14 q14 c14) := by first | exact e14 | simpa using e14
  replace e15 : cs[15]? = some (.int .i64 x15) := by first | exact e15 | simpa using e15
  replace e16 : cs[16]? = some (.int .i64 x16) := by first | exact e16 | simpa using e16
  replace e17 : cs[17]? = some (.int .i64 x17) := by first | exact e17 | simpa using e17
  replace e18 : cs[18]? = some (.int .i64 x18) := by first | exact e18 | simpa using e18
  replace e19 : cs[19]? = some (.int .i64 x19) := by first | exact e19 | simpa using e19
  replace e20 : cs[20]? = some (.int .i64 x20) := by first | exact e20 | simpa using e20
  replace e21 : cs[21]? = some (.int .i64 x21) := by first | exact e21 | simpa using e21
  replace e22 : cs[22]? = some (.int .i64 x22) := by first | exact e22 | simpa using e22
  replace e23 : cs[23]? = some (.int .i64 x23) := by first | exact e23 | simpa using e23
  replace e24 : cs[24]? = some (.slice A24 q24 c24) := by first | exact e24 | simpa using e24
  replace e25 : cs[25]? = some (.slice A25 q25 c25) := by first | exact e25 | simpa using e25
  replace e26 : cs[26]? = some (.slice A26 q26 c26) := by first | exact e26 | simpa using e26
  replace e27 : cs[27]? = some (.int .i64 x27) := by first | exact e27 | simpa using e27
  replace e28 : cs[28]? = some (.int .i64 x28) := by first | exact e28 | simpa using e28
  replace e29 : cs[29]? = some (.bool x29) := by first | exact e29 | simpa using e29
  replace e30 : cs[30]? = some (.int .i64 x30) := by first | exact e30 | simpa using e30
  replace e31 : cs[31]? = some (.string x31) := by first | exact e31 | simpa using e31
  replace e32 : cs[32]? = some (.int .i64 x32) := by first | exact e32 | simpa using e32
  replace e33 : cs[33]? = some (.int .i64 x33) := by first | exact e33 | simpa using e33
  replace e34 : cs[34]? = some (.string x34) := by first | exact e34 | simpa using e34
  replace e35 : cs[35]? = some (.int .i64 x35) := by first | exact e35 | simpa using e35
  replace e36 : cs[36]? = some (.int .i64 x36) := by first | exact e36 | simpa using e36
  replace e37 : cs[37]? = some (.slice A37 l37_.length c37) := by first | exact e37 | simpa using e37
  replace e38 : cs[38]? = some (.int .i64 x38) := by first | exact e38 | simpa using e38
  replace e39 : cs[39]? = some (.string x39) := by first | exact e39 | simpa using e39
  replace e40 : cs[40]? = some (.slice A40 l40_.length c40) := by first | exact e40 | simpa using e40
  replace e41 : cs[41]? = some (.int .i64 x41) := by first | exact e41 | simpa using e41
  replace e42 : cs[42]? = some (.int .i64 x42) := by first | exact e42 | simpa using e42
  replace e43 : cs[43]? = some (.slice A43 q43 c43) := by first | exact e43 | simpa using e43
  replace e44 : cs[44]? = some (.slice A44 q44 c44) := by first | exact e44 | simpa using e44
  replace e45 : cs[45]? = some (.int .i64 x45) := by first | exact e45 | simpa using e45
  refine ⟨x0, x1, x2, x3, x4, x5, x6, x7, x8, x9, x10, x11, A12, q12, c12, A13, q13, c13, A14, q14, c14, x15, x16, x17, x18, x19, x20, x21, x22, x23, A24, q24, c24, A25, q25, c25, A26, q26, c26, x27, x28, x29, x30, x31, x32, x33, x34, x35, x36, A37, l37_.length, c37, x38, x39, A40, l40_.length, c40, x41, x42, A43, q43, c43, A44, q44, c44, x45, Array.ext (by simp [hs]) (fun i h1 h2 => ?_)⟩
  have hi : i = 0 ∨ i = 1 ∨ i = 2 ∨ i = 3 ∨ i = 4 ∨ i = 5 ∨ i = 6 ∨ i = 7 ∨ i = 8 ∨ i = 9 ∨ i = 10 ∨ i = 11 ∨ i = 12 ∨ i = 13 ∨ i = 14 ∨ i = 15 ∨ i = 16 ∨ i = 17 ∨ i = 18 ∨ i = 19 ∨ i = 20 ∨ i = 21 ∨ i = 22 ∨ i = 23 ∨ i = 24 ∨ i = 25 ∨ i = 26 ∨ i = 27 ∨ i = 28 ∨ i = 29 ∨ i = 30 ∨ i = 31 ∨ i = 32 ∨ i = 33 ∨ i = 34 ∨ i = 35 ∨ i = 36 ∨ i = 37 ∨ i = 38 ∨ i = 39 ∨ i = 40 ∨ i = 41 ∨ i = 42 ∨ i = 43 ∨ i = 44 ∨ i = 45 := by omega
  rcases hi with rfl | rfl | rfl | rfl | rfl | rfl | rfl | rfl | rfl | rfl | rfl | rfl | rfl | rfl | rfl | rfl | rfl | rfl | rfl | rfl | rfl | rfl | rfl | rfl | rfl | rfl | rfl | rfl | rfl | rfl | rfl | rfl | rfl | rfl | rfl | rfl | rfl | rfl | rfl | rfl | rfl | rfl | rfl | rfl | rfl | rfl
  · exact Option.some.inj ((Array.getElem?_eq_getElem h1).symm.trans e0)
  · exact Option.some.inj ((Array.getElem?_eq_getElem h1).symm.trans e1)
  · exact Option.some.inj ((Array.getElem?_eq_getElem h1).symm.trans e2)
  · exact Option.some.inj ((Array.getElem?_eq_getElem h1).symm.trans e3)
  · exact Option.some.inj ((Array.getElem?_eq_getElem h1).symm.trans e4)
  · exact Option.some.inj ((Array.getElem?_eq_getElem h1).symm.trans e5)
  · exact Option.some.inj ((Array.getElem?_eq_getElem h1).symm.trans e6)
  · exact Option.some.inj ((Array.getElem?_eq_getElem h1).symm.trans e7)
  · exact Option.some.inj ((Array.getElem?_eq_getElem h1).symm.trans e8)
  · exact Option.some.inj ((Array.getElem?_eq_getElem h1).symm.trans e9)
  · exact Option.some.inj ((Array.getElem?_eq_getElem h1).symm.trans e10)
  · exact Option.some.inj ((Array.getElem?_eq_getElem h1).symm.trans e11)
  · exact Option.some.inj ((Array.getElem?_eq_getElem h1).symm.trans e12)
  · exact Option.some.inj ((Array.getElem?_eq_getElem h1).symm.trans e13)
  · exact Option.some.inj ((Array.getElem?_eq_getElem h1).symm.trans e14)
  · exact Option.some.inj ((Array.getElem?_eq_getElem h1).symm.trans e15)
  · exact Option.some.inj ((Array.getElem?_eq_getElem h1).symm.trans e16)
  · exact Option.some.inj ((Array.getElem?_eq_getElem h1).symm.trans e17)
  · exact Option.some.inj ((Array.getElem?_eq_getElem h1).symm.trans e18)
  · exact Option.some.inj ((Array.getElem?_eq_getElem h1).symm.trans e19)
  · exact Option.some.inj ((Array.getElem?_eq_getElem h1).symm.trans e20)
  · exact Option.some.inj ((Array.getElem?_eq_getElem h1).symm.trans e21)
  · exact Option.some.inj ((Array.getElem?_eq_getElem h1).symm.trans e22)
  · exact Option.some.inj ((Array.getElem?_eq_getElem h1).symm.trans e23)
  · exact Option.some.inj ((Array.getElem?_eq_getElem h1).symm.trans e24)
  · exact Option.some.inj ((Array.getElem?_eq_getElem h1).symm.trans e25)
  · exact Option.some.inj ((Array.getElem?_eq_getElem h1).symm.trans e26)
  · exact Option.some.inj ((Array.getElem?_eq_getElem h1).symm.trans e27)
  · exact Option.some.inj ((Array.getElem?_eq_getElem h1).symm.trans e28)
  · exact Option.some.inj ((Array.getElem?_eq_getElem h1).symm.trans e29)
  · exact Option.some.inj ((Array.getElem?_eq_getElem h1).symm.trans e30)
  · exact Option.some.inj ((Array.getElem?_eq_getElem h1).symm.trans e31)
  · exact Option.some.inj ((Array.getElem?_eq_getElem h1).symm.trans e32)
  · exact Option.some.inj ((Array.getElem?_eq_getElem h1).symm.trans e33)
  · exact Option.some.inj ((Array.getElem?_eq_getElem h1).symm.trans e34)
  · exact Option.some.inj ((Array.getElem?_eq_getElem h1).symm.trans e35)
  · exact Option.some.inj ((Array.getElem?_eq_getElem h1).symm.trans e36)
  · exact Option.some.inj ((Array.getElem?_eq_getElem h1).symm.trans e37)
  · exact Option.some.inj ((Array.getElem?_eq_getElem h1).symm.trans e38)
  · exact Option.some.inj ((Array.getElem?_eq_getElem h1).symm.trans e39)
  · exact Option.some.inj ((Array.getElem?_eq_getElem h1).symm.trans e40)
  · exact Option.some.inj ((Array.getElem?_eq_getElem h1).symm.trans e41)
  · exact Option.some.inj ((Array.getElem?_eq_getElem h1).symm.trans e42)
  · exact Option.some.inj ((Array.getElem?_eq_getElem h1).symm.trans e43)
  · exact Option.some.inj ((Array.getElem?_eq_getElem h1).symm.trans e44)
  · exact Option.some.inj ((Array.getElem?_eq_getElem h1).symm.trans e45)
set_option maxRecDepth 100000 in
set_option maxHeartbeats 40000000 in
theorem putMsg_rA (cs : Array Value) (hcs : cs.size = 46) (m : List UInt8) (w : World) (base : Nat) (hb : base ≤ w.heap.size) (h : EncF w base sM (fun k => cs[k]?) m) (hl : m.length ≤ 100000000) :
    Calls Tryz.prog 34 #[.slice none 0 0, .agg cs] w fun e w' => ∃ v', e = .returned v' ∧ Ob w' base v' m ∧ Fr base w w' := by
  obtain ⟨M, hMM⟩ : ∃ M, M = m := ⟨m, rfl⟩
  rw [← hMM]
  have h0 : EncP w (fun b => b < base) sM (fun k => cs[0 + k]?) m := EncP.congr (fun b hb => ⟨hb, fun _ => rfl⟩) sM (fun k => cs[k]?) _ _ (fun k _ => by rw [Nat.zero_add]) (encPM _ _ _ h)
  obtain ⟨x0, x1, x2, x3, x4, x5, x6, x7, x8, x9, x10, x11, A12, q12, c12, A13, q13, c13, A14, q14, c14, x15, x16, x17, x18, x19, x20, x21, x22, x23, A24, q24, c24, A25, q25, c25, A26, q26, c26, x27, x28, x29, x30, x31, x32, x33, x34, x35, x36, A37, q37, c37, x38, x39, A40, q40, c40, x41, x42, A43, q43, c43, A44, q44, c44, x45, rfl⟩ := leaves_Msg hcs h0
  clear h0
  obtain ⟨b1, d1, l1, r1, rfl⟩ := h
  obtain ⟨z0, e0, rfl⟩ := l1
  obtain rfl : x0 = z0 := by
    have e : some (Value.int .i64 x0) = some (.int .i64 z0) := e0
    injection e with e
    injection e
  clear e0
  obtain ⟨b2, d2, l2, r2, rfl⟩ := r1
  obtain ⟨b3, d3, l3, r3, rfl⟩ := l2
  obtain ⟨z1, e1, rfl⟩ := l3
  obtain rfl : x1 = z1 := by
    have e : some (Value.int .i64 x1) = some (.int .i64 z1) := e1
    injection e with e
    injection e
  clear e1
  obtain ⟨z2, e2, rfl⟩ := r3
  obtain rfl : x2 = z2 := by
    have e : some (Value.int .i64 x2) = some (.int .i64 z2) := e2
    injection e with e
    injection e
  clear e2
  obtain ⟨b4, d4, l4, r4, rfl⟩ := r2
  obtain ⟨b5, d5, l5, r5, rfl⟩ := l4
  obtain ⟨z3, e3, rfl⟩ := l5
  obtain rfl : x3 = z3 := by
    have e : some (Value.int .i64 x3) = some (.int .i64 z3) := e3
    injection e with e
    injection e
  clear e3
  obtain ⟨z4, e4, rfl⟩ := r5
  obtain rfl : x4 = z4 := by
    have e : some (Value.int .i64 x4) = some (.int .i64 z4) := e4
    injection e with e
    injection e
  clear e4
  obtain ⟨b6, d6, l6, r6, rfl⟩ := r4
  obtain ⟨z5, e5, rfl⟩ := l6
  obtain rfl : x5 = z5 := by
    have e : some (Value.int .i64 x5) = some (.int .i64 z5) := e5
    injection e with e
    injection e
  clear e5
  obtain ⟨b7, d7, l7, r7, rfl⟩ := r6
  obtain ⟨z6, e6, rfl⟩ := l7
  obtain rfl : x6 = z6 := by
    have e : some (Value.int .i64 x6) = some (.int .i64 z6) := e6
    injection e with e
    injection e
  clear e6
  obtain ⟨b8, d8, l8, r8, rfl⟩ := r7
  obtain ⟨b9, d9, l9, r9, rfl⟩ := l8
  obtain ⟨z7, e7, rfl⟩ := l9
  obtain rfl : x7 = z7 := by
    have e : some (Value.int .i64 x7) = some (.int .i64 z7) := e7
    injection e with e
    injection e
  clear e7
  obtain ⟨z8, e8, rfl⟩ := r9
  obtain rfl : x8 = z8 := by
    have e : some (Value.int .i64 x8) = some (.int .i64 z8) := e8
    injection e with e
    injection e
  clear e8
  obtain ⟨b10, d10, l10, r10, rfl⟩ := r8
  obtain ⟨z9, e9, rfl⟩ := l10
  obtain rfl : x9 = z9 := by
    have e : some (Value.int .i64 x9) = some (.int .i64 z9) := e9
    injection e with e
    injection e
  clear e9
  obtain ⟨b11, d11, l11, r11, rfl⟩ := r10
  obtain ⟨z10, e10, rfl⟩ := l11
  obtain rfl : x10 = z10 := by
    have e : some (Value.int .i64 x10) = some (.int .i64 z10) := e10
    injection e with e
    injection e
  clear e10
  obtain ⟨b12, d12, l12, r12, rfl⟩ := r11
  obtain ⟨z11, e11, rfl⟩ := l12
  obtain rfl : x11 = z11 := by
    have e : some (Value.int .i64 x11) = some (.int .i64 z11) := e11
    injection e with e
    injection e
  clear e11
  obtain ⟨b13, d13, l13, r13, rfl⟩ := r12
  replace l13 := enc_one (.slice A12 q12 c12) l13 rfl
  obtain ⟨b14, d14, l14, r14, rfl⟩ := r13
  replace l14 := enc_one (.slice A13 q13 c13) l14 rfl
  obtain ⟨b15, d15, l15, r15, rfl⟩ := r14
  replace l15 := enc_one (.slice A14 q14 c14) l15 rfl
  obtain ⟨b16, d16, l16, r16, rfl⟩ := r15
  obtain ⟨b17, d17, l17, r17, rfl⟩ := l16
  obtain ⟨z15, e15, rfl⟩ := l17
  obtain rfl : x15 = z15 := by
    have e : some (Value.int .i64 x15) = some (.int .i64 z15) := e15
    injection e with e
    injection e
  clear e15
  obtain ⟨b18, d18, l18, r18, rfl⟩ := r17
  obtain ⟨b19, d19, l19, r19, rfl⟩ := l18
  obtain ⟨z16, e16, rfl⟩ := l19
  obtain rfl : x16 = z16 := by
    have e : some (Value.int .i64 x16) = some (.int .i64 z16) := e16
    injection e with e
    injection e
  clear e16
  obtain ⟨z17, e17, rfl⟩ := r19
  obtain rfl : x17 = z17 := by
    have e : some (Value.int .i64 x17) = some (.int .i64 z17) := e17
    injection e with e
    injection e
  clear e17
  obtain ⟨b20, d20, l20, r20, rfl⟩ := r18
  obtain ⟨b21, d21, l21, r21, rfl⟩ := l20
  obtain ⟨z18, e18, rfl⟩ := l21
  obtain rfl : x18 = z18 := by
    have e : some (Value.int .i64 x18) = some (.int .i64 z18) := e18
    injection e with e
    injection e
  clear e18
  obtain ⟨z19, e19, rfl⟩ := r21
  obtain rfl : x19 = z19 := by
    have e : some (Value.int .i64 x19) = some (.int .i64 z19) := e19
    injection e with e
    injection e
  clear e19
  obtain ⟨z20, e20, rfl⟩ := r20
  obtain rfl : x20 = z20 := by
    have e : some (Value.int .i64 x20) = some (.int .i64 z20) := e20
    injection e with e
    injection e
  clear e20
  obtain ⟨b22, d22, l22, r22, rfl⟩ := r16
  obtain ⟨b23, d23, l23, r23, rfl⟩ := l22
  obtain ⟨z21, e21, rfl⟩ := l23
  obtain rfl : x21 = z21 := by
    have e : some (Value.int .i64 x21) = some (.int .i64 z21) := e21
    injection e with e
    injection e
  clear e21
  obtain ⟨b24, d24, l24, r24, rfl⟩ := r23
  obtain ⟨b25, d25, l25, r25, rfl⟩ := l24
  obtain ⟨z22, e22, rfl⟩ := l25
  obtain rfl : x22 = z22 := by
    have e : some (Value.int .i64 x22) = some (.int .i64 z22) := e22
    injection e with e
    injection e
  clear e22
  obtain ⟨z23, e23, rfl⟩ := r25
  obtain rfl : x23 = z23 := by
    have e : some (Value.int .i64 x23) = some (.int .i64 z23) := e23
    injection e with e
    injection e
  clear e23
  obtain ⟨b26, d26, l26, r26, rfl⟩ := r24
  replace l26 := enc_one (.slice A24 q24 c24) l26 rfl
  obtain ⟨b27, d27, l27, r27, rfl⟩ := r26
  replace l27 := enc_one (.slice A25 q25 c25) l27 rfl
  replace r27 := enc_one (.slice A26 q26 c26) r27 rfl
  obtain ⟨b28, d28, l28, r28, rfl⟩ := r22
  obtain ⟨b29, d29, l29, r29, rfl⟩ := l28
  obtain ⟨b30, d30, l30, r30, rfl⟩ := l29
  obtain ⟨z27, e27, rfl⟩ := l30
  obtain rfl : x27 = z27 := by
    have e : some (Value.int .i64 x27) = some (.int .i64 z27) := e27
    injection e with e
    injection e
  clear e27
  obtain ⟨z28, e28, rfl⟩ := r30
  obtain rfl : x28 = z28 := by
    have e : some (Value.int .i64 x28) = some (.int .i64 z28) := e28
    injection e with e
    injection e
  clear e28
  obtain ⟨b31, d31, l31, r31, rfl⟩ := r29
  obtain ⟨z29, e29, rfl⟩ := l31
  obtain rfl : x29 = z29 := by
    have e : some (Value.bool x29) = some (.bool z29) := e29
    injection e with e
    injection e
  clear e29
  obtain ⟨b32, d32, l32, r32, rfl⟩ := r31
  obtain ⟨z30, e30, rfl⟩ := l32
  obtain rfl : x30 = z30 := by
    have e : some (Value.int .i64 x30) = some (.int .i64 z30) := e30
    injection e with e
    injection e
  clear e30
  obtain ⟨b33, d33, l33, r33, rfl⟩ := r32
  obtain ⟨z31, e31, rfl⟩ := l33
  obtain rfl : x31 = z31 := by
    have e : some (Value.string x31) = some (.string z31) := e31
    injection e with e
    injection e
  clear e31
  obtain ⟨b34, d34, l34, r34, rfl⟩ := r33
  obtain ⟨z32, e32, rfl⟩ := l34
  obtain rfl : x32 = z32 := by
    have e : some (Value.int .i64 x32) = some (.int .i64 z32) := e32
    injection e with e
    injection e
  clear e32
  obtain ⟨z33, e33, rfl⟩ := r34
  obtain rfl : x33 = z33 := by
    have e : some (Value.int .i64 x33) = some (.int .i64 z33) := e33
    injection e with e
    injection e
  clear e33
  obtain ⟨b35, d35, l35, r35, rfl⟩ := r28
  obtain ⟨b36, d36, l36, r36, rfl⟩ := l35
  obtain ⟨z34, e34, rfl⟩ := l36
  obtain rfl : x34 = z34 := by
    have e : some (Value.string x34) = some (.string z34) := e34
    injection e with e
    injection e
  clear e34
  obtain ⟨b37, d37, l37, r37, rfl⟩ := r36
  obtain ⟨b38, d38, l38, r38, rfl⟩ := l37
  obtain ⟨z35, e35, rfl⟩ := l38
  obtain rfl : x35 = z35 := by
    have e : some (Value.int .i64 x35) = some (.int .i64 z35) := e35
    injection e with e
    injection e
  clear e35
  obtain ⟨z36, e36, rfl⟩ := r38
  obtain rfl : x36 = z36 := by
    have e : some (Value.int .i64 x36) = some (.int .i64 z36) := e36
    injection e with e
    injection e
  clear e36
  obtain ⟨z37, y37, e37, r37, rfl⟩ := r37
  obtain rfl : Value.slice A37 q37 c37 = z37 := by
    have e : some (Value.slice A37 q37 c37) = some z37 := e37
    injection e
  clear e37
  obtain ⟨b39, d39, l39, r39, rfl⟩ := r35
  obtain ⟨b40, d40, l40, r40, rfl⟩ := l39
  obtain ⟨z38, e38, rfl⟩ := l40
  obtain rfl : x38 = z38 := by
    have e : some (Value.int .i64 x38) = some (.int .i64 z38) := e38
    injection e with e
    injection e
  clear e38
  obtain ⟨b41, d41, l41, r41, rfl⟩ := r40
  obtain ⟨z39, e39, rfl⟩ := l41
  obtain rfl : x39 = z39 := by
    have e : some (Value.string x39) = some (.string z39) := e39
    injection e with e
    injection e
  clear e39
  obtain ⟨b42, d42, l42, r42, rfl⟩ := r41
  obtain ⟨z40, y40, e40, l42, rfl⟩ := l42
  obtain rfl : Value.slice A40 q40 c40 = z40 := by
    have e : some (Value.slice A40 q40 c40) = some z40 := e40
    injection e
  clear e40
  obtain ⟨b43, d43, l43, r43, rfl⟩ := r42
  obtain ⟨z41, e41, rfl⟩ := l43
  obtain rfl : x41 = z41 := by
    have e : some (Value.int .i64 x41) = some (.int .i64 z41) := e41
    injection e with e
    injection e
  clear e41
  obtain ⟨z42, e42, rfl⟩ := r43
  obtain rfl : x42 = z42 := by
    have e : some (Value.int .i64 x42) = some (.int .i64 z42) := e42
    injection e with e
    injection e
  clear e42
  obtain ⟨b44, d44, l44, r44, rfl⟩ := r39
  replace l44 := enc_one (.slice A43 q43 c43) l44 rfl
  obtain ⟨b45, d45, l45, r45, rfl⟩ := r44
  replace l45 := enc_one (.slice A44 q44 c44) l45 rfl
  obtain ⟨z45, e45, rfl⟩ := r45
  obtain rfl : x45 = z45 := by
    have e : some (Value.int .i64 x45) = some (.int .i64 z45) := e45
    injection e with e
    injection e
  clear e45
  refine (putMsg_r (base := base) (v := .slice none 0 0) (l := []) x0 x1 x2 x3 x4 x5 x6 x7 x8 x9 x10 x11 A12 q12 c12 b13 A13 q13 c13 b14 A14 q14 c14 b15 x15 x16 x17 x18 x19 x20 x21 x22 x23 A24 q24 c24 b26 A25 q25 c25 b27 A26 q26 c26 d27 x27 x28 x29 x30 x31 x32 x33 x34 x35 x36 A37 q37 c37 y37 x38 x39 A40 q40 c40 y40 x41 x42 A43 q43 c43 b44 A44 q44 c44 b45 x45 w (Ob.nil _ _) hb l13 l14 l15 l26 l27 r27 r37 l42 l44 l45 (by simp only [List.length_append, List.length_nil, List.length_cons, boolL_length] at hl ⊢; omega)).mono ?_
  rintro e w2 ⟨v2, rfl, ho2, hf2⟩
  exact ⟨v2, rfl, by rw [List.nil_append] at ho2; rw [hMM]; exact ho2, hf2⟩
set_option maxRecDepth 100000 in
set_option maxHeartbeats 4000000 in
theorem ref_MsgA (cs : Array Value) (hcs : cs.size = 46) (m : List UInt8) (w : World) (h : EncF w w.heap.size sM (fun k => cs[k]?) m) (hl : m.length ≤ 100000000) :
    Calls Tryz.prog 6 #[.agg cs] w fun e w' => ∃ v', e = .returned v' ∧ Ob w' w.heap.size v' m ∧ Ab w w' := by
  have ha1 : Ab w (w.alloc (.cells cs 48)) := (Ab.refl w).alloc _
  have HA := Lib.hid (And.intro (h.ab ha1 (Nat.le_refl _)) ha1)
  have HK := Lib.hid (And.intro (Bk.made w 48 cs) (show (Tryz.prog.info? 48).map (·.size) = some cs.size by rw [hcs]; kernel_rfl))
  clear h ha1
  go_enter Tryz.func6, Tryz.ntmps6
  go_wp2_with (refine wpList_load_row rfl 48 _ rfl w.heap.size rfl 48 cs (0, 0) _ HK.out.1 Tryz.underlying48 rfl HK.out.2 ?_)
  refine (putMsg_rA cs hcs m _ w.heap.size HA.out.2.size HA.out.1 hl).mono ?_
  rintro e w2 ⟨v2, rfl, ho2, hf2⟩
  have hab := hf2.ab HA.out.2 (Nat.le_refl _)
  have H2 := Lib.hid (And.intro ho2 hab)
  clear ho2 hf2 hab
  go_wp2_with fail
  go_ret
  exact ⟨v2, rfl, H2.out.1, H2.out.2⟩
end Go.Proofs.YtphbaaaklgiloaaGreat.Dg

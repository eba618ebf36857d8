/- The walk through DiskKeeps: one way. -/
import Derived.Test.YtlenbcehahhmcaaKeB
import Derived.Deep.RegionLaw
import Derived.Deep.DrawnRows
import Derived.Deep.RegionHeld3
namespace Go.Proofs.Ytlenbcehahhmcaa.diskKeeps
open Go.RowKit Dg
variable {A0 A1 : Option Addr} {c0 c1 : Nat} {ks ts : List UInt8}
attribute [local go_sem ↓] Go.wp_at_zero Go.wp_at_succ
set_option maxRecDepth 100000 in
set_option maxHeartbeats 1000000 in
theorem walkC2 (W : World) (arm keep : Int) (K T N M E n : Nat) (L : Option Nat) (h0 : Bs W W.heap.size (.slice A0 K c0) ks) (h1 : Bs W W.heap.size (.slice A1 T c1) ts) (hK : ks.length = K) (hT : ts.length = T) (hm : K + T = M) (hm2 : M + 1 = N) (hNN : N ≤ 400000000000000)
    (nn : Nums arm keep K T N M E n) (hk9 : keep ≤ 9223372036854775807) (ha9 : arm ≤ 9223372036854775807) (hA : 0 ≤ arm) (hT2 : arm < (T : Int)) (hk : keep < arm) (hk2 : 0 ≤ keep) (hn0 : keep = (n : Int))
    (hL : L = some (Dst.far K arm)) (hc : Dst.coldL (K + T) L = true) (hto : Dst.crashTo ⟨N, 0, K, ks ++ ts, L⟩ keep = K + n) :
    Calls Try.prog 6 #[.slice A0 K c0, .slice A1 T c1, .agg #[.int .i64 arm, .int .i64 keep]] W (Post W) := by
  obtain ⟨e1, e2, e3, e4, e5, e6⟩ := wraps K T M N hm hm2 hNN
  have eE : (K : Int) + (n : Int) = (E : Int) := by have := nn.ke; omega
  have wE : IntKind.i64.wrap (E : Int) = (E : Int) := IntWalk.i64_in _ (by have := nn.e2; omega)
  have hsl := fun wx => run_slice_head A1 T c1 n (n : Int) rfl (by obtain ⟨_, _, h, h2, _⟩ := h1; injection h with _ h3 h4; have := nn.nT; omega) wx
  have hbt := take_bs h1 n (by have := nn.nT; omega)
  have hml1 : ([] : List UInt8).length + ks.length ≤ 200000000000000 := by simp; have := nn.n2; have := nn.kn; omega
  have hml2 : ([] ++ ks).length + (ts.take n).length ≤ 200000000000000 := by rw [List.length_append, List.length_take]; simp; have := nn.n2; have := nn.ktn; omega
  have HB0 := Lib.hid h0
  have HB1 := Lib.hid h1
  have HBT := Lib.hid hbt
  have HL := Lib.hid (And.intro hK hT)
  have HN := Lib.hid nn
  have HK := Lib.hid (And.intro hk9 ha9)
  have HC := Lib.hid (And.intro hc hto)
  have HM := Lib.hid (And.intro hml1 hml2)
  subst hn0
  clear h0 h1 hK hT hm hm2 hNN nn hk9 ha9 hbt hml1 hml2 hc hto
  subst hL
  go_enter Try.func6, Try.ntmps6
  go_wp2_with fail
  go_quiet (fail)
  go_wp2_with (first
    | (go_at_call 29; (with_reducible refine (k_new _ HN.out.n1 HN.out.n2).mono ?_); rintro e w1 ⟨g, rfl, h1⟩; (have H1 := Lib.hid (St.boxed (((Ab.refl W).alloc _).drewN _) h1)); clear h1)
    | (go_at_call 34; (with_reducible refine (k_app1 H1.out HB0.out HL.out.1 HN.out.n2 HN.out.kn).mono ?_); rintro e w2 ⟨rfl, v2, h2⟩; (have H2 := Lib.hid h2); clear h2)
    | (go_at_call 35; (with_reducible refine (k_sync1 H2.out HL.out.1).mono ?_); rintro e w3 ⟨rfl, h3⟩; (have H30 := Lib.hid h3); clear h3)
    | (go_at_call 36; (with_reducible refine (k_arm H30.out HL.out.1 arm HK.out.2).mono ?_); rintro e w30 ⟨rfl, h30⟩; (have H3 := Lib.hid h30); clear h30)
    | (go_at_call 34; (with_reducible refine (k_app2 H3.out HB1.out HL.out.1 HL.out.2 HN.out.n2 HN.out.ktn).mono ?_); rintro e w4 ⟨rfl, v4, h4⟩; (have H4 := Lib.hid h4); clear h4)
    | (go_at_call 35; (with_reducible refine (k_sync2 H4.out HL.out.1 HL.out.2 HC.out.1).mono ?_); rintro e w5 ⟨rfl, h5⟩; (have H5 := Lib.hid h5); clear h5)
    | (go_at_call 37; (with_reducible refine (k_frozen H5.out HL.out.1 HL.out.2 HC.out.1).mono ?_); rintro e w6 ⟨rfl, h6⟩; (have H6 := Lib.hid h6); clear h6)
    | (go_at_call 38; (refine (k_crash H6.out HL.out.1 (n : Int) HK.out.1 HC.out.2).mono ?_); rintro e w7 ⟨rfl, v7, h7⟩; (have H7 := Lib.hid h7); clear h7)
    | (go_at_call 40; (with_reducible refine (k_end H7.out HL.out.1 HL.out.2 HN.out.nT HN.out.ke).mono ?_); rintro e w8 ⟨rfl, h8, -⟩; (have H8 := Lib.hid h8); clear h8)
    | (go_at_call 39; (with_reducible refine (k_read H8.out HL.out.1 HL.out.2 HN.out.nT HN.out.ke HN.out.e2).mono ?_); rintro e w9 ⟨u, rfl, ho9, h9⟩; (obtain ⟨Au, nu, cu, rfl⟩ : ∃ A n c, u = .slice A n c := by obtain ⟨A, c, h, -, -⟩ := ho9.len_cap; exact ⟨A, _, c, h⟩); (have H9 := Lib.hid h9); (have O9 := Lib.hid ho9); clear h9 ho9))
  go_region_held3 (fun _ => True) (trivial) (first
    | (go_at_call 40; (with_reducible refine (k_end (H9.out.ab (Ab.refl w9).drew) HL.out.1 HL.out.2 HN.out.nT HN.out.ke).mono ?_); rintro e w10 ⟨rfl, h10, ha10⟩; (have H10 := Lib.hid (And.intro h10 (O9.out.ab ((Ab.refl w9).drew.trans ha10)))); clear h10 ha10)
    | (go_at_call 41; (with_reducible refine (k_syn H10.out.1 HN.out.ke).mono ?_); rintro e w11 ⟨rfl, h11, ha11⟩; (have H11 := Lib.hid (And.intro h11 (H10.out.2.ab ha11))); clear h11 ha11)
    | (go_at_call 40; (with_reducible refine (k_end H11.out.1 HL.out.1 HL.out.2 HN.out.nT HN.out.ke).mono ?_); rintro e w12 ⟨rfl, h12, ha12⟩; (have H12 := Lib.hid (And.intro h12 (H11.out.2.ab ha12))); clear h12 ha12)
    | (go_at_call 37; (with_reducible refine (k_fro H12.out.1).mono ?_); rintro e w13 ⟨rfl, h13, ha13⟩; (have H13 := Lib.hid (And.intro h13 (H12.out.2.ab ha13))); clear h13 ha13)
    | (refine step_bytes2 (by rfl) _ _ _ (by rfl) _ _ (by rfl) (by rfl) w13.heap.size [] ks (Ob.made w13 #[] w13.heap.size (Nat.le_refl _) (by simp [maxLen])) (src_bs Try.underlying30 (HB0.out.ab (H13.out.1.2.alloc _) (Nat.le_refl _))) HM.out.1 (by simp) ?_; intro A14 n14 c14 w14 ho14 hg14 hb14; (have H14 := Lib.hid (And.intro ho14 (grown_ab ((Ab.refl w13).alloc _) hg14 (fun k hk => by injection hk with hk; exact Nat.le_of_eq hk)))); clear ho14 hg14 hb14)
    | (refine step_bytes2 (by rfl) _ _ _ (by rfl) _ _ (by rfl) (by rfl) w13.heap.size ([] ++ ks) _ H14.out.1 (src_bs Try.underlying30 (HBT.out.ab (H13.out.1.2.trans H14.out.2) (Nat.le_refl _))) HM.out.2 H14.out.2.size ?_; intro A15 n15 c15 w15 ho15 hg15 hb15; (have H15 := Lib.hid (And.intro ho15 (grown_ab H14.out.2 hg15 (fun k hk => (H14.out.1.blk k hk).1)))); clear ho15 hg15 hb15)
    | (go_at_call 42; (with_reducible refine (k_same (H13.out.2.ab H15.out.2) H15.out.1).mono ?_); rintro e w16 ⟨rfl, rfl⟩)
    | (go_at_call 31; (with_reducible refine (lives_any _).mono ?_); rintro e w17 ⟨rfl, h17⟩; (have H17 := Lib.hid h17); clear h17))
  go_wp2
  go_ret
  exact ⟨rfl, H13.out.1.2.trans (H15.out.2.trans H17.out)⟩
end Go.Proofs.Ytlenbcehahhmcaa.diskKeeps

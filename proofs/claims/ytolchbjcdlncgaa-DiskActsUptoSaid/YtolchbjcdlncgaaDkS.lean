/- The reference's disk in memory: Append, Trim, Cut. -/
import Derived.Test.YtolchbjcdlncgaaDkR
import Derived.Deep.RegionLaw
namespace Go.Proofs.Ytolchbjcdlncgaa.Dg
open Go.RowKit
variable {w w' : World} {base g : Nat} {v : Value} {d : Dst}
attribute [local go_sem ↓] Go.wp_at_zero Go.wp_at_succ
theorem run_slice_from (A : Option Addr) (n c lo : Nat) (h1 : lo ≤ n) (w : World) :
    (Instr.slice 30 (.slice A n c) (some (.int .i64 (lo : Int))) none none).run Try.prog w = .ok (.slice (winA A c lo) (n - lo) (c - lo)) w := by
  have g1 : (0 : Int) ≤ (lo : Int) := by omega
  have hs : (sizeOf 5).run Try.prog w = .ok 1 w := by kernel_rfl
  simp [Instr.slice, Instr.sliceBounds, Instr.sliceBound, asIntOf, run_underlying Try.underlying30, Sem.run_bind, g1, hs, winA, h1]
/-- append at an operation of a region that draws, guarded or not. -/
theorem step_bytes3 {w : World} {ops : Array Oper} {o : Oper} {a : Act} {K : Act → World → Prop} {Q : Exit → Act → World → Prop} {E : Prop} (hw : Region.wanted o (yielded ops a.tmps) = true) (s x : Operand) (tx : TypeId)
    (ho : o.op = .call { callee := .builtin .append, args := #[s, x], argTypes := #[30, tx] }) (v u : Value) (hs : a.eval s = v) (hx : a.eval x = u)
    (base : Nat) (l xs : List UInt8) (h : Ob w base v l) (hsrc : Src Try.prog 1 tx u xs.length (xs.map u8v) w) (hlen : l.length + xs.length ≤ 200000000000000) (hbase : base ≤ w.heap.size)
    (k : ∀ A n c w', Ob w' base (.slice A n c) (l ++ xs) → w.grownBy w' v.ownBlock → K (a.put o.dst (.slice A n c)) w') :
    if Region.wanted o (yielded ops a.tmps) = true then Oper.wp Try.prog o a w K Q else E := by
  rw [if_pos hw]
  obtain ⟨v', w', hr, h1, h2, h3⟩ := app_bytes (ty := o.type) h hsrc hlen hbase
  obtain ⟨A, n, c, rfl⟩ : ∃ A n c, v' = .slice A n c := by obtain ⟨A, c, h, -, -⟩ := h1.len_cap; exact ⟨A, _, c, h⟩
  unfold Oper.wp execOp
  simp only [ho, resolve, invoke, builtin, Sem.run_bind, Sem.run_pure, Result.andThen_ok, List.map_toArray, List.map_cons, List.map_nil, hs, hx, hr]
  exact k A n c w' h1 h2
/-- Append. -/
theorem rappend_any {x : Value} {B : Nat} {xs : List UInt8} (w : World) (h : Rk w base g v d) (hx : Bs w B x xs) (hB : B ≤ w.heap.size) (hroom : d.fin + xs.length ≤ 4611686018427387904 ∨ d.fits xs.length = false) (hbase : base ≤ w.heap.size) :
    Calls Try.prog 60 #[.pointer (some ⟨g, 0, none⟩), x] w fun e w' => e = .returned (.tuple #[.int .i64 (d.appAt xs.length : Int), .int .i64 (d.appE xs.length : Int)]) ∧ ∃ v', Rk w' base g v' (d.app xs) ∧ Turn g v v' w w' := by
  have hfz := h.free
  have hr := h.bound
  have hok := h.ok
  have HD := Lib.hid h
  obtain ⟨h0, h1, h2, h3, h4⟩ := h.cells
  obtain ⟨A, c, rfl, hc1, hc2⟩ := h.len_cap
  have HE := Lib.hid (rend_at h)
  have HF := Lib.hid (rfrozen_at h)
  obtain ⟨f, hf⟩ : ∃ f, d.fin = f := ⟨_, rfl⟩
  rw [hf] at HE
  obtain ⟨fr, hfr⟩ : ∃ fr, d.cold = fr := ⟨_, rfl⟩
  rw [hfr] at HF
  have hs1 := hok.room
  have hs2 := hok.size2
  have HX := Lib.hid hx
  obtain ⟨Ax, cx, rfl, hx1, hx2, -⟩ := id hx
  have e1 : IntKind.i64.wrap ((d.size : Int) - (d.bytes.length : Int)) = (d.size : Int) - (d.bytes.length : Int) := IntWalk.i64_in _ (by omega)
  clear h hx h1 h2 h4 hok hfr HF
  by_cases hgt : (d.size : Int) - (d.bytes.length : Int) < (xs.length : Int)
  · have hfit : d.fits xs.length = false := decide_eq_false (by omega)
    have E1 : d.appAt xs.length = 0 := by unfold Dst.appAt; rw [hfit]; rfl
    have E2 : d.appE xs.length = 28 := by unfold Dst.appE; rw [hfit]; rfl
    have E3 : d.app xs = d := by unfold Dst.app; rw [hfit]; rfl
    rw [E1, E2, E3]
    clear hfit E1 E2 E3 hroom hf
    go_enter Try.func60, Try.ntmps60
    go_wp2_with fail
    go_quiet (fail)
    go_wp2_with fail
    refine bodyPost_ret (v := .tuple #[.int .i64 0, .int .i64 28]) ?_ rfl ⟨rfl, .slice A d.bytes.length c, HD.out.ab ((Ab.refl w).drewN _), Turn.of_ab ((Ab.refl w).drewN _)⟩
    simp [results, Try.results60, go_sem]
  · have hfit : d.fits xs.length = true := decide_eq_true (by omega)
    have E1 : d.appAt xs.length = f := by unfold Dst.appAt; rw [hfit]; exact hf
    have E2 : d.appE xs.length = 0 := by unfold Dst.appE; rw [hfit]; rfl
    have E3 : d.app xs = { d with bytes := d.bytes ++ xs } := by unfold Dst.app; rw [hfit]; rfl
    have hk : (d.app xs).Ok := HD.out.ok.app xs (by rcases hroom with h | h; exact h; rw [hfit] at h; cases h)
    rw [E3] at hk
    have HK := Lib.hid hk
    rw [E1, E2, E3]
    have HL := Lib.hid (show ([] : List UInt8).length + d.bytes.length ≤ 200000000000000 ∧ ([] ++ d.bytes).length + xs.length ≤ 200000000000000 by constructor <;> simp <;> omega)
    clear hfit E1 E2 E3 hk hroom hf
    go_enter Try.func60, Try.ntmps60
    go_wp2_with fail
    go_quiet (fail)
    go_wp2_with (first | (go_at_call 77; (first | (refine (HE.out _).mono ?_) | (refine (HE.out 0).mono ?_)); rintro e w3 ⟨rfl, k3, rfl⟩; (have hca := (HD.out.ab (((Ab.refl w).drewN k3).alloc (.cells #[] 5))).cells.2.2.2.1)) | (at_builtin; refine wpList_bytes rfl _ _ _ rfl _ _ rfl rfl w.heap.size [] d.bytes (Ob.made (w.drewN k3) #[] w.heap.size (Nat.le_refl _) (by simp [maxLen])) (src_bs Try.underlying30 (HD.out.2.1.ab (((Ab.refl w).drewN k3).alloc _)).bs) HL.out.1 (by simp) ?_; intro v5 w5 ho5 hg5 hb5; (have ha5 := grown_ab (((Ab.refl w).drewN k3).alloc _) hg5 (fun k hk => by injection hk with hk; exact Nat.le_of_eq hk)); (obtain ⟨A5, n5, c5, rfl⟩ : ∃ A n c, v5 = .slice A n c := by obtain ⟨A, c, h, -, -⟩ := ho5.len_cap; exact ⟨A, _, c, h⟩); (have H5 := Lib.hid (And.intro ho5 ha5)); clear ho5 hg5 hb5 ha5) | (at_builtin; refine wpList_bytes rfl _ _ _ rfl _ _ rfl rfl w.heap.size ([] ++ d.bytes) xs H5.out.1 (src_bs Try.underlying30 (HX.out.ab H5.out.2 hB)) HL.out.2 H5.out.2.size ?_; intro v7 w7 ho7 hg7 hb7; (have ha7 := grown_ab H5.out.2 hg7 (fun k hk => (H5.out.1.blk k hk).1)); (obtain ⟨A7, n7, c7, rfl⟩ : ∃ A n c, v7 = .slice A n c := by obtain ⟨A, c, h, -, -⟩ := ho7.len_cap; exact ⟨A, _, c, h⟩); (have hd7 := HD.out.ab ha7); (obtain ⟨-, -, -, hc7, -⟩ := hd7.cells); (have hf7 := hd7.free); (have H7 := Lib.hid (And.intro ho7 ha7)); clear ho7 hg7 hb7 ha7 hd7))
    have hs := HD.out.put (w2 := w7) (d2 := { d with bytes := d.bytes ++ xs }) (v2 := .slice A7 n7 c7) (H7.out.1.lower hbase) H7.out.2 (fun k hk => .inr (H7.out.1.blk k hk).1) (setg 3 (.slice A7 n7 c7) (Mv.refl _ _)) (fun hb => hb.store 3 _) HK.out
    have HS := Lib.hid hs
    clear hs
    refine bodyPost_ret (v := .tuple #[.int .i64 (f : Int), .int .i64 0]) ?_ rfl ⟨rfl, .slice A7 n7 c7, HS.out⟩
    simp [results, Try.results60, go_sem]
end Go.Proofs.Ytolchbjcdlncgaa.Dg

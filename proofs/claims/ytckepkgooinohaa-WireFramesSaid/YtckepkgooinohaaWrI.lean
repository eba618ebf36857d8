/- wire.Unframe. -/
import Derived.Test.YtckepkgooinohaaWrF
import Derived.Test.YtckepkgooinohaaWrC
import Derived.Deep.RegionHeld3
import Derived.Deep.DrawnRows
import Derived.IntWalk
namespace Go.Proofs.Ytckepkgooinohaa.Dg
open Go.RowKit
variable {w w' : World} {base B cb : Nat} {v : Value} {l : List UInt8}
/-- The window of a slice. -/
def winA (A : Option Addr) (c lo : Nat) : Option Addr := if c = lo then A else Option.map (fun x => x.add lo) A
theorem run_slice_mid (A : Option Addr) (n c lo hi : Nat) (h1 : lo ≤ hi) (h2 : hi ≤ c) (w : World) :
    (Instr.slice 25 (.slice A n c) (some (.int .i64 (lo : Int))) (some (.int .i64 (hi : Int))) none).run Try.prog w = .ok (.slice (winA A c lo) (hi - lo) (c - lo)) w := by
  have g1 : (0 : Int) ≤ (lo : Int) := by omega
  have g2 : (0 : Int) ≤ (hi : Int) := by omega
  have g3 : (lo : Int) ≤ (hi : Int) := by omega
  have g4 : (hi : Int) ≤ (c : Int) := by omega
  simp only [Instr.slice, Instr.sliceBounds, Instr.sliceBound, asIntOf, run_underlying Try.underlying25, Sem.run_bind, Sem.run_pure, Result.andThen_ok, g1, g2, g4, and_self, if_true, Option.isSome_none, Bool.false_eq_true, if_false, Int.toNat_natCast, g3]
  have hs : (sizeOf 5).run Try.prog w = .ok 1 w := by kernel_rfl
  rw [hs]
  simp [winA]
theorem midB {A : Option Addr} {c : Nat} (h : Bs w B (.slice A l.length c) l) (lo hi : Nat) (h1 : lo ≤ hi) (h2 : hi ≤ l.length) :
    Bs w B (.slice (winA A c lo) (hi - lo) (c - lo)) ((l.drop lo).take (hi - lo)) :=
  take_bs (cutB h lo (by omega) (n := (l.drop lo).length) (by rw [List.length_drop])) (hi - lo) (by rw [List.length_drop]; omega)
/-- What Unframe answers: the error's number, the content, the frame's size. -/
def ufE (l : List UInt8) : Nat :=
  if l.length < 8 then 11 else if 524288 < valL (l.take 4) then 27 else if l.length < 8 + valL (l.take 4) then 11
  else if (crcL ((l.drop 8).take (valL (l.take 4)))).toNat = valL ((l.drop 4).take 4) then 0 else 74
def ufC (l : List UInt8) : List UInt8 := if ufE l = 0 then (l.drop 8).take (valL (l.take 4)) else []
def ufN (l : List UInt8) : Nat := if ufE l = 0 then 8 + valL (l.take 4) else 0
/-- The answer in memory. -/
def UfPost (l : List UInt8) (w : World) (e : Ending) (w' : World) : Prop :=
  ∃ u, e = .returned (.tuple #[u, .int .i64 (ufN l : Int), .int .i64 (ufE l : Int)]) ∧ Ob w' w.heap.size u (ufC l) ∧ Ab w w'
theorem uf_bad {l : List UInt8} {w w' : World} (k : Nat) (hk : ufE l = k) (h0 : k ≠ 0) (hab : Ab w w') : UfPost l w (.returned (.tuple #[.slice none 0 0, .int .i64 0, .int .i64 (k : Int)])) w' := by
  have hC : ufC l = [] := by unfold ufC; rw [if_neg (by rw [hk]; exact h0)]
  have hN : ufN l = 0 := by unfold ufN; rw [if_neg (by rw [hk]; exact h0)]
  exact ⟨.slice none 0 0, by rw [hN, hk]; rfl, by rw [hC]; exact Ob.nil _ _, hab⟩
theorem crc_new {w3 : World} (he : Eng w3 w.heap.size 0 0 noTab 0) (ha : Ab w w3) (hv : Bs w B v l) (hB : B ≤ w.heap.size) :
    Calls Try.prog 37 #[.pointer (some ⟨w.heap.size, 0, none⟩), v] w3 fun e w' => e = .returned (.int .u32 (n32 (crcL l))) ∧ Ab w w' :=
  (Crc_eng w.heap.size B v l w3 (.inl he) (by omega) (hv.ab ha hB) hB (Nat.le_trans hB ha.size)).mono fun _ _ ⟨h1, _, h3⟩ => ⟨h1, h3.ab ha (Nat.le_refl _)⟩
attribute [local go_sem ↓] Go.wp_at_zero Go.wp_at_succ
set_option maxRecDepth 100000 in
set_option maxHeartbeats 2000000 in
theorem unframe_any (w : World) (h : Bs w B v l) (hB : B ≤ w.heap.size) :
    Calls Try.prog 15 #[v] w (UfPost l w) := by
  have HB := Lib.hid h
  obtain ⟨A, c, rfl, h1, h2, -⟩ := id h
  have hlm : l.length ≤ 9223372036854775807 := by omega
  by_cases h8 : l.length < 8
  · have HP := Lib.hid (show ufE l = 11 by unfold ufE; rw [if_pos h8])
    clear h
    go_enter Try.func15, Try.ntmps15
    go_wp2_with fail
    refine bodyPost_ret (v := .tuple #[.slice none 0 0, .int .i64 0, .int .i64 11]) ?_ rfl (uf_bad 11 HP.out (by omega) (Ab.refl w))
    simp [results, Try.results15, go_sem]
  · have hsh := fun wx => run_slice_head A l.length c 4 4 rfl (by omega) wx
    have hbt := take_bs h 4 (by omega)
    obtain ⟨n, hn⟩ : ∃ n, valL (l.take 4) = n := ⟨_, rfl⟩
    have hn32 : n < 4294967296 := by
      have := valL_lt (l.take 4)
      rw [List.length_take, show min 4 l.length = 4 by omega] at this
      omega
    have HT := Lib.hid hbt
    have HN := Lib.hid hn
    by_cases hbig : 524288 < n
    · have HP := Lib.hid (show ufE l = 27 by unfold ufE; rw [if_neg h8, hn, if_pos hbig])
      clear h hbt hn
      go_enter Try.func15, Try.ntmps15
      go_wp2_with fail
      refine (lowFirst_any w HT.out (by rw [List.length_take]; omega)).mono ?_
      rintro e w2 ⟨rfl, rfl⟩
      rw [HN.out]
      go_wp2_with fail
      refine bodyPost_ret (v := .tuple #[.slice none 0 0, .int .i64 0, .int .i64 27]) ?_ rfl (uf_bad 27 HP.out (by omega) (Ab.refl w))
      simp [results, Try.results15, go_sem]
    · by_cases hsh2 : l.length < 8 + n
      · have HP := Lib.hid (show ufE l = 11 by unfold ufE; rw [if_neg h8, hn, if_neg hbig, if_pos hsh2])
        clear h hbt hn
        go_enter Try.func15, Try.ntmps15
        go_wp2_with fail
        refine (lowFirst_any w HT.out (by rw [List.length_take]; omega)).mono ?_
        rintro e w2 ⟨rfl, rfl⟩
        rw [HN.out]
        go_wp2_with fail
        refine bodyPost_ret (v := .tuple #[.slice none 0 0, .int .i64 0, .int .i64 11]) ?_ rfl (uf_bad 11 HP.out (by omega) (Ab.refl w))
        simp [results, Try.results15, go_sem]
      · have hmid := midB h 8 (8 + n) (by omega) (by omega)
        have hcks := midB h 4 8 (by omega) (by omega)
        rw [show 8 + n - 8 = n by omega] at hmid
        have hsl := fun wx => run_slice_mid A l.length c 8 (8 + n) (by omega) (by omega) wx
        rw [show 8 + n - 8 = n by omega] at hsl
        have hs4 := fun wx => run_slice_mid A l.length c 4 8 (by omega) (by omega) wx
        have hE : ufE l = if (crcL ((l.drop 8).take n)).toNat = valL ((l.drop 4).take 4) then 0 else 74 := by unfold ufE; rw [if_neg h8, hn, if_neg hbig, if_neg hsh2]
        have hctl : ((l.drop 8).take n).length = n := by rw [List.length_take, List.length_drop]; omega
        have hC : ufE l = 0 → ufC l = (l.drop 8).take n ∧ ufN l = 8 + n := fun h0 => by unfold ufC ufN; rw [if_pos h0, if_pos h0, hn]; exact ⟨rfl, rfl⟩
        have hkl : ((l.drop 4).take 4).length ≤ 8 := by rw [List.length_take]; omega
        generalize (l.drop 8).take n = ct at *
        generalize (l.drop 4).take 4 = cks at *
        obtain ⟨m, hm⟩ : ∃ m, (crcL ct).toNat = m := ⟨_, rfl⟩
        obtain ⟨k, hk⟩ : ∃ k, valL cks = k := ⟨_, rfl⟩
        have hcn : IntKind.u64.wrap (n32 (crcL ct)) = (m : Int) := by
          have := (crcL ct).toNat_lt
          rw [IntKind.wrap_u64, ← hm]; unfold n32; omega
        have hsz : IntKind.i64.wrap (8 + (n : Int)) = 8 + (n : Int) := IntWalk.i64_in _ (by omega)
        rw [hm, hk] at hE
        have HM := Lib.hid hmid
        have HK := Lib.hid hcks
        have HV := Lib.hid hk
        have HE := Lib.hid hE
        have HCC := Lib.hid hC
        have HL := Lib.hid hctl
        generalize winA A c 8 = A8 at *
        generalize winA A c 4 = A4 at *
        have hs4' : ∀ wx : World, (Instr.slice 25 (.slice A l.length c) (some (.int .i64 4)) (some (.int .i64 8)) none).run Try.prog wx = .ok (.slice A4 4 (c - 4)) wx := hs4
        have hsl' : ∀ wx : World, (Instr.slice 25 (.slice A l.length c) (some (.int .i64 8)) (some (.int .i64 (8 + (n : Int)))) none).run Try.prog wx = .ok (.slice A8 n (c - 8)) wx := hsl
        clear h hbt hn hmid hcks hk hE hC hctl hm hs4 hsl
        by_cases hmk : m = k
        · have hb1 : ((m : Int) != (k : Int)) = false := by simp [hmk]
          go_enter Try.func15, Try.ntmps15
          go_wp2_with fail
          refine (lowFirst_any w HT.out (by rw [List.length_take]; omega)).mono ?_
          rintro e w2 ⟨rfl, rfl⟩
          rw [HN.out]
          go_wp2_with fail
          go_region_held3 (fun _ => True) (trivial) (first | (go_at_call 36; (with_reducible refine (new_any _).mono ?_); rintro e w3 ⟨rfl, he3, ha3⟩; (have HE3 := Lib.hid (show Eng w3 w.heap.size 0 0 noTab 0 from he3)); (have HA3 := Lib.hid (Ab.trans (Ab.refl w).drew ha3)); clear he3 ha3) | (go_at_call 37; (with_reducible refine (crc_new HE3.out HA3.out HM.out hB).mono ?_); rintro e w4 ⟨rfl, ha4⟩; (have HW4 := Lib.hid ha4); clear ha4) | (go_at_call 41; (with_reducible refine (lowFirst_any _ (HK.out.ab HW4.out hB) hkl).mono ?_); rintro e w5 ⟨rfl, rfl⟩; rw [HV.out]))
          have h0 : ufE l = 0 := by rw [HE.out, if_pos hmk]
          obtain ⟨hc0, hn0⟩ := HCC.out h0
          have HR := Lib.hid (And.intro h0 (And.intro hc0 hn0))
          have hct2 : ([] : List UInt8).length + ct.length ≤ 200000000000000 := by rw [HL.out]; simp; omega
          have HX := Lib.hid hct2
          clear h0 hc0 hn0 hct2
          go_wp2_with (at_builtin; refine wpList_bytes3 rfl _ _ _ rfl _ _ rfl rfl w.heap.size [] ct (Ob.nil _ _) (src_bs Try.underlying25 (HM.out.ab HW4.out hB)) HX.out HW4.out.size ?_)
          intro A5 n5 c5 w5 ho5 hf5
          have ho5 : Ob w5 w.heap.size (.slice A5 n5 c5) ct := ho5
          have H5 := Lib.hid (And.intro ho5 (hf5.ab HW4.out (Nat.le_refl _)))
          clear ho5 hf5
          go_wp2_with fail
          refine bodyPost_ret (v := .tuple #[.slice A5 n5 c5, .int .i64 (8 + (n : Int)), .int .i64 0]) ?_ rfl ⟨.slice A5 n5 c5, ?_, ?_, H5.out.2⟩
          · simp [results, Try.results15, go_sem]
          · rw [HR.out.2.2, HR.out.1]; rfl
          · rw [HR.out.2.1]; exact H5.out.1
        · have hmk2 : ¬ (m : Int) = (k : Int) := by omega
          have hb1 : ((m : Int) == (k : Int)) = false := by rw [beq_eq_false_iff_ne]; exact hmk2
          go_enter Try.func15, Try.ntmps15
          go_wp2_with fail
          refine (lowFirst_any w HT.out (by rw [List.length_take]; omega)).mono ?_
          rintro e w2 ⟨rfl, rfl⟩
          rw [HN.out]
          go_wp2_with fail
          go_region_held3 (fun _ => True) (trivial) (first | (go_at_call 36; (with_reducible refine (new_any _).mono ?_); rintro e w3 ⟨rfl, he3, ha3⟩; (have HE3 := Lib.hid (show Eng w3 w.heap.size 0 0 noTab 0 from he3)); (have HA3 := Lib.hid (Ab.trans (Ab.refl w).drew ha3)); clear he3 ha3) | (go_at_call 37; (with_reducible refine (crc_new HE3.out HA3.out HM.out hB).mono ?_); rintro e w4 ⟨rfl, ha4⟩; (have HW4 := Lib.hid ha4); clear ha4) | (go_at_call 41; (with_reducible refine (lowFirst_any _ (HK.out.ab HW4.out hB) hkl).mono ?_); rintro e w5 ⟨rfl, rfl⟩; rw [HV.out]))
          have HP := Lib.hid (show ufE l = 74 by rw [HE.out, if_neg hmk])
          go_wp2_with fail
          refine bodyPost_ret (v := .tuple #[.slice none 0 0, .int .i64 0, .int .i64 74]) ?_ rfl (uf_bad 74 HP.out (by omega) HW4.out)
          simp [results, Try.results15, go_sem]
end Go.Proofs.Ytckepkgooinohaa.Dg

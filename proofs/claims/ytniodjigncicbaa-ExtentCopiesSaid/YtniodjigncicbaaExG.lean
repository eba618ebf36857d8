/- slices.Grow and slices.Concat, of bytes and of runs. -/
import Derived.Test.YtniodjigncicbaaExE
import Derived.Lib.AppendZeros
namespace Go.Proofs.Ytniodjigncicbaa.Dg
open Go.RowKit
variable {w w' : World} {base a s : Nat} {v : Value} {ps : List Pr} {l : List UInt8}
attribute [local go_sem ↓] Go.wp_at_zero Go.wp_at_succ
/-- s[:k] and s[k:] of any elements. -/
theorem runT_head {t e : TypeId} {z : Nat} (ht : Try.prog.underlying t = some (.slice e)) (hs : ∀ w : World, (sizeOf e).run Try.prog w = .ok z w) (A : Option Addr) (n c k : Nat) (hk : k ≤ c) (w : World) :
    (Instr.slice t (.slice A n c) none (some (.int .i64 (k : Int))) none).run Try.prog w = .ok (.slice A k c) w := by
  have h1 : (0 : Int) ≤ (k : Int) := by omega
  have h2 : (k : Int) ≤ (c : Int) := by omega
  simp [Instr.slice, Instr.sliceBounds, Instr.sliceBound, asIntOf, run_underlying ht, h1, Sem.run_bind, addr_add0, hs]
  omega
theorem runT_tail {t e : TypeId} {z : Nat} (ht : Try.prog.underlying t = some (.slice e)) (hs : ∀ w : World, (sizeOf e).run Try.prog w = .ok z w) (A : Option Addr) (n c k : Nat) (hk : k ≤ n) (w : World) :
    (Instr.slice t (.slice A n c) (some (.int .i64 (k : Int))) none none).run Try.prog w = .ok (.slice (winS z A c k) (n - k) (c - k)) w := by
  have h1 : (0 : Int) ≤ (k : Int) := by omega
  simp [Instr.slice, Instr.sliceBounds, Instr.sliceBound, asIntOf, run_underlying ht, h1, Sem.run_bind, hs, winS]
  omega
theorem sizeRun (w : World) : (sizeOf 218).run Try.prog w = .ok 2 w := by kernel_rfl
theorem sizeU8 (w : World) : (sizeOf 5).run Try.prog w = .ok 1 w := by kernel_rfl
theorem Og.made (w : World) (e : TypeId) (s c : Nat) (cs : Array Value) (base : Nat) (hb : base ≤ w.heap.size) (hc : cs.size = c * s) (hm : c ≤ maxLen) : Og e s (w.alloc (.cells cs e)) base (.slice (some ⟨w.heap.size, 0, none⟩) 0 c) 0 [] :=
  ⟨by simp, .inr ⟨w.heap.size, c, [], cs.toList, by simp, hb, by rw [heap_alloc_new]; simp, Nat.zero_le _, by simp [hc], hm⟩⟩
theorem sum_next (ns : List Nat) (k : Nat) (h : k < ns.length) : (ns.take (k + 1)).sum = (ns.take k).sum + ns.getD k 0 := by
  rw [List.take_succ_eq_append_getElem h, List.sum_append, List.getD_eq_getElem?_getD, List.getElem?_eq_getElem h]; simp
theorem sum_le (ns : List Nat) (k : Nat) : (ns.take k).sum ≤ ns.sum := by
  have := congrArg List.sum (List.take_append_drop k ns)
  rw [List.sum_append] at this
  omega
theorem flat_next {α : Type} (ls : List (List α)) (k : Nat) (h : k < ls.length) : (ls.take (k + 1)).flatten = (ls.take k).flatten ++ ls.getD k [] := by
  rw [List.take_succ_eq_append_getElem h, List.flatten_append, List.getD_eq_getElem?_getD, List.getElem?_eq_getElem h]; simp
theorem get_undef (vs : List Value) (k : Nat) (h : k < vs.length) : vs.toArray[k]? = some (vs.getD k undef) := by
  rw [List.getElem?_toArray, List.getD_eq_getElem?_getD, List.getElem?_eq_getElem h]; rfl
theorem ob_len {A : Option Addr} {m c : Nat} (h : Ob w base (.slice A m c) l) : m = l.length := by
  obtain ⟨A', c', hv, -, -⟩ := h.len_cap
  injection hv
theorem wpList_og {ops : Array Oper} {rest : List Oper} {o : Oper} {ac : Act} {Q : Exit → Act → World → Prop} {TS T : TypeId} {z : Value} {zs by_ : Nat} (hgd : o.guard = none) (sl x : Operand)
    (ho : o.op = .call { callee := .builtin .append, args := #[sl, x], argTypes := #[TS, TS] }) (v y : Value) (hs : ac.eval sl = v) (hx : ac.eval x = y)
    (hk : Try.prog.underlying TS = some (.slice T)) (hinfo : (Try.prog.info? T).map (fun i => (i.zero, i.size, i.bytes)) = some (some z, zs, by_)) (hz : z.cells.size = zs)
    (base n : Nat) (xs : List Value) (m : Nat) (news : List Value) (h : Og T zs w base v n xs) (hsrc : Src Try.prog zs TS y m news w) (hlen : n + m ≤ 1000000 ∧ by_ ≤ 1000000) (hbase : base ≤ w.heap.size)
    (k : ∀ A c w', Og T zs w' base (.slice A (n + m) c) (n + m) (xs ++ news) → w.grownBy w' v.ownBlock → wpList Try.prog ops Q rest (ac.put o.dst (.slice A (n + m) c)) w') : wpList Try.prog ops Q (o :: rest) ac w := by
  obtain ⟨i0, hi, hz0, hz1, hz2⟩ := info_parts hinfo
  have hb : (n + m + (n + m) / 4 + 192) * by_ ≤ 2000000 * 1000000 := Nat.mul_le_mul (by omega) hlen.2
  obtain ⟨v', w', hr, h1, h2, -⟩ := og_app (P := Try.prog) w base TS TS o.type T i0 _ zs by_ hk hi hz0 hz1 hz2 hz h hsrc (by unfold maxLen; omega) (by omega) hbase
  obtain ⟨A, c, rfl, -, -⟩ := h1.len_cap
  exact wpList_app (P := Try.prog) w hgd sl x TS TS ho v y hs hx hr (k A c w' h1 h2)
set_option maxRecDepth 100000 in
set_option maxHeartbeats 1000000 in
/-- slices.Grow of nil. -/
theorem grow8_any (w : World) (n : Nat) (hn : n ≤ 1000000) :
    Calls Try.prog 139 #[.slice none 0 0, .int .i64 (n : Int)] w fun e w' => ∃ A c, e = .returned (.slice A 0 c) ∧ Ob w' w.heap.size (.slice A 0 c) [] ∧ Ab w w' := by
  by_cases h0 : n = 0
  · subst h0
    go_enter Try.func139, Try.ntmps139
    go_wp2
    go_ret
    exact ⟨none, 0, rfl, Ob.nil _ _, Ab.refl w⟩
  · obtain ⟨i0, hi, hz0, hz1, hz2⟩ := info_parts info8
    have hr := fun wx : World => Lib.run_append_nil_zeros (P := Try.prog) wx 30 3 30 5 i0 _ .i64 .i64 Try.underlying30 Try.underlying3 hi hz0 n (by omega) (by rw [hz1]; omega) (by omega) (by rw [hz2]; omega)
    have hge := grownCap_ge w n 0 5
    have hcm : grownCap w n 0 5 ≤ maxLen := grownCap_le_maxLen w n 0 5 (by unfold maxLen; omega)
    have hsz : (Builtin.zeroCells (Value.cells (.int .u8 0)) n ++ Builtin.zeroCells (Value.cells (.int .u8 0)) (grownCap w n 0 5 - n)).size = grownCap w n 0 5 * 1 := by
      rw [Array.size_append, size_zeroCells, size_zeroCells, show (Value.cells (.int .u8 0)).size = 1 from rfl, ← Nat.add_mul, Nat.add_sub_cancel' hge]
    have hmade := Ob.made w.drew (Builtin.zeroCells (Value.cells (.int .u8 0)) n ++ Builtin.zeroCells (Value.cells (.int .u8 0)) (grownCap w n 0 5 - n)) w.heap.size (Nat.le_refl _) (by rw [hsz, Nat.mul_one]; exact hcm)
    rw [hsz, Nat.mul_one] at hmade
    have hs0 : ∀ wx : World, (Instr.slice 30 (.slice none 0 0) none (some (.int .i64 0)) none).run Try.prog wx = .ok (.slice none 0 0) wx := fun wx => runT_head (k := 0) Try.underlying30 sizeU8 none 0 0 (Nat.le_refl _) wx
    have hab : Ab w (w.drew.alloc (.cells (Builtin.zeroCells (Value.cells (.int .u8 0)) n ++ Builtin.zeroCells (Value.cells (.int .u8 0)) (grownCap w n 0 5 - n)) 5)) := (Ab.refl w).drew.alloc _
    replace hr := hr w
    generalize grownCap w n 0 5 = cc at *
    generalize w.drew.alloc (.cells (Builtin.zeroCells (Value.cells (.int .u8 0)) n ++ Builtin.zeroCells (Value.cells (.int .u8 0)) (cc - n)) 5) = w2 at *
    have hs1 : ∀ wx : World, (Instr.slice 30 (.slice (some ⟨w.heap.size, 0, none⟩) n cc) none (some (.int .i64 0)) none).run Try.prog wx = .ok (.slice (some ⟨w.heap.size, 0, none⟩) 0 cc) wx := fun wx => runT_head (k := 0) Try.underlying30 sizeU8 _ n cc (Nat.zero_le _) wx
    have HR := Lib.hid (And.intro hr (And.intro hmade hab))
    have hn0 : (0 : Int) < (n : Int) := by omega
    clear hr hge hcm hsz hmade hab hi hz0 hz1 hz2
    go_enter Try.func139, Try.ntmps139
    go_wp2_with (at_builtin; refine Lib.wpList_append_run _ rfl _ _ _ _ rfl _ _ rfl rfl _ _ HR.out.1 ?_)
    go_ret
    exact ⟨_, _, rfl, HR.out.2.1, HR.out.2.2⟩
set_option maxRecDepth 100000 in
set_option maxHeartbeats 2000000 in
/-- slices.Concat. -/
theorem concat8_any (w : World) (g N : Nat) (vs : List Value) (ns : List Nat) (ls : List (List UInt8)) (hb : Bk w g 30 vs.toArray) (hN : vs.length = N) (hN2 : ns.length = N) (hN3 : ls.length = N)
    (h : ∀ k, (hk : k < N) → (∃ A c, vs.getD k undef = .slice A (ns.getD k 0) c) ∧ ∀ wx, Ab w wx → Src Try.prog 1 30 (vs.getD k undef) (ns.getD k 0) ((ls.getD k []).map u8v) wx) (hsum : ns.sum ≤ 100000) (hNb : N ≤ 100000000) (hlen : ∀ k, k < N → (ls.getD k []).length = ns.getD k 0) :
    Calls Try.prog 112 #[.slice (some ⟨g, 0, none⟩) N N] w fun e w' => ∃ A c, e = .returned (.slice A ns.sum c) ∧ Ob w' w.heap.size (.slice A ns.sum c) ls.flatten ∧ Ab w w' := by
  have HV := Lib.hid (And.intro hN (And.intro hN2 (And.intro hN3 hlen)))
  have HH := Lib.hid h
  have HB := Lib.hid hb
  have hNb : N ≤ 100000000 := hNb
  clear hN hN2 hN3 hlen h hb
  go_enter Try.func112, Try.ntmps112
  go_wp2
  go_loopw [3, 5, 11] (fun s3 _ s11 wr => ∃ k x : Nat, k ≤ N ∧ s3 = .int .i64 (x : Int) ∧ s11 = .int .i64 (k : Int) ∧ w = wr ∧ Hid (x = (ns.take k).sum)) (fun _ _ s11 _ => N - (intOf s11).toNat)
  case atStart => exact ⟨0, 0, Nat.zero_le _, rfl, rfl, by first | rfl | trivial, Lib.hid rfl⟩
  case round =>
    obtain ⟨k, x, hk, rfl, rfl, rfl, HX⟩ := hrel
    by_cases hlt : k < N
    · have hcell := HB.out.cell (get_undef vs k (by rw [HV.out.1]; exact hlt))
      obtain ⟨⟨A, c, hv⟩, -⟩ := HH.out k hlt
      rw [hv] at hcell
      have hs1 := sum_next ns k (by rw [HV.out.2.1]; exact hlt)
      have hs2 := sum_le ns (k + 1)
      obtain ⟨n, hn⟩ : ∃ n, ns.getD k 0 = n := ⟨_, rfl⟩
      obtain ⟨y, hy⟩ : ∃ y, x + n = y := ⟨_, rfl⟩
      have HY := Lib.hid (show y = (ns.take (k + 1)).sum by rw [hs1, hn, ← HX.out, hy])
      have hyb : y ≤ 100000 := by have := HY.out; omega
      rw [hn] at hcell
      have e1 : (x : Int) + (n : Int) = (y : Int) := by omega
      have e2 : IntKind.i64.wrap (y : Int) = (y : Int) := IntWalk.i64_in _ (by omega)
      have e3 : ¬ (y : Int) < 0 := by omega
      have i1 : (0 : Int) ≤ (k : Int) := by omega
      have i2 : (k : Int) < (N : Int) := by omega
      clear hs1 hs2 hn hy hv HX hyb
      go_wp2
      go_roundw
      case rel => exact ⟨k + 1, y, hlt, rfl, by go_num, by first | rfl | trivial, HY⟩
      case measure => simp [intOf]; omega
    · have hkn : k = N := by omega
      subst hkn
      have hx : x = ns.sum := by rw [HX.out, List.take_of_length_le (by rw [HV.out.2.1]; exact Nat.le_refl _)]
      subst hx
      obtain ⟨T, hT⟩ : ∃ T, ns.sum = T := ⟨_, rfl⟩
      rw [hT] at hsum ⊢
      have HT := Lib.hid hT
      clear HX hT hlt hk
      go_wp2_with (go_at_call 139; (refine (grow8_any _ T (by omega)).mono ?_); rintro e w2 ⟨A2, c2, rfl, ho2, ha2⟩; have H2 := Lib.hid (And.intro ho2 ha2); clear ho2 ha2)
      go_loopw [6, 8, 27] (fun s6 _ s27 wr => ∃ j m : Nat, ∃ A6 c6, j ≤ k ∧ s6 = .slice A6 m c6 ∧ s27 = .int .i64 (j : Int) ∧ Hid (m = (ns.take j).sum ∧ Ob wr w.heap.size (.slice A6 m c6) (ls.take j).flatten ∧ Ab w wr)) (fun _ _ s27 _ => k - (intOf s27).toNat)
      case atStart => exact ⟨0, 0, A2, c2, Nat.zero_le _, rfl, rfl, Lib.hid ⟨rfl, by simpa using H2.out.1, H2.out.2⟩⟩
      case round =>
        obtain ⟨j, m, A6, c6, hj, rfl, rfl, HI⟩ := hrel
        by_cases hlt : j < k
        · have hcell := (HI.out.2.2.cells g j HB.out.lt).trans (HB.out.cell (get_undef vs j (by rw [HV.out.1]; exact hlt)))
          obtain ⟨⟨A, c, hv⟩, hsrc⟩ := HH.out j hlt
          have hs1 := sum_next ns j (by rw [HV.out.2.1]; exact hlt)
          have hs2 := sum_le ns (j + 1)
          have hx := hsrc wr HI.out.2.2
          rw [hv] at hcell hx
          obtain ⟨n, hn⟩ : ∃ n, ns.getD j 0 = n := ⟨_, rfl⟩
          rw [hn] at hcell hx hs1
          have HS := Lib.hid hx
          have HN := Lib.hid (show m + n = (ns.take (j + 1)).sum ∧ m + n ≤ 100000 ∧ n = ns.getD j 0 by
            have := HI.out.1; have := HT.out; refine ⟨by omega, by omega, hn.symm⟩)
          have i1 : (0 : Int) ≤ (j : Int) := by omega
          have i2 : (j : Int) < (k : Int) := by omega
          clear hs1 hs2 hn hv hx hsrc
          go_wp2_with (at_builtin; refine wpList_bytes rfl _ _ _ rfl _ _ rfl rfl w.heap.size ((ls.take j).flatten) (ls.getD j []) HI.out.2.1 (by rw [HV.out.2.2.2 j hlt, ← HN.out.2.2]; exact HS.out) (by rw [← ob_len HI.out.2.1, HV.out.2.2.2 j hlt, ← HN.out.2.2]; have := HN.out.2.1; omega) HI.out.2.2.size ?_)
          intro v3 w3 ho3 hg3 hb3
          rw [← List.getD_eq_getElem?_getD, ← flat_next ls j (by rw [HV.out.2.2.1]; exact hlt)] at ho3
          have hl3 := HI.out.2.1
          have hln : (ls.take (j + 1)).flatten.length = m + n := by
            rw [flat_next ls j (by rw [HV.out.2.2.1]; exact hlt), List.length_append, ← ob_len HI.out.2.1, HV.out.2.2.2 j hlt, ← HN.out.2.2]
          obtain ⟨A3, c3, hv3, -, -⟩ := ho3.len_cap
          rw [hln] at hv3
          subst hv3
          have H3 := Lib.hid (And.intro HN.out.1 (And.intro ho3 (grown_ab HI.out.2.2 hg3 (fun k hk => (HI.out.2.1.blk k hk).1))))
          clear ho3 hg3 hb3 hl3 hln
          go_wp2
          go_roundw
          case rel => exact ⟨j + 1, m + n, A3, c3, hlt, rfl, by go_num, H3⟩
          case measure => simp [intOf]; omega
        · have hjk : j = k := by omega
          subst hjk
          have hm : m = ns.sum := by rw [HI.out.1, List.take_of_length_le (by rw [HV.out.2.1]; exact Nat.le_refl _)]
          have HM := Lib.hid hm
          clear hm
          have hfl : ls.take j = ls := List.take_of_length_le (by rw [HV.out.2.2.1]; exact Nat.le_refl _)
          have HO := HI.out.2
          rw [hfl] at HO
          have H9 := Lib.hid HO
          clear HO
          go_wp2
          go_ret
          have hm := HM.out
          subst hm
          exact ⟨A6, c6, rfl, H9.out.1, H9.out.2⟩
set_option maxRecDepth 100000 in
set_option maxHeartbeats 1000000 in
/-- slices.Grow of nil. -/
theorem growR_any (w : World) (n : Nat) (hn : n ≤ 1000000) :
    Calls Try.prog 145 #[.slice none 0 0, .int .i64 (n : Int)] w fun e w' => ∃ A c, e = .returned (.slice A 0 c) ∧ Og 218 2 w' w.heap.size (.slice A 0 c) 0 [] ∧ Ab w w' := by
  by_cases h0 : n = 0
  · subst h0
    go_enter Try.func145, Try.ntmps145
    go_wp2
    go_ret
    exact ⟨none, 0, rfl, Og.nil _ _ _ _, Ab.refl w⟩
  · obtain ⟨i0, hi, hz0, hz1, hz2⟩ := info_parts infoRun
    have hr := fun wx : World => Lib.run_append_nil_zeros (P := Try.prog) wx 107 3 107 218 i0 _ .i64 .i64 Try.underlying107 Try.underlying3 hi hz0 n (by omega) (by rw [hz1]; omega) (by omega) (by rw [hz2]; omega)
    have hge := grownCap_ge w n 0 218
    have hcm : grownCap w n 0 218 ≤ maxLen := grownCap_le_maxLen w n 0 218 (by unfold maxLen; omega)
    have hsz : (Builtin.zeroCells (Value.cells (.agg #[.int .i64 0, .slice none 0 0])) n ++ Builtin.zeroCells (Value.cells (.agg #[.int .i64 0, .slice none 0 0])) (grownCap w n 0 218 - n)).size = grownCap w n 0 218 * 2 := by
      rw [Array.size_append, size_zeroCells, size_zeroCells, show (Value.cells (.agg #[.int .i64 0, .slice none 0 0])).size = 2 from rfl, ← Nat.add_mul, Nat.add_sub_cancel' hge]
    have hmade := Og.made w.drew 218 2 (grownCap w n 0 218) _ w.heap.size (Nat.le_refl _) hsz hcm
    have hs0 : ∀ wx : World, (Instr.slice 107 (.slice none 0 0) none (some (.int .i64 0)) none).run Try.prog wx = .ok (.slice none 0 0) wx := fun wx => runT_head (k := 0) Try.underlying107 sizeRun none 0 0 (Nat.le_refl _) wx
    have hab : Ab w (w.drew.alloc (.cells (Builtin.zeroCells (Value.cells (.agg #[.int .i64 0, .slice none 0 0])) n ++ Builtin.zeroCells (Value.cells (.agg #[.int .i64 0, .slice none 0 0])) (grownCap w n 0 218 - n)) 218)) := (Ab.refl w).drew.alloc _
    replace hr := hr w
    generalize grownCap w n 0 218 = cc at *
    generalize w.drew.alloc (.cells (Builtin.zeroCells (Value.cells (.agg #[.int .i64 0, .slice none 0 0])) n ++ Builtin.zeroCells (Value.cells (.agg #[.int .i64 0, .slice none 0 0])) (cc - n)) 218) = w2 at *
    have hs1 : ∀ wx : World, (Instr.slice 107 (.slice (some ⟨w.heap.size, 0, none⟩) n cc) none (some (.int .i64 0)) none).run Try.prog wx = .ok (.slice (some ⟨w.heap.size, 0, none⟩) 0 cc) wx := fun wx => runT_head (k := 0) Try.underlying107 sizeRun _ n cc (Nat.zero_le _) wx
    have HR := Lib.hid (And.intro hr (And.intro hmade hab))
    have hn0 : (0 : Int) < (n : Int) := by omega
    clear hr hge hcm hsz hmade hab hi hz0 hz1 hz2
    go_enter Try.func145, Try.ntmps145
    go_wp2_with (at_builtin; refine Lib.wpList_append_run _ rfl _ _ _ _ rfl _ _ rfl rfl _ _ HR.out.1 ?_)
    go_ret
    exact ⟨_, _, rfl, HR.out.2.1, HR.out.2.2⟩
set_option maxRecDepth 100000 in
set_option maxHeartbeats 2000000 in
/-- slices.Concat. -/
theorem concatR_any (w : World) (g N : Nat) (vs : List Value) (ns : List Nat) (ls : List (List Value)) (hb : Bk w g 107 vs.toArray) (hN : vs.length = N) (hN2 : ns.length = N) (hN3 : ls.length = N)
    (h : ∀ k, (hk : k < N) → (∃ A c, vs.getD k undef = .slice A (ns.getD k 0) c) ∧ ∀ wx, Ab w wx → Src Try.prog 2 107 (vs.getD k undef) (ns.getD k 0) (ls.getD k []) wx) (hsum : ns.sum ≤ 100000) (hNb : N ≤ 100000000) (hlen : ∀ k, k < N → (ls.getD k []).length = ns.getD k 0 * 2) :
    Calls Try.prog 138 #[.slice (some ⟨g, 0, none⟩) N N] w fun e w' => ∃ A c, e = .returned (.slice A ns.sum c) ∧ Og 218 2 w' w.heap.size (.slice A ns.sum c) ns.sum ls.flatten ∧ Ab w w' := by
  have HV := Lib.hid (And.intro hN (And.intro hN2 (And.intro hN3 hlen)))
  have HH := Lib.hid h
  have HB := Lib.hid hb
  have hNb : N ≤ 100000000 := hNb
  clear hN hN2 hN3 hlen h hb
  go_enter Try.func138, Try.ntmps138
  go_wp2
  go_loopw [3, 5, 11] (fun s3 _ s11 wr => ∃ k x : Nat, k ≤ N ∧ s3 = .int .i64 (x : Int) ∧ s11 = .int .i64 (k : Int) ∧ w = wr ∧ Hid (x = (ns.take k).sum)) (fun _ _ s11 _ => N - (intOf s11).toNat)
  case atStart => exact ⟨0, 0, Nat.zero_le _, rfl, rfl, by first | rfl | trivial, Lib.hid rfl⟩
  case round =>
    obtain ⟨k, x, hk, rfl, rfl, rfl, HX⟩ := hrel
    by_cases hlt : k < N
    · have hcell := HB.out.cell (get_undef vs k (by rw [HV.out.1]; exact hlt))
      obtain ⟨⟨A, c, hv⟩, -⟩ := HH.out k hlt
      rw [hv] at hcell
      have hs1 := sum_next ns k (by rw [HV.out.2.1]; exact hlt)
      have hs2 := sum_le ns (k + 1)
      obtain ⟨n, hn⟩ : ∃ n, ns.getD k 0 = n := ⟨_, rfl⟩
      obtain ⟨y, hy⟩ : ∃ y, x + n = y := ⟨_, rfl⟩
      have HY := Lib.hid (show y = (ns.take (k + 1)).sum by rw [hs1, hn, ← HX.out, hy])
      have hyb : y ≤ 100000 := by have := HY.out; omega
      rw [hn] at hcell
      have e1 : (x : Int) + (n : Int) = (y : Int) := by omega
      have e2 : IntKind.i64.wrap (y : Int) = (y : Int) := IntWalk.i64_in _ (by omega)
      have e3 : ¬ (y : Int) < 0 := by omega
      have i1 : (0 : Int) ≤ (k : Int) := by omega
      have i2 : (k : Int) < (N : Int) := by omega
      clear hs1 hs2 hn hy hv HX hyb
      go_wp2
      go_roundw
      case rel => exact ⟨k + 1, y, hlt, rfl, by go_num, by first | rfl | trivial, HY⟩
      case measure => simp [intOf]; omega
    · have hkn : k = N := by omega
      subst hkn
      have hx : x = ns.sum := by rw [HX.out, List.take_of_length_le (by rw [HV.out.2.1]; exact Nat.le_refl _)]
      subst hx
      obtain ⟨T, hT⟩ : ∃ T, ns.sum = T := ⟨_, rfl⟩
      rw [hT] at hsum ⊢
      have HT := Lib.hid hT
      clear HX hT hlt hk
      go_wp2_with (go_at_call 145; (refine (growR_any _ T (by omega)).mono ?_); rintro e w2 ⟨A2, c2, rfl, ho2, ha2⟩; have H2 := Lib.hid (And.intro ho2 ha2); clear ho2 ha2)
      go_loopw [6, 8, 27] (fun s6 _ s27 wr => ∃ j m : Nat, ∃ A6 c6, j ≤ k ∧ s6 = .slice A6 m c6 ∧ s27 = .int .i64 (j : Int) ∧ Hid (m = (ns.take j).sum ∧ Og 218 2 wr w.heap.size (.slice A6 m c6) m (ls.take j).flatten ∧ Ab w wr)) (fun _ _ s27 _ => k - (intOf s27).toNat)
      case atStart => exact ⟨0, 0, A2, c2, Nat.zero_le _, rfl, rfl, Lib.hid ⟨rfl, by simpa using H2.out.1, H2.out.2⟩⟩
      case round =>
        obtain ⟨j, m, A6, c6, hj, rfl, rfl, HI⟩ := hrel
        by_cases hlt : j < k
        · have hcell := (HI.out.2.2.cells g j HB.out.lt).trans (HB.out.cell (get_undef vs j (by rw [HV.out.1]; exact hlt)))
          obtain ⟨⟨A, c, hv⟩, hsrc⟩ := HH.out j hlt
          have hs1 := sum_next ns j (by rw [HV.out.2.1]; exact hlt)
          have hs2 := sum_le ns (j + 1)
          have hx := hsrc wr HI.out.2.2
          rw [hv] at hcell hx
          obtain ⟨n, hn⟩ : ∃ n, ns.getD j 0 = n := ⟨_, rfl⟩
          rw [hn] at hcell hx hs1
          have HS := Lib.hid hx
          have HN := Lib.hid (show m + n = (ns.take (j + 1)).sum ∧ m + n ≤ 100000 ∧ n = ns.getD j 0 by
            have := HI.out.1; have := HT.out; refine ⟨by omega, by omega, hn.symm⟩)
          have i1 : (0 : Int) ≤ (j : Int) := by omega
          have i2 : (j : Int) < (k : Int) := by omega
          clear hs1 hs2 hn hv hx hsrc
          go_wp2_with (at_builtin; refine wpList_og rfl _ _ rfl _ _ rfl rfl Try.underlying107 infoRun rfl w.heap.size m ((ls.take j).flatten) n (ls.getD j []) HI.out.2.1 (by have := HS.out; exact this) ⟨by have := HN.out.2.1; omega, by omega⟩ HI.out.2.2.size ?_)
          intro A3 c3 w3 ho3 hg3
          rw [← List.getD_eq_getElem?_getD, ← flat_next ls j (by rw [HV.out.2.2.1]; exact hlt)] at ho3
          have H3 := Lib.hid (And.intro HN.out.1 (And.intro ho3 (grown_ab HI.out.2.2 hg3 (fun k hk => (HI.out.2.1.blk k hk).1))))
          clear ho3 hg3
          go_wp2
          go_roundw
          case rel => exact ⟨j + 1, m + n, A3, c3, hlt, rfl, by go_num, H3⟩
          case measure => simp [intOf]; omega
        · have hjk : j = k := by omega
          subst hjk
          have hm : m = ns.sum := by rw [HI.out.1, List.take_of_length_le (by rw [HV.out.2.1]; exact Nat.le_refl _)]
          have HM := Lib.hid hm
          clear hm
          have hfl : ls.take j = ls := List.take_of_length_le (by rw [HV.out.2.2.1]; exact Nat.le_refl _)
          have HO := HI.out.2
          rw [hfl] at HO
          have H9 := Lib.hid HO
          clear HO
          go_wp2
          go_ret
          have hm := HM.out
          subst hm
          exact ⟨A6, c6, rfl, H9.out.1, H9.out.2⟩
end Go.Proofs.Ytniodjigncicbaa.Dg

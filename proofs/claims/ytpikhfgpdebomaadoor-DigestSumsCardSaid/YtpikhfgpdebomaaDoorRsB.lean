/- The reference's SHA-256: the first primes. -/
import Derived.Test.YtpikhfgpdebomaaDoorRsA
import Derived.Test.YtpikhfgpdebomaaDoorOgA
import Derived.Deep.AppendSrc
namespace Go.Proofs.YtpikhfgpdebomaaDoor.Dg
open Go.RowKit
variable {w : World}
theorem pr_info {i : Option TypeInfo} {z : Value} {zs by_ : Nat} (h : i.map (fun i => (i.zero, i.size, i.bytes)) = some (some z, zs, by_)) : ∃ j, i = some j ∧ j.zero = some z ∧ j.size = zs ∧ j.bytes = by_ := by
  cases i with
  | none => cases h
  | some j => simp only [Option.map_some, Option.some.injEq, Prod.mk.injEq] at h; exact ⟨j, rfl, h.1, h.2.1, h.2.2⟩
theorem wpList_pr {ops : Array Oper} {rest : List Oper} {o : Oper} {ac : Act} {Q : Exit → Act → World → Prop} {TS T' : TypeId} {z : Value} {zs by_ : Nat} (hgd : o.guard = none) (sl x : Operand)
    (ho : o.op = .call { callee := .builtin .append, args := #[sl, x], argTypes := #[TS, TS] }) (v y : Value) (hs : ac.eval sl = v) (hx : ac.eval x = y)
    (hk : Tryd.prog.underlying TS = some (.slice T')) (hinfo : (Tryd.prog.info? T').map (fun i => (i.zero, i.size, i.bytes)) = some (some z, zs, by_)) (hz : z.cells.size = zs)
    (base n : Nat) (xs : List Value) (m : Nat) (news : List Value) (h : Og T' zs w base v n xs) (hsrc : Src Tryd.prog zs TS y m news w) (hlen : n + m ≤ 100000001 ∧ by_ ≤ 1000) (hbase : base ≤ w.heap.size)
    (k : ∀ A c w', Og T' zs w' base (.slice A (n + m) c) (n + m) (xs ++ news) → w.grownBy w' v.ownBlock → (Value.ownBlock (.slice A (n + m) c) = v.ownBlock ∨ Value.ownBlock (.slice A (n + m) c) = some w.heap.size) → wpList Tryd.prog ops Q rest (ac.put o.dst (.slice A (n + m) c)) w') : wpList Tryd.prog ops Q (o :: rest) ac w := by
  obtain ⟨i0, hi, hz0, hz1, hz2⟩ := pr_info hinfo
  have hb : (n + m + (n + m) / 4 + 192) * by_ ≤ 200000000 * 1000 := Nat.mul_le_mul (by omega) hlen.2
  obtain ⟨v', w', hr, h1, h2, h3⟩ := og_app (P := Tryd.prog) w base TS TS o.type T' i0 _ zs by_ hk hi hz0 hz1 hz2 hz h hsrc (by unfold maxLen; omega) (by omega) hbase
  obtain ⟨A, c, rfl, -, -⟩ := h1.len_cap
  exact wpList_app (P := Tryd.prog) w hgd sl x TS TS ho v y hs hx hr (k A c w' h1 h2 h3)
/-- One element in a block of its own. -/
theorem src_el64 {TS T : TypeId} (hk : Tryd.prog.underlying TS = some (.slice T)) (w : World) (y : Value) (hy : y.oneCell' = true) :
    Src Tryd.prog 1 TS (.slice (some ⟨w.heap.size, 0, none⟩) 1 1) 1 [y] (w.alloc (.cells #[y] T)) := by
  have h0 : (w.alloc (.cells #[y] T)).cell? ⟨w.heap.size, 0, none⟩ = some y := (Bk.made w T #[y]).cell (i := 0) rfl
  refine Src.ofSlice _ hk ⟨w.heap.size, 0, none⟩ 1 1 _ rfl (fun j x hx => ?_) (fun x hx => ?_)
  · rw [Addr.add_lit, Nat.zero_add]
    match j with
    | 0 => rw [← Option.some.inj (show some y = some x from hx)]; exact h0
    | j + 1 => cases hx
  · rw [List.mem_singleton.1 hx]; exact hy
theorem info64 : (Tryd.prog.info? 59).map (fun i => (i.zero, i.size, i.bytes)) = some (some (.int .u64 0), 1, 8) := by kernel_rfl
def nV (l : List Nat) : List Value := l.map fun (q : Nat) => Value.int .u64 (q : Int)
theorem nV_snoc (l : List Nat) (k : Nat) : nV (l ++ [k + 2]) = nV l ++ [Value.int .u64 ((k : Int) + 2)] := by
  unfold nV; rw [List.map_append]; rfl
theorem prm_two : ∀ k q, q ∈ prm k → 2 ≤ q
  | 0, _, h => by cases h
  | k + 1, q, h => by
    unfold prm at h
    split at h
    · rcases List.mem_append.1 h with h | h
      · exact prm_two k q h
      · obtain rfl := List.mem_singleton.1 h; omega
    · exact prm_two k q h
theorem prm_small (k : Nat) (hk : k ≤ 310) : (prm k).length ≤ 64 := by
  by_cases h : k < 310
  · have := prm_less k h; omega
  · obtain rfl : k = 310 := by omega
    rw [prm_len]; omega
set_option maxRecDepth 100000 in
set_option maxHeartbeats 2000000 in
theorem primes_any (w : World) :
    Calls Tryd.prog 19 #[.int .i64 64] w fun e w' => ∃ A c, e = .returned (.slice A 64 c) ∧ Og 59 1 w' w.heap.size (.slice A 64 c) 64 (nV (prm 310)) ∧ Ab w w' := by
  go_enter Tryd.func19, Tryd.ntmps19
  go_wp2_with fail
  go_loopw [3, 4] (fun v p wr => ∃ k : Nat, k ≤ 310 ∧ p = .int .u64 ((k : Int) + 2) ∧ Hid (Og 59 1 wr w.heap.size v (prm k).length (nV (prm k)) ∧ Ab w wr)) (fun _ p _ => (312 - intOf p).toNat)
  case atStart => exact ⟨0, by omega, rfl, Lib.hid ⟨Og.nil _ _ _ _, Ab.refl w⟩⟩
  case round =>
    obtain ⟨k, hk, rfl, HR⟩ := hrel
    obtain ⟨A, c, rfl, hlc, hcm⟩ := HR.out.1.len_cap
    by_cases hlt : k < 310
    · have hl := prm_less k hlt
      have i1 : ((prm k).length : Int) < 64 := by omega
      obtain ⟨n, hn⟩ : ∃ n, (prm k).length = n := ⟨_, rfl⟩
      have HK := Lib.hid (And.intro hlt (And.intro hl hn))
      have HR2 : Hid (Og 59 1 wr w.heap.size (.slice A n c) n (nV (prm k)) ∧ Ab w wr) := Lib.hid (by have h := HR.out; rw [hn] at h; exact h)
      rw [hn] at i1 hlc ⊢
      clear hl hlt hn
      go_wp2_with fail
      go_loopw [5, 16] (fun pr i wx => ∃ (j : Nat) (b : Bool), j ≤ n ∧ pr = .bool b ∧ i = .int .i64 (j : Int) ∧ wr = wx ∧ Hid (b = ((prm k).take j).all (fun q => (k + 2) % q != 0))) (fun _ i _ => n - (intOf i).toNat)
      case atStart => exact ⟨0, true, Nat.zero_le _, rfl, rfl, rfl, Lib.hid rfl⟩
      case round =>
        obtain ⟨j, b, hj, rfl, rfl, rfl, HB⟩ := hrel
        by_cases hjn : j < n
        · have hjl : j < (prm k).length := by rw [HK.out.2.2]; exact hjn
          obtain ⟨g, off, cap, hv, -, -, -, -, -, hcell⟩ := HR2.out.1.form (by omega)
          injection hv with hA _ _
          subst hA
          have hq2 := prm_two k _ (List.getElem_mem hjl)
          have HT := Lib.hid (show ((prm k).take (j + 1)).all (fun q => (k + 2) % q != 0) = (b && ((k + 2) % (prm k)[j] != 0)) by
            rw [List.take_succ_eq_append_getElem hjl, List.all_append, ← HB.out]; simp)
          have hc0 := hcell j (.int .u64 ((prm k)[j] : Nat)) (by unfold nV; rw [List.getElem?_map, List.getElem?_eq_getElem hjl]; rfl)
          generalize (prm k)[j] = q at *
          have hqz : (q : Int) ≠ 0 := by omega
          have j0 : (0 : Int) ≤ (j : Int) := by omega
          have j1 : (j : Int) < (n : Int) := by omega
          have hj1 : j + 1 ≤ n := hjn
          clear hcell hjn hjl
          have hcst : (((k + 2) % q : Nat) : Int) = ((k : Int) + 2) % (q : Int) := by simp
          by_cases hd : (k + 2) % q = 0
          · have hdz : ((k : Int) + 2) % (q : Int) = 0 := by omega
            have HD := Lib.hid hd
            clear hd
            go_wp2_with fail
            go_roundw
            case rel => exact ⟨j + 1, false, hj1, rfl, by go_num, by first | rfl | trivial, Lib.hid (by rw [HT.out, HD.out]; simp)⟩
            case measure => simp [intOf]; omega
          · have hdz : ¬ ((k : Int) + 2) % (q : Int) = 0 := by omega
            have HD := Lib.hid hd
            clear hd
            go_wp2_with fail
            go_roundw
            case rel => exact ⟨j + 1, b, hj1, rfl, by go_num, by first | rfl | trivial, Lib.hid (by rw [HT.out]; simp [HD.out])⟩
            case measure => simp [intOf]; omega
        · have j1 : ¬ (j : Int) < (n : Int) := by omega
          obtain rfl : j = n := by omega
          clear j1
          have HB2 := Lib.hid (show b = (prm k).all (fun q => (k + 2) % q != 0) by rw [HB.out, ← HK.out.2.2, List.take_length])
          have HK1 := Lib.hid (show k + 1 ≤ 310 from HK.out.1)
          have HNL := Lib.hid (show j ≤ 64 by have := HK.out.2.1; have := HK.out.2.2; omega)
          cases b
          · have HE := Lib.hid (show prm (k + 1) = prm k by rw [prm, ← HB2.out]; rfl)
            go_wp2_with fail
            go_roundw
            case rel => exact ⟨k + 1, HK1.out, by congr 1; first | done | omega, by rw [HE.out, HK.out.2.2]; exact HR2⟩
            case measure => have := HK1.out; simp [intOf]; omega
          · have HE := Lib.hid (show prm (k + 1) = prm k ++ [k + 2] by rw [prm, ← HB2.out]; rfl)
            go_wp2_with (at_builtin; refine wpList_pr rfl _ _ (by rfl) _ _ (by rfl) (by rfl) Tryd.underlying55 info64 (by rfl) w.heap.size j (nV (prm k)) 1 [.int .u64 ((k : Int) + 2)] (HR2.out.1.ab ((Ab.refl wr).alloc _)) (src_el64 Tryd.underlying55 wr (.int .u64 ((k : Int) + 2)) rfl) ⟨by have := HNL.out; omega, by omega⟩ (Nat.le_trans HR.out.2.size ((Ab.refl wr).alloc _).size) ?_)
            intro A3 c3 w3 ho3 hg3 hn3
            have hm3 : Mv (fun i => Value.ownBlock (.slice A j c) = some i) _ w3 := (Mv.refl _ _).grown hg3 (fun i e => .inl e)
            have ha3 : Ab w w3 := hm3.ab (HR2.out.2.alloc _) (fun i e => (HR2.out.1.blk i e).1)
            have H3 := Lib.hid (show Og 59 1 w3 w.heap.size (.slice A3 (j + 1) c3) (prm (k + 1)).length (nV (prm (k + 1))) ∧ Ab w w3 from ⟨by rw [HE.out, List.length_append, HK.out.2.2, nV_snoc]; exact ho3, ha3⟩)
            clear ho3 hg3 hn3 hm3 ha3
            go_wp2_with fail
            go_roundw
            case rel => exact ⟨k + 1, HK1.out, by congr 1; first | done | omega, H3⟩
            case measure => have := HK1.out; simp [intOf]; omega
    · obtain rfl : k = 310 := by omega
      have HE := Lib.hid HR.out
      rw [prm_len] at HE ⊢
      go_wp2_with fail
      go_ret
      exact ⟨A, c, rfl, HE.out.1, HE.out.2⟩
end Go.Proofs.YtpikhfgpdebomaaDoor.Dg

/- takeBlocks, ending, chainBytes, sha. -/
import Derived.Test.YtpikhfgpdebomaaDoorDgQ
import Derived.Test.YtpikhfgpdebomaaDoorDgD
namespace Go.Proofs.YtpikhfgpdebomaaDoor.Dg
open Go.RowKit
def bytesV (l : List UInt8) : List Value := l.map fun x => .int .u8 (n8 x)
theorem bytesV_ones (l : List UInt8) : ∀ v ∈ bytesV l, v.oneCell' = true := by
  intro v hv; obtain ⟨x, _, rfl⟩ := List.mem_map.1 hv; rfl
/-- Bytes that are copied over noughts. -/
theorem copied (cur : Array Value) (n : Nat) (l : List UInt8) (hc : U8s cur n fun _ => 0) :
    U8s (cur.toList.take 0 ++ (bytesV (l.take n) ++ cur.toList.drop (0 + (bytesV (l.take n)).length))).toArray n (fun i => l.getD i 0) := by
  have hl : (bytesV (l.take n)).length = min n l.length := by simp [bytesV]
  refine ⟨by simp [hl, hc.1]; omega, fun i hi => ?_⟩
  show _ = some (Value.int .u8 (n8 (l.getD i 0)))
  rw [List.take_zero, List.nil_append, Nat.zero_add, hl, List.getElem?_toArray]
  by_cases h : i < l.length
  · rw [List.getElem?_append_left (by omega)]
    unfold bytesV
    rw [List.getElem?_map, List.getElem?_take_of_lt hi, List.getElem?_eq_getElem h, List.getD_eq_getElem?_getD, List.getElem?_eq_getElem h]; rfl
  · rw [List.getElem?_append_right (by omega), List.getElem?_drop, hl, show min n l.length + (i - min n l.length) = i by omega, Array.getElem?_toList, hc.2 i hi, List.getD_eq_getElem?_getD, List.getElem?_eq_none (by omega)]; rfl
theorem wpList_copy_bs {P : Program} {w : World} {ops : Array Oper} {rest : List Oper} {o : Oper} {a : Act} {Q : Exit → Act → World → Prop} (hgd : o.guard = none) (d s : Operand) (dT sT : TypeId)
    (ho : o.op = .call { callee := .builtin .copy, args := #[d, s], argTypes := #[dT, sT] }) (elem : TypeId) (hu : P.underlying dT = some (.slice elem)) (hsz : (P.info? elem).map (·.size) = some 1)
    (g n : Nat) (dCap : Nat) (hd : a.eval d = .slice (some ⟨g, 0, none⟩) n dCap) (v : Value) (hs : a.eval s = v) (l : List UInt8) (B : Nat) (hv : Bs w B v l)
    (cur : Array Value) (t : TypeId) (hg : Bk w g t cur) (hc : U8s cur n fun _ => 0)
    (h : ∀ w' ds, Bk w' g t ds → U8s ds n (fun i => l.getD i 0) → Gw g w w' → wpList P ops Q rest (a.put o.dst (goInt ((min n l.length : Nat) : Int))) w') : wpList P ops Q (o :: rest) a w := by
  obtain ⟨A, c, rfl, h1, h2, h3⟩ := hv
  have hl : (bytesV (l.take n)).length = min n l.length := by simp [bytesV]
  by_cases h0 : min n l.length = 0
  · refine wpList_copy_nothing hgd d s dT sT ho elem hu hsz _ A n dCap l.length c hd hs (by show min l.length n = 0; omega) ?_
    have := h w cur hg (hc.eqv fun i hi => by rw [List.getD_eq_getElem?_getD, List.getElem?_eq_none (by omega)]; rfl) (Gw.refl g w)
    rw [h0] at this
    exact this
  · obtain ⟨b, off, rfl, hb, hcell⟩ := h3 (by intro e; subst e; simp at h0)
    refine wpList_copy_own hgd d s dT sT ho elem hu hsz g 0 n dCap ⟨b, off, none⟩ l.length c hd hs cur t hg (bytesV (l.take n)) (by rw [hl]; show _ = min l.length n; omega) ?_ (by have := hc.1; omega) (bytesV_ones _) ?_
    · intro j u hj
      have hadd : (⟨b, off, none⟩ : Addr).add j = ⟨b, off + j, none⟩ := by unfold Addr.add; split <;> simp_all
      have hjl : j < l.length ∧ j < n := by
        have := (List.getElem?_eq_some_iff.1 hj).1; omega
      rw [hadd, hcell j hjl.1]
      unfold bytesV at hj
      rw [List.getElem?_map, List.getElem?_take_of_lt hjl.2, List.getElem?_eq_getElem hjl.1] at hj
      rw [List.getD_eq_getElem?_getD, List.getElem?_eq_getElem hjl.1, ← hj]; rfl
    · have := h _ _ (hg.row _) (copied cur n l hc) ((Gw.refl g w).row _)
      rw [← hl] at this
      exact this
theorem Bs.cut {w : World} {B : Nat} {A : Option Addr} {c : Nat} {l : List UInt8} (h : Bs w B (.slice A l.length c) l) (k : Nat) (hk : k ≤ l.length) :
    Bs w B (.slice (if c = k then A else Option.map (fun x => ⟨x.block, x.off + k, none⟩) A) (l.length - k) (c - k)) (l.drop k) := by
  obtain ⟨A', c', hv, h1, h2, h3⟩ := h
  injection hv with e1 e2 e3
  subst e1; subst e3
  refine ⟨_, _, by rw [List.length_drop], by rw [List.length_drop]; omega, by omega, fun hn => ?_⟩
  have hlt : k < l.length := by
    rcases Nat.lt_or_ge k l.length with h | h
    · exact h
    · exact absurd (List.drop_eq_nil_of_le h) hn
  obtain ⟨b, off, rfl, hb, hc⟩ := h3 (by intro e; subst e; simp at hlt)
  refine ⟨b, off + k, ?_, hb, fun j hj => ?_⟩
  · rw [if_neg (by omega)]; rfl
  · rw [List.length_drop] at hj
    rw [Nat.add_assoc, hc (k + j) (by omega), List.getD_eq_getElem?_getD, List.getD_eq_getElem?_getD, List.getElem?_drop]
/-- A chain behind the whole blocks of bytes. -/
def blksL (h : Nat → UInt32) : Nat → List UInt8 → (Nat → UInt32)
  | 0, _ => h
  | k + 1, l => blksL (blk h (fun i => l.getD i 0)) k (l.drop 64)
def slLen : Value → Nat
  | .slice _ n _ => n
  | _ => 0
theorem zeros8' {cs : Array Value} {n : Nat} (h : cs = Array.replicate n (.int .u8 0)) : U8s cs n fun _ => 0 := by subst h; exact ⟨by simp, fun i hi => by simp [hi]; rfl⟩
theorem zeros8 (n : Nat) : U8s (Array.replicate n (.int .u8 0)) n fun _ => 0 := ⟨by simp, fun i hi => by simp [hi]; rfl⟩
theorem Tab.bs {w w' : World} {g : Nat} (h : Tab w) (hb : Gw g w w') (hg : w.heap.size ≤ g) : Tab w' := h.gw hb (by have := h.pos; omega)
set_option maxRecDepth 100000 in
set_option maxHeartbeats 1600000 in
theorem takeBlocks_any (cs : Array Value) (h : Nat → UInt32) (hc : U32s cs 8 h) (v : Value) (l : List UInt8) (w : World) (hv : Bs w w.heap.size v l) (ht : Tab w) :
    Calls Tryd.prog 28 #[.agg cs, v] w fun e w' => ∃ ds, e = .returned (.agg ds) ∧ U32s ds 8 (blksL h (l.length / 64) l) ∧ Ab w w' := by
  go_enter Tryd.func28, Tryd.ntmps28
  go_wp2
  go_loopw [1] (fun x wr => ∃ (l' : List UInt8) (hh : Nat → UInt32) (cs' : Array Value), Bs wr w.heap.size x l' ∧ Bk wr w.heap.size 68 cs' ∧ U32s cs' 8 hh ∧ blksL hh (l'.length / 64) l' = blksL h (l.length / 64) l ∧
      (∃ es, Bk wr (w.heap.size + 1) 68 es ∧ es.size = 8) ∧ Ab w wr ∧ Tab wr) (fun x _ => slLen x)
  case atStart =>
    have a1 : Ab w ((w.alloc (.cells cs 68)).alloc (.cells #[.int .u32 0, .int .u32 0, .int .u32 0, .int .u32 0, .int .u32 0, .int .u32 0, .int .u32 0, .int .u32 0] 68)) := ((Ab.refl w).alloc _).alloc _
    exact ⟨l, h, cs, hv.ab a1 (Nat.le_refl _), (Bk.made _ _ _).alloc _, hc, rfl, ⟨_, Bk.new (by simp), rfl⟩, a1, ht.ab a1⟩
  case round =>
    obtain ⟨l', hh, cs', hv', hk, hu, he, ⟨es, hes, hsz⟩, hab, htb⟩ := hrel
    have hpos := ht.pos
    clear hv ht hc
    have HE := Lib.hid he
    clear he
    have hlen := hv'.len
    obtain ⟨A, c, rfl, r1, r2, r3⟩ := id hv'
    clear r3
    by_cases h64 : 64 ≤ l'.length
    · have hstep : ∀ (o : Obj) (w2 : World), Gw wr.heap.size (wr.alloc o) w2 → Bs w2 w.heap.size (.slice A l'.length c) l' ∧ Bk w2 w.heap.size 68 cs' ∧ Bk w2 (w.heap.size + 1) 68 es ∧ Ab w w2 ∧ Tab w2 := by
        intro o w2 hg
        have hsz0 := hab.size
        have hkl := hk.lt
        have hel := hes.lt
        have hg2 : Gw wr.heap.size wr w2 := (Gw.of_ab ((Ab.refl wr).alloc _) _).trans hg
        exact ⟨hv'.gw hg2 (by omega) (by omega), hg2.bk hk (by omega), hg2.bk hes (by omega), hg2.ab hab (by omega), htb.bs hg2 (Nat.le_refl _)⟩
      have hv1 : ∀ o : Obj, Bs (wr.alloc o) w.heap.size (.slice A l'.length c) l' := fun o => hv'.ab ((Ab.refl wr).alloc o) hab.size
      have HV1 := Lib.hid hv1
      clear hv1
      clear hab hk hes htb hv'
      have HSt := Lib.hid hstep
      clear hstep
      go_wp2_with (first | (with_reducible refine wpList_copy_bs rfl (.tmp 9) (.tmp 10) _ _ rfl 5 Tryd.underlying22 (by kernel_rfl) wr.heap.size 64 64 rfl _ rfl l' w.heap.size (HV1.out _) _ 84 (Bk.made _ _ _) (zeros8' (by kernel_rfl)) ?_; intro w2 ds hd hds hg; obtain ⟨hv2, hk2, hes2, hab2, htb2⟩ := HSt.out _ w2 hg; clear hg) | (refine wpList_load_row rfl 68 _ rfl w.heap.size rfl 68 cs' (0, 0) _ hk2 Tryd.underlying68 rfl (by rw [hu.1]; kernel_rfl) ?_) | (refine wpList_load_row rfl 84 _ rfl wr.heap.size rfl 84 ds (0, 0) _ hd Tryd.underlying84 rfl (by rw [hds.1]; kernel_rfl) ?_))
      refine (takeBlock_any cs' ds hh _ hu hds _ htb2).mono ?_
      rintro e w3 ⟨ds3, rfl, hu3, hb3⟩
      have hk3 := hb3.bk hk2
      have hes3 := hb3.bk hes2
      have hab3 := hab2.trans hb3
      have htb3 := htb2.ab hb3
      have hv3 := hv2.ab hb3 (by have := hab2.size; omega)
      clear hb3 hk2 hes2 hab2 htb2 hv2
      go_wp2_with (first | (refine wpList_store_row rfl rfl 68 _ _ rfl w.heap.size rfl ds3 cs' rfl 68 hk3 (by rw [hu.1, hu3.1]) (by rw [hu3.1]; kernel_rfl) hu3.ones ?_; intro w4 hw4))
      have hg4 : Gw w.heap.size w3 w4 := by rw [← hw4]; exact (Gw.refl _ w3).row _
      have hk4 : Bk w4 w.heap.size 68 ds3 := by rw [← hw4]; exact hk3.row _
      have hes4 := hg4.bk hes3 (by omega)
      have hab4 := hg4.ab hab3 (Nat.le_refl _)
      have htb4 : Tab w4 := htb3.gw hg4 (by omega)
      have hv4 : Bs w4 w.heap.size (.slice A l'.length c) l' := hv3.keep fun b o hb => hg4.cells b o (by have := hab3.size; omega) (by omega)
      have hv5 := hv4.cut 64 h64
      have hn : l'.length / 64 = (l'.drop 64).length / 64 + 1 := by rw [List.length_drop]; omega
      have hE := HE.out
      rw [hn] at hE
      clear hk3 hes3 hab3 htb3 hv3 hg4 hw4 hv4 hn HE
      have HE5 := Lib.hid (show blksL (blk hh fun i => l'.getD i 0) ((l'.drop 64).length / 64) (l'.drop 64) = _ from hE)
      clear hE
      go_wp2
      go_roundw
      case rel => exact ⟨_, _, ds3, hv5, hk4, hu3, HE5.out, ⟨es, hes4, hsz⟩, hab4, htb4⟩
      case measure => simp [slLen]; omega
    · have hE := HE.out
      rw [show l'.length / 64 = 0 by omega] at hE
      clear HE
      have HE5 := Lib.hid (show hh = _ from hE)
      clear hE
      go_wp2_with (first | (refine wpList_load_row rfl 68 _ rfl w.heap.size rfl 68 cs' (0, 0) _ hk Tryd.underlying68 rfl (by rw [hu.1]; kernel_rfl) ?_) | (refine wpList_store_row rfl rfl 68 _ _ rfl (w.heap.size + 1) rfl cs' es rfl 68 hes (by rw [hu.1, hsz]) (by rw [hu.1]; kernel_rfl) hu.ones ?_; rintro wf rfl))
      refine bodyPost_ret (results_cell_row (P := Tryd.prog) Tryd.results28 _ _ (w.heap.size + 1) 68 _ (0, 0) _ rfl (hes.row _) Tryd.underlying68 rfl (by rw [hu.1]; kernel_rfl)) rfl ⟨_, rfl, by rw [← HE5.out]; exact hu, hab.row (by omega) _⟩
end Go.Proofs.YtpikhfgpdebomaaDoor.Dg

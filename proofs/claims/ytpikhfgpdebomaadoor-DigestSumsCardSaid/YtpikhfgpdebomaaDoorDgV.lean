/- sha; Engine.Sha. -/
import Derived.Test.YtpikhfgpdebomaaDoorDgU
import Derived.Deep.RegionWith
import Derived.Deep.DeepCutAuto
namespace Go.Proofs.YtpikhfgpdebomaaDoor.Dg
open Go.RowKit
/-- A chain written out. -/
def lit8 (h : Nat → UInt32) : Array Value := #[.int .u32 (n32 (h 0)), .int .u32 (n32 (h 1)), .int .u32 (n32 (h 2)), .int .u32 (n32 (h 3)), .int .u32 (n32 (h 4)), .int .u32 (n32 (h 5)), .int .u32 (n32 (h 6)), .int .u32 (n32 (h 7))]
theorem lit8_u (h : Nat → UInt32) : U32s (lit8 h) 8 h := by
  refine ⟨rfl, fun i hi => ?_⟩
  have : i = 0 ∨ i = 1 ∨ i = 2 ∨ i = 3 ∨ i = 4 ∨ i = 5 ∨ i = 6 ∨ i = 7 := by omega
  rcases this with rfl | rfl | rfl | rfl | rfl | rfl | rfl | rfl <;> rfl
theorem U32s.lit {cs : Array Value} {h : Nat → UInt32} (hc : U32s cs 8 h) : cs = lit8 h := by
  apply Array.ext_getElem?
  intro i
  by_cases hi : i < 8
  · rw [hc.2 i hi, (lit8_u h).2 i hi]
  · rw [Array.getElem?_eq_none (by have := hc.1; omega), Array.getElem?_eq_none (by show 8 ≤ i; omega)]
/-- Eight stores, one behind the other. -/
def st8 (w : World) (g : Nat) (k : Nat → UInt32) : World :=
  (((((((w.setCell ⟨g, 0, none⟩ (.int .u32 (n32 (k 0)))).setCell ⟨g, 1, none⟩ (.int .u32 (n32 (k 1)))).setCell ⟨g, 2, none⟩ (.int .u32 (n32 (k 2)))).setCell ⟨g, 3, none⟩ (.int .u32 (n32 (k 3)))).setCell ⟨g, 4, none⟩ (.int .u32 (n32 (k 4)))).setCell ⟨g, 5, none⟩ (.int .u32 (n32 (k 5)))).setCell ⟨g, 6, none⟩ (.int .u32 (n32 (k 6)))).setCell ⟨g, 7, none⟩ (.int .u32 (n32 (k 7)))
def put8 (cs : Array Value) (k : Nat → UInt32) : Nat → Array Value
  | 0 => cs
  | i + 1 => (put8 cs k i).setIfInBounds i (.int .u32 (n32 (k i)))
theorem put8_size (cs : Array Value) (k : Nat → UInt32) : ∀ n, (put8 cs k n).size = cs.size
  | 0 => rfl
  | n + 1 => by rw [put8, Array.size_setIfInBounds, put8_size cs k n]
theorem put8_at (cs : Array Value) (k : Nat → UInt32) : ∀ n i, i < n → n ≤ cs.size → (put8 cs k n)[i]? = some (.int .u32 (n32 (k i)))
  | n + 1, i, hi, hn => by
    rw [put8]
    by_cases h : i = n
    · subst h; exact set_eq (by rw [put8_size]; omega)
    · exact set_ne (by omega) (put8_at cs k n i (by omega) (by omega))
theorem stored8 {w : World} {g : Nat} {t : TypeId} {cs : Array Value} (k : Nat → UInt32) (h : Bk w g t cs) (hs : cs.size = 8) : Bk (st8 w g k) g t (lit8 k) := by
  have h0 := h.store 0 (.int .u32 (n32 (k 0)))
  have h1 := h0.store 1 (.int .u32 (n32 (k 1)))
  have h2 := h1.store 2 (.int .u32 (n32 (k 2)))
  have h3 := h2.store 3 (.int .u32 (n32 (k 3)))
  have h4 := h3.store 4 (.int .u32 (n32 (k 4)))
  have h5 := h4.store 5 (.int .u32 (n32 (k 5)))
  have h6 := h5.store 6 (.int .u32 (n32 (k 6)))
  have h7 : Bk (st8 w g k) g t (put8 cs k 8) := h6.store 7 (.int .u32 (n32 (k 7)))
  have e : put8 cs k 8 = lit8 k := U32s.lit ⟨by rw [put8_size]; exact hs, fun i hi => put8_at cs k 8 i hi (by omega)⟩
  rw [← e]
  exact h7
theorem stored8_ab {w0 w : World} (h : Ab w0 w) {g : Nat} (hg : w0.heap.size ≤ g) (k : Nat → UInt32) : Ab w0 (st8 w g k) := by
  unfold st8
  repeat (refine Ab.set ?_ (show w0.heap.size ≤ g from hg) _)
  exact h
theorem firstChain_l (w : World) : Calls Tryd.prog 29 #[] w fun e w' => e = .returned (.agg #[.int .u32 (n32 (h0 0)), .int .u32 (n32 (h0 1)), .int .u32 (n32 (h0 2)), .int .u32 (n32 (h0 3)), .int .u32 (n32 (h0 4)), .int .u32 (n32 (h0 5)), .int .u32 (n32 (h0 6)), .int .u32 (n32 (h0 7))]) ∧ Ab w w' :=
  (firstChain_any w).mono fun e w' ⟨ds, he, hu, hb⟩ => ⟨by rw [he, hu.lit]; rfl, hb⟩
theorem takeBlocks_l (h : Nat → UInt32) (v : Value) (l : List UInt8) (w : World) (hv : Bs w w.heap.size v l) (ht : Tab w) :
    Calls Tryd.prog 28 #[.agg #[.int .u32 (n32 (h 0)), .int .u32 (n32 (h 1)), .int .u32 (n32 (h 2)), .int .u32 (n32 (h 3)), .int .u32 (n32 (h 4)), .int .u32 (n32 (h 5)), .int .u32 (n32 (h 6)), .int .u32 (n32 (h 7))], v] w
      fun e w' => ∃ k : Nat → UInt32, k = blksL h (l.length / 64) l ∧ e = .returned (.agg #[.int .u32 (n32 (k 0)), .int .u32 (n32 (k 1)), .int .u32 (n32 (k 2)), .int .u32 (n32 (k 3)), .int .u32 (n32 (k 4)), .int .u32 (n32 (k 5)), .int .u32 (n32 (k 6)), .int .u32 (n32 (k 7))]) ∧ Ab w w' :=
  (takeBlocks_any (lit8 h) h (lit8_u h) v l w hv ht).mono fun e w' ⟨ds, he, hu, hb⟩ => ⟨_, rfl, by rw [he, hu.lit]; rfl, hb⟩
/-- The bytes of SHA-256 as the program makes them. -/
def whole (l : List UInt8) : Nat := l.length / 64 * 64
def shaEnd (l : List UInt8) : List UInt8 := let r := l.drop (whole l); enL r (UInt64.ofNat l.length * 8) (if r.length < 56 then 64 else 128)
def shaH (l : List UInt8) : Nat → UInt32 := blksL (blksL h0 ((l.take (whole l)).length / 64) (l.take (whole l))) ((shaEnd l).length / 64) (shaEnd l)
theorem Bs.head {w : World} {B : Nat} {A : Option Addr} {c : Nat} {l : List UInt8} (h : Bs w B (.slice A l.length c) l) (k : Nat) (hk : k ≤ l.length) : Bs w B (.slice A k c) (l.take k) := by
  obtain ⟨A', c', hv, h1, h2, h3⟩ := h
  injection hv with e1 e2 e3
  subst e1; subst e3
  refine ⟨_, _, by rw [List.length_take, Nat.min_eq_left hk], by rw [List.length_take]; omega, h2, fun hn => ?_⟩
  obtain ⟨b, off, rfl, hb, hc⟩ := h3 (by intro e; subst e; simp at hn)
  refine ⟨b, off, rfl, hb, fun j hj => ?_⟩
  rw [List.length_take] at hj
  rw [hc j (by omega), List.getD_eq_getElem?_getD, List.getD_eq_getElem?_getD, List.getElem?_take_of_lt (by omega)]
theorem bs_of_row {w : World} {g n : Nat} {t : TypeId} {ds : Array Value} {f : Nat → UInt8} (hb : Bk w g t ds) (hu : U8s ds n f) (hn : n ≤ 9223372036854775807) : Bs w w.heap.size (.slice (some ⟨g, 0, none⟩) n n) ((List.range n).map f) := by
  refine ⟨_, n, by rw [List.length_map, List.length_range], by rw [List.length_map, List.length_range]; omega, hn, fun _ => ⟨g, 0, rfl, hb.lt, fun k hk => ?_⟩⟩
  rw [List.length_map, List.length_range] at hk
  rw [Nat.zero_add, hb.cell (hu.2 k hk), List.getD_eq_getElem?_getD, List.getElem?_map, List.getElem?_range hk]; rfl
theorem ending_l (v : Value) (l : List UInt8) (hl : l.length < 64) (size : Nat) (w : World) (hv : Bs w w.heap.size v l) :
    Calls Tryd.prog 31 #[v, .int .i64 size] w fun e w' => ∃ v', e = .returned v' ∧ Bs w' w'.heap.size v' (enL l (UInt64.ofNat size * 8) (if l.length < 56 then 64 else 128)) ∧ Ab w w' := by
  by_cases h : l.length < 56
  · rw [if_pos h]
    exact (ending_64 v l h size w hv).mono fun e w' ⟨ds, he, hb, hu, ha⟩ => ⟨_, he, bs_of_row hb hu (by omega), ha⟩
  · rw [if_neg h]
    exact (ending_128 v l (by omega) hl size w hv).mono fun e w' ⟨ds, he, hb, hu, ha⟩ => ⟨_, he, bs_of_row hb hu (by omega), ha⟩
theorem chainBytes_l (h : Nat → UInt32) (w : World) :
    Calls Tryd.prog 30 #[.agg #[.int .u32 (n32 (h 0)), .int .u32 (n32 (h 1)), .int .u32 (n32 (h 2)), .int .u32 (n32 (h 3)), .int .u32 (n32 (h 4)), .int .u32 (n32 (h 5)), .int .u32 (n32 (h 6)), .int .u32 (n32 (h 7))]] w
      fun e w' => ∃ ds, e = .returned (.agg ds) ∧ U8s ds 32 (cb h) ∧ Ab w w' := chainBytes_any (lit8 h) h (lit8_u h) w
/-- A row of 32 bytes that may be stored whole. -/
def Row32 (w : World) (g : Nat) (cs : Array Value) : Prop := (∃ es, Bk w g 30 es ∧ es.size = 32) ∧ cs.size = 32 ∧ Ones cs
theorem store32 (g : Nat) (cs : Array Value) (w : World) (h : Row32 w g cs) : (storeCells ⟨g, 0, none⟩ cs.toList).run Tryd.prog w = .ok () (w.setRow g cs) := by
  obtain ⟨⟨es, hb, hs⟩, hc, h1⟩ := h
  have hst := run_storeCells_at (P := Tryd.prog) g 0 30 cs.toList 0 es w hb (by simp; omega) h1
  have e : (es.toList.take (0 + 0) ++ cs.toList ++ es.toList.drop (0 + 0 + cs.toList.length)).toArray = cs := by
    rw [List.drop_eq_nil_of_le (by simp; omega)]; simp
  rw [e] at hst
  exact hst
theorem Bs.cut_add {w : World} {B : Nat} {A : Option Addr} {c : Nat} {l : List UInt8} (h : Bs w B (.slice A l.length c) l) (k : Nat) (hk : k ≤ l.length) :
    Bs w B (.slice (if c = k then A else Option.map (fun x => x.add k) A) (l.length - k) (c - k)) (l.drop k) := by
  have h2 := h.cut k hk
  obtain ⟨A', c', hv, h1, h3, h4⟩ := h2
  injection hv with e1 e2 e3
  refine ⟨_, _, by rw [List.length_drop], by rw [← e3] at h1; exact h1, by rw [← e3] at h3; exact h3, fun hn => ?_⟩
  obtain ⟨b, off, hA, hb, hc⟩ := h4 hn
  refine ⟨b, off, ?_, hb, hc⟩
  rw [← hA, ← e1]
  obtain ⟨A2, c2, hv2, _, _, g3⟩ := h
  injection hv2 with f1 f2 f3
  obtain ⟨b2, off2, hA2, _, _⟩ := g3 (by intro e; subst e; simp at hn)
  rw [f1, hA2]
  by_cases hck : c = k
  · rw [if_pos hck, if_pos hck]
  · rw [if_neg hck, if_neg hck]
    show some ((⟨b2, off2, none⟩ : Addr).add k) = some ⟨b2, off2 + k, none⟩
    unfold Addr.add; split
    · rename_i h0; subst h0; rfl
    · rfl
theorem endA {w1 w3 : World} {k K : Nat → UInt32} (hk : k = K) (q3 : Ab w1 w3) : ∃ g, Value.pointer (some ⟨w3.heap.size, 0, none⟩) = .pointer (some ⟨g, 0, none⟩) ∧ Bk (w3.alloc (.cells #[.int .u32 (n32 (k 0)), .int .u32 (n32 (k 1)), .int .u32 (n32 (k 2)), .int .u32 (n32 (k 3)), .int .u32 (n32 (k 4)), .int .u32 (n32 (k 5)), .int .u32 (n32 (k 6)), .int .u32 (n32 (k 7))] 68)) g 68 (lit8 K) ∧ Ab w1 (w3.alloc (.cells #[.int .u32 (n32 (k 0)), .int .u32 (n32 (k 1)), .int .u32 (n32 (k 2)), .int .u32 (n32 (k 3)), .int .u32 (n32 (k 4)), .int .u32 (n32 (k 5)), .int .u32 (n32 (k 6)), .int .u32 (n32 (k 7))] 68)) := by
  subst hk; exact ⟨_, rfl, Bk.made _ _ _, q3.alloc _⟩
theorem endB {w1 w3 : World} {k K : Nat → UInt32} (g : Nat) (hk : k = K) (q3 : Ab w1 w3) (hg : w1.heap.size ≤ g) {cs : Array Value} (hb : Bk w3 g 68 cs) (hs : cs.size = 8) :
    ∃ g', Value.pointer (some ⟨g, 0, none⟩) = .pointer (some ⟨g', 0, none⟩) ∧ Bk ((((((((w3.setCell ⟨g, 0, none⟩ (.int .u32 (n32 (k 0)))).setCell ⟨g, 1, none⟩ (.int .u32 (n32 (k 1)))).setCell ⟨g, 2, none⟩ (.int .u32 (n32 (k 2)))).setCell ⟨g, 3, none⟩ (.int .u32 (n32 (k 3)))).setCell ⟨g, 4, none⟩ (.int .u32 (n32 (k 4)))).setCell ⟨g, 5, none⟩ (.int .u32 (n32 (k 5)))).setCell ⟨g, 6, none⟩ (.int .u32 (n32 (k 6)))).setCell ⟨g, 7, none⟩ (.int .u32 (n32 (k 7)))) g' 68 (lit8 K) ∧ Ab w1 ((((((((w3.setCell ⟨g, 0, none⟩ (.int .u32 (n32 (k 0)))).setCell ⟨g, 1, none⟩ (.int .u32 (n32 (k 1)))).setCell ⟨g, 2, none⟩ (.int .u32 (n32 (k 2)))).setCell ⟨g, 3, none⟩ (.int .u32 (n32 (k 3)))).setCell ⟨g, 4, none⟩ (.int .u32 (n32 (k 4)))).setCell ⟨g, 5, none⟩ (.int .u32 (n32 (k 5)))).setCell ⟨g, 6, none⟩ (.int .u32 (n32 (k 6)))).setCell ⟨g, 7, none⟩ (.int .u32 (n32 (k 7)))) := by
  subst hk; exact ⟨g, rfl, stored8 k hb hs, stored8_ab q3 hg k⟩
theorem Bk.here {w : World} {t : TypeId} {cs : Array Value} : Bk (w.alloc (.cells cs t)) w.heap.size t cs := Bk.made w t cs
theorem Bk.here_drew {w : World} {t : TypeId} {cs : Array Value} : Bk (w.alloc (.cells cs t)).drew w.heap.size t cs := (Bk.made w t cs).drew
section
set_option maxRecDepth 100000 in
set_option maxHeartbeats 8000000 in
theorem sha_any (v : Value) (l : List UInt8) (w : World) (hv : Bs w w.heap.size v l) (ht : Tab w) :
    Calls Tryd.prog 18 #[v] w fun e w' => ∃ ds, e = .returned (.agg ds) ∧ U8s ds 32 (cb (shaH l)) ∧ Ab w w' := by
  have hl := hv.len
  obtain ⟨A, c, rfl, r1, r2, r3⟩ := id hv
  clear r3
  go_enter Tryd.func18, Tryd.ntmps18
  go_wp2
  obtain ⟨wh, hwh, hwl, hwm⟩ : ∃ wh : Nat, (l.length : Int) - (l.length : Int) % 64 = (wh : Int) ∧ wh ≤ l.length ∧ wh = whole l := ⟨whole l, by unfold whole; omega, by unfold whole; omega, rfl⟩
  rw [hwh]
  clear hwh
  have HW := Lib.hid hwm
  clear hwm
  have hz : Bk (w.alloc (.cells (Array.replicate 32 (.int .u8 0)) 30)) w.heap.size 30 (Array.replicate 32 (.int .u8 0)) := Bk.made _ _ _
  have ha : Ab w (w.alloc (.cells (Array.replicate 32 (.int .u8 0)) 30)) := (Ab.refl w).alloc _
  have hv1 := hv.ab ha (Nat.le_refl _)
  have ht1 := ht.ab ha
  clear hv ht
  have hrep : (Array.replicate 32 (.int .u8 0) : Array Value) = #[.int .u8 0, .int .u8 0, .int .u8 0, .int .u8 0, .int .u8 0, .int .u8 0, .int .u8 0, .int .u8 0, .int .u8 0, .int .u8 0, .int .u8 0, .int .u8 0, .int .u8 0, .int .u8 0, .int .u8 0, .int .u8 0, .int .u8 0, .int .u8 0, .int .u8 0, .int .u8 0, .int .u8 0, .int .u8 0, .int .u8 0, .int .u8 0, .int .u8 0, .int .u8 0, .int .u8 0, .int .u8 0, .int .u8 0, .int .u8 0, .int .u8 0, .int .u8 0] := rfl
  rw [← hrep]
  clear hrep
  generalize w.alloc (.cells (Array.replicate 32 (.int .u8 0)) 30) = w1 at *
  have hls := hv1.head wh hwl
  have hsz := ha.size
  have hbx : ∀ X : World, Ab w1 X → Bs X X.heap.size (.slice A wh c) (l.take wh) := fun X h => (hls.ab h hsz).more (Nat.le_trans hsz h.size)
  have HBX := Lib.hid hbx
  clear hbx
  have q1 : Ab w1 w1 := Ab.refl _
  go_cut [4] (fun p wx => ∃ g, p = .pointer (some ⟨g, 0, none⟩) ∧ Bk wx g 68 (lit8 (blksL h0 ((l.take wh).length / 64) (l.take wh))) ∧ Ab w1 wx)
  case first =>
    go_region_with (first | (go_at_call 29; refine (firstChain_l _).mono ?_; rintro e w2 ⟨rfl, hb2⟩; have q2 : Ab w1 w2 := Ab.trans (by repeat (first | exact Ab.refl _ | exact q2 | exact q1 | refine Ab.alloc ?_ _ | refine Ab.drew ?_)) hb2; have hc2 := Ab.cells hb2; have hf2 := Ab.frees hb2; have hs2 := Ab.size hb2; (try simp at hs2); have HB2 := Lib.hid (fun (g : Nat) (t : TypeId) (cs : Array Value) (h : Bk _ g t cs) => Ab.bk hb2 h); clear hb2) | (go_at_call 28; refine (takeBlocks_l h0 _ (l.take wh) _ (HBX.out _ (by repeat (first | exact Ab.refl _ | exact q2 | exact q1 | refine Ab.alloc ?_ _ | refine Ab.drew ?_))) (ht1.ab (by repeat (first | exact Ab.refl _ | exact q2 | exact q1 | refine Ab.alloc ?_ _ | refine Ab.drew ?_)))).mono ?_; rintro e w3 ⟨k1, hk1, rfl, hb3⟩; have HK1 := Lib.hid hk1; have q3 : Ab w1 w3 := Ab.trans (by repeat (first | exact Ab.refl _ | exact q2 | exact q1 | refine Ab.alloc ?_ _ | refine Ab.drew ?_)) hb3; have hc3 := Ab.cells hb3; have hf3 := Ab.frees hb3; have hs3 := Ab.size hb3; (try simp at hs3); have HB3 := Lib.hid (fun (g : Nat) (t : TypeId) (cs : Array Value) (h : Bk _ g t cs) => Ab.bk hb3 h); clear hk1 hb3; (try (have hl2 : w1.heap.size < w2.heap.size := by omega)); (try (have hl3 : w2.heap.size < w3.heap.size := by omega))))
    all_goals go_wp2_with fail
    all_goals go_meet
    all_goals first
      | (with_reducible exact endA HK1.out q3)
      | (refine endB w2.heap.size HK1.out q3 (by omega) (HB3.out _ _ #[.int .u32 0, .int .u32 0, .int .u32 0, .int .u32 0, .int .u32 0, .int .u32 0, .int .u32 0, .int .u32 0] ?_) rfl; first | exact Bk.here | exact Bk.here_drew)
      | (refine endB w1.heap.size HK1.out q3 (Nat.le_refl _) (HB3.out _ _ #[.int .u32 0, .int .u32 0, .int .u32 0, .int .u32 0, .int .u32 0, .int .u32 0, .int .u32 0, .int .u32 0] (HB2.out _ _ _ ?_)) rfl; first | exact Bk.here | exact Bk.here_drew)
  case rest =>
    obtain ⟨g, rfl, hbk, hq⟩ := hcut
    have hv2 := hv1.ab hq hsz
    have ht2 := ht1.ab hq
    have hz2 := hq.bk hz
    have ha2 := ha.trans hq
    have hszc := ha2.size
    have hrest := (hv2.cut_add wh hwl).more hszc
    have hK := Lib.hid (rfl : blksL h0 ((l.take wh).length / 64) (l.take wh) = blksL h0 ((l.take wh).length / 64) (l.take wh))
    clear hls HBX q1 hv1 ht1 hz ha hq hv2
    generalize hKe : blksL h0 ((l.take wh).length / 64) (l.take wh) = K at *
    clear hK
    have HK := Lib.hid hKe
    clear hKe
    have c0 := hbk.cell (i := 0) (v := .int .u32 (n32 (K 0))) rfl
    have c1 := hbk.cell (i := 1) (v := .int .u32 (n32 (K 1))) rfl
    have c2 := hbk.cell (i := 2) (v := .int .u32 (n32 (K 2))) rfl
    have c3 := hbk.cell (i := 3) (v := .int .u32 (n32 (K 3))) rfl
    have c4 := hbk.cell (i := 4) (v := .int .u32 (n32 (K 4))) rfl
    have c5 := hbk.cell (i := 5) (v := .int .u32 (n32 (K 5))) rfl
    have c6 := hbk.cell (i := 6) (v := .int .u32 (n32 (K 6))) rfl
    have c7 := hbk.cell (i := 7) (v := .int .u32 (n32 (K 7))) rfl
    have hgl := hbk.lt
    clear hbk
    have hrl : (l.drop wh).length < 64 := by rw [List.length_drop, HW.out]; unfold whole; omega
    by_cases hcw : c = wh
    · subst hcw
      have hbx : ∀ X : World, Ab wc X → Bs X X.heap.size (.slice A 0 0) (l.drop c) := fun X h => by
        have := (hrest.ab h (Nat.le_refl _)).more h.size
        rwa [if_pos rfl, Nat.sub_self, show l.length - c = 0 by omega] at this
      have HBX := Lib.hid hbx
      clear hbx hrest
      have q1 : Ab wc wc := Ab.refl _
      have HQ := Lib.hid (fun (X : World) (ds : Array Value) (f : Nat → UInt8) (hX : Ab wc X) (hu : U8s ds 32 f) => (⟨⟨_, hX.bk hz2, rfl⟩, hu.1, hu.ones⟩ : Row32 X w.heap.size ds))
      go_wp2_with fail
      go_region_with (first | (go_at_call 31; refine (ending_l _ (l.drop c) hrl l.length _ (HBX.out _ (by repeat (first | exact Ab.refl _ | refine Ab.alloc ?_ _ | refine Ab.drew ?_)))).mono ?_; rintro e w5 ⟨v5, rfl, hv5, hb5⟩; have q5 : Ab wc w5 := Ab.trans (by repeat (first | exact Ab.refl _ | refine Ab.alloc ?_ _ | refine Ab.drew ?_)) hb5; have d0 := (Ab.cells q5 g 0 hgl).trans c0; have d1 := (Ab.cells q5 g 1 hgl).trans c1; have d2 := (Ab.cells q5 g 2 hgl).trans c2; have d3 := (Ab.cells q5 g 3 hgl).trans c3; have d4 := (Ab.cells q5 g 4 hgl).trans c4; have d5 := (Ab.cells q5 g 5 hgl).trans c5; have d6 := (Ab.cells q5 g 6 hgl).trans c6; have d7 := (Ab.cells q5 g 7 hgl).trans c7; clear hb5) | (go_at_call 28; refine (takeBlocks_l K v5 _ _ hv5 (ht2.ab q5)).mono ?_; rintro e w6 ⟨k2, hk2, rfl, hb6⟩; have HK2 := Lib.hid hk2; have q6 : Ab wc w6 := Ab.trans q5 hb6; clear hk2 hb6) | (go_at_call 30; refine (chainBytes_l k2 _).mono ?_; rintro e w7 ⟨ds, rfl, hds, hb7⟩; have q7 : Ab wc w7 := Ab.trans q6 hb7; have hrow := store32 _ _ _ (HQ.out w7 ds _ q7 hds); have hd1 : ds.size = 32 := hds.1; clear hb7))
      all_goals go_wp2_with fail
      all_goals
        have e : k2 = shaH l := by rw [HK2.out, ← HK.out]; unfold shaH shaEnd; rw [← HW.out]
        refine bodyPost_ret (results_cell_row (P := Tryd.prog) Tryd.results18 _ _ w.heap.size 30 ds (0, 0) _ rfl ((q7.bk hz2).row ds) Tryd.underlying30 rfl (by rw [hd1]; kernel_rfl)) rfl ⟨ds, rfl, by rw [← e]; exact hds, (ha2.trans q7).row (Nat.le_refl _) ds⟩
    · skip
      have hbx : ∀ X : World, Ab wc X → Bs X X.heap.size (.slice (Option.map (fun x => x.add wh) A) (l.length - wh) (c - wh)) (l.drop wh) := fun X h => by
        have := (hrest.ab h (Nat.le_refl _)).more h.size
        rwa [if_neg hcw] at this
      have HBX := Lib.hid hbx
      clear hbx hrest
      have q1 : Ab wc wc := Ab.refl _
      have HQ := Lib.hid (fun (X : World) (ds : Array Value) (f : Nat → UInt8) (hX : Ab wc X) (hu : U8s ds 32 f) => (⟨⟨_, hX.bk hz2, rfl⟩, hu.1, hu.ones⟩ : Row32 X w.heap.size ds))
      go_wp2_with fail
      go_region_with (first | (go_at_call 31; refine (ending_l _ (l.drop wh) hrl l.length _ (HBX.out _ (by repeat (first | exact Ab.refl _ | refine Ab.alloc ?_ _ | refine Ab.drew ?_)))).mono ?_; rintro e w5 ⟨v5, rfl, hv5, hb5⟩; have q5 : Ab wc w5 := Ab.trans (by repeat (first | exact Ab.refl _ | refine Ab.alloc ?_ _ | refine Ab.drew ?_)) hb5; have d0 := (Ab.cells q5 g 0 hgl).trans c0; have d1 := (Ab.cells q5 g 1 hgl).trans c1; have d2 := (Ab.cells q5 g 2 hgl).trans c2; have d3 := (Ab.cells q5 g 3 hgl).trans c3; have d4 := (Ab.cells q5 g 4 hgl).trans c4; have d5 := (Ab.cells q5 g 5 hgl).trans c5; have d6 := (Ab.cells q5 g 6 hgl).trans c6; have d7 := (Ab.cells q5 g 7 hgl).trans c7; clear hb5) | (go_at_call 28; refine (takeBlocks_l K v5 _ _ hv5 (ht2.ab q5)).mono ?_; rintro e w6 ⟨k2, hk2, rfl, hb6⟩; have HK2 := Lib.hid hk2; have q6 : Ab wc w6 := Ab.trans q5 hb6; clear hk2 hb6) | (go_at_call 30; refine (chainBytes_l k2 _).mono ?_; rintro e w7 ⟨ds, rfl, hds, hb7⟩; have q7 : Ab wc w7 := Ab.trans q6 hb7; have hrow := store32 _ _ _ (HQ.out w7 ds _ q7 hds); have hd1 : ds.size = 32 := hds.1; clear hb7))
      all_goals go_wp2_with fail
      all_goals
        have e : k2 = shaH l := by rw [HK2.out, ← HK.out]; unfold shaH shaEnd; rw [← HW.out]
        refine bodyPost_ret (results_cell_row (P := Tryd.prog) Tryd.results18 _ _ w.heap.size 30 ds (0, 0) _ rfl ((q7.bk hz2).row ds) Tryd.underlying30 rfl (by rw [hd1]; kernel_rfl)) rfl ⟨ds, rfl, by rw [← e]; exact hds, (ha2.trans q7).row (Nat.le_refl _) ds⟩
end
end Go.Proofs.YtpikhfgpdebomaaDoor.Dg

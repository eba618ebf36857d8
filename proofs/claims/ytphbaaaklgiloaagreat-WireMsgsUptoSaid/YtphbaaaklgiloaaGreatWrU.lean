/- wire: the coder's small functions, reading. -/
import Derived.Test.YtphbaaaklgiloaaGreatWrT
import Derived.Deep.RegionHeld3
namespace Go.Proofs.YtphbaaaklgiloaaGreat.Dg
open Go.RowKit
variable {w w2 w' : World} {base cb B b o : Nat} {v : Value} {l m rest : List UInt8} {T : TypeId} {cs : Array Value} {s : Sch}
theorem rd_fin {v' : Value} (hb2 : Bk w2 b T cs) (hm : Mv (fun k => k = cb ∨ k = b) w w2) (hc : Cr w2 cb base v' rest) (hne : b ≠ cb) (hle : base ≤ b) (hs : s.sz = 1) (x : Value)
    (he : EncP (w2.setCell ⟨b, o, none⟩ x) (fun k => w.heap.size ≤ k ∧ k < w2.heap.size) s (fun k => (cs.setIfInBounds o x)[o + k]?) m) :
    RdPost s b o T cs m rest w cb base (.returned (.tuple #[])) (w2.setCell ⟨b, o, none⟩ x) := by
  refine ⟨rfl, v', _, hc.mv (S := (· = b)) (Mv.set (S := (· = b)) (p := ⟨b, o, none⟩) (Mv.refl _ w2) rfl x) (fun e => hne e.symm) (fun k e => by subst e; exact hle), hb2.store o x, by simp, fun k hk => ?_, hm.set (p := ⟨b, o, none⟩) (.inr rfl) x, ?_⟩
  · rw [hs] at hk
    rw [Array.getElem?_setIfInBounds]
    rw [if_neg (by omega)]
  · simpa using he
theorem at_set (x : Value) (ho : o < cs.size) : (cs.setIfInBounds o x)[o + 0]? = some x := by
  rw [Nat.add_zero, Array.getElem?_setIfInBounds_self_of_lt ho]
/-- The cell of a value of one cell. -/
theorem zc_cell (hz : ∀ k, k < s.sz → cs[o + k]? = (Zc s)[k]?) (hs : s.sz = 1) : ∃ y, cs[o]? = some y ∧ (Zc s)[0]? = some y ∧ o < cs.size := by
  have h := hz 0 (by omega)
  rw [Nat.add_zero] at h
  have hl := Zc_length s
  cases hc : (Zc s)[0]? with
  | none => rw [List.getElem?_eq_none_iff] at hc; omega
  | some y =>
    rw [hc] at h
    exact ⟨y, h, rfl, (Array.getElem?_eq_some_iff.1 h).1⟩
theorem numL_val (l : List UInt8) (h : l.length = 8) : l = numL (wrap64 (valL l : Int)) := by
  have hw : wrap64 (valL l : Int) = IntKind.i64.wrap (valL l : Int) := (IntWalk.i64_left _).symm
  rw [hw]
  have h1 := valL_lt l
  have h2 := lowL_valL l
  rw [h] at h1 h2
  have e : (IntKind.i64.wrap (valL l : Int) % 18446744073709551616).toNat = valL l := by
    rw [IntKind.wrap_i64]
    omega
  unfold numL
  rw [e]
  exact h2.symm
set_option maxRecDepth 100000 in
set_option maxHeartbeats 1000000 in
theorem number_rd : Rds 63 .num := by
  intro b o T cs m rest w cb base v hp hc hb hne hle hz hl
  obtain ⟨y, hy, -, ho⟩ := zc_cell hz rfl
  have h8 : m.length = 8 := hp
  have hr := hc.reads
  have HT := Lib.hid (take_pre m rest w hc)
  rw [h8] at HT
  have HB := Lib.hid (And.intro hb (And.intro hne (And.intro hle (And.intro ho hy))))
  have H8 := Lib.hid h8
  clear hc hb hne hle ho hz h8 hp hl hy
  go_enter Tryz.func63, Tryz.ntmps63
  go_wp2_with fail
  refine HT.out.mono ?_
  rintro e w2 ⟨u, v2, rfl, hu, hm, hsz, hc2⟩
  have HU := Lib.hid hu
  have hb2 := hm.bk HB.out.1 HB.out.2.1
  have H2 := Lib.hid (And.intro hm (And.intro hsz (And.intro hc2 hb2)))
  have hy2 := hb2.cell HB.out.2.2.2.2
  have hf2 := hb2.free o
  clear hm hsz hc2 hu hb2
  go_wp2_with fail
  refine (lowFirst_any w2 HU.out (by rw [H8.out]; omega)).mono ?_
  rintro e w3 ⟨rfl, rfl⟩
  go_wp2_with fail
  go_end0
  exact rd_fin H2.out.2.2.2 (H2.out.1.mono (fun _ _ e => .inl e)) H2.out.2.2.1 HB.out.2.1 HB.out.2.2.1 rfl _ ⟨_, at_set _ HB.out.2.2.2.1, numL_val m H8.out⟩
set_option maxRecDepth 100000 in
set_option maxHeartbeats 1000000 in
theorem errno_rd : Rds 78 .num := by
  intro b o T cs m rest w cb base v hp hc hb hne hle hz hl
  have HN := Lib.hid (number_rd b o T cs m rest w cb base v hp hc hb hne hle hz hl)
  clear hp hc hb hne hle hz hl
  go_enter Tryz.func78, Tryz.ntmps78
  go_wp2_with fail
  refine HN.out.mono ?_
  rintro e w2 ⟨rfl, h2⟩
  have H2 := Lib.hid h2
  clear h2
  go_wp2_with fail
  go_end0
  exact ⟨rfl, H2.out⟩
set_option maxRecDepth 100000 in
set_option maxHeartbeats 1000000 in
theorem word_rd : Rds 145 .word := by
  intro b o T cs m rest w cb base v hp hc hb hne hle hz hl
  obtain ⟨y, hy, -, ho⟩ := zc_cell hz rfl
  have h8 : m.length = 4 := hp
  have hr := hc.reads
  have HT := Lib.hid (take_pre m rest w hc)
  rw [h8] at HT
  have HB := Lib.hid (And.intro hb (And.intro hne (And.intro hle (And.intro ho hy))))
  have H8 := Lib.hid h8
  clear hc hb hne hle ho hz h8 hp hl hy
  go_enter Tryz.func145, Tryz.ntmps145
  go_wp2_with fail
  refine HT.out.mono ?_
  rintro e w2 ⟨u, v2, rfl, hu, hm, hsz, hc2⟩
  have HU := Lib.hid hu
  have hb2 := hm.bk HB.out.1 HB.out.2.1
  have H2 := Lib.hid (And.intro hm (And.intro hsz (And.intro hc2 hb2)))
  have hy2 := hb2.cell HB.out.2.2.2.2
  have hf2 := hb2.free o
  clear hm hsz hc2 hu hb2
  go_wp2_with fail
  refine (lowFirst_any w2 HU.out (by rw [H8.out]; omega)).mono ?_
  rintro e w3 ⟨rfl, rfl⟩
  have hv := valL_lt m
  rw [H8.out] at hv
  have hwr : IntKind.u32.wrap (valL m : Int) = (valL m : Int) := by rw [IntKind.wrap_u32]; omega
  have HV := Lib.hid hv
  clear hv
  go_wp2_with fail
  go_end0
  exact rd_fin H2.out.2.2.2 (H2.out.1.mono (fun _ _ e => .inl e)) H2.out.2.2.1 HB.out.2.1 HB.out.2.2.1 rfl _ ⟨valL m, by have := HV.out; omega, at_set _ HB.out.2.2.2.1, by have := lowL_valL m; rw [H8.out] at this; exact this.symm⟩
set_option maxRecDepth 100000 in
set_option maxHeartbeats 1000000 in
theorem truth_rd0 (hy : ∃ y, cs[o]? = some y) (hc : Cr w cb base v (0 :: rest)) (hb : Bk w b T cs) (hne : b ≠ cb) (hle : base ≤ b) :
    Calls Tryz.prog 144 #[.pointer (some ⟨cb, 0, none⟩), .pointer (some ⟨b, o, none⟩)] w (RdPost .bool b o T cs [0] rest w cb base) := by
  obtain ⟨y, hy⟩ := hy
  have ho : o < cs.size := (Array.getElem?_eq_some_iff.1 hy).1
  have hr := hc.reads
  have HT := Lib.hid (take_pre [0] rest w hc)
  have HB := Lib.hid (And.intro hb (And.intro hne (And.intro hle (And.intro ho hy))))
  clear hc hb hne hle ho hy
  go_enter Tryz.func144, Tryz.ntmps144
  go_wp2_with fail
  refine HT.out.mono ?_
  rintro e w2 ⟨u, v2, rfl, hu, hm, hsz, hc2⟩
  have hb2 := hm.bk HB.out.1 HB.out.2.1
  have H2 := Lib.hid (And.intro hm (And.intro hsz (And.intro hc2 hb2)))
  have hy2 := hb2.cell HB.out.2.2.2.2
  have hf2 := hb2.free o
  obtain ⟨A, c, hv, h1, h2, h3⟩ := hu
  obtain ⟨bb, off, rfl, -, hx⟩ := h3 (by simp)
  have hv' : u = .slice (some ⟨bb, off, none⟩) 1 c := hv
  subst hv'
  have hx1 : w2.cell? ⟨bb, off, none⟩ = some (.int .u8 0) := hx 0 (by simp)
  clear hv hm hsz hc2 hb2 hx h3
  go_wp2_with fail
  go_end0
  exact rd_fin H2.out.2.2.2 (H2.out.1.mono (fun _ _ e => .inl e)) H2.out.2.2.1 HB.out.2.1 HB.out.2.2.1 rfl _ ⟨false, at_set _ HB.out.2.2.2.1, rfl⟩
set_option maxRecDepth 100000 in
set_option maxHeartbeats 1000000 in
theorem truth_rd1 (hy : ∃ y, cs[o]? = some y) (hc : Cr w cb base v (1 :: rest)) (hb : Bk w b T cs) (hne : b ≠ cb) (hle : base ≤ b) :
    Calls Tryz.prog 144 #[.pointer (some ⟨cb, 0, none⟩), .pointer (some ⟨b, o, none⟩)] w (RdPost .bool b o T cs [1] rest w cb base) := by
  obtain ⟨y, hy⟩ := hy
  have ho : o < cs.size := (Array.getElem?_eq_some_iff.1 hy).1
  have hr := hc.reads
  have HT := Lib.hid (take_pre [1] rest w hc)
  have HB := Lib.hid (And.intro hb (And.intro hne (And.intro hle (And.intro ho hy))))
  clear hc hb hne hle ho hy
  go_enter Tryz.func144, Tryz.ntmps144
  go_wp2_with fail
  refine HT.out.mono ?_
  rintro e w2 ⟨u, v2, rfl, hu, hm, hsz, hc2⟩
  have hb2 := hm.bk HB.out.1 HB.out.2.1
  have H2 := Lib.hid (And.intro hm (And.intro hsz (And.intro hc2 hb2)))
  have hy2 := hb2.cell HB.out.2.2.2.2
  have hf2 := hb2.free o
  obtain ⟨A, c, hv, h1, h2, h3⟩ := hu
  obtain ⟨bb, off, rfl, -, hx⟩ := h3 (by simp)
  have hv' : u = .slice (some ⟨bb, off, none⟩) 1 c := hv
  subst hv'
  have hx1 : w2.cell? ⟨bb, off, none⟩ = some (.int .u8 1) := hx 0 (by simp)
  clear hv hm hsz hc2 hb2 hx h3
  go_wp2_with fail
  go_end0
  exact rd_fin H2.out.2.2.2 (H2.out.1.mono (fun _ _ e => .inl e)) H2.out.2.2.1 HB.out.2.1 HB.out.2.2.1 rfl _ ⟨true, at_set _ HB.out.2.2.2.1, rfl⟩
theorem truth_rd : Rds 144 .bool := by
  intro b o T cs m rest w cb base v hp hc hb hne hle hz hl
  obtain ⟨y, hy, -, ho⟩ := zc_cell hz rfl
  obtain ⟨t, rfl⟩ := id hp
  cases t
  · exact truth_rd0 ⟨y, hy⟩ hc hb hne hle
  · exact truth_rd1 ⟨y, hy⟩ hc hb hne hle
theorem Ob.bq (h : Ob w base v l) : Bq w (fun k => base ≤ k ∧ k < w.heap.size) v l := by
  obtain ⟨A, c, hv, h1, h2⟩ := h.len_cap
  refine ⟨A, c, hv, h1, by unfold maxLen at h2; exact h2, fun hn => ?_⟩
  obtain ⟨g, cap, hv2, hb, hlt, _, _, _, hc⟩ := h.form hn
  rw [hv] at hv2
  injection hv2 with ha _ _
  subst ha
  exact ⟨g, 0, rfl, ⟨hb, hlt⟩, fun k hk => by rw [Nat.zero_add]; exact hc k hk⟩
set_option maxRecDepth 100000 in
set_option maxHeartbeats 1000000 in
theorem text_rd : Rds 136 .text := by
  intro b o T cs m rest w cb base v hp hc hb hne hle hz hl
  obtain ⟨y, hy, -, ho⟩ := zc_cell hz rfl
  obtain ⟨l, rfl, hl4⟩ := id hp
  have hr := hc.reads
  rw [dataL, List.append_assoc] at hc
  have HT := Lib.hid (count_good l.length (l ++ rest) w hc hl4 (by rw [List.length_append]; omega))
  have HB := Lib.hid (And.intro hb (And.intro hne (And.intro hle (And.intro ho hy))))
  clear hc hb hne hle ho hz hp hl hy
  go_enter Tryz.func136, Tryz.ntmps136
  go_wp2_with fail
  refine HT.out.mono ?_
  rintro e w2 ⟨rfl, v2, hm, hsz, hc2⟩
  have HU := Lib.hid (take_pre l rest w2 hc2)
  have H2 := Lib.hid (And.intro hm (hm.bk HB.out.1 HB.out.2.1))
  clear hm hsz hc2
  go_wp2_with fail
  refine HU.out.mono ?_
  rintro e w3 ⟨u, v3, rfl, hu, hm, hsz, hc3⟩
  have hb3 := hm.bk H2.out.2 HB.out.2.1
  have H3 := Lib.hid (And.intro (H2.out.1.trans hm) (And.intro hc3 hb3))
  have hy3 := hb3.cell HB.out.2.2.2.2
  have hf3 := hb3.free o
  have hcv := conv_bs hu
  clear hm hsz hc3 hu hb3
  go_wp2_with fail
  go_end0
  exact rd_fin H3.out.2.2 (H3.out.1.mono (fun _ _ e => .inl e)) H3.out.2.1 HB.out.2.1 HB.out.2.2.1 rfl _ ⟨⟨l.toArray⟩, at_set _ HB.out.2.2.2.1, rfl⟩
set_option maxRecDepth 100000 in
set_option maxHeartbeats 1000000 in
theorem data_rd : Rds 143 .data := by
  intro b o T cs m rest w cb base v hp hc hb hne hle hz hl
  obtain ⟨y, hy, -, ho⟩ := zc_cell hz rfl
  obtain ⟨l, rfl, hl4⟩ := id hp
  have hr := hc.reads
  rw [dataL, List.append_assoc] at hc
  have HT := Lib.hid (count_good l.length (l ++ rest) w hc hl4 (by rw [List.length_append]; omega))
  have HB := Lib.hid (And.intro hb (And.intro hne (And.intro hle (And.intro ho hy))))
  clear hc hb hne hle ho hz hp hl hy
  go_enter Tryz.func143, Tryz.ntmps143
  go_wp2_with fail
  refine HT.out.mono ?_
  rintro e w2 ⟨rfl, v2, hm, hsz, hc2⟩
  have HU := Lib.hid (take_pre l rest w2 hc2)
  have H2 := Lib.hid (And.intro hm (And.intro (hm.bk HB.out.1 HB.out.2.1) hsz))
  have HL := Lib.hid hl4
  clear hm hsz hc2 hl4
  go_wp2_with fail
  refine HU.out.mono ?_
  rintro e w3 ⟨u, v3, rfl, hu, hm, hsz, hc3⟩
  have hb3 := hm.bk H2.out.2.1 HB.out.2.1
  have hz3 : w3.heap.size = w.heap.size := hsz.trans H2.out.2.2
  have H3 := Lib.hid (And.intro (H2.out.1.trans hm) (And.intro hc3 (And.intro hb3 hz3)))
  have HS := Lib.hid hu
  clear hm hsz hc3 hu hb3 hz3
  go_wp2_with (at_builtin; refine wpList_bytes rfl _ _ _ rfl _ _ rfl rfl w.heap.size [] l (Ob.nil _ _) (src_bs Tryz.underlying41 HS.out) (by have := HL.out; simp only [List.length_nil]; omega) (Nat.le_of_eq H3.out.2.2.2.symm) ?_)
  intro v4 w4 ho4 hg4 _
  obtain ⟨A4, c4, rfl, -, -⟩ := ho4.len_cap
  have hm4 : Mv (fun _ => False) w3 w4 := (Mv.refl _ _).grown hg4 (fun k e => by cases e)
  have hb4 := hm4.bk H3.out.2.2.1 (fun e => e)
  have hy4 := hb4.cell HB.out.2.2.2.2
  have hf4 := hb4.free o
  have H4 := Lib.hid (And.intro ho4 (And.intro hm4 hb4))
  clear ho4 hg4 hm4 hb4
  go_wp2_with fail
  go_end0
  refine rd_fin H4.out.2.2 ((H3.out.1.mono (fun _ _ e => .inl e)).trans (H4.out.2.1.mono (fun _ _ e => e.elim))) (H3.out.2.1.mv H4.out.2.1 (fun e => e) (fun _ e => e.elim)) HB.out.2.1 HB.out.2.2.1 rfl _ ⟨_, l, at_set _ HB.out.2.2.2.1, ?_, rfl⟩
  refine (Ob.bq H4.out.1).congr (F := fun k => w.heap.size ≤ k ∧ k < w4.heap.size) fun k hk => ⟨hk, fun o' => ?_⟩
  exact World.cell?_of_block (a := ⟨k, o', none⟩) (Below.heap_setCell w4 ⟨b, o, none⟩ _ k (by have := HB.out.1.lt; show k ≠ b; omega))
end Go.Proofs.YtphbaaaklgiloaaGreat.Dg

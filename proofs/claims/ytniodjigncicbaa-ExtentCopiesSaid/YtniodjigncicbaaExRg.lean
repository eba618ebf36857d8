/- The reference's object: Runs. -/
import Derived.Test.YtniodjigncicbaaExRd
import Derived.Test.YtniodjigncicbaaExD
import Derived.Test.YtniodjigncicbaaExI
namespace Go.Proofs.Ytniodjigncicbaa.Dg
open Go.RowKit
variable {w w' : World} {base b s : Nat} {v u vd vh : Value} {c : Cel} {l : List UInt8} {ps : List Pr} {R : List Rn}
attribute [local go_sem ↓] Go.wp_at_zero Go.wp_at_succ
theorem infoRRun : (Try.prog.info? 128).map (fun i => (i.zero, i.size, i.bytes)) = some (some (.agg #[.int .i64 0, .slice none 0 0]), 2, 32) := by kernel_rfl
theorem Og.setz {e : TypeId} {z g off n cap : Nat} {xs : List Value} (h : Og e z w base (.slice (some ⟨g, off, none⟩) n cap) n xs) (k : Nat) (hk : k < xs.length) (y : Value) :
    Og e z (w.setCell ⟨g, off + k, none⟩ y) base (.slice (some ⟨g, off, none⟩) n cap) n (xs.set k y) := by
  refine ⟨by rw [List.length_set]; exact h.1, ?_⟩
  rcases h.2 with ⟨hv, _⟩ | ⟨g', cap', pre, post, hv, hb, hg, hn, hs, hm⟩
  · cases hv
  · injection hv with ha hn' hc'
    injection ha with ha
    injection ha with ha hoff
    subst ha; subst hc'; subst hoff
    refine .inr ⟨g, cap, pre, post, rfl, hb, ?_, hn, hs, hm⟩
    have e : (pre ++ xs.set k y ++ post).toArray = (pre ++ xs ++ post).toArray.setIfInBounds (pre.length + k) y := by
      apply Array.ext'
      rw [Array.toList_setIfInBounds, List.append_assoc, List.append_assoc, List.set_append_right _ _ (by omega), Nat.add_sub_cancel_left, List.set_append_left _ _ (by omega)]
    rw [e]
    simp [World.setCell, Array.getElem?_modify, hg]
/-- The last one's bytes lie apart from the others'. -/
def Lst (ps : List Pr) : Prop := ∀ init p, ps = init ++ [p] → ∀ q ∈ init, ∀ j, q.val.ownBlock = some j → p.val.ownBlock ≠ some j
theorem Lst.nil : Lst [] := fun init p h => by simp at h
theorem Lst.snoc {init : List Pr} {p : Pr} (h : ∀ q ∈ init, ∀ j, q.val.ownBlock = some j → p.val.ownBlock ≠ some j) : Lst (init ++ [p]) := fun i2 p2 e => by
  obtain ⟨h1, h2⟩ := List.append_inj' e rfl
  injection h2 with h2 _
  subst h1
  subst h2
  exact h
theorem prV_set_last (init : List Pr) (p : Pr) (v' : Value) (l' : List UInt8) : prV (init ++ [⟨p.at_, v', l'⟩]) = (prV (init ++ [p])).set (init.length * 2 + 1) v' := by
  rw [prV_append, prV_append, List.set_append_right _ _ (by rw [prV_length]; omega), prV_length, show init.length * 2 + 1 - init.length * 2 = 1 by omega]
  rfl
theorem rl_last {T : TypeId} {W w2 : World} {g off cap n n0 : Nat} {init : List Pr} {p : Pr} {v' : Value} {x : UInt8} (hT : T ≠ 5) (h : Rl T w base (.slice (some ⟨g, off, none⟩) n cap) (init ++ [p])) (hl : Lst (init ++ [p])) (hW : Ab W w) (hB : W.heap.size ≤ base)
    (hab : Ab w w') (ho : Ob w2 base v' (p.bytes ++ [x])) (hg : w'.grownBy w2 p.val.ownBlock) (hn : v'.ownBlock = p.val.ownBlock ∨ v'.ownBlock = some n0) (hn0 : n0 = w'.heap.size) :
    Rl T (w2.setCell ⟨g, off + (init.length * 2 + 1), none⟩ v') base (.slice (some ⟨g, off, none⟩) n cap) (init ++ [⟨p.at_, v', p.bytes ++ [x]⟩]) ∧ Lst (init ++ [⟨p.at_, v', p.bytes ++ [x]⟩]) ∧ Ab W (w2.setCell ⟨g, off + (init.length * 2 + 1), none⟩ v') ∧
      w2.cell? ⟨g, off + (init.length * 2 + 1), none⟩ = some p.val ∧ w2.frozen? ⟨g, off + (init.length * 2 + 1), none⟩ = false := by
  subst hn0
  have hp : p ∈ init ++ [p] := by simp
  have hpu := h.own p hp
  have hrow := h.row
  have hlen : (init ++ [p]).length = init.length + 1 := by simp
  obtain ⟨hnl, -⟩ := h.get init.length (by omega)
  subst hnl
  have hgd : ∀ k, p.val.ownBlock = some k → g ≠ k := fun k hk e => by subst e; exact Ob.apart h hT hpu hk rfl
  have hm1 : Mv (fun k => p.val.ownBlock = some k) w' w2 := Mv.grown (Mv.refl _ w') hg (fun k hk => .inl hk)
  have hr2 : Og T 2 w2 base (.slice (some ⟨g, off, none⟩) (init ++ [p]).length cap) (init ++ [p]).length (prV (init ++ [p])) := (hrow.ab hab).mv hm1 (fun k hk e => by injection hk with hk; exact hgd k e hk)
  have hm2 : Mv (fun k => k = g) w2 (w2.setCell ⟨g, off + (init.length * 2 + 1), none⟩ v') := Mv.set (S := fun k => k = g) (Mv.refl _ _) (p := ⟨g, off + (init.length * 2 + 1), none⟩) rfl _
  have hpl : init.length * 2 + 1 < (prV (init ++ [p])).length := by rw [prV_length, hlen]; omega
  obtain ⟨_, _, _, hv3, hbg, _, _, _, hfz, hcl⟩ := hr2.form (by omega)
  injection hv3 with hv3 _ _
  injection hv3 with hv3
  injection hv3 with hv3 hv4 _
  subst hv3
  subst hv4
  have hgt := (prV_get (init ++ [p]) init.length (by omega)).2
  rw [List.getElem_append_right (Nat.le_refl _)] at hgt
  simp only [Nat.sub_self, List.getElem_cons_zero] at hgt
  have hbt : ∀ q l', Ob w2 base q l' → ∀ k, q.ownBlock = some k → ¬ k = g := fun q l' hq k hk e => by
    subst e
    obtain ⟨cs, hcs⟩ := hr2.block (k := k) rfl
    exact hT (hq.type hk hcs)
  refine ⟨⟨?_, fun q hq => ?_⟩, ?_, ?_, hcl _ _ hgt, hfz _⟩
  · have := hr2.setz _ hpl v'
    rw [← prV_set_last init p v' (p.bytes ++ [x])] at this
    have e2 : (init ++ [(⟨p.at_, v', p.bytes ++ [x]⟩ : Pr)]).length = (init ++ [p]).length := by simp
    rw [e2]
    exact this
  · rcases List.mem_append.1 hq with hq | hq
    · have h2 := hm1.ob ((h.own q (List.mem_append_left _ hq)).ab hab) (fun k hk => hl init p rfl q hq k hk)
      exact hm2.ob h2 (fun k hk => hbt _ _ h2 k hk)
    · rw [List.mem_singleton.1 hq]
      exact hm2.ob ho (fun k hk => hbt _ _ ho k hk)
  · refine Lst.snoc fun q hq j hj => ?_
    rcases hn with e | e
    · show v'.ownBlock ≠ some j
      rw [e]; exact hl init p rfl q hq j hj
    · show v'.ownBlock ≠ some j
      rw [e]
      have := ((h.own q (List.mem_append_left _ hq)).blk j hj).2
      have := hab.size
      intro e2
      injection e2 with e2
      omega
  · have h3 : Ab W w2 := grown_ab (hW.trans hab) hg (fun k hk => Nat.le_trans hB (hpu.blk k hk).1)
    exact hm2.ab h3 (fun k hk => by rw [hk]; exact Nat.le_trans hB hbg)
theorem u8_made {B : Nat} (w : World) (x : UInt8) (hb : B ≤ w.heap.size) : Ob (w.alloc (.cells #[u8v x] 5)) B (.slice (some ⟨w.heap.size, 0, none⟩) 1 1) [x] :=
  ⟨rfl, .inr ⟨w.heap.size, 1, #[u8v x], rfl, hb, heap_alloc_new w _, Nat.le_refl _, by unfold maxLen; omega, rfl, rfl⟩⟩
theorem clipR_le (R : List Rn) (k : Nat) : ∀ q ∈ clipR R k, q.1 + q.2.length ≤ k := fun q hq => by
  obtain ⟨r, _, hr⟩ := List.mem_filterMap.1 hq
  split at hr
  · injection hr with hr
    subst hr
    show r.1 + (r.2.take (k - r.1)).length ≤ k
    rw [List.length_take]; omega
  · cases hr
theorem src_pair2 {TS T : TypeId} (hk : Try.prog.underlying TS = some (.slice T)) (w : World) (n : Nat) (hn : w.heap.size = n) (t : TypeId) (p : Nat) (u : Value) (hu : u.oneCell' = true) :
    Src Try.prog 2 TS (.slice (some ⟨n, 0, none⟩) 1 1) 1 [.int .i64 (p : Int), u] (w.alloc (.cells #[.int .i64 (p : Int), u] t)) := by
  subst hn
  exact src_pair hk w t p u hu
def Nxt (R : List Rn) (k : Nat) (x : UInt8) : Prop := (∃ l a b, clipR R k = l ++ [(a, b)] ∧ a + b.length = k ∧ clipR R (k + 1) = l ++ [(a, b ++ [x])]) ∨ (clipR R (k + 1) = clipR R k ++ [(k, [x])] ∧ ∀ l a b, clipR R k = l ++ [(a, b)] → a + b.length ≠ k)
theorem clip_more {init : List Pr} {p : Pr} {k : Nat} {x : UInt8} (hrn : rnOf (init ++ [p]) = clipR R k) (h : Nxt R k x) (he : p.at_ + p.bytes.length = k) (v' : Value) : rnOf (init ++ [⟨p.at_, v', p.bytes ++ [x]⟩]) = clipR R (k + 1) := by
  rw [rnOf_append] at hrn ⊢
  rcases h with ⟨l, a, b, h1, _, h3⟩ | ⟨_, h2⟩
  · rw [h1] at hrn
    obtain ⟨e1, e2⟩ := List.append_inj' hrn rfl
    rw [h3, ← e1]
    injection e2 with e2 _
    injection e2 with e2 e3
    rw [← e2, ← e3]
    rfl
  · exact absurd he (h2 _ _ _ hrn.symm)
theorem clip_new {ps : List Pr} {k : Nat} {x : UInt8} (hrn : rnOf ps = clipR R k) (h : Nxt R k x) (he : ∀ init p, ps = init ++ [p] → p.at_ + p.bytes.length ≠ k) (v' : Value) : rnOf (ps ++ [⟨k, v', [x]⟩]) = clipR R (k + 1) := by
  rw [rnOf_append, hrn]
  rcases h with ⟨l, a, b, h1, h2, _⟩ | ⟨h3, _⟩
  · exfalso
    rcases List.eq_nil_or_concat ps with rfl | ⟨init, p, rfl⟩
    · rw [h1] at hrn
      exact absurd hrn.symm (by simp [rnOf])
    · rw [List.concat_eq_append, rnOf_append, h1] at hrn
      obtain ⟨_, e2⟩ := List.append_inj' hrn rfl
      injection e2 with e2 _
      injection e2 with e2 e3
      refine he init p (List.concat_eq_append) ?_
      rw [← h2, ← e2, ← e3]
  · rw [h3]; rfl
set_option maxRecDepth 100000 in
set_option maxHeartbeats 4000000 in
theorem rruns_any (w : World) (h : Rf w base b vd vh c s) (hR : Ris R) (hc : cellR R = c) (hf : ∀ q ∈ R, q.1 + q.2.length ≤ s) :
    Calls Try.prog 68 #[.pointer (some ⟨b, 0, none⟩)] w fun e w' => ∃ v ps, e = .returned v ∧ rnOf ps = R ∧ Rl 128 w' w.heap.size v ps ∧ Ab w w' := by
  obtain ⟨A, cp, rfl, -, -⟩ := h.dat.len_cap
  obtain ⟨A2, cp2, rfl, -, -⟩ := h.has.len_cap
  have hS : ∀ wx, Ab w wx → wx.cell? ⟨b, 0, none⟩ = some (.slice A s cp) ∧ wx.cell? ⟨b, 1, none⟩ = some (.slice A2 s cp2) := fun wx hx => ⟨(h.ab hx).blk.cell rfl, (h.ab hx).blk.cell rfl⟩
  have q0 := (hS w (Ab.refl w)).1
  have HE := Lib.hid h
  have hmax := h.max
  have HR := Lib.hid (And.intro hR (And.intro hc hf))
  clear h hR hf
  go_enter Try.func68, Try.ntmps68
  go_wp2_with fail
  go_loopw [3, 4, 5, 6, 12] (fun s3 _ _ _ i wr => ∃ k A3 n3 c3, k ≤ s ∧ i = .int .i64 ((k : Nat) : Int) ∧ s3 = .slice A3 n3 c3 ∧ Hid (∃ ps, rnOf ps = clipR R k ∧ Rl 128 wr w.heap.size (.slice A3 n3 c3) ps ∧ Lst ps ∧ Ab w wr)) (fun _ _ _ _ i _ => s - (intOf i).toNat)
  case atStart => exact ⟨0, none, 0, 0, Nat.zero_le _, rfl, rfl, Lib.hid ⟨[], by rw [clipR_zero]; rfl, Rl.nil _ _ _, Lst.nil, Ab.refl w⟩⟩
  case round =>
    obtain ⟨k, A3, n3, c3, hks, rfl, rfl, HI⟩ := hrel
    by_cases hlt : k < s
    · have i0 : (k : Int) < (s : Int) := by omega
      obtain ⟨ps, hrn, hrl, hls, hab⟩ := HI.out
      obtain ⟨g, o, cx, g2, o2, cx2, e1, e2, -, -, -, -, -, x1, x2⟩ := (HE.out.ab hab).slices (by omega)
      injection e1 with e1 _ e1c
      subst e1
      subst e1c
      injection e2 with e2 _ e2c
      subst e2
      subst e2c
      have y1 := x1 k hlt
      have y2 := x2 k hlt
      clear x1 x2
      have q1 := (hS wr hab).2
      have q0' := (hS wr hab).1
      have i1 : (0 : Int) ≤ (k : Int) := by omega
      have hk9 : (k : Int) < 4096 := by omega
      have HAB := Lib.hid (And.intro hab hab.size)
      have HLT := Lib.hid (show k + 1 ≤ s by omega)
      have hn1 : IntKind.i64.wrap ((k : Int) + 1) = ((k + 1 : Nat) : Int) := by rw [IntWalk.i64_in _ (by omega)]; omega
      cases hck : c k with
      | none =>
        have hcl := clipR_none R k HR.out.1 (by rw [HR.out.2.1]; exact hck)
        rw [hck] at y1 y2
        have H5 : Hid (∃ ps, rnOf ps = clipR R (k + 1) ∧ Rl 128 wr w.heap.size (.slice A3 n3 c3) ps ∧ Lst ps ∧ Ab w wr) := Lib.hid ⟨ps, by rw [hcl]; exact hrn, hrl, hls, hab⟩
        clear hcl hrn hrl hls hab hS
        go_wp2_with fail
        go_roundw
        case rel => exact ⟨k + 1, _, _, _, HLT.out, by go_num, rfl, H5⟩
        case measure => have := HLT.out; simp [intOf]; omega
      | some x =>
        rw [hck] at y2
        replace y1 : wr.cell? ⟨g, o + k, none⟩ = some (.int .u8 (n8 x)) := by rw [y1, hck]; rfl
        have hsome : Nxt R k x := clipR_some R k x HR.out.1 (by rw [HR.out.2.1]; exact hck)
        rcases List.eq_nil_or_concat ps with rfl | ⟨init, p, rfl⟩
        · obtain ⟨A0, c0, he0, hc0, hc0m⟩ := hrl.row.len_cap
          injection he0 with hA0 hn0 hc0'
          subst hA0
          subst hc0'
          have hn3 : n3 = 0 := hn0
          subst hn3
          have HP := Lib.hid (And.intro hrl hrn)
          have HN := Lib.hid (fun v' => clip_new hrn hsome (fun i2 p2 e => by simp at e) v')
          clear hn0 hc0 hc0m hrl hls hrn hsome
          go_wp2_with fail
          go_quiet (fail)
          go_wp2_with (at_builtin; go_loud (refine wpList_rl rfl _ _ rfl _ _ rfl rfl Try.underlying125 infoRRun (by decide) w.heap.size [] k (.slice (some ⟨wr.heap.size, 0, none⟩) 1 1) [x] (HP.out.1.ab ((((Ab.refl wr).drewN nq).alloc _).alloc _)) (src_pair2 Try.underlying125 ((wr.drewN nq).alloc (.cells #[u8v x] 5)) (wr.heap.size + 1) (World.size_alloc _ _) _ k _ rfl) ((u8_made (wr.drewN nq) x HAB.out.2).alloc _) (by simp) ((HAB.out.1.trans ((((Ab.refl wr).drewN nq).alloc _).alloc _)).size) ?_))
          intro A5 n5 c5 w5 hr5 hg5
          have H5 : Hid (∃ ps, rnOf ps = clipR R (k + 1) ∧ Rl 128 w5 w.heap.size (.slice A5 n5 c5) ps ∧ Lst ps ∧ Ab w w5) := Lib.hid ⟨_, HN.out _, hr5, Lst.snoc (fun q hq => by cases hq), Rl.grown (HAB.out.1.trans ((((Ab.refl wr).drewN nq).alloc _).alloc _)) (HP.out.1.ab ((((Ab.refl wr).drewN nq).alloc _).alloc _)) (Nat.le_refl _) hg5⟩
          clear hr5 hg5
          go_wp2_with fail
          go_roundw
          case rel => exact ⟨k + 1, _, _, _, HLT.out, by go_num, rfl, H5⟩
          case measure => have := HLT.out; simp [intOf]; omega
        · rw [List.concat_eq_append] at hrn hrl hls
          obtain ⟨hn3, gb, off, Au, cu, rfl, hbg, hgl, hnc, hcm, hu, hu1, hu2, k1, k2⟩ := hrl.get init.length (by simp)
          have hpe' : (init ++ [p])[init.length]'(by simp) = p := by simp
          rw [hpe'] at hu hu1 k1 k2
          obtain ⟨m, hm⟩ : ∃ m, init.length = m := ⟨_, rfl⟩
          have hn3' : n3 = m + 1 := by rw [hn3]; simp [hm]
          have hnc' : m + 1 ≤ 9223372036854775807 := by have := hnc; unfold maxLen at hcm; simp [hm] at this; omega
          subst hn3'
          rw [hm] at k1 k2
          have j1 : ((m + 1 : Nat) : Int) - 1 = (m : Int) := by omega
          have j2 : IntKind.i64.wrap (m : Int) = (m : Int) := IntWalk.i64_in _ (by omega)
          have j3 : (0 : Int) ≤ (m : Int) := by omega
          have j4 : (m : Int) < ((m + 1 : Nat) : Int) := by omega
          obtain ⟨pa, hpa⟩ : ∃ pa, p.at_ = pa := ⟨_, rfl⟩
          obtain ⟨pl, hpl⟩ : ∃ pl, p.bytes.length = pl := ⟨_, rfl⟩
          rw [hpa] at k1
          rw [hpl] at k2 hu hu1
          obtain ⟨pe, hpe⟩ : ∃ pe, pa + pl = pe := ⟨_, rfl⟩
          have HML := Lib.hid (show m + 1 ≤ 1000000000000 by
            have h1 : (rnOf (init ++ [p])).length = m + 1 := by rw [rnOf_length, List.length_append, hm]; rfl
            have h2 : (clipR R k).length ≤ R.length := by unfold clipR; exact List.length_filterMap_le _ _
            have h3 := ris_len R s HR.out.1 HR.out.2.2 0 (fun _ _ => Nat.zero_le _)
            rw [hrn] at h1
            omega)
          have HP := Lib.hid (And.intro hrl (And.intro hls (And.intro hrn (And.intro hm (And.intro hpa hpl)))))
          have HU := Lib.hid (And.intro hu (And.intro hu1 hu2))
          have hpe9 : pe ≤ 4096 := by
            have := clipR_le R k (pa, p.bytes) (by rw [← hrn, rnOf_append, ← hpa]; simp [rnOf])
            have : pa + p.bytes.length ≤ k := this
            omega
          have j5 : (pa : Int) + (pl : Int) = (pe : Int) := by omega
          have j6 : IntKind.i64.wrap (pe : Int) = (pe : Int) := IntWalk.i64_in _ (by omega)
          clear hrl hls hrn hm hpa hpl hu hu1 hu2 hn3 hpe' hnc hcm
          by_cases hek : pe = k
          · have HN := Lib.hid (fun v' => clip_more HP.out.2.2.1 hsome (by rw [HP.out.2.2.2.2.1, HP.out.2.2.2.2.2]; exact hpe.trans hek) v')
            have j7 : (pe : Int) = (k : Int) := by omega
            have hun : Ob wr w.heap.size (.slice Au pl cu) p.bytes := HU.out.1 ▸ HP.out.1.own p (by simp)
            have HUN := Lib.hid hun
            have HBE := Lib.hid (show p.bytes.length ≤ 4096 by rw [HP.out.2.2.2.2.2]; omega)
            clear hpe hsome hun
            go_wp2_with fail
            go_quiet (fail)
            have k2b : (wr.drewN nq).cell? ⟨gb, off + m * 2 + 1, none⟩ = some (.slice Au pl cu) := k2
            go_wp2_with (at_builtin; go_loud (refine wpList_bytes rfl _ _ _ rfl _ _ rfl rfl w.heap.size p.bytes [x] (HUN.out.ab (((Ab.refl wr).drewN nq).alloc _)) (src_elem Try.underlying30 (wr.drewN nq) (u8v x) rfl) (by have := HBE.out; simp; omega) ((HAB.out.1.trans (((Ab.refl wr).drewN nq).alloc _)).size) ?_))
            intro v5 w5 ho5 hg5 hn5
            obtain ⟨h1, h2, h3, y5, y6⟩ := rl_last (n0 := wr.heap.size + 1) (w' := (wr.drewN nq).alloc (.cells #[u8v x] 5)) (by decide) HP.out.1 HP.out.2.1 HAB.out.1 (Nat.le_refl _) (((Ab.refl wr).drewN nq).alloc _) ho5 (by rw [HU.out.1]; exact hg5) (by rw [HU.out.1]; exact hn5) (World.size_alloc _ _).symm
            rw [HP.out.2.2.2.1, ← Nat.add_assoc] at h1 h3 y5 y6
            obtain ⟨A5, c5, rfl, -, -⟩ := ho5.len_cap
            obtain ⟨n5, hn5'⟩ : ∃ n5, (p.bytes ++ [x]).length = n5 := ⟨_, rfl⟩
            rw [hn5'] at h1 h2 h3
            have hn5'' : p.bytes.length + 1 = n5 := by rw [← hn5']; simp
            obtain ⟨w6, hw6⟩ : ∃ w6, w5.setCell ⟨gb, off + m * 2 + 1, none⟩ (.slice A5 n5 c5) = w6 := ⟨_, rfl⟩
            rw [hw6] at h1 h3
            have H6 : Hid (∃ ps, rnOf ps = clipR R (k + 1) ∧ Rl 128 w6 w.heap.size (.slice (some ⟨gb, off, none⟩) (m + 1) c3) ps ∧ Lst ps ∧ Ab w w6) := Lib.hid ⟨_, HN.out _, h1, h2, h3⟩
            clear h1 h2 h3 ho5 hg5 hn5 hn5'
            go_wp2_with fail
            go_roundw
            case rel => exact ⟨k + 1, _, _, _, HLT.out, by go_num, rfl, H6⟩
            case measure => have := HLT.out; simp [intOf]; omega
          · have j7 : ¬ (pe : Int) = (k : Int) := by omega
            have HN := Lib.hid (fun v' => clip_new HP.out.2.2.1 hsome (fun i2 p2 e => by
              obtain ⟨_, h2⟩ := List.append_inj' e rfl
              injection h2 with h2 _
              rw [← h2, HP.out.2.2.2.2.1, HP.out.2.2.2.2.2]
              exact fun e => hek (hpe.symm.trans e)) v')
            clear hpe hsome
            go_wp2_with fail
            go_quiet (fail)
            go_wp2_with (at_builtin; go_loud (refine wpList_rl rfl _ _ rfl _ _ rfl rfl Try.underlying125 infoRRun (by decide) w.heap.size (init ++ [p]) k (.slice (some ⟨wr.heap.size, 0, none⟩) 1 1) [x] (HP.out.1.ab ((((Ab.refl wr).drewN nq).alloc _).alloc _)) (src_pair2 Try.underlying125 ((wr.drewN nq).alloc (.cells #[u8v x] 5)) (wr.heap.size + 1) (World.size_alloc _ _) _ k _ rfl) ((u8_made (wr.drewN nq) x HAB.out.2).alloc _) (by rw [List.length_append, HP.out.2.2.2.1]; exact HML.out) ((HAB.out.1.trans ((((Ab.refl wr).drewN nq).alloc _).alloc _)).size) ?_))
            intro A5 n5 c5 w5 hr5 hg5
            rw [show ∀ nw : Pr, init ++ [p, nw] = init ++ [p] ++ [nw] from fun _ => by simp] at hr5
            have H5 : Hid (∃ ps, rnOf ps = clipR R (k + 1) ∧ Rl 128 w5 w.heap.size (.slice A5 n5 c5) ps ∧ Lst ps ∧ Ab w w5) := Lib.hid ⟨_, HN.out _, hr5, Lst.snoc (fun q hq j hj => by
              have := ((HP.out.1.own q hq).blk j hj).2
              intro e
              have e' : some wr.heap.size = some j := e
              injection e' with e'
              omega), Rl.grown (HAB.out.1.trans ((((Ab.refl wr).drewN nq).alloc _).alloc _)) (HP.out.1.ab ((((Ab.refl wr).drewN nq).alloc _).alloc _)) (Nat.le_refl _) hg5⟩
            clear hr5 hg5
            go_wp2_with fail
            go_roundw
            case rel => exact ⟨k + 1, _, _, _, HLT.out, by go_num, rfl, H5⟩
            case measure => have := HLT.out; simp [intOf]; omega
    · have i0 : ¬ (k : Int) < (s : Int) := by omega
      have hks' : k = s := by omega
      subst hks'
      go_wp2_with fail
      go_ret
      obtain ⟨ps, hrn, hrl, hls, hab⟩ := HI.out
      exact ⟨_, rfl, ps, by rw [hrn, clipR_all R k (ris_ne HR.out.1) HR.out.2.2], hrl, hab⟩
end Go.Proofs.Ytniodjigncicbaa.Dg

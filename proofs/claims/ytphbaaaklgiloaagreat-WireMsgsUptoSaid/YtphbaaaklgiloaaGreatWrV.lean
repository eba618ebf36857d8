/- wire: what is read, field by field; numbers. -/
import Derived.Test.YtphbaaaklgiloaaGreatWrU
namespace Go.Proofs.YtphbaaaklgiloaaGreat.Dg
open Go.RowKit
variable {w w1 w2 w' : World} {base cb B b o : Nat} {v : Value} {l m rest : List UInt8} {T : TypeId} {cs : Array Value} {s : Sch}
/-- Fields, one behind the other. -/
def EncL (w : World) (F : Nat → Prop) : List Sch → (Nat → Option Value) → List (List UInt8) → Prop
  | [], _, ms => ms = []
  | s :: t, f, ms => ∃ m r, ms = m :: r ∧ EncP w F s f m ∧ EncL w F t (fun k => f (s.sz + k)) r
def szL : List Sch → Nat
  | [] => 0
  | s :: t => s.sz + szL t
theorem EncL.congr {F F' : Nat → Prop} (hw : ∀ b, F b → F' b ∧ ∀ o, w'.cell? ⟨b, o, none⟩ = w.cell? ⟨b, o, none⟩) : ∀ (fs : List Sch) (f f' : Nat → Option Value) (ms : List (List UInt8)), (∀ k, k < szL fs → f' k = f k) → EncL w F fs f ms → EncL w' F' fs f' ms
  | [], _, _, _, _, h => h
  | s :: t, f, f', ms, hf, h => by
    obtain ⟨m, r, rfl, h1, h2⟩ := h
    exact ⟨m, r, rfl, EncP.congr hw s f f' m (fun k hk => hf k (by simp only [szL]; omega)) h1, EncL.congr hw t _ _ r (fun k hk => hf (s.sz + k) (by simp only [szL]; omega)) h2⟩
theorem EncL.snoc {F : Nat → Prop} {s : Sch} {m : List UInt8} : ∀ (fs : List Sch) (f : Nat → Option Value) (ms : List (List UInt8)), EncL w F fs f ms → EncP w F s (fun k => f (szL fs + k)) m → EncL w F (fs ++ [s]) f (ms ++ [m])
  | [], f, ms, h, h1 => by
    obtain rfl : ms = [] := h
    refine ⟨m, [], rfl, ?_, rfl⟩
    simpa [szL] using h1
  | t :: fs, f, ms, h, h1 => by
    obtain ⟨m', r, rfl, h2, h3⟩ := h
    refine ⟨m', r ++ [m], rfl, h2, EncL.snoc fs _ r h3 ?_⟩
    simpa [szL, Nat.add_assoc] using h1
theorem szL_snoc (fs : List Sch) (s : Sch) : szL (fs ++ [s]) = szL fs + s.sz := by
  induction fs with
  | nil => simp [szL]
  | cons t fs ih => simp only [List.cons_append, szL, ih]; omega
def nest : List Sch → Sch
  | [] => .num
  | [s] => s
  | s :: t :: r => .pair s (nest (t :: r))
theorem nest_sz : ∀ (fs : List Sch), fs ≠ [] → (nest fs).sz = szL fs
  | [s], _ => by simp [nest, szL]
  | s :: t :: r, _ => by have := nest_sz (t :: r) (by simp); simp only [nest, Sch.sz, this]; rfl
theorem EncL.nest {F : Nat → Prop} : ∀ (fs : List Sch) (f : Nat → Option Value) (ms : List (List UInt8)), fs ≠ [] → EncL w F fs f ms → EncP w F (nest fs) f ms.flatten
  | [s], f, ms, _, h => by
    obtain ⟨m, r, rfl, h1, h2⟩ := h
    obtain rfl : r = [] := h2
    simpa [Dg.nest] using h1
  | s :: t :: r, f, ms, _, h => by
    obtain ⟨m, ms', rfl, h1, h2⟩ := h
    exact ⟨m, ms'.flatten, h1, EncL.nest (t :: r) _ ms' (by simp) h2, by simp⟩
/-- Some fields were read. -/
structure Rst (fs : List Sch) (ms : List (List UInt8)) (b o : Nat) (T : TypeId) (cs : Array Value) (rest : List UInt8) (w : World) (cb base : Nat) (w' : World) (v' : Value) (cs' : Array Value) : Prop where
  cr : Cr w' cb base v' rest
  bk : Bk w' b T cs'
  size : cs'.size = cs.size
  out : ∀ k, k < o ∨ o + szL fs ≤ k → cs'[k]? = cs[k]?
  mv : Mv (fun k => k = cb ∨ k = b) w w'
  enc : EncL w' (fun k => w.heap.size ≤ k ∧ k < w'.heap.size) fs (fun k => cs'[o + k]?) ms
theorem Rst.start (hc : Cr w cb base v rest) (hb : Bk w b T cs) : Rst [] [] b o T cs rest w cb base w v cs :=
  ⟨hc, hb, rfl, fun _ _ => rfl, Mv.refl _ _, rfl⟩
theorem Rst.ab {fs : List Sch} {ms : List (List UInt8)} {v' : Value} {cs' : Array Value} (h : Rst fs ms b o T cs rest w cb base w1 v' cs') (ha : Ab w1 w2) : Rst fs ms b o T cs rest w cb base w2 v' cs' :=
  ⟨h.cr.ab ha, ha.bk h.bk, h.size, h.out, h.mv.trans (Mv.of_ab ha), EncL.congr (fun k hk => ⟨⟨hk.1, Nat.lt_of_lt_of_le hk.2 ha.size⟩, fun o' => ha.cells k o' hk.2⟩) _ _ _ _ (fun _ _ => rfl) h.enc⟩
theorem Rst.step {fs : List Sch} {ms : List (List UInt8)} {v1 : Value} {cs1 : Array Value} {rest1 : List UInt8} {e : Ending} (h : Rst fs ms b o T cs rest1 w cb base w1 v1 cs1) (hcb : cb < w.heap.size) (hbw : b < w.heap.size) (hp : RdPost s b (o + szL fs) T cs1 m rest w1 cb base e w2) :
    e = .returned (.tuple #[]) ∧ ∃ v2 cs2, Rst (fs ++ [s]) (ms ++ [m]) b o T cs rest w cb base w2 v2 cs2 := by
  obtain ⟨he, v2, cs2, h1, h2, h3, h4, h5, h6⟩ := hp
  have hs1 := h.mv.size
  have hs2 := h5.size
  refine ⟨he, v2, cs2, h1, h2, h3.trans h.size, fun k hk => ?_, h.mv.trans h5, EncL.snoc fs _ ms ?_ ?_⟩
  · rw [szL_snoc] at hk
    rw [h4 k (by omega), h.out k (by omega)]
  · refine EncL.congr (fun k hk => ⟨⟨hk.1, by omega⟩, fun o' => World.cell?_of_block (a := ⟨k, o', none⟩) (h5.block k hk.2 (fun e => by omega))⟩) fs _ _ ms (fun k hk => ?_) h.enc
    exact h4 (o + k) (by omega)
  · refine EncP.congr (fun k hk => ⟨⟨by omega, hk.2⟩, fun _ => rfl⟩) s _ _ m (fun k _ => ?_) h6
    show cs2[o + (szL fs + k)]? = cs2[o + szL fs + k]?
    rw [Nat.add_assoc]
theorem Rst.done {fs : List Sch} {ms : List (List UInt8)} {v' : Value} {cs' : Array Value} (h : Rst fs ms b o T cs rest w cb base w' v' cs') (hne : fs ≠ []) (hm : m = ms.flatten) : RdPost (nest fs) b o T cs m rest w cb base (.returned (.tuple #[])) w' := by
  subst hm
  exact ⟨rfl, v', cs', h.cr, h.bk, h.size, fun k hk => h.out k (by rw [nest_sz fs hne] at hk; exact hk), h.mv, EncL.nest fs _ ms hne h.enc⟩
theorem Rst.zero {fs all : List Sch} {ms : List (List UInt8)} {v' : Value} {cs' : Array Value} (h : Rst fs ms b o T cs rest w cb base w' v' cs') (hz : ∀ k, k < szL all → cs[o + k]? = ((all.map Zc).flatten)[k]?) (s : Sch) (t : List Sch) (e : all = fs ++ s :: t) :
    ∀ k, k < s.sz → cs'[o + szL fs + k]? = (Zc s)[k]? := by
  intro k hk
  subst e
  have e1 : ∀ fs : List Sch, ((fs.map Zc).flatten).length = szL fs := by
    intro fs
    induction fs with
    | nil => rfl
    | cons a r ih => simp only [List.map_cons, List.flatten_cons, List.length_append, Zc_length, szL, ih]
  have e2 : ∀ (fs gs : List Sch), szL (fs ++ gs) = szL fs + szL gs := by
    intro fs gs
    induction fs with
    | nil => simp [szL]
    | cons a r ih => simp only [List.cons_append, szL, ih]; omega
  have hlen : szL fs + k < szL (fs ++ s :: t) := by rw [e2]; simp only [szL]; omega
  rw [h.out _ (by omega), Nat.add_assoc, hz _ hlen, List.map_append, List.flatten_append, List.getElem?_append_right (by rw [e1]; omega), e1, Nat.add_sub_cancel_left, List.map_cons, List.flatten_cons, List.getElem?_append_left (by rw [Zc_length]; exact hk)]
theorem Zc_nest : ∀ fs : List Sch, fs ≠ [] → Zc (nest fs) = (fs.map Zc).flatten
  | [s], _ => by simp [nest]
  | s :: t :: r, _ => by simp only [nest, Zc, Zc_nest (t :: r) (by simp), List.map_cons, List.flatten_cons]
set_option maxRecDepth 100000 in
set_option maxHeartbeats 2000000 in
/-- Numbers into cells that lie one behind the other. -/
theorem numbers_rd (n : Nat) (hn : n ≤ 100) (nb : Nat) (ps : List (Nat × Nat)) (hps : ps.length = n) (hpi : ∀ i, i < n → ps.getD i (0, 0) = (b, o + i)) (ms : List (List UInt8)) (hms : ms.length = n) (hm8 : ∀ x ∈ ms, x.length = 8)
    (w : World) (hk : Bk w nb 140 (ps.map ptrV).toArray) (hc : Cr w cb base v (ms.flatten ++ rest)) (hb : Bk w b T cs) (hne : b ≠ cb) (hle : base ≤ b) (hnb : nb ≠ b) (hnc : nb ≠ cb) (hz : ∀ i, i < n → cs[o + i]? = some (.int .i64 0)) :
    Calls Tryz.prog 65 #[.pointer (some ⟨cb, 0, none⟩), .slice (some ⟨nb, 0, none⟩) n n] w fun e w' => e = .returned (.tuple #[]) ∧ ∃ v' cs', Rst (List.replicate n .num) ms b o T cs rest w cb base w' v' cs' := by
  have hcb := hc.lt
  have hbw := hb.lt
  have HK := Lib.hid (And.intro hk (And.intro hnb hnc))
  have HP := Lib.hid (And.intro hps hpi)
  have HM := Lib.hid (And.intro hms hm8)
  have HB := Lib.hid (And.intro hne (And.intro hle (And.intro hcb hbw)))
  have HZ := Lib.hid hz
  have HS := Lib.hid (show ∃ v' cs', Rst (List.replicate 0 Sch.num) (ms.take 0) b o T cs ((ms.drop 0).flatten ++ rest) w cb base w v' cs' from ⟨_, _, Rst.start (o := o) hc hb⟩)
  clear hk hc hb hne hle hnb hnc hz hcb hbw hps hpi hms hm8
  go_enter Tryz.func65, Tryz.ntmps65
  go_wp2_with fail
  go_loopw [8] (fun i wr => ∃ j : Nat, j ≤ n ∧ i = .int .i64 (j : Int) ∧ Hid (∃ v' cs', Rst (List.replicate j Sch.num) (ms.take j) b o T cs ((ms.drop j).flatten ++ rest) w cb base wr v' cs')) (fun i _ => n - (intOf i).toNat)
  case atStart => exact ⟨0, Nat.zero_le _, rfl, HS⟩
  case round =>
    obtain ⟨j, hj, rfl, HR⟩ := hrel
    by_cases hlt2 : j < n
    · obtain ⟨v1, cs1, h1⟩ := HR.out
      have hsz : ∀ j, szL (List.replicate j Sch.num) = j := by
        intro j
        induction j with
        | zero => rfl
        | succ j ih => rw [List.replicate_succ, szL, ih]; simp only [Sch.sz]; omega
      have hblk : Bk wr nb 140 (ps.map ptrV).toArray := h1.mv.bk HK.out.1 (fun e => e.elim HK.out.2.2 HK.out.2.1)
      have hjp : j < ps.length := by rw [HP.out.1]; exact hlt2
      have hpj : wr.cell? ⟨nb, j, none⟩ = some (ptrV (b, o + j)) := by
        refine hblk.cell ?_
        have := HP.out.2 j hlt2
        rw [List.getD_eq_getElem?_getD, List.getElem?_eq_getElem hjp] at this
        rw [List.getElem?_toArray, List.getElem?_map, List.getElem?_eq_getElem hjp]
        exact congrArg (fun x => some (ptrV x)) this
      have hpj' : wr.cell? ⟨nb, j, none⟩ = some (.pointer (some ⟨b, o + j, none⟩)) := hpj
      have hjm : j < ms.length := by rw [HM.out.1]; exact hlt2
      have hdrop : ms.drop j = ms[j] :: ms.drop (j + 1) := List.drop_eq_getElem_cons hjm
      have hcr := h1.cr
      rw [hdrop, List.flatten_cons, List.append_assoc] at hcr
      have hout := h1.out (o + j) (by rw [hsz]; omega)
      have hzz : ∀ k, k < Sch.sz .num → cs1[o + j + k]? = (Zc .num)[k]? := fun k hk => by
        have : k = 0 := by simp only [Sch.sz] at hk; omega
        subst this
        rw [Nat.add_zero, hout, HZ.out j hlt2]; rfl
      have HN := Lib.hid (number_rd b (o + j) T cs1 ms[j] ((ms.drop (j + 1)).flatten ++ rest) wr cb base v1 (HM.out.2 _ (List.getElem_mem hjm)) hcr h1.bk HB.out.1 HB.out.2.1 hzz (by rw [HM.out.2 _ (List.getElem_mem hjm)]; omega))
      have hj0 : (0 : Int) ≤ (j : Int) := by omega
      have hj1 : (j : Int) < (n : Int) := by omega
      have HST := Lib.hid (fun e w4 (hx : RdPost .num b (o + j) T cs1 ms[j] ((ms.drop (j + 1)).flatten ++ rest) wr cb base e w4) => Rst.step (s := .num) h1 HB.out.2.2.1 HB.out.2.2.2 (by rw [hsz]; exact hx))
      have HT := Lib.hid (show ms.take (j + 1) = ms.take j ++ [ms[j]] from List.take_succ_eq_append_getElem hjm)
      clear hblk hpj hdrop hcr hout hsz
      go_wp2_with fail
      refine HN.out.mono ?_
      intro e w4 hx
      obtain ⟨rfl, h4⟩ := HST.out e w4 hx
      rw [← HT.out] at h4
      have H4 := Lib.hid h4
      clear h4 hx HST
      go_wp2_with fail
      go_roundw
      case rel => exact ⟨j + 1, by omega, by go_num, Lib.hid (by rw [List.replicate_succ']; exact H4.out)⟩
      case measure => simp [intOf]; omega
    · go_wp2_with fail
      go_end0
      have : j = n := by omega
      subst this
      refine ⟨rfl, ?_⟩
      have h := HR.out
      rw [List.take_of_length_le (by rw [HM.out.1]; exact Nat.le_refl _), List.drop_of_length_le (by rw [HM.out.1]; exact Nat.le_refl _), List.flatten_nil, List.nil_append] at h
      exact h
end Go.Proofs.YtphbaaaklgiloaaGreat.Dg

/- wire: what lies in memory, in blocks of a kind; which bytes are a shape's; a coder that reads, its first functions. -/
import Derived.Test.YtphbaaaklgiloaaGreatWrN
import Derived.Test.YtphbaaaklgiloaaGreatWrF
import Derived.Test.YtphbaaaklgiloaaGreatDkA
namespace Go.Proofs.YtphbaaaklgiloaaGreat.Dg
open Go.RowKit
variable {w w' w1 : World} {base cb B : Nat} {v : Value} {l : List UInt8} {F F' : Nat → Prop}
/-- Bytes in a block of F. -/
def Bq (w : World) (F : Nat → Prop) (v : Value) (l : List UInt8) : Prop :=
  ∃ A c, v = .slice A l.length c ∧ l.length ≤ c ∧ c ≤ 9223372036854775807 ∧ (l ≠ [] → ∃ b off, A = some ⟨b, off, none⟩ ∧ F b ∧ ∀ k, k < l.length → w.cell? ⟨b, off + k, none⟩ = some (.int .u8 (n8 (l.getD k 0))))
theorem Bq.congr (hw : ∀ b, F b → F' b ∧ ∀ o, w'.cell? ⟨b, o, none⟩ = w.cell? ⟨b, o, none⟩) (h : Bq w F v l) : Bq w' F' v l := by
  obtain ⟨A, c, hv, h1, h2, h3⟩ := h
  refine ⟨A, c, hv, h1, h2, fun hn => ?_⟩
  obtain ⟨b, off, hA, hb, hc⟩ := h3 hn
  exact ⟨b, off, hA, (hw b hb).1, fun k hk => ((hw b hb).2 _).trans (hc k hk)⟩
theorem Bq.bs (h : Bq w F v l) (hF : ∀ b, F b → b < B) : Bs w B v l := by
  obtain ⟨A, c, hv, h1, h2, h3⟩ := h
  refine ⟨A, c, hv, h1, h2, fun hn => ?_⟩
  obtain ⟨b, off, hA, hb, hc⟩ := h3 hn
  exact ⟨b, off, hA, hF b hb, hc⟩
/-- As EncF, but what it points to lies in blocks of F. -/
def EncP (w : World) (F : Nat → Prop) : Sch → (Nat → Option Value) → List UInt8 → Prop
  | .num, f, m => ∃ n : Int, f 0 = some (.int .i64 n) ∧ m = numL n
  | .word, f, m => ∃ n : Nat, n < 4294967296 ∧ f 0 = some (.int .u32 (n : Int)) ∧ m = lowL n 4
  | .bool, f, m => ∃ t : Bool, f 0 = some (.bool t) ∧ m = [if t then 1 else 0]
  | .text, f, m => ∃ s : ByteArray, f 0 = some (.string s) ∧ m = textL s.data.toList
  | .data, f, m => ∃ v l, f 0 = some v ∧ Bq w F v l ∧ m = dataL l
  | .pair a b, f, m => ∃ m1 m2, EncP w F a f m1 ∧ EncP w F b (fun k => f (a.sz + k)) m2 ∧ m = m1 ++ m2
  | .list s, f, m => ∃ (A : Option Addr) (n c : Nat) (ms : List (List UInt8)), f 0 = some (.slice A n c) ∧ n ≤ c ∧ c ≤ 9223372036854775807 ∧ ms.length = n ∧
      (n ≠ 0 → ∃ b o, A = some ⟨b, o, none⟩ ∧ F b ∧ ∀ i, i < n → EncP w F s (fun k => w.cell? ⟨b, o + i * s.sz + k, none⟩) (ms.getD i [])) ∧ m = lowL n 4 ++ ms.flatten
theorem EncP.congr {w w' : World} {F F' : Nat → Prop} (hw : ∀ b, F b → F' b ∧ ∀ o, w'.cell? ⟨b, o, none⟩ = w.cell? ⟨b, o, none⟩) : ∀ (s : Sch) (f f' : Nat → Option Value) (m : List UInt8), (∀ k, k < s.sz → f' k = f k) → EncP w F s f m → EncP w' F' s f' m
  | .num, f, f', m, hf, h => by obtain ⟨n, h1, h2⟩ := h; exact ⟨n, (hf 0 (by simp [Sch.sz])).trans h1, h2⟩
  | .word, f, f', m, hf, h => by obtain ⟨n, h0, h1, h2⟩ := h; exact ⟨n, h0, (hf 0 (by simp [Sch.sz])).trans h1, h2⟩
  | .bool, f, f', m, hf, h => by obtain ⟨n, h1, h2⟩ := h; exact ⟨n, (hf 0 (by simp [Sch.sz])).trans h1, h2⟩
  | .text, f, f', m, hf, h => by obtain ⟨n, h1, h2⟩ := h; exact ⟨n, (hf 0 (by simp [Sch.sz])).trans h1, h2⟩
  | .data, f, f', m, hf, h => by obtain ⟨v, l, h1, h2, h3⟩ := h; exact ⟨v, l, (hf 0 (by simp [Sch.sz])).trans h1, h2.congr hw, h3⟩
  | .pair a b, f, f', m, hf, h => by
    obtain ⟨m1, m2, h1, h2, h3⟩ := h
    exact ⟨m1, m2, EncP.congr hw a f f' m1 (fun k hk => hf k (by simp only [Sch.sz]; omega)) h1, EncP.congr hw b _ _ m2 (fun k hk => hf (a.sz + k) (by simp only [Sch.sz]; omega)) h2, h3⟩
  | .list s, f, f', m, hf, h => by
    obtain ⟨A, n, c, ms, h1, h2, h3, h4, h5, h6⟩ := h
    refine ⟨A, n, c, ms, (hf 0 (by simp [Sch.sz])).trans h1, h2, h3, h4, fun hn => ?_, h6⟩
    obtain ⟨b, o, hA, hb, hi⟩ := h5 hn
    exact ⟨b, o, hA, (hw b hb).1, fun i hin => EncP.congr hw s _ _ _ (fun k _ => (hw b hb).2 _) (hi i hin)⟩
theorem EncP.encF {w : World} {F : Nat → Prop} {base : Nat} (hF : ∀ b, F b → b < base) : ∀ (s : Sch) (f : Nat → Option Value) (m : List UInt8), EncP w F s f m → EncF w base s f m
  | .num, _, _, h => h
  | .word, _, _, h => h
  | .bool, _, _, h => h
  | .text, _, _, h => h
  | .data, f, m, h => by obtain ⟨v, l, h1, h2, h3⟩ := h; exact ⟨v, l, h1, h2.bs hF, h3⟩
  | .pair a b, f, m, h => by
    obtain ⟨m1, m2, h1, h2, h3⟩ := h
    exact ⟨m1, m2, EncP.encF hF a f m1 h1, EncP.encF hF b _ m2 h2, h3⟩
  | .list s, f, m, h => by
    obtain ⟨A, n, c, ms, h1, h2, h3, h4, h5, h6⟩ := h
    refine ⟨A, n, c, ms, h1, h2, h3, h4, fun hn => ?_, h6⟩
    obtain ⟨b, o, hA, hb, hi⟩ := h5 hn
    exact ⟨b, o, hA, hF b hb, fun i hin => EncP.encF hF s _ _ (hi i hin)⟩
/-- Which bytes are a shape's. -/
def Par : Sch → List UInt8 → Prop
  | .num, m => m.length = 8
  | .word, m => m.length = 4
  | .bool, m => ∃ t : Bool, m = [if t then 1 else 0]
  | .text, m => ∃ l : List UInt8, m = dataL l ∧ l.length < 4294967296
  | .data, m => ∃ l : List UInt8, m = dataL l ∧ l.length < 4294967296
  | .pair a b, m => ∃ m1 m2, Par a m1 ∧ Par b m2 ∧ m = m1 ++ m2
  | .list s, m => ∃ ms : List (List UInt8), m = lowL ms.length 4 ++ ms.flatten ∧ ms.length < 4294967296 ∧ ∀ x ∈ ms, Par s x
theorem dataL_length (l : List UInt8) : (dataL l).length = 4 + l.length := by rw [dataL, List.length_append, lowL_length]
theorem Par.pos : ∀ (s : Sch) (m : List UInt8), Par s m → 0 < m.length
  | .num, m, h => by have : m.length = 8 := h; omega
  | .word, m, h => by have : m.length = 4 := h; omega
  | .bool, m, h => by obtain ⟨t, rfl⟩ := h; simp
  | .text, m, h => by obtain ⟨l, rfl, -⟩ := h; rw [dataL_length]; omega
  | .data, m, h => by obtain ⟨l, rfl, -⟩ := h; rw [dataL_length]; omega
  | .pair a b, m, h => by obtain ⟨m1, m2, h1, -, rfl⟩ := h; have := Par.pos a m1 h1; rw [List.length_append]; omega
  | .list s, m, h => by obtain ⟨ms, rfl, -⟩ := h; rw [List.length_append, lowL_length]; omega
theorem flat_pos {s : Sch} : ∀ ms : List (List UInt8), (∀ x ∈ ms, Par s x) → ms.length ≤ ms.flatten.length
  | [], _ => Nat.le_refl _
  | x :: ms, h => by
    have h1 := Par.pos s x (h x (List.mem_cons_self ..))
    have h2 := flat_pos ms (fun y hy => h y (List.mem_cons_of_mem _ hy))
    simp only [List.length_cons, List.flatten_cons, List.length_append]
    omega
theorem EncF.pos {w : World} {base : Nat} : ∀ (s : Sch) (f : Nat → Option Value) (m : List UInt8), EncF w base s f m → 0 < m.length
  | .num, f, m, h => by obtain ⟨n, -, rfl⟩ := h; rw [numL_length]; omega
  | .word, f, m, h => by obtain ⟨n, -, -, rfl⟩ := h; rw [lowL_length]; omega
  | .bool, f, m, h => by obtain ⟨n, -, rfl⟩ := h; simp
  | .text, f, m, h => by obtain ⟨s, -, rfl⟩ := h; rw [textL, List.length_append, lowL_length]; omega
  | .data, f, m, h => by obtain ⟨v, l, -, -, rfl⟩ := h; rw [dataL_length]; omega
  | .pair a b, f, m, h => by obtain ⟨m1, m2, h1, -, rfl⟩ := h; have := EncF.pos a f m1 h1; rw [List.length_append]; omega
  | .list s, f, m, h => by obtain ⟨A, n, c, ms, -, -, -, -, -, rfl⟩ := h; rw [List.length_append, lowL_length]; omega
theorem flat_len : ∀ ms : List (List UInt8), (∀ x ∈ ms, 0 < x.length) → ms.length ≤ ms.flatten.length
  | [], _ => Nat.le_refl _
  | x :: ms, h => by
    have h1 := h x (List.mem_cons_self ..)
    have h2 := flat_len ms (fun y hy => h y (List.mem_cons_of_mem _ hy))
    simp only [List.length_cons, List.flatten_cons, List.length_append]
    omega
theorem mem_flat_len {x : List UInt8} : ∀ {ms : List (List UInt8)}, x ∈ ms → x.length ≤ ms.flatten.length
  | y :: ms, h => by
    simp only [List.flatten_cons, List.length_append]
    rcases List.mem_cons.1 h with rfl | h
    · omega
    · have := mem_flat_len h; omega
/-- What lies in memory has such bytes. -/
theorem EncF.par {w : World} {base : Nat} : ∀ (s : Sch) (f : Nat → Option Value) (m : List UInt8), EncF w base s f m → m.length < 4294967296 → Par s m
  | .num, f, m, h, _ => by obtain ⟨n, -, rfl⟩ := h; exact numL_length _
  | .word, f, m, h, _ => by obtain ⟨n, -, -, rfl⟩ := h; exact lowL_length _ _
  | .bool, f, m, h, _ => by obtain ⟨t, -, rfl⟩ := h; exact ⟨t, rfl⟩
  | .text, f, m, h, hl => by
    obtain ⟨s, -, rfl⟩ := h
    rw [textL, List.length_append, lowL_length] at hl
    exact ⟨s.data.toList, rfl, by omega⟩
  | .data, f, m, h, hl => by
    obtain ⟨v, l, -, -, rfl⟩ := h
    rw [dataL_length] at hl
    exact ⟨l, rfl, by omega⟩
  | .pair a b, f, m, h, hl => by
    obtain ⟨m1, m2, h1, h2, rfl⟩ := h
    rw [List.length_append] at hl
    exact ⟨m1, m2, EncF.par a f m1 h1 (by omega), EncF.par b _ m2 h2 (by omega), rfl⟩
  | .list s, f, m, h, hl => by
    obtain ⟨A, n, c, ms, -, -, -, h4, h5, rfl⟩ := h
    rw [List.length_append, lowL_length] at hl
    subst h4
    have each : ∀ x ∈ ms, ∃ f, EncF w base s f x := fun x hx => by
      obtain ⟨i, hi, rfl⟩ := List.mem_iff_getElem.1 hx
      obtain ⟨b, o, -, -, he⟩ := h5 (by omega)
      have := he i hi
      rw [List.getD_eq_getElem?_getD, List.getElem?_eq_getElem hi, Option.getD_some] at this
      exact ⟨_, this⟩
    refine ⟨ms, rfl, ?_, fun x hx => ?_⟩
    · have := flat_len ms (fun x hx => by obtain ⟨f, hf⟩ := each x hx; exact EncF.pos s f x hf)
      omega
    · obtain ⟨f, hf⟩ := each x hx
      exact EncF.par s f x hf (by have := mem_flat_len hx; omega)
/-- The zero cells of a shape. -/
def Zc : Sch → List Value
  | .num => [.int .i64 0]
  | .word => [.int .u32 0]
  | .bool => [.bool false]
  | .text => [.string ⟨#[]⟩]
  | .data => [.slice none 0 0]
  | .pair a b => Zc a ++ Zc b
  | .list _ => [.slice none 0 0]
theorem Zc_length : ∀ s : Sch, (Zc s).length = s.sz
  | .num => rfl
  | .word => rfl
  | .bool => rfl
  | .text => rfl
  | .data => rfl
  | .list _ => rfl
  | .pair a b => by simp only [Zc, List.length_append, Sch.sz, Zc_length a, Zc_length b]
/-- What a function of the coder does when it reads: the value comes into its cells, all that it points to is new. -/
def RdPost (s : Sch) (b o : Nat) (T : TypeId) (cs : Array Value) (m rest : List UInt8) (w : World) (cb base : Nat) (e : Ending) (w' : World) : Prop :=
  e = .returned (.tuple #[]) ∧ ∃ v' cs', Cr w' cb base v' rest ∧ Bk w' b T cs' ∧ cs'.size = cs.size ∧ (∀ k, k < o ∨ o + s.sz ≤ k → cs'[k]? = cs[k]?) ∧
    Mv (fun k => k = cb ∨ k = b) w w' ∧ EncP w' (fun k => w.heap.size ≤ k ∧ k < w'.heap.size) s (fun k => cs'[o + k]?) m
def Rds (f : Nat) (s : Sch) : Prop := ∀ (b o : Nat) (T : TypeId) (cs : Array Value) (m rest : List UInt8) (w : World) (cb base : Nat) (v : Value), Par s m → Cr w cb base v (m ++ rest) → Bk w b T cs → b ≠ cb → base ≤ b →
  (∀ k, k < s.sz → cs[o + k]? = (Zc s)[k]?) → m.length ≤ 100000000 →
  Calls Tryz.prog f #[.pointer (some ⟨cb, 0, none⟩), .pointer (some ⟨b, o, none⟩)] w (RdPost s b o T cs m rest w cb base)
theorem Cr.mv {S : Nat → Prop} (h : Cr w cb base v l) (hm : Mv S w w') (hc : ¬ S cb) (hS : ∀ k, S k → base ≤ k) : Cr w' cb base v l :=
  ⟨hm.bk h.blk hc, h.src.keep fun b o hb => World.cell?_of_block (a := ⟨b, o, none⟩) (hm.block b (by have := h.le; have := h.lt; omega) (fun e => by have := hS b e; omega)), h.le⟩
theorem Cr.ab (h : Cr w cb base v l) (hb : Ab w w') : Cr w' cb base v l := h.mv (S := fun _ => False) (Mv.of_ab hb) (fun e => e) (fun _ e => e.elim)
theorem take_pre (m rest : List UInt8) (w : World) (h : Cr w cb base v (m ++ rest)) :
    Calls Tryz.prog 140 #[.pointer (some ⟨cb, 0, none⟩), .int .i64 (m.length : Int)] w fun e w' => ∃ u v', e = .returned u ∧ Bs w' base u m ∧ Mv (· = cb) w w' ∧ w'.heap.size = w.heap.size ∧ Cr w' cb base v' rest := by
  refine (take_any m.length w h (by rw [List.length_append]; omega)).mono ?_
  rintro e w2 ⟨u, v2, rfl, hu, hw, hc⟩
  rw [List.take_left] at hu
  rw [List.drop_left] at hc
  subst hw
  exact ⟨u, v2, rfl, hu, Mv.set (S := (· = cb)) (p := ⟨cb, 1, none⟩) (Mv.refl _ w) rfl _, by simp, hc⟩
set_option maxRecDepth 100000 in
set_option maxHeartbeats 1000000 in
/-- A count that is right. -/
theorem count_good (n : Nat) (rest : List UInt8) (w : World) (h : Cr w cb base v (lowL n 4 ++ rest)) (hn : n < 4294967296) (hr : n ≤ rest.length) :
    Calls Tryz.prog 142 #[.pointer (some ⟨cb, 0, none⟩)] w fun e w' => e = .returned (.int .i64 (n : Int)) ∧ ∃ v', Mv (· = cb) w w' ∧ w'.heap.size = w.heap.size ∧ Cr w' cb base v' rest := by
  have HH := Lib.hid (take_pre (lowL n 4) rest w h)
  rw [lowL_length] at HH
  have e4 : valL (lowL n 4) = n := by rw [valL_lowL]; omega
  have HE := Lib.hid e4
  have HR := Lib.hid (And.intro hr hn)
  clear h e4 hr hn
  go_enter Tryz.func142, Tryz.ntmps142
  go_wp2_with fail
  refine HH.out.mono ?_
  rintro e w2 ⟨u, v2, rfl, hu, hm, hz, hc2⟩
  have HU := Lib.hid hu
  have H2 := Lib.hid (And.intro hm (And.intro hz hc2))
  obtain ⟨A2, c2, hv2, hm1, hm2, -⟩ := id hc2.src
  subst hv2
  have hb := hc2.bytes
  clear hm hz hc2 hu
  go_wp2_with fail
  refine (lowFirst_any w2 HU.out (by rw [lowL_length]; omega)).mono ?_
  rintro e w3 ⟨rfl, rfl⟩
  rw [HE.out]
  have h1 := HR.out.1
  have h2 := HR.out.2
  have hm3 : rest.length ≤ 9223372036854775807 := by omega
  have hwr : IntKind.u64.wrap (rest.length : Int) = (rest.length : Int) := by rw [IntKind.wrap_u64]; omega
  have hwi : IntKind.i64.wrap (n : Int) = (n : Int) := IntWalk.i64_in _ (by omega)
  have hk0 : ¬ (rest.length : Int) < (n : Int) := by omega
  clear h1 h2
  go_wp2_with fail
  go_ret
  exact ⟨rfl, _, H2.out⟩
end Go.Proofs.YtphbaaaklgiloaaGreat.Dg

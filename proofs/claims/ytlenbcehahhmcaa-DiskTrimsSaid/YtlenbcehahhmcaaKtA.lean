/- The calls of DiskTrims, their answers reckoned out. -/
import Derived.Test.YtlenbcehahhmcaaDkP
namespace Go.Proofs.Ytlenbcehahhmcaa.diskTrims
open Go.RowKit Dg
variable {W w : World} {g M f t : Nat} {v x : Value} {m xs : List UInt8} {us : List (Value × List UInt8)} {B : Nat}
def Post (W : World) (e : Ending) (w' : World) : Prop := e = .returned (.bool true) ∧ Ab W w'
theorem t_app (h : Sx W w g v ⟨65536, 0, 0, m, none⟩ us) (hx : Bs w B x xs) (hr : m.length + xs.length ≤ 65536) :
    Calls Try.prog 34 #[.pointer (some ⟨g, 0, none⟩), x] w fun e w' => e = .returned (.tuple #[.int .i64 (m.length : Int), .int .i64 0]) ∧ ∃ v', Sx W w' g v' ⟨65536, 0, 0, m ++ xs, none⟩ us := by
  have hf : Dst.fits ⟨65536, 0, 0, m, none⟩ xs.length = true := decide_eq_true (by show xs.length ≤ 65536 - m.length; omega)
  have := h.append hx (.inl (by show 0 + m.length + xs.length ≤ _; omega))
  rw [show Dst.appAt ⟨65536, 0, 0, m, none⟩ xs.length = m.length by unfold Dst.appAt; rw [hf]; exact Nat.zero_add _, show Dst.appE ⟨65536, 0, 0, m, none⟩ xs.length = 0 by unfold Dst.appE; rw [hf]; rfl, show Dst.app ⟨65536, 0, 0, m, none⟩ xs = ⟨65536, 0, 0, m ++ xs, none⟩ by unfold Dst.app; rw [hf]; rfl] at this
  exact this
theorem t_sync (h : Sx W w g v ⟨65536, 0, 0, m, none⟩ us) (hM : m.length = M) :
    Calls Try.prog 35 #[.pointer (some ⟨g, 0, none⟩)] w fun e w' => e = .returned (.tuple #[]) ∧ Sx W w' g v ⟨65536, 0, M, m, none⟩ us := by
  have := h.sync
  rw [show Dst.sync ⟨65536, 0, 0, m, none⟩ = ⟨65536, 0, M, m, none⟩ by subst hM; show Dst.mk 65536 0 (0 + m.length) m none = _; rw [Nat.zero_add]] at this
  exact this
theorem t_trim (h : Sx W w g v ⟨65536, 0, M, m, none⟩ us) (hf : f ≤ M) :
    Calls Try.prog 43 #[.pointer (some ⟨g, 0, none⟩), .int .i64 (f : Int)] w fun e w' => e = .returned (.int .i64 0) ∧ ∃ v', Sx W w' g v' ⟨65536, f, M, m.drop f, none⟩ us := by
  have ht : Dst.trims ⟨65536, 0, M, m, none⟩ (f : Int) = true := decide_eq_true ⟨by show ((0 : Nat) : Int) ≤ f; omega, by show (f : Int) ≤ (M : Int); omega⟩
  have := h.trim (f : Int)
  rw [show Dst.trimE ⟨65536, 0, M, m, none⟩ (f : Int) = 0 by unfold Dst.trimE; rw [ht]; rfl, show Dst.trim ⟨65536, 0, M, m, none⟩ (f : Int) = ⟨65536, f, M, m.drop f, none⟩ by unfold Dst.trim; rw [ht]; show Dst.mk 65536 (f : Int).toNat M (m.drop ((f : Int).toNat - 0)) none = _; rw [Int.toNat_natCast, Nat.sub_zero]] at this
  exact this
theorem t_base (h : Sx W w g v ⟨65536, f, M, m, none⟩ us) :
    Calls Try.prog 44 #[.pointer (some ⟨g, 0, none⟩)] w fun e w' => e = .returned (.int .i64 (f : Int)) ∧ Sx W w' g v ⟨65536, f, M, m, none⟩ us := h.base
theorem t_end (h : Sx W w g v ⟨65536, f, t, m, none⟩ us) (hM : f + m.length = M) :
    Calls Try.prog 40 #[.pointer (some ⟨g, 0, none⟩)] w fun e w' => e = .returned (.int .i64 (M : Int)) ∧ Sx W w' g v ⟨65536, f, t, m, none⟩ us := by
  have := h.end_
  rw [show Dst.fin ⟨65536, f, t, m, none⟩ = M from hM] at this
  exact this
theorem t_cut (h : Sx W w g v ⟨65536, f, M, m, none⟩ us) (hM : f + m.length = M) (h1 : f ≤ t) (h2 : t ≤ M) :
    Calls Try.prog 45 #[.pointer (some ⟨g, 0, none⟩), .int .i64 (t : Int)] w fun e w' => e = .returned (.int .i64 0) ∧ ∃ v', Sx W w' g v' ⟨65536, f, t, m.take (t - f), none⟩ us := by
  have hc : Dst.cuts ⟨65536, f, M, m, none⟩ (t : Int) = true := decide_eq_true ⟨by show (f : Int) ≤ t; omega, by show (t : Int) ≤ ((f + m.length : Nat) : Int); omega⟩
  have := h.cut (t : Int)
  rw [show Dst.cutE ⟨65536, f, M, m, none⟩ (t : Int) = 0 by unfold Dst.cutE; rw [hc]; rfl, show Dst.cut ⟨65536, f, M, m, none⟩ (t : Int) = ⟨65536, f, t, m.take (t - f), none⟩ by
    unfold Dst.cut; rw [hc]; show Dst.mk 65536 f (min M (t : Int).toNat) (m.take ((t : Int).toNat - f)) none = _; rw [Int.toNat_natCast, Nat.min_eq_right h2]] at this
  exact this
theorem t_syn (h : Sx W w g v ⟨65536, f, t, m, none⟩ us) :
    Calls Try.prog 41 #[.pointer (some ⟨g, 0, none⟩)] w fun e w' => e = .returned (.int .i64 (t : Int)) ∧ Sx W w' g v ⟨65536, f, t, m, none⟩ us := h.synced
theorem t_read {k : Nat} (h : Sx W w g v ⟨65536, f, t, m, none⟩ us) (hk : m.length = k) (hk2 : k ≤ 65536) :
    Calls Try.prog 39 #[.pointer (some ⟨g, 0, none⟩), .int .i64 (f : Int), .int .i64 (k : Int)] w fun e w' => ∃ u, e = .returned (.tuple #[u, .int .i64 0]) ∧ Sx W w' g v ⟨65536, f, t, m, none⟩ ((u, m) :: us) := by
  have hh : Dst.has ⟨65536, f, t, m, none⟩ (f : Int) (k : Int) = true := decide_eq_true ⟨by show (f : Int) ≤ (f : Int); omega, by show (f : Int) ≤ ((f + m.length : Nat) : Int); omega, by omega, by show (k : Int) ≤ ((f + m.length : Nat) : Int) - (f : Int); omega⟩
  have := h.read (f : Int) (k : Int) (by omega)
  rw [show Dst.gotE ⟨65536, f, t, m, none⟩ (f : Int) (k : Int) = 0 by unfold Dst.gotE; rw [hh]; rfl, show Dst.got ⟨65536, f, t, m, none⟩ (f : Int) (k : Int) = m by
    unfold Dst.got; rw [hh]; show (m.drop ((f : Int).toNat - f)).take (k : Int).toNat = m; rw [Int.toNat_natCast, Int.toNat_natCast, Nat.sub_self, List.drop_zero, ← hk, List.take_length]] at this
  exact this
theorem t_readX {k : Nat} (h : Sx W w g v ⟨65536, f, t, m, none⟩ us) (hk : m.length + 1 = k) (hk2 : k ≤ 65537) :
    Calls Try.prog 39 #[.pointer (some ⟨g, 0, none⟩), .int .i64 (f : Int), .int .i64 (k : Int)] w fun e w' => ∃ u, e = .returned (.tuple #[u, .int .i64 22]) ∧ Sx W w' g v ⟨65536, f, t, m, none⟩ us := by
  have hh : Dst.has ⟨65536, f, t, m, none⟩ (f : Int) (k : Int) = false := decide_eq_false (fun hx => by
    have h4 : (k : Int) ≤ ((f + m.length : Nat) : Int) - (f : Int) := hx.2.2.2
    omega)
  have := h.read (f : Int) (k : Int) (by omega)
  rw [show Dst.gotE ⟨65536, f, t, m, none⟩ (f : Int) (k : Int) = 22 by unfold Dst.gotE; rw [hh]; rfl] at this
  exact this.mono fun _ _ ⟨u, h1, h2⟩ => ⟨u, h1, h2.tail⟩
theorem t_crash (h : Sx W w g v ⟨65536, f, t, m, none⟩ us) (ht : f + m.length = t) (ht2 : t ≤ 65536) :
    Calls Try.prog 38 #[.pointer (some ⟨g, 0, none⟩), .int .i64 0] w fun e w' => e = .returned (.tuple #[]) ∧ ∃ v', Sx W w' g v' ⟨65536, f, t, m, none⟩ us := by
  have hto : Dst.crashTo ⟨65536, f, t, m, none⟩ 0 = t := by
    show min (min (t + (max (0 : Int) 0).toNat) 9223372036854775807) (f + m.length) = t
    have : (max (0 : Int) 0).toNat = 0 := by decide
    omega
  have := h.crash 0 (by omega)
  rw [show Dst.crash ⟨65536, f, t, m, none⟩ 0 = ⟨65536, f, t, m, none⟩ by unfold Dst.crash; rw [hto]; show Dst.mk 65536 f t (m.take (t - f)) none = _; rw [List.take_of_length_le (by omega)]] at this
  exact this
theorem t_new (w : World) :
    Calls Try.prog 29 #[.int .i64 65536] w fun e w' => ∃ g, e = .returned (.tuple #[.pointer (some ⟨g, 0, none⟩), .int .i64 0]) ∧ Sx w w' g (.slice none 0 0) ⟨65536, 0, 0, [], none⟩ [] :=
  (show Calls Try.prog 29 #[.int .i64 65536] w fun e w' => ∃ g, e = .returned (.tuple #[.pointer (some ⟨g, 0, none⟩), .int .i64 0]) ∧ St w w' g (.slice none 0 0) ⟨65536, 0, 0, [], none⟩ from St.new (Ab.refl w) 65536 (by omega) (by omega)).mono fun _ _ ⟨g, h1, h2⟩ => ⟨g, h1, Sx.of h2⟩
end Go.Proofs.Ytlenbcehahhmcaa.diskTrims

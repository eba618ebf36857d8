/- The calls of DiskKeeps, their answers reckoned out. -/
import Derived.Test.YtlenbcehahhmcaaDkK
import Derived.Deep.RegionWith
namespace Go.Proofs.Ytlenbcehahhmcaa.diskKeeps
open Go.RowKit Dg
variable {W w : World} {g N K T n : Nat} {v x : Value} {ks ts : List UInt8} {L : Option Nat} {B : Nat}
attribute [local go_sem ↓] Go.wp_at_zero Go.wp_at_succ
def Post (W : World) (e : Ending) (w' : World) : Prop := e = .returned (.bool true) ∧ Ab W w'
theorem k_new (w : World) (h1 : 1 ≤ N) (h2 : N ≤ 67108864) :
    Calls Try.prog 29 #[.int .i64 (N : Int)] w fun e w' => ∃ g, e = .returned (.tuple #[.pointer (some ⟨g, 0, none⟩), .int .i64 0]) ∧ St w w' g (.slice none 0 0) ⟨N, 0, 0, [], none⟩ := St.new (Ab.refl w) N h1 h2
theorem k_big (w : World) (h2 : 67108864 < N) :
    Calls Try.prog 29 #[.int .i64 (N : Int)] w fun e w' => e = .returned (.tuple #[.pointer none, .int .i64 22]) ∧ w = w' :=
  (New_any w (N : Int)).mono fun _ _ h => by
    rcases h with ⟨_, h⟩ | ⟨h, _⟩
    · exact h
    · omega
theorem k_app1 (h : St W w g v ⟨N, 0, 0, [], none⟩) (hx : Bs W W.heap.size x ks) (hK : ks.length = K) (hs : N ≤ 67108864) (hN : K ≤ N) :
    Calls Try.prog 34 #[.pointer (some ⟨g, 0, none⟩), x] w fun e w' => e = .returned (.tuple #[.int .i64 0, .int .i64 0]) ∧ ∃ v', St W w' g v' ⟨N, 0, 0, ks, none⟩ :=
  h.append0 (hx.ab h.2 (Nat.le_refl _)) hs (by simp; omega)
theorem k_sync1 (h : St W w g v ⟨N, 0, 0, ks, none⟩) (hK : ks.length = K) :
    Calls Try.prog 35 #[.pointer (some ⟨g, 0, none⟩)] w fun e w' => e = .returned (.tuple #[]) ∧ St W w' g v ⟨N, 0, K, ks, none⟩ := by
  have := h.sync
  rw [show Dst.sync ⟨N, 0, 0, ks, none⟩ = ⟨N, 0, K, ks, none⟩ by subst hK; show Dst.mk N 0 (0 + ks.length) ks none = _; rw [Nat.zero_add]] at this
  exact this
theorem k_arm (h : St W w g v ⟨N, 0, K, ks, none⟩) (hK : ks.length = K) (a : Int) (ha : a ≤ 9223372036854775807) :
    Calls Try.prog 36 #[.pointer (some ⟨g, 0, none⟩), .int .i64 a] w fun e w' => e = .returned (.tuple #[]) ∧ St W w' g v ⟨N, 0, K, ks, some (Dst.far K a)⟩ := by
  have := h.arm a ha
  rw [show Dst.arm ⟨N, 0, K, ks, none⟩ a = ⟨N, 0, K, ks, some (Dst.far K a)⟩ by subst hK; show Dst.mk N 0 _ ks (some (Dst.far (0 + ks.length) a)) = _; rw [Nat.zero_add]] at this
  exact this
theorem k_app2 (h : St W w g v ⟨N, 0, K, ks, L⟩) (hx : Bs W W.heap.size x ts) (hK : ks.length = K) (hT : ts.length = T) (hs : N ≤ 67108864) (hN : K + T ≤ N) :
    Calls Try.prog 34 #[.pointer (some ⟨g, 0, none⟩), x] w fun e w' => e = .returned (.tuple #[.int .i64 (K : Int), .int .i64 0]) ∧ ∃ v', St W w' g v' ⟨N, 0, K, ks ++ ts, L⟩ := by
  have := h.append0 (hx.ab h.2 (Nat.le_refl _)) hs (by omega)
  rw [hK] at this
  exact this
theorem k_fin (hK : ks.length = K) (hT : ts.length = T) : (0 + (ks ++ ts).length) = K + T := by rw [List.length_append]; omega
theorem k_sync2 (h : St W w g v ⟨N, 0, K, ks ++ ts, L⟩) (hK : ks.length = K) (hT : ts.length = T) (hc : Dst.coldL (K + T) L = true) :
    Calls Try.prog 35 #[.pointer (some ⟨g, 0, none⟩)] w fun e w' => e = .returned (.tuple #[]) ∧ St W w' g v ⟨N, 0, K, ks ++ ts, L⟩ := by
  have := h.sync
  rw [show Dst.sync ⟨N, 0, K, ks ++ ts, L⟩ = ⟨N, 0, K, ks ++ ts, L⟩ by unfold Dst.sync Dst.cold Dst.fin; rw [k_fin hK hT, hc]; rfl] at this
  exact this
theorem k_sync3 (h : St W w g v ⟨N, 0, K, ks ++ ts, L⟩) (hK : ks.length = K) (hT : ts.length = T) (hc : Dst.coldL (K + T) L = false) :
    Calls Try.prog 35 #[.pointer (some ⟨g, 0, none⟩)] w fun e w' => e = .returned (.tuple #[]) ∧ St W w' g v ⟨N, 0, K + T, ks ++ ts, L⟩ := by
  have := h.sync
  rw [show Dst.sync ⟨N, 0, K, ks ++ ts, L⟩ = ⟨N, 0, K + T, ks ++ ts, L⟩ by unfold Dst.sync Dst.cold Dst.fin; rw [k_fin hK hT, hc]; rfl] at this
  exact this
theorem k_frozen {s : Nat} {b : Bool} (h : St W w g v ⟨N, 0, s, ks ++ ts, L⟩) (hK : ks.length = K) (hT : ts.length = T) (hc : Dst.coldL (K + T) L = b) :
    Calls Try.prog 37 #[.pointer (some ⟨g, 0, none⟩)] w fun e w' => e = .returned (.bool b) ∧ St W w' g v ⟨N, 0, s, ks ++ ts, L⟩ := by
  have := h.frozen
  rw [show Dst.cold ⟨N, 0, s, ks ++ ts, L⟩ = b by unfold Dst.cold Dst.fin; rw [k_fin hK hT, hc]] at this
  exact this.mono fun _ _ ⟨h1, h2, _⟩ => ⟨h1, h2⟩
theorem k_crash {s : Nat} (h : St W w g v ⟨N, 0, s, ks ++ ts, L⟩) (hK : ks.length = K) (k : Int) (hk : k ≤ 9223372036854775807) (hto : Dst.crashTo ⟨N, 0, s, ks ++ ts, L⟩ k = K + n) :
    Calls Try.prog 38 #[.pointer (some ⟨g, 0, none⟩), .int .i64 k] w fun e w' => e = .returned (.tuple #[]) ∧ ∃ v', St W w' g v' ⟨N, 0, K + n, ks ++ ts.take n, none⟩ := by
  have := h.crash k hk
  rw [show Dst.crash ⟨N, 0, s, ks ++ ts, L⟩ k = ⟨N, 0, K + n, ks ++ ts.take n, none⟩ by
    unfold Dst.crash; rw [hto]; show Dst.mk N 0 (K + n) ((ks ++ ts).take (K + n - 0)) none = _; rw [Nat.sub_zero, ← hK, List.take_length_add_append]] at this
  exact this
theorem k_end {E : Nat} (h : St W w g v ⟨N, 0, K + n, ks ++ ts.take n, none⟩) (hK : ks.length = K) (hT : ts.length = T) (hn : n ≤ T) (hE : K + n = E) :
    Calls Try.prog 40 #[.pointer (some ⟨g, 0, none⟩)] w fun e w' => e = .returned (.int .i64 (E : Int)) ∧ St W w' g v ⟨N, 0, K + n, ks ++ ts.take n, none⟩ ∧ Ab w w' := by
  have := h.end_
  rw [show Dst.fin ⟨N, 0, K + n, ks ++ ts.take n, none⟩ = E by unfold Dst.fin; show 0 + (ks ++ ts.take n).length = E; rw [List.length_append, List.length_take]; omega] at this
  exact this
theorem k_syn {E : Nat} (h : St W w g v ⟨N, 0, K + n, ks ++ ts.take n, none⟩) (hE : K + n = E) :
    Calls Try.prog 41 #[.pointer (some ⟨g, 0, none⟩)] w fun e w' => e = .returned (.int .i64 (E : Int)) ∧ St W w' g v ⟨N, 0, K + n, ks ++ ts.take n, none⟩ ∧ Ab w w' := by
  have := h.synced
  rw [show Dst.synced ⟨N, 0, K + n, ks ++ ts.take n, none⟩ = E from hE] at this
  exact this
theorem k_fro (h : St W w g v ⟨N, 0, K + n, ks ++ ts.take n, none⟩) :
    Calls Try.prog 37 #[.pointer (some ⟨g, 0, none⟩)] w fun e w' => e = .returned (.bool false) ∧ St W w' g v ⟨N, 0, K + n, ks ++ ts.take n, none⟩ ∧ Ab w w' := h.frozen
theorem k_read {E : Nat} (h : St W w g v ⟨N, 0, K + n, ks ++ ts.take n, none⟩) (hK : ks.length = K) (hT : ts.length = T) (hn : n ≤ T) (hE : K + n = E) (hE2 : E ≤ 67108864) :
    Calls Try.prog 39 #[.pointer (some ⟨g, 0, none⟩), .int .i64 0, .int .i64 (E : Int)] w fun e w' => ∃ u, e = .returned (.tuple #[u, .int .i64 0]) ∧ Ob w' W.heap.size u (ks ++ ts.take n) ∧ St W w' g v ⟨N, 0, K + n, ks ++ ts.take n, none⟩ :=
  (h.read0 E (by rw [List.length_append, List.length_take]; omega) hE2).mono fun _ _ ⟨u, h1, h2, h3, _⟩ => ⟨u, h1, h2, h3⟩
end Go.Proofs.Ytlenbcehahhmcaa.diskKeeps

/- Calls on one of the two disks. -/
import Derived.Test.YtolchbjcdlncgaaKaA
import Derived.Test.YtolchbjcdlncgaaDkCc
import Derived.Test.YtolchbjcdlncgaaDkU
import Derived.Test.YtolchbjcdlncgaaDkV
import Derived.Test.YtolchbjcdlncgaaDkY
namespace Go.Proofs.Ytolchbjcdlncgaa.diskActs
open Go.RowKit Dg
variable {W w w' : World} {g g2 : Nat} {v v2 x : Value} {d r : Dst} {B : Nat} {xs : List UInt8}
/-- No other old block turns. -/
def Keeps (w w' : World) (g : Nat) (v : Value) : Prop := ∀ k, k < w.heap.size → ¬ Own g v k → w'.heap[k]? = w.heap[k]?
theorem box_keep {b i : Nat} (hk : Keeps w w' g v) (hlt : b < w.heap.size) (h1 : ¬ Own g v b) (hc : w.cell? ⟨b, i, none⟩ = some x) : w'.cell? ⟨b, i, none⟩ = some x := (World.cell?_of_block (a := ⟨b, i, none⟩) (hk b hlt h1)).trans hc
theorem l_append (h : Two W w g v d g2 v2 r) (hx : Bs w B x xs) (hroom : d.fin + xs.length ≤ 4611686018427387904) : Calls Try.prog 53 #[.pointer (some ⟨g, 0, none⟩), x] w fun e w' => e = .returned (.tuple #[.int .i64 (d.appAt xs.length : Int), .int .i64 (d.appE xs.length : Int)]) ∧ ∃ v', Two W w' g v' (d.app xs) g2 v2 r ∧ Keeps w w' g v :=
  (Append_any w h.dk hx (.inl hroom) h.ab.size).mono fun _ _ ⟨h1, v', h2, h3⟩ => ⟨h1, v', h.left h2 h3, h3.1.block⟩
theorem l_sync (h : Two W w g v d g2 v2 r)  : Calls Try.prog 54 #[.pointer (some ⟨g, 0, none⟩)] w fun e w' => e = .returned (.tuple #[]) ∧ Two W w' g v (d.sync) g2 v2 r ∧ Keeps w w' g v :=
  (Sync_any w h.dk).mono fun _ _ ⟨h1, h2, h3⟩ => ⟨h1, h.left h2 h3, h3.1.block⟩
theorem l_trim (h : Two W w g v d g2 v2 r) (at_ : Int) : Calls Try.prog 65 #[.pointer (some ⟨g, 0, none⟩), .int .i64 at_] w fun e w' => e = .returned (.int .i64 (d.trimE at_ : Int)) ∧ ∃ v', Two W w' g v' (d.trim at_) g2 v2 r ∧ Keeps w w' g v :=
  (Trim_any w h.dk at_).mono fun _ _ ⟨h1, v', h2, h3⟩ => ⟨h1, v', h.left h2 h3, h3.1.block⟩
theorem l_cut (h : Two W w g v d g2 v2 r) (at_ : Int) : Calls Try.prog 67 #[.pointer (some ⟨g, 0, none⟩), .int .i64 at_] w fun e w' => e = .returned (.int .i64 (d.cutE at_ : Int)) ∧ ∃ v', Two W w' g v' (d.cut at_) g2 v2 r ∧ Keeps w w' g v :=
  (Cut_any w h.dk at_).mono fun _ _ ⟨h1, v', h2, h3⟩ => ⟨h1, v', h.left h2 h3, h3.1.block⟩
theorem l_flip (h : Two W w g v d g2 v2 r) (at_ bit : Int) : Calls Try.prog 69 #[.pointer (some ⟨g, 0, none⟩), .int .i64 at_, .int .i64 bit] w fun e w' => e = .returned (.int .i64 (d.flipE at_ bit : Int)) ∧ Two W w' g v (d.flip at_ bit) g2 v2 r ∧ Keeps w w' g v :=
  (Flip_any w h.dk at_ bit).mono fun _ _ ⟨h1, h2, h3⟩ => ⟨h1, h.left h2 h3, h3.1.block⟩
theorem l_arm (h : Two W w g v d g2 v2 r) (k : Int) (hk : k ≤ 9223372036854775807) : Calls Try.prog 71 #[.pointer (some ⟨g, 0, none⟩), .int .i64 k] w fun e w' => e = .returned (.tuple #[]) ∧ Two W w' g v (d.arm k) g2 v2 r ∧ Keeps w w' g v :=
  (Arm_any w h.dk k hk).mono fun _ _ ⟨h1, h2, h3⟩ => ⟨h1, h.left h2 h3, h3.1.block⟩
theorem l_crash (h : Two W w g v d g2 v2 r) (k : Int) (hk : k ≤ 9223372036854775807) : Calls Try.prog 55 #[.pointer (some ⟨g, 0, none⟩), .int .i64 k] w fun e w' => e = .returned (.tuple #[]) ∧ ∃ v', Two W w' g v' (d.crash k) g2 v2 r ∧ Keeps w w' g v :=
  (Crash_any w h.dk k hk).mono fun _ _ ⟨h1, v', h2, h3⟩ => ⟨h1, v', h.left h2 h3, h3.1.block⟩
theorem l_wipe (h : Two W w g v d g2 v2 r)  : Calls Try.prog 74 #[.pointer (some ⟨g, 0, none⟩)] w fun e w' => e = .returned (.tuple #[]) ∧ ∃ v', Two W w' g v' (d.wipe) g2 v2 r ∧ Keeps w w' g v :=
  (Wipe_any w h.dk).mono fun _ _ ⟨h1, v', h2, h3⟩ => ⟨h1, v', h.left h2 h3, h3.1.block⟩
theorem r_append (h : Two W w g v d g2 v2 r) (hx : Bs w B x xs) (hB : B ≤ w.heap.size) (hroom : r.fin + xs.length ≤ 4611686018427387904) : Calls Try.prog 60 #[.pointer (some ⟨g2, 0, none⟩), x] w fun e w' => e = .returned (.tuple #[.int .i64 (r.appAt xs.length : Int), .int .i64 (r.appE xs.length : Int)]) ∧ ∃ v', Two W w' g v d g2 v' (r.app xs) ∧ Keeps w w' g2 v2 :=
  (rappend_any w h.rk hx hB (.inl hroom) h.ab.size).mono fun _ _ ⟨h1, v', h2, h3⟩ => ⟨h1, v', h.right h2 h3, h3.1.block⟩
theorem r_sync (h : Two W w g v d g2 v2 r)  : Calls Try.prog 62 #[.pointer (some ⟨g2, 0, none⟩)] w fun e w' => e = .returned (.tuple #[]) ∧ Two W w' g v d g2 v2 (r.sync) ∧ Keeps w w' g2 v2 :=
  (rsync_any w h.rk).mono fun _ _ ⟨h1, h2, h3⟩ => ⟨h1, h.right h2 h3, h3.1.block⟩
theorem r_trim (h : Two W w g v d g2 v2 r) (at_ : Int) : Calls Try.prog 66 #[.pointer (some ⟨g2, 0, none⟩), .int .i64 at_] w fun e w' => e = .returned (.int .i64 (r.trimE at_ : Int)) ∧ ∃ v', Two W w' g v d g2 v' (r.trim at_) ∧ Keeps w w' g2 v2 :=
  (rtrim_any w h.rk at_ h.ab.size).mono fun _ _ ⟨h1, v', h2, h3⟩ => ⟨h1, v', h.right h2 h3, h3.1.block⟩
theorem r_cut (h : Two W w g v d g2 v2 r) (at_ : Int) : Calls Try.prog 68 #[.pointer (some ⟨g2, 0, none⟩), .int .i64 at_] w fun e w' => e = .returned (.int .i64 (r.cutE at_ : Int)) ∧ ∃ v', Two W w' g v d g2 v' (r.cut at_) ∧ Keeps w w' g2 v2 :=
  (rcut_any w h.rk at_ h.ab.size).mono fun _ _ ⟨h1, v', h2, h3⟩ => ⟨h1, v', h.right h2 h3, h3.1.block⟩
theorem r_flip (h : Two W w g v d g2 v2 r) (at_ bit : Int) : Calls Try.prog 70 #[.pointer (some ⟨g2, 0, none⟩), .int .i64 at_, .int .i64 bit] w fun e w' => e = .returned (.int .i64 (r.flipE at_ bit : Int)) ∧ ∃ v', Two W w' g v d g2 v' (r.flip at_ bit) ∧ Keeps w w' g2 v2 :=
  (rflip_any w h.rk at_ bit h.ab.size).mono fun _ _ ⟨h1, v', h2, h3⟩ => ⟨h1, v', h.right h2 h3, h3.1.block⟩
theorem r_arm (h : Two W w g v d g2 v2 r) (k : Int) : Calls Try.prog 72 #[.pointer (some ⟨g2, 0, none⟩), .int .i64 k] w fun e w' => e = .returned (.tuple #[]) ∧ Two W w' g v d g2 v2 (rarm r k) ∧ Keeps w w' g2 v2 :=
  (rarm_any w h.rk k).mono fun _ _ ⟨h1, h2, h3⟩ => ⟨h1, h.right h2 h3, h3.1.block⟩
theorem r_crash (h : Two W w g v d g2 v2 r) (k : Int) (hk : k ≤ 9223372036854775807) : Calls Try.prog 73 #[.pointer (some ⟨g2, 0, none⟩), .int .i64 k] w fun e w' => e = .returned (.tuple #[]) ∧ ∃ v', Two W w' g v d g2 v' (r.crash k) ∧ Keeps w w' g2 v2 :=
  (rcrash_any w h.rk k hk h.ab.size).mono fun _ _ ⟨h1, v', h2, h3⟩ => ⟨h1, v', h.right h2 h3, h3.1.block⟩
theorem r_wipe (h : Two W w g v d g2 v2 r)  : Calls Try.prog 75 #[.pointer (some ⟨g2, 0, none⟩)] w fun e w' => e = .returned (.tuple #[]) ∧ ∃ v', Two W w' g v d g2 v' (r.wipe) ∧ Keeps w w' g2 v2 :=
  (rwipe_any w h.rk).mono fun _ _ ⟨h1, v', h2, h3⟩ => ⟨h1, v', h.right h2 h3, h3.1.block⟩
end Go.Proofs.Ytolchbjcdlncgaa.diskActs

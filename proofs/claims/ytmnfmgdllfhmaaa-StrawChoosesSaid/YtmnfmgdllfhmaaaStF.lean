/- The closure that tells the winner. -/
import Derived.Test.YtmnfmgdllfhmaaaStE
import Derived.Test.YtmnfmgdllfhmaaaDgE3
import Derived.Lib.Hide
namespace Go.Proofs.Ytmnfmgdllfhmaaa.Dg
open Go.RowKit
variable {w w' : World} {B : Nat} {vi vw : Value} {ids ws : List Int}
/-- What the closure holds: three boxes. -/
structure Cont (w : World) (B bi bw be g : Nat) (vi vw : Value) (ids ws : List Int) : Prop where
  bi_ : Bk w bi 28 #[vi]
  bw_ : Bk w bw 28 #[vw]
  be_ : Bk w be 48 #[.pointer (some ⟨g, 0, none⟩)]
  eng : Eng w g 0 0 noTab 0
  ids_ : Ns w B vi ids
  ws_ : Ns w B vw ws
  len : ws.length = ids.length
  lt : B ≤ w.heap.size
theorem Cont.ab {bi bw be g : Nat} (h : Cont w B bi bw be g vi vw ids ws) (hb : Ab w w') : Cont w' B bi bw be g vi vw ids ws :=
  ⟨hb.bk h.bi_, hb.bk h.bw_, hb.bk h.be_, h.eng.ab hb, h.ids_.ab hb h.lt, h.ws_.ab hb h.lt, h.len, Nat.le_trans h.lt hb.size⟩
def optI (d : Nat → Int) : Option Nat → Int
  | none => 0
  | some b => d b
/-- What the three of a round say. -/
def St (D W : Nat → Int) (k : Nat) (P Q : Int) (F : Bool) : Prop := (((chz D W k).getD 0 : Nat) : Int) = P ∧ optI D (chz D W k) = Q ∧ (chz D W k).isSome = F
theorem St.skip {D W : Nat → Int} {k : Nat} {P Q : Int} {F : Bool} (h : St D W k P Q F) (hw : W k < 1) : St D W (k + 1) P Q F := by
  unfold St at h ⊢
  unfold chz
  rw [if_pos hw]
  exact h
theorem St.first {D W : Nat → Int} {k : Nat} {P Q : Int} (h : St D W k P Q false) (hw : ¬ W k < 1) : St D W (k + 1) (k : Int) (D k) true := by
  obtain ⟨h1, h2, h3⟩ := h
  have e : chz D W k = none := by simpa using h3
  unfold St chz
  rw [if_neg hw, e]
  exact ⟨rfl, rfl, rfl⟩
theorem St.more {D W : Nat → Int} {k : Nat} {P Q : Int} (h : St D W k P Q true) (hw : ¬ W k < 1) (hq : Q < D k) : St D W (k + 1) (k : Int) (D k) true := by
  obtain ⟨h1, h2, h3⟩ := h
  obtain ⟨b, e⟩ := Option.isSome_iff_exists.1 h3
  rw [e] at h2
  unfold St chz
  rw [if_neg hw, e]
  simp only
  rw [if_pos (show D b < D k by rw [show D b = Q from h2]; exact hq)]
  exact ⟨rfl, rfl, rfl⟩
theorem St.less {D W : Nat → Int} {k : Nat} {P Q : Int} (h : St D W k P Q true) (hw : ¬ W k < 1) (hq : ¬ Q < D k) : St D W (k + 1) P Q true := by
  obtain ⟨h1, h2, h3⟩ := h
  obtain ⟨b, e⟩ := Option.isSome_iff_exists.1 h3
  rw [e] at h1 h2
  unfold St chz
  rw [if_neg hw, e]
  simp only
  rw [if_neg (show ¬ D b < D k by rw [show D b = Q from h2]; exact hq)]
  exact ⟨h1, h2, rfl⟩
theorem wrap32u (i : Int) : IntKind.u32.wrap i = n32 (modU i) := by rw [IntKind.wrap_u32]; exact u32_mod i
attribute [local go_sem] u32_mod wrap32u
set_option maxRecDepth 100000 in
set_option maxHeartbeats 1000000 in
theorem wins_any (x : UInt32) (r : Int) (bi bw be g : Nat) (h : Cont w B bi bw be g vi vw ids ws) :
    Calls Try.prog 24 #[.int .u32 (n32 x), .int .i64 r, .pointer (some ⟨bi, 0, none⟩), .pointer (some ⟨bw, 0, none⟩), .pointer (some ⟨be, 0, none⟩)] w fun e w' =>
      e = .returned (.tuple #[.int .i64 (((chooseL ids ws x r).getD 0 : Nat) : Int), .bool (chooseL ids ws x r).isSome]) ∧ Ab w w' := by
  obtain ⟨Ai, capi, rfl, hi1, hi2⟩ := h.ids_.form
  obtain ⟨Aw, capw, rfl, hw1, hw2⟩ := h.ws_.form
  have hlen := h.len
  rw [hlen] at h hw1
  obtain ⟨N, hN⟩ : ∃ N, ids.length = N := ⟨_, rfl⟩
  unfold chooseL
  rw [hN] at h hi1 hw1 ⊢
  have HH := Lib.hid h
  have ci := h.bi_.cell (i := 0) rfl
  have cw := h.bw_.cell (i := 0) rfl
  clear h hN hlen
  obtain ⟨D, hD⟩ : ∃ D, strawI x r ids ws = D := ⟨_, rfl⟩
  obtain ⟨W, hW⟩ : ∃ W, wtI ws = W := ⟨_, rfl⟩
  rw [hD, hW]
  have HD := Lib.hid hD
  have HWt := Lib.hid hW
  clear hD hW
  go_enter Try.func24, Try.ntmps24
  go_wp2
  go_loopw [9, 10, 11, 17] (fun win lng fnd kk wr => ∃ (k : Nat) (P Q : Int) (F : Bool), k ≤ N ∧ kk = .int .i64 (k : Int) ∧ win = .int .i64 P ∧ lng = .int .i64 Q ∧ fnd = .bool F ∧ Hid (Ab w wr) ∧ Hid (St D W k P Q F))
    (fun _ _ _ kk _ => N - (intOf kk).toNat)
  case atStart => exact ⟨0, 0, 0, false, Nat.zero_le _, rfl, rfl, rfl, rfl, Lib.hid (Ab.refl w), Lib.hid ⟨rfl, rfl, rfl⟩⟩
  case round =>
    obtain ⟨k, P, Q, F, hk, rfl, rfl, rfl, rfl, HA, HC⟩ := hrel
    clear ci cw
    have HR := Lib.hid (HH.out.ab HA.out)
    have ci := HR.out.bi_.cell (i := 0) rfl
    have cw := HR.out.bw_.cell (i := 0) rfl
    have ce := HR.out.be_.cell (i := 0) rfl
    by_cases hlt : k < N
    · obtain ⟨b1, o1, rfl, -, cc1⟩ := HR.out.ids_.cells (by omega)
      obtain ⟨b2, o2, rfl, -, cc2⟩ := HR.out.ws_.cells (by omega)
      have g1 := cc1 k hlt
      have g2 := cc2 k hlt
      obtain ⟨I, hI⟩ : ∃ I, ids.getD k 0 = I := ⟨_, rfl⟩
      obtain ⟨V, hV⟩ : ∃ V, ws.getD k 0 = V := ⟨_, rfl⟩
      rw [hI] at g1
      rw [hV] at g2
      have hDk : drawI (hash3L x (modU I) (modU r)) V = D k := by rw [← HD.out, ← hI, ← hV]; rfl
      have hWk : W k = V := by rw [← HWt.out]; exact hV
      have HK := Lib.hid (And.intro hDk hWk)
      clear cc1 cc2 hI hV hDk hWk
      by_cases c1 : V < 1
      · go_wp2
        go_roundw
        case rel => exact ⟨k + 1, P, Q, F, by omega, by go_num, rfl, rfl, rfl, HA, Lib.hid (HC.out.skip (by rw [HK.out.2]; exact c1))⟩
        case measure => simp [intOf]; omega
      · have hdec : decide (V < 1) = false := by simpa using c1
        have HN : Hid (1 ≤ W k) := Lib.hid (by rw [HK.out.2]; omega)
        have CD : ∀ n : Nat, Hid (Calls Try.prog 12 #[.int .u32 (n32 (hash3L x (modU I) (modU r))), .int .i64 V] (wr.drewN n) fun e w' => e = .returned (.int .i64 (D k)) ∧ wr.drewN n = w') := fun n => Lib.hid (by
          have := draw_any (hash3L x (modU I) (modU r)) V (wr.drewN n)
          rw [HK.out.1] at this
          exact this)
        obtain ⟨d, hd⟩ : ∃ d, D k = d := ⟨_, rfl⟩
        rw [hd] at CD
        have Hd := Lib.hid hd
        clear hd
        go_wp2
        go_quiet ((first | (go_at_call 25; exact quietL (Hash3_eng _ _ _ g _ (HR.out.eng.drewN _))) | (go_at_call 12; exact quietL (CD _).out)))
        cases F with
        | false =>
          go_wp2
          go_roundw
          case rel => exact ⟨k + 1, (k : Int), d, true, by omega, by go_num, rfl, rfl, rfl, Lib.hid (HA.out.drewN _), Lib.hid (by have := HC.out.first (Int.not_lt.2 HN.out); rw [Hd.out] at this; exact this)⟩
          case measure => simp [intOf]; omega
        | true =>
          by_cases c2 : Q < d
          · go_wp2
            go_roundw
            case rel => exact ⟨k + 1, (k : Int), d, true, by omega, by go_num, rfl, rfl, rfl, Lib.hid (HA.out.drewN _), Lib.hid (by have := HC.out.more (Int.not_lt.2 HN.out) (by rw [Hd.out]; exact c2); rw [Hd.out] at this; exact this)⟩
            case measure => simp [intOf]; omega
          · have hdec2 : decide (Q < d) = false := by simpa using c2
            go_wp2
            go_roundw
            case rel => exact ⟨k + 1, P, Q, true, by omega, by go_num, rfl, rfl, rfl, Lib.hid (HA.out.drewN _), Lib.hid (HC.out.less (Int.not_lt.2 HN.out) (by rw [Hd.out]; exact c2))⟩
            case measure => simp [intOf]; omega
    · go_wp2
      go_ret2
      have e : k = N := by omega
      subst e
      exact ⟨by rw [HC.out.1, HC.out.2.2]; rfl, HA.out⟩
end Go.Proofs.Ytmnfmgdllfhmaaa.Dg

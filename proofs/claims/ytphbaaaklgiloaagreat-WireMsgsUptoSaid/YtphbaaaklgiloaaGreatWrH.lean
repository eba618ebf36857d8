/- wire: the document's examples hold. -/
import Derived.Test.YtphbaaaklgiloaaGreatWrC
import Derived.Test.YtphbaaaklgiloaaGreatWrE
import Derived.Test.YtphbaaaklgiloaaGreatWrG
import Derived.Deep.RegionHeld3
import Derived.Deep.DrawnRows
namespace Go.Proofs.YtphbaaaklgiloaaGreat.Dg
open Go.RowKit
variable {w w' : World} {base B cb : Nat} {v : Value} {l : List UInt8}
theorem bs_of_blk {g n : Nat} {t : TypeId} {cs : Array Value} (h : Bk w g t cs) (l : List UInt8) (hn : n = l.length) (hcs : cs = (l.map u8v).toArray) (hs : n ≤ 9223372036854775807) : Bs w w.heap.size (.slice (some ⟨g, 0, none⟩) n n) l := by
  subst hn
  refine ⟨_, _, rfl, Nat.le_refl _, hs, fun _ => ⟨g, 0, rfl, h.lt, fun k hk => ?_⟩⟩
  rw [Nat.zero_add]
  refine h.cell ?_
  rw [hcs, List.getElem?_toArray, List.getElem?_map, List.getElem?_eq_getElem hk, List.getD_eq_getElem?_getD, List.getElem?_eq_getElem hk]
  rfl
theorem ts_of_blk {g n : Nat} {t : TypeId} {cs : Array Value} (h : Bk w g t cs) (ss : List ByteArray) (hn : n = ss.length) (hcs : cs = (ss.map Value.string).toArray) (hs : n ≤ 9223372036854775807) : Ts w w.heap.size (.slice (some ⟨g, 0, none⟩) n n) ss := by
  subst hn
  refine ⟨_, _, rfl, Nat.le_refl _, hs, fun _ => ⟨g, 0, rfl, h.lt, fun k hk => ?_⟩⟩
  rw [Nat.zero_add]
  refine h.cell ?_
  rw [hcs, List.getElem?_toArray, List.getElem?_map, List.getElem?_eq_getElem hk, List.getD_eq_getElem?_getD, List.getElem?_eq_getElem hk]
  rfl
def exTexts : List ByteArray := [⟨#[97]⟩, ⟨#[]⟩]
def exBytes : List UInt8 := [2, 0, 0, 0, 1, 0, 0, 0, 97, 0, 0, 0, 0]
def exZeros : List UInt8 := [0, 0, 0, 0, 0, 0, 0, 0]
theorem ex_texts : textsL exTexts = exBytes := by kernel_rfl
theorem ex_frame : frameL [] = exZeros := by kernel_rfl
theorem ex_bytes : (exBytes == exBytes) = true := by kernel_rfl
theorem ex_zeros : (exZeros == exZeros) = true := by kernel_rfl
theorem ex_cnt : cnt [1, 0, 0, 0] = none := by kernel_rfl
theorem ts_ex {g : Nat} (h : Bk w g 9 #[.string ⟨#[97]⟩, .string ⟨#[]⟩]) : Ts w w.heap.size (.slice (some ⟨g, 0, none⟩) 2 2) exTexts := ts_of_blk (n := 2) h exTexts rfl rfl (by decide)
theorem bs_ex {g : Nat} (h : Bk w g 5 #[.int .u8 2, .int .u8 0, .int .u8 0, .int .u8 0, .int .u8 1, .int .u8 0, .int .u8 0, .int .u8 0, .int .u8 97, .int .u8 0, .int .u8 0, .int .u8 0, .int .u8 0]) : Bs w w.heap.size (.slice (some ⟨g, 0, none⟩) 13 13) exBytes :=
  bs_of_blk (n := 13) h exBytes rfl rfl (by decide)
theorem bs_zz {g : Nat} (h : Bk w g 5 #[.int .u8 0, .int .u8 0, .int .u8 0, .int .u8 0, .int .u8 0, .int .u8 0, .int .u8 0, .int .u8 0]) : Bs w w.heap.size (.slice (some ⟨g, 0, none⟩) 8 8) exZeros :=
  bs_of_blk (n := 8) h exZeros rfl rfl (by decide)
theorem bs_no (w : World) : Bs w 0 (.slice none 0 0) [] := ⟨none, 0, rfl, by simp, by omega, fun h => absurd rfl h⟩
theorem strings_ex (w : World) {g : Nat} (h : Bk w g 9 #[.string ⟨#[97]⟩, .string ⟨#[]⟩]) :
    Calls Tryz.prog 36 #[.slice (some ⟨g, 0, none⟩) 2 2] w fun e w' => ∃ v', e = .returned v' ∧ Ob w' w.heap.size v' exBytes ∧ Ab w w' := by
  have := strings_any exTexts _ w (ts_ex h) (by rw [ex_texts]; simp [exBytes])
  rw [ex_texts] at this
  exact this
theorem frame_ex (w : World) : Calls Tryz.prog 37 #[.slice none 0 0] w fun e w' => ∃ v', e = .returned v' ∧ Ob w' w.heap.size v' exZeros ∧ Ab w w' := by
  have := frame_any w (bs_no w) (Nat.zero_le _) (by simp)
  rw [ex_frame] at this
  exact this
attribute [local go_sem ↓] Go.wp_at_zero Go.wp_at_succ
set_option maxRecDepth 100000 in
set_option maxHeartbeats 4000000 in
theorem awake_any (w : World) : Calls Tryz.prog 11 #[] w fun e w' => e = .returned (.bool true) ∧ Ab w w' := by
  have hmk : ∀ w : World, (Instr.makeSlice 41 (.int .i64 8) (.int .i64 8)).run Tryz.prog w = .ok (.slice (some ⟨w.heap.size, 0, none⟩) 8 8) (w.alloc (.cells #[.int .u8 0, .int .u8 0, .int .u8 0, .int .u8 0, .int .u8 0, .int .u8 0, .int .u8 0, .int .u8 0] 5)) := fun _ => by kernel_rfl
  go_enter Tryz.func11, Tryz.ntmps11
  go_wp2_with fail
  refine (readStrings_bad (l := [1, 0, 0, 0]) _ (bs_of_blk (n := 4) (Bk.new (by simp)) [1, 0, 0, 0] rfl rfl (by decide)) ex_cnt).mono ?_
  rintro e w1 ⟨rfl, ha1⟩
  replace ha1 : Ab w w1 := ((Ab.refl w).alloc _).trans ha1
  go_wp2_with fail
  go_region_held3 (fun _ => True) (trivial) (first | (go_at_call 36; (with_reducible refine (strings_ex _ (by first | exact (Bk.new (by simp)).drew | exact ((Bk.new (by simp)).alloc _).drew)).mono ?_); rintro e ws ⟨v9, rfl, ho9, ha9⟩; (have HA9 := Lib.hid ha9); (have HW9 := Lib.hid (Ab.trans (by first | exact (ha1.alloc _).drew | exact ((ha1.alloc _).alloc _).drew) ha9)); (have HO9 := Lib.hid ho9); clear ho9 ha9) | (go_at_call 7; (with_reducible refine (same_any _ (by first | exact HO13.out.bs | exact (HO13.out.alloc _).bs) (bs_zz (by first | exact Bk.new (by simp) | exact HA13.out.bk (Bk.new (by simp)) | exact HA13.out.bk ((Bk.new (by simp)).alloc _)))).mono ?_); rintro e wx ⟨rfl, rfl⟩; (have hx2 := ex_zeros)) | (go_at_call 7; (with_reducible refine (same_any _ (by first | exact HO9.out.bs | exact (HO9.out.alloc _).bs) (bs_ex (by first | exact Bk.new (by simp) | exact HA9.out.bk (Bk.new (by simp)).drew | exact HA9.out.bk ((Bk.new (by simp)).alloc _).drew))).mono ?_); rintro e wx ⟨rfl, rfl⟩; (have hx1 := ex_bytes)) | (go_at_call 37; (with_reducible refine (frame_ex _).mono ?_); rintro e wf ⟨v13, rfl, ho13, ha13⟩; (have HA13 := Lib.hid ha13); (have HW13 := Lib.hid (Ab.trans (by first | exact HW9.out | exact HW9.out.alloc _ | exact (HW9.out.alloc _).alloc _) ha13)); (have HO13 := Lib.hid ho13); clear ho13 ha13) | (go_at_call 9; (with_reducible refine (num_any _ _).mono ?_); rintro e wx ⟨rfl, rfl⟩))
  all_goals
    go_wp2
    go_ret
    exact ⟨rfl, by first | exact HW13.out | exact HW13.out.alloc _⟩
end Go.Proofs.YtphbaaaklgiloaaGreat.Dg

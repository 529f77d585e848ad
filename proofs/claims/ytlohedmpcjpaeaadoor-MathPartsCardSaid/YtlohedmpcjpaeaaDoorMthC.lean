/- Walks: what math's calls answer. -/
import Derived.Test.YtlohedmpcjpaeaaDoorMthB
import Derived.Test.YtlohedmpcjpaeaaDoorShelf
set_option linter.unusedSimpArgs false
set_option linter.unusedVariables false
namespace Go.Proofs.YtlohedmpcjpaeaaDoor
open Go.RowKit

theorem Width1_any (b : Nat) (x : Int) (h0 : 0 < x) (h1 : x ≤ 256) (w : World) (hc : w.cell? ⟨b, 0, none⟩ = some (.int .i64 x)) :
    Calls Tryd.prog 35 #[.pointer (some ⟨b, 0, none⟩)] w fun e w' => e = .returned (.int .i64 (2 * x - 1)) ∧ Kept w w' := by
  have HC := Lib.hid (width_any x w h0 h1)
  go_enter Tryd.func35, Tryd.ntmps35
  go_wp2_with (go_at_call 36; refine HC.out.mono ?_; rintro e w' ⟨rfl, rfl⟩)
  go_ret
  exact ⟨rfl, Kept.refl _⟩
theorem Width_any (x : Int) (w : World) (hx : I64 x) : Calls Tryd.prog 9 #[.int .i64 x] w fun e w' => e = .returned (.tuple #[.int .i64 (pk (treeB x) (2 * x - 1)), .int .i64 (er (treeB x))]) ∧ Kept w w' := by
  have HA := Lib.hid (fun w => tree_any x w hx)
  have hk0 : Kept w (w.alloc (.cells #[.int .i64 x] 3)) := (Kept.refl w).alloc _

  cases hi : treeB x with
  | false =>
    rw [hi] at HA
    clear hi
    go_enter Tryd.func9, Tryd.ntmps9
    go_wp2_with (first | (go_at_call 34; refine (HA.out _).mono ?_; rintro e w' ⟨rfl, rfl⟩) | (go_at_call 33; refine (told_no _ _).mono ?_; rintro e w' ⟨rfl, rfl⟩))
    go_ret2
    exact ⟨rfl, hk0⟩
  | true =>
    obtain ⟨h0, h1, _⟩ := treeB_true hi
    have HT := Lib.hid (told_val (g := 35) (enters_of Tryd.func35 (by kernel_rfl) rfl) (Width1_any w.heap.size x h0 h1 (w.alloc (.cells #[.int .i64 x] 3)) (cell_box _ _ _)))
    rw [hi] at HA
    clear hi
    go_enter Tryd.func9, Tryd.ntmps9
    go_wp2_with (first | (go_at_call 34; refine (HA.out _).mono ?_; rintro e w' ⟨rfl, rfl⟩) | (go_at_call 33; refine HT.out.mono ?_; rintro e w' ⟨rfl, hk⟩))
    go_ret2
    exact ⟨rfl, hk0.trans hk⟩
theorem Root1_any (b : Nat) (x : Int) (h0 : 0 < x) (h1 : x ≤ 256) (w : World) (hc : w.cell? ⟨b, 0, none⟩ = some (.int .i64 x)) :
    Calls Tryd.prog 38 #[.pointer (some ⟨b, 0, none⟩)] w fun e w' => e = .returned (.int .i64 (x - 1)) ∧ Kept w w' := by
  have HC := Lib.hid (root_any x w h0 h1)
  go_enter Tryd.func38, Tryd.ntmps38
  go_wp2_with (go_at_call 39; refine HC.out.mono ?_; rintro e w' ⟨rfl, rfl⟩)
  go_ret
  exact ⟨rfl, Kept.refl _⟩
theorem Root_any (x : Int) (w : World) (hx : I64 x) : Calls Tryd.prog 11 #[.int .i64 x] w fun e w' => e = .returned (.tuple #[.int .i64 (pk (treeB x) (x - 1)), .int .i64 (er (treeB x))]) ∧ Kept w w' := by
  have HA := Lib.hid (fun w => tree_any x w hx)
  have hk0 : Kept w (w.alloc (.cells #[.int .i64 x] 3)) := (Kept.refl w).alloc _

  cases hi : treeB x with
  | false =>
    rw [hi] at HA
    clear hi
    go_enter Tryd.func11, Tryd.ntmps11
    go_wp2_with (first | (go_at_call 34; refine (HA.out _).mono ?_; rintro e w' ⟨rfl, rfl⟩) | (go_at_call 33; refine (told_no _ _).mono ?_; rintro e w' ⟨rfl, rfl⟩))
    go_ret2
    exact ⟨rfl, hk0⟩
  | true =>
    obtain ⟨h0, h1, _⟩ := treeB_true hi
    have HT := Lib.hid (told_val (g := 38) (enters_of Tryd.func38 (by kernel_rfl) rfl) (Root1_any w.heap.size x h0 h1 (w.alloc (.cells #[.int .i64 x] 3)) (cell_box _ _ _)))
    rw [hi] at HA
    clear hi
    go_enter Tryd.func11, Tryd.ntmps11
    go_wp2_with (first | (go_at_call 34; refine (HA.out _).mono ?_; rintro e w' ⟨rfl, rfl⟩) | (go_at_call 33; refine HT.out.mono ?_; rintro e w' ⟨rfl, hk⟩))
    go_ret2
    exact ⟨rfl, hk0.trans hk⟩
theorem Level1_any (b : Nat) (x : Nat) (hx : x < 511) (w : World) (hc : w.cell? ⟨b, 0, none⟩ = some (.int .i64 x)) (ht : Tabs w) :
    Calls Tryd.prog 41 #[.pointer (some ⟨b, 0, none⟩)] w fun e w' => e = .returned (.int .i64 ((Mth.lvl x : Nat))) ∧ Kept w w' := by
  have HC := Lib.hid (level_any x hx w ht)
  go_enter Tryd.func41, Tryd.ntmps41
  go_wp2_with (go_at_call 42; refine HC.out.mono ?_; rintro e w' ⟨rfl, rfl⟩)
  go_ret
  exact ⟨rfl, Kept.refl _⟩
theorem Level_any (x : Int) (w : World) (hx : I64 x) (ht : Tabs w) : Calls Tryd.prog 13 #[.int .i64 x] w fun e w' => e = .returned (.tuple #[.int .i64 (pk (inB x 256) ((Mth.lvl x.toNat : Nat))), .int .i64 (er (inB x 256))]) ∧ Kept w w' := by
  have HA := Lib.hid (fun w => anywhere_any x w hx)
  have hk0 : Kept w (w.alloc (.cells #[.int .i64 x] 3)) := (Kept.refl w).alloc _
  have ht1 : Tabs (w.alloc (.cells #[.int .i64 x] 3)) := ht.kept hk0
  cases hi : inB x 256 with
  | false =>
    rw [hi] at HA
    clear hi
    go_enter Tryd.func13, Tryd.ntmps13
    go_wp2_with (first | (go_at_call 40; refine (HA.out _).mono ?_; rintro e w' ⟨rfl, rfl⟩) | (go_at_call 33; refine (told_no _ _).mono ?_; rintro e w' ⟨rfl, rfl⟩))
    go_ret2
    exact ⟨rfl, hk0⟩
  | true =>
    obtain ⟨x, rfl, h0⟩ := any_nat hi
    have HT := Lib.hid (told_val (g := 41) (enters_of Tryd.func41 (by kernel_rfl) rfl) (Level1_any w.heap.size x h0 (w.alloc (.cells #[.int .i64 x] 3)) (cell_box _ _ _) ht1))
    rw [hi] at HA
    clear hi
    go_enter Tryd.func13, Tryd.ntmps13
    go_wp2_with (first | (go_at_call 40; refine (HA.out _).mono ?_; rintro e w' ⟨rfl, rfl⟩) | (go_at_call 33; refine HT.out.mono ?_; rintro e w' ⟨rfl, hk⟩))
    go_ret2
    exact ⟨rfl, hk0.trans hk⟩
theorem Parent1_any (b : Nat) (x : Nat) (hx : x < 511) (w : World) (hc : w.cell? ⟨b, 0, none⟩ = some (.int .i64 x)) (ht : Tabs w) :
    Calls Tryd.prog 54 #[.pointer (some ⟨b, 0, none⟩)] w fun e w' => e = .returned (.int .i64 ((Mth.par x : Nat))) ∧ Kept w w' := by
  have HC := Lib.hid (parent_any x hx w ht)
  go_enter Tryd.func54, Tryd.ntmps54
  go_wp2_with (go_at_call 55; refine HC.out.mono ?_; rintro e w' ⟨rfl, hk⟩)
  go_ret
  exact ⟨rfl, hk⟩
theorem Sibling1_any (b : Nat) (x : Nat) (hx : x < 511) (w : World) (hc : w.cell? ⟨b, 0, none⟩ = some (.int .i64 x)) (ht : Tabs w) :
    Calls Tryd.prog 57 #[.pointer (some ⟨b, 0, none⟩)] w fun e w' => e = .returned (.int .i64 ((Mth.sib x : Nat))) ∧ Kept w w' := by
  have HC := Lib.hid (sibling_any x hx w ht)
  go_enter Tryd.func57, Tryd.ntmps57
  go_wp2_with (go_at_call 58; refine HC.out.mono ?_; rintro e w' ⟨rfl, hk⟩)
  go_ret
  exact ⟨rfl, hk⟩
end Go.Proofs.YtlohedmpcjpaeaaDoor

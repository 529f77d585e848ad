/- Walks: Left, Right, Size, Leaves; climb; common. -/
import Derived.Test.YtlohedmpcjpaeaaDoorMthC
set_option linter.unusedSimpArgs false
set_option linter.unusedVariables false
namespace Go.Proofs.YtlohedmpcjpaeaaDoor
open Go.RowKit

theorem lvl_pow {x : Nat} (hx : x < 511) (hp : 0 < Mth.lvl x) : 2 ^ (Mth.lvl x - 1) ≤ x ∧ x + 2 ^ (Mth.lvl x - 1) < 511 := by
  have h : (List.range 511).all (fun x => Nat.beq (Mth.lvl x) 0 || (Nat.ble (2 ^ (Mth.lvl x - 1)) x && Nat.blt (x + 2 ^ (Mth.lvl x - 1)) 511)) = true := by decide +kernel
  have := List.all_eq_true.1 h x (List.mem_range.2 hx)
  rw [Bool.or_eq_true, Bool.and_eq_true] at this
  rcases this with e | ⟨e1, e2⟩
  · have := Nat.eq_of_beq_eq_true e; omega
  · exact ⟨Nat.le_of_ble_eq_true e1, Nat.le_of_ble_eq_true e2⟩
theorem left_num {x : Nat} (hx : x < 511) (hp : 0 < Mth.lvl x) : (x : Int) - ((2 ^ (Mth.lvl x - 1) : Nat) : Int) = (Mth.left x : Nat) ∧ (x : Int) + ((2 ^ (Mth.lvl x - 1) : Nat) : Int) = (Mth.right x : Nat) ∧ ((2 ^ (Mth.lvl x - 1) : Nat) : Int) ≤ 511 := by
  have := lvl_pow hx hp
  unfold Mth.left Mth.right
  omega
theorem Left1_any (b : Nat) (x : Nat) (hx : x < 511) (hp : 0 < Mth.lvl x) (w : World) (hc : w.cell? ⟨b, 0, none⟩ = some (.int .i64 x)) (ht : Tabs w) :
    Calls Tryd.prog 44 #[.pointer (some ⟨b, 0, none⟩)] w fun e w' => e = .returned (.int .i64 (Mth.left x : Nat)) ∧ Kept w w' := by
  have hS := fun n => Calls.quiet_of_same ((step_any x hx hp (w.drewN n) (ht.kept ((Kept.refl w).drewN n))).mono fun e w' ⟨x, y⟩ => ⟨x, y.symm⟩)
  obtain ⟨n1, n2, n3⟩ := left_num hx hp
  generalize 2 ^ (Mth.lvl x - 1) = s at hS n1 n2 n3
  have HN := Shut.mk n1
  have hs0 : (0 : Int) ≤ (s : Int) := by omega
  have hx0 : (0 : Int) ≤ (x : Int) := by omega
  have hx1 : (x : Int) ≤ 510 := by omega
  have e1 : IntKind.i64.wrap ((x : Int) - (s : Int)) = (x : Int) - (s : Int) := IntWalk.i64_in _ (by omega)
  have HS := Lib.hid hS
  clear hS n1 n2
  go_enter Tryd.func44, Tryd.ntmps44
  go_wp2
  go_quiet ((go_at_call 45; exact HS.out _))
  go_wp2
  go_ret
  exact ⟨by rw [← HN.out]; rfl, (Kept.refl _).drewN _⟩
theorem Right1_any (b : Nat) (x : Nat) (hx : x < 511) (hp : 0 < Mth.lvl x) (w : World) (hc : w.cell? ⟨b, 0, none⟩ = some (.int .i64 x)) (ht : Tabs w) :
    Calls Tryd.prog 47 #[.pointer (some ⟨b, 0, none⟩)] w fun e w' => e = .returned (.int .i64 (Mth.right x : Nat)) ∧ Kept w w' := by
  have hS := fun n => Calls.quiet_of_same ((step_any x hx hp (w.drewN n) (ht.kept ((Kept.refl w).drewN n))).mono fun e w' ⟨x, y⟩ => ⟨x, y.symm⟩)
  obtain ⟨n1, n2, n3⟩ := left_num hx hp
  generalize 2 ^ (Mth.lvl x - 1) = s at hS n1 n2 n3
  have HN := Shut.mk n2
  have hs0 : (0 : Int) ≤ (s : Int) := by omega
  have hx0 : (0 : Int) ≤ (x : Int) := by omega
  have hx1 : (x : Int) ≤ 510 := by omega
  have e1 : IntKind.i64.wrap ((x : Int) + (s : Int)) = (x : Int) + (s : Int) := IntWalk.i64_in _ (by omega)
  have HS := Lib.hid hS
  clear hS n1 n2
  go_enter Tryd.func47, Tryd.ntmps47
  go_wp2
  go_quiet ((go_at_call 45; exact HS.out _))
  go_wp2
  go_ret
  exact ⟨by rw [← HN.out]; rfl, (Kept.refl _).drewN _⟩
theorem Left_any (x : Int) (w : World) (hx : I64 x) (ht : Tabs w) : Calls Tryd.prog 15 #[.int .i64 x] w fun e w' => e = .returned (.tuple #[.int .i64 (pk (kidB x) ((Mth.left x.toNat : Nat))), .int .i64 (er (kidB x))]) ∧ Kept w w' := by
  have HA := Lib.hid (fun w (ht : Tabs w) => hasChildren_any x w hx ht)
  have hk0 : Kept w (w.alloc (.cells #[.int .i64 x] 3)) := (Kept.refl w).alloc _
  have ht1 : Tabs (w.alloc (.cells #[.int .i64 x] 3)) := ht.kept hk0
  cases hi : kidB x with
  | false =>
    rw [hi] at HA
    clear hi
    go_enter Tryd.func15, Tryd.ntmps15
    go_wp2_with (first | (go_at_call 43; refine (HA.out _ ht1).mono ?_; rintro e w' ⟨rfl, rfl⟩) | (go_at_call 33; refine (told_no _ _).mono ?_; rintro e w' ⟨rfl, rfl⟩))
    go_ret2
    exact ⟨rfl, hk0⟩
  | true =>
    obtain ⟨x, rfl, h0⟩ := any_nat (show inB x 256 = true by unfold kidB at hi; rw [Bool.and_eq_true] at hi; exact hi.1)
    have h1 : 0 < Mth.lvl x := by rw [kidB_nat h0] at hi; exact of_decide_eq_true hi
    have HT := Lib.hid (told_val (g := 44) (enters_of Tryd.func44 (by kernel_rfl) rfl) (Left1_any w.heap.size x h0 h1 (w.alloc (.cells #[.int .i64 x] 3)) (cell_box _ _ _) ht1))
    rw [hi] at HA
    clear hi
    go_enter Tryd.func15, Tryd.ntmps15
    go_wp2_with (first | (go_at_call 43; refine (HA.out _ ht1).mono ?_; rintro e w' ⟨rfl, rfl⟩) | (go_at_call 33; refine HT.out.mono ?_; rintro e w' ⟨rfl, hk⟩))
    go_ret2
    exact ⟨rfl, hk0.trans hk⟩
theorem Right_any (x : Int) (w : World) (hx : I64 x) (ht : Tabs w) : Calls Tryd.prog 17 #[.int .i64 x] w fun e w' => e = .returned (.tuple #[.int .i64 (pk (kidB x) ((Mth.right x.toNat : Nat))), .int .i64 (er (kidB x))]) ∧ Kept w w' := by
  have HA := Lib.hid (fun w (ht : Tabs w) => hasChildren_any x w hx ht)
  have hk0 : Kept w (w.alloc (.cells #[.int .i64 x] 3)) := (Kept.refl w).alloc _
  have ht1 : Tabs (w.alloc (.cells #[.int .i64 x] 3)) := ht.kept hk0
  cases hi : kidB x with
  | false =>
    rw [hi] at HA
    clear hi
    go_enter Tryd.func17, Tryd.ntmps17
    go_wp2_with (first | (go_at_call 43; refine (HA.out _ ht1).mono ?_; rintro e w' ⟨rfl, rfl⟩) | (go_at_call 33; refine (told_no _ _).mono ?_; rintro e w' ⟨rfl, rfl⟩))
    go_ret2
    exact ⟨rfl, hk0⟩
  | true =>
    obtain ⟨x, rfl, h0⟩ := any_nat (show inB x 256 = true by unfold kidB at hi; rw [Bool.and_eq_true] at hi; exact hi.1)
    have h1 : 0 < Mth.lvl x := by rw [kidB_nat h0] at hi; exact of_decide_eq_true hi
    have HT := Lib.hid (told_val (g := 47) (enters_of Tryd.func47 (by kernel_rfl) rfl) (Right1_any w.heap.size x h0 h1 (w.alloc (.cells #[.int .i64 x] 3)) (cell_box _ _ _) ht1))
    rw [hi] at HA
    clear hi
    go_enter Tryd.func17, Tryd.ntmps17
    go_wp2_with (first | (go_at_call 43; refine (HA.out _ ht1).mono ?_; rintro e w' ⟨rfl, rfl⟩) | (go_at_call 33; refine HT.out.mono ?_; rintro e w' ⟨rfl, hk⟩))
    go_ret2
    exact ⟨rfl, hk0.trans hk⟩
theorem size_num {n : Nat} (h1 : 1 ≤ n) (h2 : n ≤ 256) : wrap64 (2 ^ Lib.bitLen (n - 1)) = (Mth.size n : Nat) ∧ Lib.bitLen (n - 1) ≤ 8 := by
  have h : (List.range 257).all (fun n => Nat.beq n 0 || ((wrap64 (2 ^ Lib.bitLen (n - 1)) == ((Mth.size n : Nat) : Int)) && Nat.ble (Lib.bitLen (n - 1)) 8)) = true := by decide +kernel
  have := List.all_eq_true.1 h n (List.mem_range.2 (by omega))
  rw [Bool.or_eq_true, Bool.and_eq_true] at this
  rcases this with e | ⟨e1, e2⟩
  · have := Nat.eq_of_beq_eq_true e; omega
  · exact ⟨eq_of_beq e1, Nat.le_of_ble_eq_true e2⟩
theorem Size1_any (b : Nat) (n : Nat) (h1 : 1 ≤ n) (h2 : n ≤ 256) (w : World) (hc : w.cell? ⟨b, 0, none⟩ = some (.int .i64 n)) :
    Calls Tryd.prog 48 #[.pointer (some ⟨b, 0, none⟩)] w fun e w' => e = .returned (.int .i64 (Mth.size n : Nat)) ∧ Kept w w' := by
  obtain ⟨m1, m2⟩ := size_num h1 h2
  have hq := Tryd.bits_Len ((n : Int) - 1) w (by omega) (by omega)
  rw [show ((n : Int) - 1).toNat = n - 1 by omega] at hq
  generalize Lib.bitLen (n - 1) = l at hq m1 m2
  have HN := Shut.mk m1
  have HQ := Lib.hid hq
  clear hq m1
  have hn0 : (1 : Int) ≤ (n : Int) := by omega
  have hn1 : (n : Int) ≤ 256 := by omega
  have hl0 : (0 : Int) ≤ (l : Int) := by omega
  have hl1 : (l : Int) ≤ 8 := by omega
  go_enter Tryd.func48, Tryd.ntmps48
  go_wp2_with (go_at_call 49; refine HQ.out.mono ?_; rintro e w' ⟨rfl, rfl⟩)
  go_ret
  exact ⟨by rw [← HN.out]; rfl, Kept.refl _⟩
def szB (n : Int) : Bool := decide (0 < n) && decide (n ≤ 256)
theorem Size_any (n : Int) (w : World) (hx : I64 n) : Calls Tryd.prog 19 #[.int .i64 n] w fun e w' => e = .returned (.tuple #[.int .i64 (pk (szB n) (Mth.size n.toNat : Nat)), .int .i64 (er (szB n))]) ∧ Kept w w' := by
  have hk0 : Kept w (w.alloc (.cells #[.int .i64 n] 3)) := (Kept.refl w).alloc _
  obtain ⟨hl, hu⟩ := hx
  by_cases h0 : 0 < n
  · have hd0 : decide (0 < n) = true := decide_eq_true h0
    by_cases h1 : n ≤ 256
    · have hd1 : decide (n ≤ 256) = true := decide_eq_true h1
      have HB := Shut.mk (show szB n = true by unfold szB; rw [hd0, hd1]; rfl)
      obtain ⟨m, rfl⟩ : ∃ m : Nat, n = m := ⟨n.toNat, by omega⟩
      have HT := Lib.hid (told_val (g := 48) (enters_of Tryd.func48 (by kernel_rfl) rfl) (Size1_any w.heap.size m (by omega) (by omega) (w.alloc (.cells #[.int .i64 m] 3)) (cell_box _ _ _)))
      go_enter Tryd.func19, Tryd.ntmps19
      go_wp2_with (go_at_call 33; refine HT.out.mono ?_; rintro e w' ⟨rfl, hk⟩)
      go_ret2
      exact ⟨by rw [HB.out]; rfl, hk0.trans hk⟩
    · have hd1 : decide (n ≤ 256) = false := decide_eq_false h1
      have HB := Shut.mk (show szB n = false by unfold szB; rw [hd1, Bool.and_false])
      go_enter Tryd.func19, Tryd.ntmps19
      go_wp2_with (go_at_call 33; refine (told_no _ _).mono ?_; rintro e w' ⟨rfl, rfl⟩)
      go_ret2
      exact ⟨by rw [HB.out]; rfl, hk0⟩
  · have hd0 : decide (0 < n) = false := decide_eq_false h0
    have HB := Shut.mk (show szB n = false by unfold szB; rw [hd0, Bool.false_and])
    go_enter Tryd.func19, Tryd.ntmps19
    go_wp2_with (go_at_call 33; refine (told_no _ _).mono ?_; rintro e w' ⟨rfl, rfl⟩)
    go_ret2
    exact ⟨by rw [HB.out]; rfl, hk0⟩
theorem Parent_any (x n : Int) (w : World) (hx : I64 x) (hn : I64 n) (ht : Tabs w) : Calls Tryd.prog 23 #[.int .i64 x, .int .i64 n] w fun e w' => e = .returned (.tuple #[.int .i64 (pk (upB x n) (Mth.par x.toNat : Nat)), .int .i64 (er (upB x n))]) ∧ Kept w w' := by
  have HA := Lib.hid (fun w => hasParent_any x n w hx hn)
  have hk0 : Kept w (w.alloc (.cells #[.int .i64 x] 3)) := (Kept.refl w).alloc _
  have ht1 : Tabs (w.alloc (.cells #[.int .i64 x] 3)) := ht.kept hk0
  cases hi : upB x n with
  | false =>
    rw [hi] at HA
    clear hi
    go_enter Tryd.func23, Tryd.ntmps23
    go_wp2_with (first | (go_at_call 53; refine (HA.out _).mono ?_; rintro e w' ⟨rfl, rfl⟩) | (go_at_call 33; refine (told_no _ _).mono ?_; rintro e w' ⟨rfl, rfl⟩))
    go_ret2
    exact ⟨rfl, hk0⟩
  | true =>
    obtain ⟨m, k, hm, -, -, -, h5⟩ := in_nat (upB_true hi).1
    subst hm
    have HT := Lib.hid (told_val (g := 54) (enters_of Tryd.func54 (by kernel_rfl) rfl) (Parent1_any w.heap.size m h5 (w.alloc (.cells #[.int .i64 m] 3)) (cell_box _ _ _) ht1))
    rw [hi] at HA
    clear hi
    go_enter Tryd.func23, Tryd.ntmps23
    go_wp2_with (first | (go_at_call 53; refine (HA.out _).mono ?_; rintro e w' ⟨rfl, rfl⟩) | (go_at_call 33; refine HT.out.mono ?_; rintro e w' ⟨rfl, hk⟩))
    go_ret2
    exact ⟨rfl, hk0.trans hk⟩
theorem Sibling_any (x n : Int) (w : World) (hx : I64 x) (hn : I64 n) (ht : Tabs w) : Calls Tryd.prog 25 #[.int .i64 x, .int .i64 n] w fun e w' => e = .returned (.tuple #[.int .i64 (pk (upB x n) (Mth.sib x.toNat : Nat)), .int .i64 (er (upB x n))]) ∧ Kept w w' := by
  have HA := Lib.hid (fun w => hasParent_any x n w hx hn)
  have hk0 : Kept w (w.alloc (.cells #[.int .i64 x] 3)) := (Kept.refl w).alloc _
  have ht1 : Tabs (w.alloc (.cells #[.int .i64 x] 3)) := ht.kept hk0
  cases hi : upB x n with
  | false =>
    rw [hi] at HA
    clear hi
    go_enter Tryd.func25, Tryd.ntmps25
    go_wp2_with (first | (go_at_call 53; refine (HA.out _).mono ?_; rintro e w' ⟨rfl, rfl⟩) | (go_at_call 33; refine (told_no _ _).mono ?_; rintro e w' ⟨rfl, rfl⟩))
    go_ret2
    exact ⟨rfl, hk0⟩
  | true =>
    obtain ⟨m, k, hm, -, -, -, h5⟩ := in_nat (upB_true hi).1
    subst hm
    have HT := Lib.hid (told_val (g := 57) (enters_of Tryd.func57 (by kernel_rfl) rfl) (Sibling1_any w.heap.size m h5 (w.alloc (.cells #[.int .i64 m] 3)) (cell_box _ _ _) ht1))
    rw [hi] at HA
    clear hi
    go_enter Tryd.func25, Tryd.ntmps25
    go_wp2_with (first | (go_at_call 53; refine (HA.out _).mono ?_; rintro e w' ⟨rfl, rfl⟩) | (go_at_call 33; refine HT.out.mono ?_; rintro e w' ⟨rfl, hk⟩))
    go_ret2
    exact ⟨rfl, hk0.trans hk⟩
end Go.Proofs.YtlohedmpcjpaeaaDoor

/- Walks: Leaves. -/
import Derived.Test.YtlohedmpcjpaeaaDoorMthD
import Derived.Deep.RegionHeld3
set_option linter.unusedSimpArgs false
set_option linter.unusedVariables false
namespace Go.Proofs.YtlohedmpcjpaeaaDoor
open Go.RowKit

theorem lo_num {x : Nat} (hx : x < 511) : ((x : Int) - ((2 ^ Mth.lvl x - 1 : Nat) : Int)) / 2 = (Mth.lo x : Nat) ∧ ((x : Int) + ((2 ^ Mth.lvl x - 1 : Nat) : Int)) / 2 + 1 = (Mth.hi x : Nat) ∧ 2 ^ Mth.lvl x - 1 ≤ 255 ∧ 2 ^ Mth.lvl x - 1 ≤ x := by
  have h : (List.range 511).all (fun x => Nat.ble (2 ^ Mth.lvl x - 1) x && Nat.ble (2 ^ Mth.lvl x - 1) 255) = true := by decide +kernel
  have := List.all_eq_true.1 h x (List.mem_range.2 hx)
  rw [Bool.and_eq_true] at this
  have h1 := Nat.le_of_ble_eq_true this.1
  have h2 := Nat.le_of_ble_eq_true this.2
  unfold Mth.lo Mth.hi
  omega
theorem Leaves1_any (b : Nat) (x : Nat) (hx : x < 511) (w : World) (hc : w.cell? ⟨b, 0, none⟩ = some (.int .i64 x)) (ht : Tabs w) :
    Calls Tryd.prog 51 #[.pointer (some ⟨b, 0, none⟩)] w fun e w' => e = .returned (.agg #[.int .i64 (Mth.lo x : Nat), .int .i64 (Mth.hi x : Nat)]) ∧ Kept w w' := by
  obtain ⟨n1, n2, n3, n4⟩ := lo_num hx
  have hw : b < w.heap.size := World.block_lt_of_cell? _ _ hc
  have hk1 : Kept w (w.alloc (.cells #[.int .i64 0, .int .i64 0] 44)) := (Kept.refl w).alloc _
  have hq := fun W (k : Kept (w.alloc (.cells #[.int .i64 0, .int .i64 0] 44)) W) => reach_any x hx W (ht.kept (hk1.trans k))
  have hc1 : (w.alloc (.cells #[.int .i64 0, .int .i64 0] 44)).cell? ⟨b, 0, none⟩ = some (.int .i64 x) := (Below.cell hk1 hw).trans hc
  generalize 2 ^ Mth.lvl x - 1 = r at hq n1 n2 n3 n4
  have HQ := Lib.hid hq
  have hck := fun (v0 v1 : Value) => (Below.cell (p := ⟨b, 0, none⟩) (((Kept.refl w).alloc (.cells #[v0, v1] 44)).drew) hw).trans hc
  have HCK := Lib.hid hck
  clear hck
  have hr0 : (0 : Int) ≤ (r : Int) := by omega
  have hr1 : (r : Int) ≤ 255 := by omega
  have hr2 : (r : Int) ≤ (x : Int) := by omega
  have hx1 : (x : Int) ≤ 510 := by omega
  have e1 : IntKind.i64.wrap ((x : Int) - (r : Int)) = (x : Int) - (r : Int) := IntWalk.i64_in _ (by omega)
  have e2 : IntKind.i64.wrap ((x : Int) + (r : Int)) = (x : Int) + (r : Int) := IntWalk.i64_in _ (by omega)
  have N1 := Shut.mk n1
  have N2 := Shut.mk n2
  clear hq n1 n2 n3 n4 hc
  go_enter Tryd.func51, Tryd.ntmps51
  go_wp2
  go_region_held3 (fun w' => w'.cell? ⟨b, 0, none⟩ = some (.int .i64 x)) (first | exact hc1 | exact HCK.out _ _ | go_keep | assumption)
    ((go_at_call 52; refine (HQ.out _ (by first | exact Kept.refl _ | exact (Kept.refl _).drew | exact (Kept.refl _).drewN _)).mono ?_; rintro e' w_1 ⟨rfl, rfl⟩))
  have t1 : IntKind.i64.wrap (((x : Int) - (r : Int)).tdiv 2) = (Mth.lo x : Nat) := by
    rw [← N1.out, Int.tdiv_eq_ediv_of_nonneg (by omega)]; exact IntWalk.i64_in _ (by omega)
  have t2 : IntKind.i64.wrap (IntKind.i64.wrap (((x : Int) + (r : Int)).tdiv 2) + 1) = (Mth.hi x : Nat) := by
    rw [← N2.out, Int.tdiv_eq_ediv_of_nonneg (by omega)]
    rw [show IntKind.i64.wrap (((x : Int) + (r : Int)) / 2) = ((x : Int) + (r : Int)) / 2 from IntWalk.i64_in _ (by omega)]; exact IntWalk.i64_in _ (by omega)
  rw [t1, t2]
  clear t1 t2
  go_wp2
  exact bodyPost_ret (v := .agg #[.int .i64 (Mth.lo x : Nat), .int .i64 (Mth.hi x : Nat)]) (by simp [results, Tryd.results51, go_sem]) rfl ⟨rfl, ((Kept.refl _).alloc _).drew⟩
theorem Leaves_any (x : Int) (w : World) (hx : I64 x) (ht : Tabs w) : Calls Tryd.prog 21 #[.int .i64 x] w fun e w' => e = .returned (.tuple #[.int .i64 (pk (inB x 256) (Mth.lo x.toNat : Nat)), .int .i64 (pk (inB x 256) (Mth.hi x.toNat : Nat)), .int .i64 (er (inB x 256))]) ∧ Kept w w' := by
  have HA := Lib.hid (fun w => anywhere_any x w hx)
  have hk0 : Kept w (w.alloc (.cells #[.int .i64 x] 3)) := (Kept.refl w).alloc _
  have ht1 : Tabs (w.alloc (.cells #[.int .i64 x] 3)) := ht.kept hk0
  cases hi : inB x 256 with
  | false =>
    rw [hi] at HA
    clear hi
    go_enter Tryd.func21, Tryd.ntmps21
    go_wp2_with (first | (go_at_call 40; refine (HA.out _).mono ?_; rintro e w' ⟨rfl, rfl⟩) | (go_at_call 50; refine (told_no2 _ _).mono ?_; rintro e w1 ⟨rfl, hk⟩))
    go_quiet (fail)
    go_wp2
    go_ret3
    exact ⟨rfl, ((hk0.trans hk).alloc _).drewN _⟩
  | true =>
    obtain ⟨x, rfl, h0⟩ := any_nat hi
    have HT := Lib.hid (told_yes2 (w := w.alloc (.cells #[.int .i64 (x : Int)] 3)) (g := 51) (enters_of Tryd.func51 (by kernel_rfl) rfl) (fun w1 k1 => Leaves1_any w.heap.size x h0 w1 ((Below.cell (p := ⟨w.heap.size, 0, none⟩) k1 (by simp)).trans (cell_box _ _ _)) (ht1.kept k1)))
    rw [hi] at HA
    clear hi
    go_enter Tryd.func21, Tryd.ntmps21
    go_wp2_with (first | (go_at_call 40; refine (HA.out _).mono ?_; rintro e w' ⟨rfl, rfl⟩) | (go_at_call 50; refine HT.out.mono ?_; rintro e w1 ⟨rfl, hk⟩))
    go_quiet (fail)
    go_wp2
    go_ret3
    exact ⟨rfl, ((hk0.trans hk).alloc _).drewN _⟩
end Go.Proofs.YtlohedmpcjpaeaaDoor

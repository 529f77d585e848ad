/- Walks: common, Common. -/
import Derived.Test.YtlohedmpcjpaeaaDoorMthF
import Derived.Test.YtlohedmpcjpaeaaDoorMthQ
set_option linter.unusedSimpArgs false
set_option linter.unusedVariables false
namespace Go.Proofs.YtlohedmpcjpaeaaDoor
open Go.RowKit

set_option maxHeartbeats 1000000 in
theorem common_any (x y n : Nat) (hn : n ∈ Mth.fulls) (hx : x < 2 * n - 1) (hy : y < 2 * n - 1) (w : World) (ht : Tabs w) :
    Calls Tryd.prog 65 #[.int .i64 x, .int .i64 y] w fun e w' => e = .returned (.int .i64 (Mth.comc x y : Nat)) ∧ Kept w w' := by
  have hbd := fulls_bd hn
  have hl8 := lvl_top hn
  have HRoot := Lib.hid (Mth.insB_root hn hy)
  have HTop := Lib.hid (fun z (hz : z < 2 * n - 1) => Mth.top_at hn hz)
  have HStep := Lib.hid (fun z (hz : z < 2 * n - 1) hr => Mth.step_at hn hz hr)
  generalize hcc : Mth.comc x y = c
  have HCC := Shut.mk hcc
  clear hcc
  have hy0 : (0 : Int) ≤ (y : Int) := by omega
  have hy1 : (y : Int) ≤ 510 := by omega
  go_enter Tryd.func65, Tryd.ntmps65
  go_wp2
  go_loopw [0] (fun u wr => ∃ z f : Nat, u = .int .i64 z ∧ z < 2 * n - 1 ∧ Mth.comcF f z y = c ∧ Mth.lvl (n - 1) + 1 ≤ Mth.lvl z + f ∧ Kept w wr) (fun u _ => 9 - Mth.lvl (intOf u).toNat)
  case atStart => exact ⟨x, 10, rfl, hx, HCC.out, by omega, Kept.refl _⟩
  case round =>
    obtain ⟨z, f, rfl, hz, hcf, hf, hk⟩ := hrel
    have hz5 : z < 511 := by omega
    have HR := Lib.hid (reach_any z hz5 wr (ht.kept hk))
    have HP := Lib.hid (parent_any z hz5 wr (ht.kept hk))
    have hle := (HTop.out z hz).le
    obtain ⟨f, rfl⟩ : ∃ g, f = g + 1 := ⟨f - 1, by omega⟩
    have HC := Shut.mk (show (bif Mth.insB y z then z else Mth.comcF f (Mth.par z) y) = c from hcf)
    have hin := (lo_num hz5).2.2.2
    have hrr := (lo_num hz5).2.2.1
    have HI := Shut.mk (show Mth.insB y z = (Nat.ble (z - (2 ^ Mth.lvl z - 1)) y && Nat.ble y (z + (2 ^ Mth.lvl z - 1))) from rfl)
    clear hcf
    have HM := Shut.mk (show z ≠ n - 1 → 9 - Mth.lvl (Mth.par z) < 9 - Mth.lvl z by
      intro h
      have := (HStep.out z hz h).up
      have := (HTop.out z hz).root
      have h8 := lvl_top hn
      omega)
    have HF := Shut.mk (show z ≠ n - 1 → Mth.par z < 2 * n - 1 ∧ Mth.lvl (n - 1) + 1 ≤ Mth.lvl (Mth.par z) + f by
      intro h
      have h1 := (HStep.out z hz h).up
      exact ⟨(HStep.out z hz h).inP, by omega⟩)
    have HNR := Shut.mk (show Mth.insB y z = false → z ≠ n - 1 by
      intro h e
      rw [e, HRoot.out] at h; cases h)
    generalize 2 ^ Mth.lvl z - 1 = r at HR hin hrr HI
    have hr0 : (0 : Int) ≤ (r : Int) := by omega
    have hr1 : (r : Int) ≤ 255 := by omega
    have hz0 : (r : Int) ≤ (z : Int) := by omega
    have hz1 : (z : Int) ≤ 510 := by omega
    clear hf hle
    by_cases ha : (y : Int) < (z : Int) - (r : Int)
    · have hda : decide ((y : Int) < (z : Int) - (r : Int)) = true := decide_eq_true ha
      have hno : Mth.insB y z = false := by rw [HI.out, Bool.and_eq_false_iff]; exact .inl (by rw [← Bool.not_eq_true, Nat.ble_eq]; omega)
      have HNo := Shut.mk hno
      have hnr := HNR.out hno
      clear hno
      go_wp2_with (first | (go_at_call 52; refine HR.out.mono ?_; rintro e w2 ⟨rfl, rfl⟩) | (go_at_call 55; refine HP.out.mono ?_; rintro e w2 ⟨rfl, hk2⟩))
      go_roundw
      case rel => exact ⟨Mth.par z, f, rfl, (HF.out hnr).1, by have := HC.out; rw [HNo.out] at this; exact this, (HF.out hnr).2, hk.trans hk2⟩
      case measure => exact HM.out hnr
    · have hda : decide ((y : Int) < (z : Int) - (r : Int)) = false := decide_eq_false ha
      by_cases hb : (z : Int) + (r : Int) < (y : Int)
      · have hdb : decide ((z : Int) + (r : Int) < (y : Int)) = true := decide_eq_true hb
        have hno : Mth.insB y z = false := by rw [HI.out, Bool.and_eq_false_iff]; exact .inr (by rw [← Bool.not_eq_true, Nat.ble_eq]; omega)
        have HNo := Shut.mk hno
        have hnr := HNR.out hno
        clear hno
        go_wp2_with (first | (go_at_call 52; refine HR.out.mono ?_; rintro e w2 ⟨rfl, rfl⟩) | (go_at_call 55; refine HP.out.mono ?_; rintro e w2 ⟨rfl, hk2⟩))
        go_roundw
        case rel => exact ⟨Mth.par z, f, rfl, (HF.out hnr).1, by have := HC.out; rw [HNo.out] at this; exact this, (HF.out hnr).2, hk.trans hk2⟩
        case measure => exact HM.out hnr
      · have hdb : decide ((z : Int) + (r : Int) < (y : Int)) = false := decide_eq_false hb
        have hyes : Mth.insB y z = true := by rw [HI.out, Bool.and_eq_true, Nat.ble_eq, Nat.ble_eq]; omega
        have HNo := Shut.mk hyes
        clear hyes
        go_wp2_with (first | (go_at_call 52; refine HR.out.mono ?_; rintro e w2 ⟨rfl, rfl⟩) | (go_at_call 55; refine HP.out.mono ?_; rintro e w2 ⟨rfl, hk2⟩))
        go_ret
        exact ⟨by have := HC.out; rw [HNo.out] at this; rw [← this]; rfl, hk⟩
theorem Common1_any (b c : Nat) (x y n : Nat) (hn : n ∈ Mth.fulls) (hx : x < 2 * n - 1) (hy : y < 2 * n - 1) (w : World) (hb : w.cell? ⟨b, 0, none⟩ = some (.int .i64 x)) (hc : w.cell? ⟨c, 0, none⟩ = some (.int .i64 y)) (ht : Tabs w) :
    Calls Tryd.prog 64 #[.pointer (some ⟨b, 0, none⟩), .pointer (some ⟨c, 0, none⟩)] w fun e w' => e = .returned (.int .i64 (Mth.comc x y : Nat)) ∧ Kept w w' := by
  have HC := Lib.hid (common_any x y n hn hx hy w ht)
  go_enter Tryd.func64, Tryd.ntmps64
  go_wp2_with (go_at_call 65; refine HC.out.mono ?_; rintro e w' ⟨rfl, hk⟩)
  go_ret
  exact ⟨rfl, hk⟩
theorem Common_any (x y n : Int) (w : World) (hx : I64 x) (hy : I64 y) (hn : I64 n) (ht : Tabs w) : Calls Tryd.prog 32 #[.int .i64 x, .int .i64 y, .int .i64 n] w fun e w' => e = .returned (.tuple #[.int .i64 (pk (inB x n && inB y n) (Mth.comc x.toNat y.toNat : Nat)), .int .i64 (er (inB x n && inB y n))]) ∧ Kept w w' := by
  have HA := Lib.hid (fun w => within_any x n w hx hn)
  have HB := Lib.hid (fun w => within_any y n w hy hn)
  have hk0 : Kept w ((w.alloc (.cells #[.int .i64 x] 3)).alloc (.cells #[.int .i64 y] 3)) := ((Kept.refl w).alloc _).alloc _
  have ht1 := ht.kept hk0
  cases hi : inB x n with
  | false =>
    rw [hi] at HA
    clear hi
    go_enter Tryd.func32, Tryd.ntmps32
    go_wp2_with (first | (go_at_call 60; refine (HA.out _).mono ?_; rintro e w' ⟨rfl, rfl⟩) | (go_at_call 33; refine (told_no _ _).mono ?_; rintro e w' ⟨rfl, rfl⟩))
    go_ret2
    exact ⟨rfl, hk0⟩
  | true =>
    cases hj : inB y n with
    | false =>
      rw [hi] at HA
      rw [hj] at HB
      clear hi hj
      go_enter Tryd.func32, Tryd.ntmps32
      go_wp2_with fail
      refine (HA.out _).mono ?_; rintro e w' ⟨rfl, rfl⟩
      go_wp2_with fail
      refine (HB.out _).mono ?_; rintro e w' ⟨rfl, rfl⟩
      go_wp2_with (go_at_call 33; refine (told_no _ _).mono ?_; rintro e w' ⟨rfl, rfl⟩)
      go_ret2
      exact ⟨rfl, hk0⟩
    | true =>
      obtain ⟨a, k, ha, hk, hkf, h4, -⟩ := in_nat hi
      obtain ⟨b, k', hb, hk', -, h4', -⟩ := in_nat hj
      obtain rfl : k' = k := by omega
      clear hk'
      subst ha hb hk
      have c1 : ((w.alloc (.cells #[.int .i64 (a : Int)] 3)).alloc (.cells #[.int .i64 (b : Int)] 3)).cell? ⟨w.heap.size, 0, none⟩ = some (.int .i64 a) := by
        rw [Below.cell (p := ⟨w.heap.size, 0, none⟩) ((Kept.refl _).alloc _) (by simp)]; exact cell_box _ _ _
      have c2 : ((w.alloc (.cells #[.int .i64 (a : Int)] 3)).alloc (.cells #[.int .i64 (b : Int)] 3)).cell? ⟨w.heap.size + 1, 0, none⟩ = some (.int .i64 b) := by
        have := cell_box (w.alloc (.cells #[.int .i64 (a : Int)] 3)) (.int .i64 (b : Int)) 3
        rwa [alloc_size] at this
      have HT := Lib.hid (told_val (enters_of Tryd.func64 (by kernel_rfl) rfl) (Common1_any w.heap.size (w.heap.size + 1) a b k' hkf h4 h4' _ c1 c2 ht1))
      rw [hi] at HA
      rw [hj] at HB
      clear hi hj c1 c2
      go_enter Tryd.func32, Tryd.ntmps32
      go_wp2_with fail
      refine (HA.out _).mono ?_; rintro e w' ⟨rfl, rfl⟩
      go_wp2_with fail
      refine (HB.out _).mono ?_; rintro e w' ⟨rfl, rfl⟩
      go_wp2_with (go_at_call 33; refine HT.out.mono ?_; rintro e w' ⟨rfl, hk⟩)
      go_ret2
      exact ⟨rfl, hk0.trans hk⟩
end Go.Proofs.YtlohedmpcjpaeaaDoor

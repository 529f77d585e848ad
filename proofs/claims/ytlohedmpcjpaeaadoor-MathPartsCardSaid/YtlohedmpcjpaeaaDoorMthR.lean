/- Walks of the document's answer: full, node, Width, Root, Level, half. -/
import Derived.Test.YtlohedmpcjpaeaaDoorMthB
set_option linter.unusedSimpArgs false
set_option linter.unusedVariables false
namespace Go.Proofs.YtlohedmpcjpaeaaDoor
open Go.RowKit

def l10 : List Nat := [1, 2, 4, 8, 16, 32, 64, 128, 256, 512]
theorem l10_bd {k : Nat} (h : k ∈ l10) : 1 ≤ k ∧ k ≤ 512 := by
  have : ∀ k ∈ l10, 1 ≤ k ∧ k ≤ 512 := by decide +kernel
  exact this k h
theorem l10_next {k : Nat} (h : k ∈ l10) (hc : k ≤ 256) : 2 * k ∈ l10 ∧ k ∈ Mth.fulls ∧ ∀ m ∈ Mth.fulls, m < 2 * k → m < k ∨ m = k := by
  have : ∀ k ∈ l10, k ≤ 256 → 2 * k ∈ l10 ∧ k ∈ Mth.fulls ∧ ∀ m ∈ Mth.fulls, m < 2 * k → m < k ∨ m = k := by decide +kernel
  exact this k h hc
set_option maxHeartbeats 1000000 in
theorem rfull_any (n : Int) (w : World) (h : I64 n) : Calls Tryd.prog 37 #[.int .i64 n] w fun e w' => e = .returned (.bool (treeB n)) ∧ w = w' := by
  obtain ⟨hl, hu⟩ := h
  go_enter Tryd.func37, Tryd.ntmps37
  go_wp2
  go_loop [3] (fun u => ∃ k : Nat, u = .int .i64 k ∧ k ∈ l10 ∧ (∀ m ∈ Mth.fulls, m < k → (m : Int) ≠ n)) (fun u => (600 - intOf u).toNat)
  case atStart => exact ⟨1, rfl, by decide, fun m hm h => absurd (fulls_bd hm).1 (by omega)⟩
  case round =>
    obtain ⟨k, rfl, hk, hall⟩ := hrel
    have hb := l10_bd hk
    have HK := Shut.mk hk
    have HA := Shut.mk hall
    clear hk hall
    have hk1 : (1 : Int) ≤ (k : Int) := by omega
    have hk2 : (k : Int) ≤ 512 := by omega
    by_cases hc : (k : Int) ≤ 256
    · have hd : decide ((k : Int) ≤ 256) = true := decide_eq_true hc
      obtain ⟨n1, n2, n3⟩ := l10_next HK.out (by omega)
      have N1 := Shut.mk n1
      have N3 := Shut.mk n3
      clear n1 n3
      by_cases he : (k : Int) = n
      · have ht := treeB_mk n2
        have hq : ((k : Int) == n) = true := by simpa using he
        rw [he] at ht
        have HT := Shut.mk ht
        clear ht he n2
        go_wp2
        go_ret
        exact ⟨by rw [HT.out]; rfl, rfl⟩
      · have hq : ((k : Int) == n) = false := by simpa using he
        have HE := Shut.mk he
        clear he n2
        go_wp2
        go_round
        case rel => exact ⟨2 * k, by rw [Int.mul_comm]; rfl, N1.out, fun m hm hlt => (N3.out m hm hlt).elim (fun h => HA.out m hm h) (fun e => by rw [e]; exact HE.out)⟩
        case measure => simp [intOf]; omega
    · have hd : decide ((k : Int) ≤ 256) = false := decide_eq_false hc
      have ht : treeB n = false := by
        cases e : treeB n with
        | false => rfl
        | true =>
          obtain ⟨h0, h1, h2⟩ := treeB_true e
          exact absurd (by omega) (HA.out _ h2 (by omega))
      have HT := Shut.mk ht
      clear ht
      go_wp2
      go_ret
      exact ⟨by rw [HT.out]; rfl, rfl⟩
theorem rnode_any (x n : Int) (w : World) (hx : I64 x) (h : I64 n) : Calls Tryd.prog 56 #[.int .i64 x, .int .i64 n] w fun e w' => e = .returned (.bool (inB x n)) ∧ w = w' := by
  have HT := Lib.hid (fun w => rfull_any n w h)
  obtain ⟨hl, hu⟩ := hx
  cases ht : treeB n with
  | false =>
    have HR := Shut.mk (show inB x n = false by unfold inB; rw [ht]; rfl)
    rw [ht] at HT
    clear ht
    go_enter Tryd.func56, Tryd.ntmps56
    go_wp2_with (go_at_call 37; refine (HT.out _).mono ?_; rintro e w' ⟨rfl, rfl⟩)
    go_ret
    exact ⟨by rw [HR.out]; rfl, rfl⟩
  | true =>
    obtain ⟨h0, h1, _⟩ := treeB_true ht
    rw [ht] at HT
    by_cases x0 : 0 ≤ x
    · have hd0 : decide (0 ≤ x) = true := decide_eq_true x0
      have HR := Shut.mk (show inB x n = decide (x < 2 * n - 1) by unfold inB; rw [ht, hd0]; rfl)
      generalize hb : decide (x < 2 * n - 1) = b at HR
      clear ht
      go_enter Tryd.func56, Tryd.ntmps56
      go_wp2_with (go_at_call 37; refine (HT.out _).mono ?_; rintro e w' ⟨rfl, rfl⟩)
      go_ret
      exact ⟨by rw [HR.out]; rfl, rfl⟩
    · have hd0 : decide (0 ≤ x) = false := decide_eq_false x0
      have HR := Shut.mk (show inB x n = false by unfold inB; rw [ht, hd0]; rfl)
      clear ht
      go_enter Tryd.func56, Tryd.ntmps56
      go_wp2_with (go_at_call 37; refine (HT.out _).mono ?_; rintro e w' ⟨rfl, rfl⟩)
      go_ret
      exact ⟨by rw [HR.out]; rfl, rfl⟩
theorem RWidth_any (n : Int) (w : World) (h : I64 n) : Calls Tryd.prog 10 #[.int .i64 n] w fun e w' => e = .returned (.tuple #[.int .i64 (pk (treeB n) (2 * n - 1)), .int .i64 (er (treeB n))]) ∧ w = w' := by
  have HT := Lib.hid (fun w => rfull_any n w h)
  cases ht : treeB n with
  | false =>
    rw [ht] at HT
    clear ht
    go_enter Tryd.func10, Tryd.ntmps10
    go_wp2_with (go_at_call 37; refine (HT.out _).mono ?_; rintro e w' ⟨rfl, rfl⟩)
    go_ret2
    exact ⟨rfl, rfl⟩
  | true =>
    obtain ⟨h0, h1, _⟩ := treeB_true ht
    rw [ht] at HT
    clear ht
    go_enter Tryd.func10, Tryd.ntmps10
    go_wp2_with (go_at_call 37; refine (HT.out _).mono ?_; rintro e w' ⟨rfl, rfl⟩)
    go_ret2
    exact ⟨rfl, rfl⟩
theorem RRoot_any (n : Int) (w : World) (h : I64 n) : Calls Tryd.prog 12 #[.int .i64 n] w fun e w' => e = .returned (.tuple #[.int .i64 (pk (treeB n) (n - 1)), .int .i64 (er (treeB n))]) ∧ w = w' := by
  have HT := Lib.hid (fun w => rfull_any n w h)
  cases ht : treeB n with
  | false =>
    rw [ht] at HT
    clear ht
    go_enter Tryd.func12, Tryd.ntmps12
    go_wp2_with (go_at_call 37; refine (HT.out _).mono ?_; rintro e w' ⟨rfl, rfl⟩)
    go_ret2
    exact ⟨rfl, rfl⟩
  | true =>
    obtain ⟨h0, h1, _⟩ := treeB_true ht
    rw [ht] at HT
    clear ht
    go_enter Tryd.func12, Tryd.ntmps12
    go_wp2_with (go_at_call 37; refine (HT.out _).mono ?_; rintro e w' ⟨rfl, rfl⟩)
    go_ret2
    exact ⟨rfl, rfl⟩
theorem inB_256 (x : Int) : inB x 256 = (decide (0 ≤ x) && decide (x ≤ 510)) := by
  unfold inB
  rw [show treeB 256 = true by decide +kernel, Bool.true_and]
  congr 1
  exact decide_eq_decide.2 (by omega)
theorem lvlF_odd {f z : Nat} (h : z % 2 = 1) (hz : z < 2 ^ f) : ∃ g, f = g + 1 ∧ Mth.lvlF f z = Mth.lvlF g (z / 2) + 1 ∧ z / 2 < 2 ^ g := by
  cases f with
  | zero => omega
  | succ g =>
    refine ⟨g, rfl, ?_, by rw [Nat.pow_succ] at hz; omega⟩
    show (bif Nat.beq (z % 2) 1 then _ else _) = _
    rw [h]; rfl
theorem lvlF_even {f z : Nat} (h : z % 2 ≠ 1) : Mth.lvlF f z = 0 := by
  cases f with
  | zero => rfl
  | succ g =>
    show (bif Nat.beq (z % 2) 1 then _ else _) = _
    rw [show z % 2 = 0 by omega]; rfl
set_option maxHeartbeats 1000000 in
theorem RLevel_any (x : Int) (w : World) (hx : I64 x) : Calls Tryd.prog 14 #[.int .i64 x] w fun e w' => e = .returned (.tuple #[.int .i64 (pk (inB x 256) (Mth.lvl x.toNat : Nat)), .int .i64 (er (inB x 256))]) ∧ w = w' := by
  obtain ⟨hl, hu⟩ := hx
  have hi := inB_256 x
  by_cases h0 : x < 0
  · have hd : decide (x < 0) = true := decide_eq_true h0
    rw [show decide (0 ≤ x) = false from decide_eq_false (by omega), Bool.false_and] at hi
    have HI := Shut.mk hi
    clear hi
    go_enter Tryd.func14, Tryd.ntmps14
    go_wp2
    go_ret2
    exact ⟨by rw [HI.out]; rfl, rfl⟩
  · have hd : decide (x < 0) = false := decide_eq_false h0
    by_cases h1 : 510 < x
    · have hd1 : decide (510 < x) = true := decide_eq_true h1
      rw [show decide (x ≤ 510) = false from decide_eq_false (by omega), Bool.and_false] at hi
      have HI := Shut.mk hi
      clear hi
      go_enter Tryd.func14, Tryd.ntmps14
      go_wp2
      go_ret2
      exact ⟨by rw [HI.out]; rfl, rfl⟩
    · have hd1 : decide (510 < x) = false := decide_eq_false h1
      rw [show decide (x ≤ 510) = true from decide_eq_true (by omega), show decide (0 ≤ x) = true from decide_eq_true (by omega)] at hi
      have HI := Shut.mk hi
      clear hi
      obtain ⟨x, rfl⟩ : ∃ m : Nat, x = m := ⟨x.toNat, by omega⟩
      go_enter Tryd.func14, Tryd.ntmps14
      go_wp2
      go_loop [0, 4] (fun u v => ∃ z j f : Nat, u = .int .i64 z ∧ v = .int .i64 j ∧ z ≤ 510 ∧ z < 2 ^ f ∧ j + f ≤ 10 ∧ j + Mth.lvlF f z = Mth.lvl x) (fun u _ => (intOf u).toNat)
      case atStart => exact ⟨x, 0, 10, rfl, rfl, by omega, by omega, by omega, by rw [Nat.zero_add]; rfl⟩
      case round =>
        obtain ⟨z, j, f, rfl, rfl, hz, hzf, hjf, hlv⟩ := hrel
        have HL := Shut.mk hlv
        have HZ := Shut.mk hzf
        clear hlv hzf
        have z0 : (0 : Int) ≤ (z : Int) := by omega
        have z1 : (z : Int) ≤ 510 := by omega
        have j0 : (0 : Int) ≤ (j : Int) := by omega
        have j1 : (j : Int) ≤ 10 := by omega
        by_cases ho : z % 2 = 1
        · obtain ⟨g, hg, e2, e3⟩ := lvlF_odd ho HZ.out
          have hq : ((z : Int) % 2 == 1) = true := by simp; omega
          have E2 := Shut.mk e2
          have E3 := Shut.mk e3
          have HO := Shut.mk ho
          have HG := Shut.mk hg
          clear e2 e3 ho hg
          go_wp2
          go_round
          case rel => exact ⟨z / 2, j + 1, g, by go_num, by go_num, by omega, E3.out, by have := HG.out; omega, by have := HL.out; rw [E2.out] at this; omega⟩
          case measure => have := HO.out; simp [intOf]; omega
        · have hq : ((z : Int) % 2 == 1) = false := by rw [beq_eq_false_iff_ne]; omega
          have E2 := Shut.mk (lvlF_even (f := f) ho)
          clear ho
          go_wp2
          go_ret2
          exact ⟨by rw [HI.out]; show _ = Ending.returned (.tuple #[.int .i64 (Mth.lvl x : Nat), _]); rw [← HL.out, E2.out]; rfl, rfl⟩
end Go.Proofs.YtlohedmpcjpaeaaDoor

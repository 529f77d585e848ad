/- Walks of package wire: numbers of so many bytes. -/
import Derived.Test.YthjjmadfdfjjdaaPlain
import Derived.Outline
set_option linter.unusedSimpArgs false
set_option linter.unusedVariables false
namespace Go.Proofs.Ythjjmadfdfjjdaa
open Go.RowKit

/-- The k lowest bytes of n, the highest first. -/
def wb (n : Int) : Nat → List Int
  | 0 => []
  | k + 1 => n / 2 ^ (8 * k) % 256 :: wb n k

theorem wb_length (n : Int) (k : Nat) : (wb n k).length = k := by
  induction k with
  | zero => rfl
  | succ k ih => simp [wb, ih]

theorem isWide_any (n : Int) (w : World) : Calls Try.prog 27 #[.int .i64 n] w fun e w' => e = .returned (.bool (decide (1 ≤ n ∧ n ≤ 8))) ∧ w = w' := by
  by_cases h1 : n < 1
  · have e : decide (1 ≤ n ∧ n ≤ 8) = false := by simp; omega
    rw [e]; clear e
    go_enter Try.func27, Try.ntmps27
    go_wp2
    go_ret
    exact ⟨rfl, rfl⟩
  · have h1' : 1 ≤ n := by omega
    by_cases h2 : n ≤ 8
    · have e : decide (1 ≤ n ∧ n ≤ 8) = true := by simp; omega
      rw [e]; clear e
      go_enter Try.func27, Try.ntmps27
      go_wp2
      go_ret
      exact ⟨rfl, rfl⟩
    · have e : decide (1 ≤ n ∧ n ≤ 8) = false := by simp; omega
      have h3 : 8 < n := by omega
      rw [e]; clear e
      go_enter Try.func27, Try.ntmps27
      go_wp2
      go_ret
      exact ⟨rfl, rfl⟩

theorem wide_ok (n : Int) (k : Nat) (w : World) (h0 : 0 ≤ n) (hn : n < 18446744073709551616) (k1 : 1 ≤ k) (k8 : k ≤ 8) (hsh : (n / 2 ^ (8 * k) != 0) = false) :
    Calls Try.prog 13 #[.int .u64 n, .int .i64 k] w fun e w' => ∃ v, e = .returned (.tuple #[v, .int .i64 0]) ∧ Own w.heap.size 5 w' v (wb n k) ∧ Kept w w' := by
  have HC := Lib.hid (isWide_any k w)
  have e : decide (1 ≤ (k : Int) ∧ (k : Int) ≤ 8) = true := by simp; omega
  rw [e] at HC; clear e
  have HN := Lib.hid hn; clear hn
  go_enter Try.func13, Try.ntmps13
  go_wp2_with fail
  refine HC.out.mono ?_
  rintro e w1 ⟨rfl, rfl⟩
  go_wp2_with (at_make; refine go_mkf k rfl rfl (by omega) ?_; intro w1 ho1 hk1)
  have HSH := Lib.hid hsh; clear hsh
  go_loopw [22] (fun i wr => ∃ j : Nat, j ≤ k ∧ i = .int .i64 j ∧ Own w.heap.size 5 wr (.slice (some ⟨w.heap.size, 0, none⟩) k k) (List.replicate (k - j) 0 ++ wb n j) ∧ Kept w wr) (fun i _ => k - (intOf i).toNat)
  case atStart => exact ⟨0, Nat.zero_le _, rfl, by simpa [wb] using ho1, hk1⟩
  case round =>
    obtain ⟨j, hj, rfl, hown, hkept⟩ := hrel
    by_cases hlt : j < k
    · have hlen : (List.replicate (k - j) (0 : Int) ++ wb n j).length = k := by rw [List.length_append, List.length_replicate, wb_length]; omega
      have hown' := hown
      unfold Own Ownv at hown'
      rw [hlen] at hown'
      have hcx : wr.cell? ⟨w.heap.size, k - 1 - j, none⟩ = some (.int .u8 0) := by
        rw [World.ownsRow.cellAt hown' (k - 1 - j) (by omega)]
        simp [List.getElem?_append_left, show k - 1 - j < k - j by omega]
      have hfx : wr.frozen? ⟨w.heap.size, k - 1 - j, none⟩ = false := World.ownsRow.frozenAt hown' _
      have HO := Lib.hid hown'
      clear hown hown' hlen
      go_wp2_with fail
      go_roundw
      case rel =>
        refine ⟨j + 1, by omega, by go_num, ?_, ?_⟩
        · have h2 := (World.ownsRow.stored HO.out (k - 1 - j) (.int .u8 (n / 2 ^ (8 * j) % 256))).1
          have e1 : ((List.replicate (k - j) (0 : Int) ++ wb n j).map (Value.int .u8)).set (k - 1 - j) (.int .u8 (n / 2 ^ (8 * j) % 256)) = (List.replicate (k - (j + 1)) (0 : Int) ++ wb n (j + 1)).map (Value.int .u8) := by
            rw [← List.map_set]
            congr 1
            rw [List.set_append_left _ _ (by simp; omega)]
            obtain ⟨m, hm⟩ : ∃ m, k - j = m + 1 := ⟨k - j - 1, by omega⟩
            have e2 : k - 1 - j = m := by omega
            have e3 : k - (j + 1) = m := by omega
            rw [hm, e2, e3, List.replicate_succ', List.set_append_right _ _ (by simp)]
            simp [wb]
          rw [e1] at h2
          have hlen : (List.replicate (k - (j + 1)) (0 : Int) ++ wb n (j + 1)).length = k := by rw [List.length_append, List.length_replicate, wb_length]; omega
          unfold Own Ownv
          rw [hlen]
          exact h2
        · exact hkept.trans' (Below.setCell (Below.refl _ _) (by exact Nat.le_refl _) _)
      case measure => simp [intOf]; omega
    · obtain rfl : j = k := by omega
      have e0 : List.replicate (j - j) (0 : Int) ++ wb n j = wb n j := by simp
      rw [e0] at hown
      go_wp2_with fail
      go_ret2
      exact ⟨_, rfl, hown, hkept⟩

theorem wide_bad (n : Int) (k : Int) (w : World) (h0 : 0 ≤ n) (hn : n < 18446744073709551616) (hk : k < 1 ∨ 8 < k) :
    Calls Try.prog 13 #[.int .u64 n, .int .i64 k] w fun e w' => e = .returned (.tuple #[.slice none 0 0, .int .i64 1]) ∧ w = w' := by
  have HC := Lib.hid (isWide_any k w)
  have e : decide (1 ≤ (k : Int) ∧ (k : Int) ≤ 8) = false := by simp; omega
  rw [e] at HC; clear e
  have HN := Lib.hid hn; clear hn hk
  go_enter Try.func13, Try.ntmps13
  go_wp2_with (go_at_call 27; refine HC.out.mono ?_; rintro e w1 ⟨rfl, rfl⟩)
  go_ret2
  exact ⟨rfl, rfl⟩
theorem wide_over (n : Int) (k : Nat) (w : World) (h0 : 0 ≤ n) (hn : n < 18446744073709551616) (k1 : 1 ≤ k) (k8 : k ≤ 8) (hsh : (n / 2 ^ (8 * k) != 0) = true) :
    Calls Try.prog 13 #[.int .u64 n, .int .i64 k] w fun e w' => e = .returned (.tuple #[.slice none 0 0, .int .i64 1]) ∧ w = w' := by
  have HC := Lib.hid (isWide_any k w)
  have e : decide (1 ≤ (k : Int) ∧ (k : Int) ≤ 8) = true := by simp; omega
  rw [e] at HC; clear e
  have HN := Lib.hid hn; clear hn
  go_enter Try.func13, Try.ntmps13
  go_wp2_with (go_at_call 27; refine HC.out.mono ?_; rintro e w1 ⟨rfl, rfl⟩)
  go_ret2
  exact ⟨rfl, rfl⟩
end Go.Proofs.Ythjjmadfdfjjdaa

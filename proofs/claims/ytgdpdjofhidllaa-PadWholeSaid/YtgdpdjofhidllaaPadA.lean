/- Walks of package pad: buckets, and filling up. -/
import Derived.Test.YtgdpdjofhidllaaPadS
import Derived.Outline
set_option linter.unusedSimpArgs false
set_option linter.unusedVariables false
namespace Go.Proofs.Ytgdpdjofhidllaa
open Go.RowKit

theorem bucket_neg (n : Int) (w : World) (h : n < 0) :
    Calls Try.prog 13 #[.int .i64 n] w fun e w' => e = .returned (.tuple #[.int .i64 0, .int .i64 1]) ∧ w = w' := by
  go_enter Try.func13, Try.ntmps13
  go_wp2
  go_ret2
  exact ⟨rfl, rfl⟩
theorem bucket_big (n : Int) (w : World) (h : 65536 ≤ n) :
    Calls Try.prog 13 #[.int .i64 n] w fun e w' => e = .returned (.tuple #[.int .i64 0, .int .i64 2]) ∧ w = w' := by
  go_enter Try.func13, Try.ntmps13
  go_wp2
  go_ret2
  exact ⟨rfl, rfl⟩
theorem bucket_ok (n : Int) (w : World) (h0 : 0 ≤ n) (h1 : n < 65536) :
    Calls Try.prog 13 #[.int .i64 n] w fun e w' => e = .returned (.tuple #[.int .i64 (bk n), .int .i64 0]) ∧ w = w' := by
  go_enter Try.func13, Try.ntmps13
  go_wp2
  go_loop [4] (fun s => ∃ k : Int, BkOk n k ∧ s = .int .i64 k) (fun s => (131072 - intOf s).toNat)
  case atStart => exact ⟨32, BkOk.start n, rfl⟩
  case round =>
    obtain ⟨k, hk, rfl⟩ := hrel
    obtain ⟨b0, b1⟩ := hk.bd
    by_cases hlt : k ≤ n
    · have hs := hk.step hlt h1
      go_wp2
      go_round
      case rel => exact ⟨_, hs, rfl⟩
      case measure => simp [intOf]; omega
    · have he := Lib.hid (hk.eq (by omega) h1)
      go_wp2
      go_ret2
      exact ⟨by rw [he.out]; rfl, rfl⟩

theorem rbucket_neg (n : Int) (w : World) (h : n < 0) :
    Calls Try.prog 14 #[.int .i64 n] w fun e w' => e = .returned (.tuple #[.int .i64 0, .int .i64 1]) ∧ w = w' := by
  go_enter Try.func14, Try.ntmps14
  go_wp2
  go_ret2
  exact ⟨rfl, rfl⟩
theorem rbucket_big (n : Int) (w : World) (h : 65536 ≤ n) :
    Calls Try.prog 14 #[.int .i64 n] w fun e w' => e = .returned (.tuple #[.int .i64 0, .int .i64 2]) ∧ w = w' := by
  go_enter Try.func14, Try.ntmps14
  go_wp2
  go_loop [4] (fun s => ∃ k : Int, (isB k ∨ k = 131072) ∧ s = .int .i64 k) (fun s => (131072 - intOf s).toNat)
  case atStart => exact ⟨32, .inl (.inl rfl), rfl⟩
  case round =>
    obtain ⟨k, hk, rfl⟩ := hrel
    have HK := Lib.hid hk
    have b : 32 ≤ k ∧ k ≤ 131072 := by unfold isB at hk; omega
    clear hk
    by_cases hlt : k ≤ 65536
    · have hng : ¬ n < k := by omega
      go_wp2
      go_round
      case rel => exact ⟨k * 2, by have := HK.out; unfold isB at this ⊢; omega, rfl⟩
      case measure => simp [intOf]; omega
    · go_wp2
      go_ret2
      exact ⟨rfl, rfl⟩
theorem rbucket_ok (n : Int) (w : World) (h0 : 0 ≤ n) (h1 : n < 65536) :
    Calls Try.prog 14 #[.int .i64 n] w fun e w' => e = .returned (.tuple #[.int .i64 (bk n), .int .i64 0]) ∧ w = w' := by
  go_enter Try.func14, Try.ntmps14
  go_wp2
  go_loop [4] (fun s => ∃ k : Int, BkOk n k ∧ s = .int .i64 k) (fun s => (131072 - intOf s).toNat)
  case atStart => exact ⟨32, BkOk.start n, rfl⟩
  case round =>
    obtain ⟨k, hk, rfl⟩ := hrel
    obtain ⟨b0, b1⟩ := hk.bd
    by_cases hlt : k ≤ n
    · have hs := hk.step hlt h1
      have hng : ¬ n < k := by omega
      go_wp2
      go_round
      case rel => exact ⟨_, hs, rfl⟩
      case measure => simp [intOf]; omega
    · have he := Lib.hid (hk.eq (by omega) h1)
      have hng : n < k := by omega
      go_wp2
      go_ret2
      exact ⟨by rw [he.out]; rfl, rfl⟩
end Go.Proofs.Ytgdpdjofhidllaa

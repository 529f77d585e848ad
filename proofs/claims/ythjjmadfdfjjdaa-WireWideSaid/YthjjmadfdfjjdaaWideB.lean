/- Walks of package wire: numbers of so many bytes are read. -/
import Derived.Test.YthjjmadfdfjjdaaWideA
set_option linter.unusedSimpArgs false
set_option linter.unusedVariables false
namespace Go.Proofs.Ythjjmadfdfjjdaa
open Go.RowKit

/-- The number that the first k bytes are, the highest first. -/
def valB (zs : List Int) : Nat → Int
  | 0 => 0
  | k + 1 => valB zs k * 256 + zs.getD k 0

theorem valB_bound (zs : List Int) (h : By zs) (k : Nat) : 0 ≤ valB zs k ∧ valB zs k < 256 ^ k := by
  induction k with
  | zero => simp [valB]
  | succ k ih =>
    have := h.at k
    simp only [valB, Int.pow_succ]
    omega

theorem pow256 (j : Nat) (h : j ≤ 7) : (256 : Int) ^ j ≤ 72057594037927936 := by
  have : j = 0 ∨ j = 1 ∨ j = 2 ∨ j = 3 ∨ j = 4 ∨ j = 5 ∨ j = 6 ∨ j = 7 := by omega
  rcases this with rfl | rfl | rfl | rfl | rfl | rfl | rfl | rfl <;> decide

theorem u64_or8' (m y : Int) (h0 : 0 ≤ m) (h1 : m < 72057594037927936) (y0 : 0 ≤ y) (y1 : y ≤ 255) : bits .or .u64 (m * 256) y = m * 256 + y :=
  bits_join .u64 64 (by decide) (fun n a b => by rw [IntKind.wrap_u64]; omega) 8 (m * 256) y (by omega) (by omega) (by omega) y0 (by omega) (by omega)

theorem takeWide_ok (v : Value) (zs : List Int) (k : Nat) (w : World) (h : Rd w v zs) (hb : By zs) (k1 : 1 ≤ k) (k8 : k ≤ 8) (hk : k ≤ zs.length) :
    Calls Try.prog 25 #[v, .int .i64 k] w fun e w' => e = .returned (.tuple #[.int .u64 (valB zs k), .int .i64 0]) ∧ Kept w w' := by
  have HC := Lib.hid (isWide_any k w)
  have e : decide (1 ≤ (k : Int) ∧ (k : Int) ≤ 8) = true := by simp; omega
  rw [e] at HC; clear e
  obtain ⟨b, off, cap, rfl, hc, hm, hbw, hcell⟩ := h.addr (by omega)
  have HX := Lib.hid hcell; clear hcell
  have hcap : ¬ cap = 0 := by omega
  unfold maxLen at hm
  go_enter Try.func25, Try.ntmps25
  go_wp2_with (go_at_call 27; refine HC.out.mono ?_; rintro e w1 ⟨rfl, rfl⟩)
  go_loop [6, 20] (fun n i => ∃ j : Nat, j ≤ k ∧ i = .int .i64 j ∧ n = .int .u64 (valB zs j)) (fun _ i => k - (intOf i).toNat)
  case atStart => exact ⟨0, Nat.zero_le _, rfl, rfl⟩
  case round =>
    obtain ⟨j, hj, rfl, rfl⟩ := hrel
    by_cases hlt : j < k
    · have hcx := HX.out j (by omega)
      obtain ⟨q1, q2⟩ := valB_bound zs hb j
      have q3 := pow256 j (by omega)
      have q4 : valB zs j < 72057594037927936 := by omega
      obtain ⟨q5, q6⟩ := hb.at j
      have HV := Lib.hid (show valB zs (j + 1) = valB zs j * 256 + zs.getD j 0 from rfl)
      have hor := u64_or8' (valB zs j) (zs.getD j 0) q1 q4 q5 q6
      clear q2 q3
      generalize zs.getD j 0 = x at *
      generalize valB zs j = m at *
      go_wp2_with fail
      go_round
      case rel => exact ⟨j + 1, by omega, by go_num, by rw [HV.out]⟩
      case measure => simp [intOf]; omega
    · obtain rfl : j = k := by omega
      go_wp2_with fail
      go_ret2
      exact ⟨rfl, Kept.refl _⟩

theorem takeWide_short (v : Value) (zs : List Int) (k : Nat) (w : World) (h : Rd w v zs) (k1 : 1 ≤ k) (k8 : k ≤ 8) (hk : zs.length < k) :
    Calls Try.prog 25 #[v, .int .i64 k] w fun e w' => e = .returned (.tuple #[.int .u64 0, .int .i64 10]) ∧ Kept w w' := by
  have HC := Lib.hid (isWide_any k w)
  have e : decide (1 ≤ (k : Int) ∧ (k : Int) ≤ 8) = true := by simp; omega
  rw [e] at HC; clear e
  obtain ⟨a, cap, rfl, h1, h2, h3⟩ := h.len
  go_enter Try.func25, Try.ntmps25
  go_wp2_with (go_at_call 27; refine HC.out.mono ?_; rintro e w1 ⟨rfl, rfl⟩)
  go_ret2
  exact ⟨rfl, Kept.refl _⟩
end Go.Proofs.Ythjjmadfdfjjdaa

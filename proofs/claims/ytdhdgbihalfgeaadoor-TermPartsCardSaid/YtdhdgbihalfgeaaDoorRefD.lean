/- The document's terms: Digits. -/
import Derived.Test.YtdhdgbihalfgeaaDoorTermA
import Derived.BigQuiet
import Derived.Deep.QuietTactic
import Derived.IntWalk
import Derived.Lib.ItoaLen
set_option linter.unusedSimpArgs false
set_option linter.unusedVariables false
namespace Go.Proofs.YtdhdgbihalfgeaaDoor
open Go.RowKit Go.Maps

def digs : ByteArray := ⟨#[48, 49, 50, 51, 52, 53, 54, 55, 56, 57]⟩
theorem strB_app (a b : List UInt8) : strB a ++ strB b = strB (a ++ b) := by
  unfold strB
  apply ByteArray.ext
  simp
theorem digs_at (k : Nat) (h : k < 10) : digs.extract k (k + 1) = strB [UInt8.ofNat (48 + k)] := by
  have : k = 0 ∨ k = 1 ∨ k = 2 ∨ k = 3 ∨ k = 4 ∨ k = 5 ∨ k = 6 ∨ k = 7 ∨ k = 8 ∨ k = 9 := by omega
  rcases this with rfl | rfl | rfl | rfl | rfl | rfl | rfl | rfl | rfl | rfl <;> rfl

theorem dd_len (n : Nat) (h : n ≤ 9223372036854775807) : (Lib.decDigits n).length ≤ 21 := by
  have := Lib.itoa_length_le (n : Int) (by omega) (by omega)
  rwa [itoa_of_nonneg (by omega), Int.toNat_natCast] at this

set_option maxHeartbeats 1000000 in
set_option maxRecDepth 20000 in
theorem digits_any (n : Nat) (hn : (n : Int) ≤ 9223372036854775807) (w : World) :
    Calls Tryd.prog 47 #[.int .i64 n] w fun e w' => e = .returned (.string (strB (Lib.decDigits n))) ∧ ∃ m, w' = w.drewN m := by
  induction n using Nat.strongRecOn generalizing w with
  | ind n ih =>
    by_cases h : n < 10
    · have HE := Shut.mk (Lib.decDigits_one h)
      have HD := Shut.mk (digs_at n h)
      have h1 : (n : Int) < 10 := by omega
      have h0 : (0 : Int) ≤ (n : Int) := by omega
      go_enter Tryd.func47, Tryd.ntmps47
      go_wp2
      go_ret
      exact ⟨by rw [HE.out, ← HD.out]; rfl, 0, rfl⟩
    · have hq : (((n / 10 : Nat) : Int)) ≤ 9223372036854775807 := by omega
      have e0 : (((n / 10 : Nat)) : Int) = (n : Int) / 10 := by omega
      have hih := fun W => ih (n / 10) (by omega) hq W
      rw [e0] at hih
      clear e0
      have hs := dd_step h
      have hlen := dd_len (n / 10) (by omega)
      have HS := Shut.mk hs
      have HD := Shut.mk (digs_at (n % 10) (by omega))
      have h0 : ¬ (n : Int) < 0 := by omega
      have h1 : ¬ (n : Int) < 10 := by omega
      have hsz : ¬ 9223372036854775807 < (strB (Lib.decDigits (n / 10))).size + (min (n % 10 + 1) 10 - n % 10) := by rw [strB_size]; omega
      clear hs ih
      go_enter Tryd.func47, Tryd.ntmps47
      go_wp2
      go_quiet ((go_at_call 47; exact Calls.quiet_of (hih _)))
      go_wp2
      go_ret
      refine ⟨?_, _, rfl⟩
      show Ending.returned (Value.string (strB (Lib.decDigits (n / 10)) ++ digs.extract (n % 10) (n % 10 + 1))) = _
      rw [HS.out, HD.out, strB_app]

theorem itoaR (n : Int) (h0 : 0 ≤ n) (hn : n ≤ 9223372036854775807) (w : World) :
    Calls Tryd.prog 47 #[.int .i64 n] w fun e w' => e = .returned (.string (strB (Lib.itoa n))) ∧ ∃ m, w' = w.drewN m := by
  obtain ⟨k, rfl⟩ := Int.eq_ofNat_of_zero_le h0
  rw [itoa_of_nonneg h0, Int.toNat_natCast]
  exact digits_any k hn w
end Go.Proofs.YtdhdgbihalfgeaaDoor

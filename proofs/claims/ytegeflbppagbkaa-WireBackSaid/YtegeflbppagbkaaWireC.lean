/- Walks of package wire: vectors and options as bytes. -/
import Derived.Test.YtegeflbppagbkaaWireB
import Derived.Outline
set_option linter.unusedSimpArgs false
set_option linter.unusedVariables false
namespace Go.Proofs.Ytegeflbppagbkaa
open Go.RowKit

theorem isz_pos (n : Int) : 1 ≤ isz n ∧ isz n ≤ 4 := by unfold isz; split <;> (try split) <;> omega

/-- A vector's bytes. -/
def vecB (xs : List Int) : List Int := ib xs.length ++ xs

theorem ib_length {n : Int} : ((ib n).length : Int) = isz n := by
  unfold ib isz
  split
  · rfl
  · split <;> rfl

theorem vecB_length (xs : List Int) : ((vecB xs).length : Int) = isz xs.length + xs.length := by
  unfold vecB; rw [List.length_append]; have := @ib_length (xs.length : Int); omega

theorem vectorSize_any (v : Value) (xs : List Int) (w : World) (h : Rd w v xs) (hl : xs.length ≤ 140737488355328) :
    Calls Try.prog 11 #[v] w fun e w' => e = .returned (.int .i64 (vecB xs).length) ∧ w = w' := by
  obtain ⟨a, cap, rfl, h1, h2, h3⟩ := h.len
  have HC := Lib.hid (intSize_any (xs.length : Int) w)
  have HE := Lib.hid (vecB_length xs)
  obtain ⟨p1, p2⟩ := isz_pos xs.length
  go_enter Try.func11, Try.ntmps11
  go_wp2_with (go_at_call 12; refine HC.out.mono ?_; rintro e w' ⟨rfl, rfl⟩)
  go_ret
  exact ⟨by rw [HE.out]; rfl, rfl⟩

theorem appendVector_any (B : Nat) (v : Value) (zs : List Int) (x : Value) (xs : List Int) (w : World) (hB : B ≤ w.heap.size) (ho : Own B 5 w v zs) (hx : Old B w x xs) (hz : zs.length ≤ 4294967296) (hl : (xs.length : Int) < 1073741824) :
    Calls Try.prog 14 #[v, x] w fun e w' => ∃ v', e = .returned v' ∧ Own B 5 w' v' (zs ++ vecB xs) ∧ Below B w w' := by
  obtain ⟨a, cap, rfl, h1, h2, h3⟩ := hx.rd.len
  have HC := Lib.hid (appendInt_any B v zs (xs.length : Int) w hB ho hz (by omega) (by omega))
  have hI : (ib (xs.length : Int)).length ≤ 4 := by have := @ib_length (xs.length : Int); have := isz_pos xs.length; omega
  go_enter Try.func14, Try.ntmps14
  go_wp2_with (first | (go_at_call 13; refine HC.out.mono ?_; rintro e w1 ⟨v1, rfl, ho1, hb1⟩) | (at_builtin; refine go_appb B _ _ rfl (by assumption) _ xs rfl (hx.below (by assumption)).rd ?_ ?_ ?_; rotate_right; intro v2 w2 ho2 hb2))
  · go_ret
    exact ⟨_, rfl, by unfold vecB; rw [← List.append_assoc]; exact ho2, hb1.trans hb2⟩
  · simp only [List.length_append]; omega
  · exact Nat.le_trans hB hb1.size

end Go.Proofs.Ytegeflbppagbkaa

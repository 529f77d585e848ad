/- Walks of package wire: numbers as bytes. -/
import Derived.Test.YtegeflbppagbkaaBase
import Derived.Outline
set_option linter.unusedSimpArgs false
set_option linter.unusedVariables false
namespace Go.Proofs.Ytegeflbppagbkaa
open Go.RowKit

/-- How many bytes a number has. -/
def isz (n : Int) : Int := if n < 64 then 1 else if n < 16384 then 2 else 4

/-- A number's bytes. -/
def ib (n : Int) : List Int := if n < 64 then [n] else if n < 16384 then [64 + n / 256, n % 256] else [128 + n / 16777216, n / 65536 % 256, n / 256 % 256, n % 256]

theorem isz_1 {n : Int} (h : n < 64) : isz n = 1 := if_pos h
theorem isz_2 {n : Int} (h : 64 ≤ n) (h' : n < 16384) : isz n = 2 := by rw [isz, if_neg (by omega), if_pos h']
theorem isz_4 {n : Int} (h : 16384 ≤ n) : isz n = 4 := by rw [isz, if_neg (by omega), if_neg (by omega)]
theorem ib_1 {n : Int} (h : n < 64) : ib n = [n] := if_pos h
theorem ib_2 {n : Int} (h : 64 ≤ n) (h' : n < 16384) : ib n = [64 + n / 256, n % 256] := by rw [ib, if_neg (by omega), if_pos h']
theorem ib_4 {n : Int} (h : 16384 ≤ n) : ib n = [128 + n / 16777216, n / 65536 % 256, n / 256 % 256, n % 256] := by rw [ib, if_neg (by omega), if_neg (by omega)]

theorem intSize_any (n : Int) (w : World) : Calls Try.prog 12 #[.int .i64 n] w fun e w' => e = .returned (.int .i64 (isz n)) ∧ w = w' := by
  by_cases h1 : n < 64
  · rw [isz_1 h1]
    go_enter Try.func12, Try.ntmps12
    go_wp2
    go_ret
    exact ⟨rfl, rfl⟩
  · by_cases h2 : n < 16384
    · rw [isz_2 (by omega) h2]
      go_enter Try.func12, Try.ntmps12
      go_wp2
      go_ret
      exact ⟨rfl, rfl⟩
    · rw [isz_4 (by omega)]
      go_enter Try.func12, Try.ntmps12
      go_wp2
      go_ret
      exact ⟨rfl, rfl⟩

theorem or64 (x : Int) (h0 : 0 ≤ x) (h1 : x < 64) : bits .or .u8 64 x = 64 + x := by
  have h : ∀ y : Fin 64, bits .or .u8 64 ((y.val : Nat) : Int) = 64 + ((y.val : Nat) : Int) := by decide
  obtain ⟨k, rfl⟩ := Int.eq_ofNat_of_zero_le h0
  exact h ⟨k, by omega⟩

theorem appendInt_1 (B : Nat) (v : Value) (zs : List Int) (n : Int) (w : World) (hB : B ≤ w.heap.size) (ho : Own B 5 w v zs) (hl : zs.length ≤ 4294967296) (h0 : 0 ≤ n) (c1 : n < 64) :
    Calls Try.prog 13 #[v, .int .i64 n] w fun e w' => ∃ v', e = .returned v' ∧ Own B 5 w' v' (zs ++ ib n) ∧ Below B w w' := by
  have HC := Lib.hid (intSize_any n w)
  rw [isz_1 c1] at HC
  have HE := Lib.hid (ib_1 (n := n) c1)
  have HO := Own.kept ho ((Kept.refl w).alloc (.cells #[Value.int .u8 (n)] 5))
  have HL := Own.rd (Own.lit (w := w) [n] (by simp))
  have HB := Below.alloc (Below.refl B w) hB (.cells #[Value.int .u8 (n)] 5)
  have HS : B ≤ (w.alloc (.cells #[Value.int .u8 (n)] 5)).heap.size := Nat.le_trans hB HB.size
  go_enter Try.func13, Try.ntmps13
  go_wp2_with (first | (go_at_call 12; refine HC.out.mono ?_; rintro e w' ⟨rfl, rfl⟩) | (at_builtin; refine go_appb B v zs rfl HO _ [n] rfl HL (by simp only [List.length_cons, List.length_nil]; omega) HS ?_; intro v' w' hO' hB'))
  go_ret
  refine ⟨_, rfl, ?_, HB.trans hB'⟩
  rw [HE.out]
  exact hO'
theorem appendInt_2 (B : Nat) (v : Value) (zs : List Int) (n : Int) (w : World) (hB : B ≤ w.heap.size) (ho : Own B 5 w v zs) (hl : zs.length ≤ 4294967296) (h0 : 64 ≤ n) (c1 : n < 16384) :
    Calls Try.prog 13 #[v, .int .i64 n] w fun e w' => ∃ v', e = .returned v' ∧ Own B 5 w' v' (zs ++ ib n) ∧ Below B w w' := by
  have HC := Lib.hid (intSize_any n w)
  rw [isz_2 h0 c1] at HC
  have HE := Lib.hid (ib_2 (n := n) h0 c1)
  have HO := Own.kept ho ((Kept.refl w).alloc (.cells #[Value.int .u8 (64 + n / 256), Value.int .u8 (n % 256)] 5))
  have HL := Own.rd (Own.lit (w := w) [64 + n / 256, n % 256] (by simp))
  have HB := Below.alloc (Below.refl B w) hB (.cells #[Value.int .u8 (64 + n / 256), Value.int .u8 (n % 256)] 5)
  have HS : B ≤ (w.alloc (.cells #[Value.int .u8 (64 + n / 256), Value.int .u8 (n % 256)] 5)).heap.size := Nat.le_trans hB HB.size
  have hor := or64 (n / 256) (by omega) (by omega)
  go_enter Try.func13, Try.ntmps13
  go_wp2_with (first | (go_at_call 12; refine HC.out.mono ?_; rintro e w' ⟨rfl, rfl⟩) | (at_builtin; refine go_appb B v zs rfl HO _ [64 + n / 256, n % 256] rfl HL (by simp only [List.length_cons, List.length_nil]; omega) HS ?_; intro v' w' hO' hB'))
  go_ret
  refine ⟨_, rfl, ?_, HB.trans hB'⟩
  rw [HE.out]
  exact hO'
theorem appendInt_4 (B : Nat) (v : Value) (zs : List Int) (n : Int) (w : World) (hB : B ≤ w.heap.size) (ho : Own B 5 w v zs) (hl : zs.length ≤ 4294967296) (h0 : 16384 ≤ n) (c1 : n < 1073741824) :
    Calls Try.prog 13 #[v, .int .i64 n] w fun e w' => ∃ v', e = .returned v' ∧ Own B 5 w' v' (zs ++ ib n) ∧ Below B w w' := by
  have HC := Lib.hid (intSize_any n w)
  rw [isz_4 h0] at HC
  have HE := Lib.hid (ib_4 (n := n) h0)
  have HO := Own.kept ho ((Kept.refl w).alloc (.cells #[Value.int .u8 (128 + n / 16777216), Value.int .u8 (n / 65536 % 256), Value.int .u8 (n / 256 % 256), Value.int .u8 (n % 256)] 5))
  have HL := Own.rd (Own.lit (w := w) [128 + n / 16777216, n / 65536 % 256, n / 256 % 256, n % 256] (by simp))
  have HB := Below.alloc (Below.refl B w) hB (.cells #[Value.int .u8 (128 + n / 16777216), Value.int .u8 (n / 65536 % 256), Value.int .u8 (n / 256 % 256), Value.int .u8 (n % 256)] 5)
  have HS : B ≤ (w.alloc (.cells #[Value.int .u8 (128 + n / 16777216), Value.int .u8 (n / 65536 % 256), Value.int .u8 (n / 256 % 256), Value.int .u8 (n % 256)] 5)).heap.size := Nat.le_trans hB HB.size
  go_enter Try.func13, Try.ntmps13
  go_wp2_with (first | (go_at_call 12; refine HC.out.mono ?_; rintro e w' ⟨rfl, rfl⟩) | (at_builtin; refine go_appb B v zs rfl HO _ [128 + n / 16777216, n / 65536 % 256, n / 256 % 256, n % 256] rfl HL (by simp only [List.length_cons, List.length_nil]; omega) HS ?_; intro v' w' hO' hB'))
  go_ret
  refine ⟨_, rfl, ?_, HB.trans hB'⟩
  rw [HE.out]
  exact hO'

theorem appendInt_any (B : Nat) (v : Value) (zs : List Int) (n : Int) (w : World) (hB : B ≤ w.heap.size) (ho : Own B 5 w v zs) (hl : zs.length ≤ 4294967296) (h0 : 0 ≤ n) (c1 : n < 1073741824) :
    Calls Try.prog 13 #[v, .int .i64 n] w fun e w' => ∃ v', e = .returned v' ∧ Own B 5 w' v' (zs ++ ib n) ∧ Below B w w' := by
  by_cases h1 : n < 64
  · exact appendInt_1 B v zs n w hB ho hl h0 h1
  by_cases h2 : n < 16384
  · exact appendInt_2 B v zs n w hB ho hl (by omega) h2
  exact appendInt_4 B v zs n w hB ho hl (by omega) c1

/-- wire.Int. -/
theorem int_ok (n : Int) (w : World) (h0 : 0 ≤ n) (h1 : n < 1073741824) :
    Calls Try.prog 9 #[.int .i64 n] w fun e w' => ∃ v, e = .returned (.tuple #[v, .int .i64 0]) ∧ Own w.heap.size 5 w' v (ib n) ∧ Kept w w' := by
  have HC := Lib.hid (appendInt_any w.heap.size (.slice none 0 0) [] n w (Nat.le_refl _) (Own.nil _ _ _) (by simp) h0 h1)
  go_enter Try.func9, Try.ntmps9
  go_wp2_with (go_at_call 13; refine HC.out.mono ?_; rintro e w' ⟨v, rfl, hO, hB⟩)
  go_ret2
  exact ⟨_, rfl, hO, hB⟩
theorem int_bad (n : Int) (w : World) (h : n < 0 ∨ 1073741824 ≤ n) :
    Calls Try.prog 9 #[.int .i64 n] w fun e w' => e = .returned (.tuple #[.slice none 0 0, .int .i64 1]) ∧ w = w' := by
  by_cases h0 : n < 0
  · go_enter Try.func9, Try.ntmps9
    go_wp2
    go_ret2
    exact ⟨rfl, rfl⟩
  · have h1 : 1073741824 ≤ n := by omega
    clear h
    go_enter Try.func9, Try.ntmps9
    go_wp2
    go_ret2
    exact ⟨rfl, rfl⟩

end Go.Proofs.Ytegeflbppagbkaa

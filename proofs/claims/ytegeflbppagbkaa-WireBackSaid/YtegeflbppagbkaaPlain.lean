/- Plain facts on strings and numbers. -/
import Derived.Test.YtegeflbppagbkaaWireH
set_option linter.unusedSimpArgs false
set_option linter.unusedVariables false
namespace Go.Proofs.Ytegeflbppagbkaa
open Go.RowKit

def lessI : List Int → List Int → Bool
  | _, [] => false
  | [], _ :: _ => true
  | a :: x, b :: y => decide (a < b) || (decide (a = b) && lessI x y)

theorem u8_lt (a b : Int) (ha : 0 ≤ a ∧ a ≤ 255) (hb : 0 ≤ b ∧ b ≤ 255) : (UInt8.ofNat a.toNat < UInt8.ofNat b.toNat) ↔ a < b := by
  rw [UInt8.lt_iff_toNat_lt, UInt8.toNat_ofNat_of_lt' (by simp; omega), UInt8.toNat_ofNat_of_lt' (by simp; omega)]; omega
theorem u8_eq (a b : Int) (ha : 0 ≤ a ∧ a ≤ 255) (hb : 0 ≤ b ∧ b ≤ 255) : (UInt8.ofNat a.toNat = UInt8.ofNat b.toNat) ↔ a = b := by
  rw [← UInt8.toNat_inj, UInt8.toNat_ofNat_of_lt' (by simp; omega), UInt8.toNat_ofNat_of_lt' (by simp; omega)]; omega

theorem less_map (x y : List Int) (hx : By x) (hy : By y) : Op.bytesLess (x.map fun n => UInt8.ofNat n.toNat) (y.map fun n => UInt8.ofNat n.toNat) = lessI x y := by
  induction x generalizing y with
  | nil => cases y <;> rfl
  | cons a x ih =>
    cases y with
    | nil => rfl
    | cons b y =>
      have ha := hx a (List.mem_cons_self)
      have hb := hy b (List.mem_cons_self)
      have h1 := u8_lt a b ha hb
      have h2 := u8_eq a b ha hb
      have h3 := ih y (fun z hz => hx z (List.mem_cons_of_mem _ hz)) (fun z hz => hy z (List.mem_cons_of_mem _ hz))
      simp only [List.map_cons, Op.bytesLess, lessI, h3]
      congr 1
      · exact decide_eq_decide.2 h1
      · congr 1
        rw [Bool.eq_iff_iff]; simp [h2]

theorem strOf_toList (zs : List Int) : (strOfNums zs).toList = zs.map fun n => UInt8.ofNat n.toNat := by
  rw [ByteArray.toList_eq]
  rfl

theorem ib_by {n : Int} (h0 : 0 ≤ n) (h1 : n < 1073741824) : By (ib n) := by
  intro z hz
  by_cases c1 : n < 64
  · rw [ib_1 c1] at hz; simp at hz; omega
  by_cases c2 : n < 16384
  · rw [ib_2 (by omega) c2] at hz; simp at hz; omega
  · rw [ib_4 (by omega)] at hz; simp at hz; omega

theorem ib_less (a b : Int) (a0 : 0 ≤ a) (a1 : a < 1073741824) (b0 : 0 ≤ b) (b1 : b < 1073741824) : Op.bytesLess (strOfNums (ib a)).toList (strOfNums (ib b)).toList = decide (a < b) := by
  rw [strOf_toList, strOf_toList, less_map _ _ (ib_by a0 a1) (ib_by b0 b1)]
  by_cases c1 : a < 64
  · rw [ib_1 c1]
    by_cases d1 : b < 64
    · rw [ib_1 d1]; rw [Bool.eq_iff_iff]; simp [lessI]
    by_cases d2 : b < 16384
    · rw [ib_2 (by omega) d2]; rw [Bool.eq_iff_iff]; simp [lessI]; omega
    · rw [ib_4 (by omega)]; rw [Bool.eq_iff_iff]; simp [lessI]; omega
  by_cases c2 : a < 16384
  · rw [ib_2 (by omega) c2]
    by_cases d1 : b < 64
    · rw [ib_1 d1]; rw [Bool.eq_iff_iff]; simp [lessI]; omega
    by_cases d2 : b < 16384
    · rw [ib_2 (by omega) d2]; rw [Bool.eq_iff_iff]; simp [lessI]; omega
    · rw [ib_4 (by omega)]; rw [Bool.eq_iff_iff]; simp [lessI]; omega
  · rw [ib_4 (by omega)]
    by_cases d1 : b < 64
    · rw [ib_1 d1]; rw [Bool.eq_iff_iff]; simp [lessI]; omega
    by_cases d2 : b < 16384
    · rw [ib_2 (by omega) d2]; rw [Bool.eq_iff_iff]; simp [lessI]; omega
    · rw [ib_4 (by omega)]; rw [Bool.eq_iff_iff]; simp [lessI]; omega
end Go.Proofs.Ytegeflbppagbkaa

/- The walk of the statement on numbers of so many bytes. -/
import Derived.Test.YthjjmadfdfjjdaaWideB
import Derived.Test.YthjjmadfdfjjdaaOptW
set_option linter.unusedSimpArgs false
set_option linter.unusedVariables false
namespace Go.Proofs.Ythjjmadfdfjjdaa
open Go.RowKit

theorem wb_at (n : Int) (k i : Nat) (h : i < k) : (wb n k).getD i 0 = n / 2 ^ (8 * (k - 1 - i)) % 256 := by
  induction k generalizing i with
  | zero => omega
  | succ k ih =>
    cases i with
    | zero => simp [wb, List.getD]
    | succ i =>
      have e : (wb n (k + 1)).getD (i + 1) 0 = (wb n k).getD i 0 := by simp [wb, List.getD]
      rw [e, ih i (by omega)]
      congr 3
      omega

theorem valB_wb (n : Int) (k : Nat) (r : List Int) (j : Nat) (hj : j ≤ k) (h0 : 0 ≤ n) (hn : n / 2 ^ (8 * k) = 0) : valB (wb n k ++ r) j = n / 2 ^ (8 * (k - j)) := by
  induction j with
  | zero => simp [valB, hn]
  | succ j ih =>
    have e1 : (wb n k ++ r).getD j 0 = (wb n k).getD j 0 := by
      simp only [List.getD]
      rw [List.getElem?_append_left (by rw [wb_length]; omega)]
    simp only [valB]
    rw [ih (by omega), e1, wb_at n k j (by omega)]
    have e2 : k - j = (k - (j + 1)) + 1 := by omega
    have e3 : k - 1 - j = k - (j + 1) := by omega
    rw [e2, e3]
    generalize k - (j + 1) = m
    have e4 : (2 : Int) ^ (8 * (m + 1)) = 2 ^ (8 * m) * 256 := by
      rw [Nat.mul_add, Int.pow_add]; rfl
    rw [e4, ← Int.ediv_ediv_of_nonneg (Int.pow_nonneg (by omega))]
    omega

theorem wb_by (n : Int) (k : Nat) : By (wb n k) := by
  induction k with
  | zero => intro z hz; cases hz
  | succ k ih =>
    intro z hz
    rcases List.mem_cons.1 hz with rfl | h
    · omega
    · exact ih z h

theorem bne_zero {x : Int} (h : (x != 0) = false) : x = 0 := by simpa using h

-- WALKS

theorem cat0 (zs : List Int) (h : zs.length ≤ 8) (w : World) : (Op.stringOp .add ⟨#[0]⟩ (strOfNums zs)).run Try.prog w = .ok (.string (strOfNums (0 :: zs))) w := by
  rw [run_string_add_sum]
  · congr 2
  · rw [strOfNums_size]; show 1 + zs.length ≤ _; omega

set_option maxRecDepth 100000 in
theorem wwide_bad (n m : Int) (w : World) (h0 : 0 ≤ n) (hn : n < 18446744073709551616) (hm : m < 1 ∨ 8 < m) :
    Calls Try.prog 7 #[.int .u64 n, .int .i64 m] w fun e w' => e = .returned (.bool true) ∧ Kept w w' := by
  have HW := Lib.hid (fun w => wide_bad n m w h0 hn hm)
  clear hm hn
  go_enter Try.func7, Try.ntmps7
  go_wp2_with fail
  refine (live_any _).mono ?_
  rintro e w0 ⟨rfl, hk0⟩
  go_wp2_with fail
  refine (HW.out _).mono ?_
  rintro e w1 ⟨rfl, rfl⟩
  go_wp2_with fail
  go_ret
  exact ⟨rfl, hk0⟩

set_option maxRecDepth 100000 in
theorem wwide_over (n : Int) (k : Nat) (w : World) (h0 : 0 ≤ n) (hn : n < 18446744073709551616) (k1 : 1 ≤ k) (k8 : k ≤ 8) (hsh : (n / 2 ^ (8 * k) != 0) = true) :
    Calls Try.prog 7 #[.int .u64 n, .int .i64 k] w fun e w' => e = .returned (.bool true) ∧ Kept w w' := by
  have HW := Lib.hid (fun w => wide_over n k w h0 hn k1 k8 hsh)
  clear hsh hn
  go_enter Try.func7, Try.ntmps7
  go_wp2_with fail
  refine (live_any _).mono ?_
  rintro e w0 ⟨rfl, hk0⟩
  go_wp2_with fail
  refine (HW.out _).mono ?_
  rintro e w1 ⟨rfl, rfl⟩
  go_wp2_with fail
  go_ret
  exact ⟨rfl, hk0⟩

set_option maxRecDepth 100000 in
theorem wwide_lt (n : Int) (k : Nat) (w : World) (h0 : 0 ≤ n) (hn : n < 18446744073709551616) (k1 : 1 ≤ k) (k8 : k < 8) (hsh : (n / 2 ^ (8 * k) != 0) = false) :
    Calls Try.prog 7 #[.int .u64 n, .int .i64 k] w fun e w' => e = .returned (.bool true) ∧ Kept w w' := by
  have hz : n / 2 ^ (8 * k) = 0 := bne_zero hsh
  have HW := Lib.hid (fun w => wide_ok n k w h0 hn k1 (by omega) hsh)
  have HV := Lib.hid (valB_wb n k [9] k (Nat.le_refl _) h0 hz)
  rw [Nat.sub_self, Nat.mul_zero, Int.pow_zero, Int.ediv_one] at HV
  have HBY := Lib.hid (wb_by n k)
  have HLN := Lib.hid (wb_length n k)
  have HN := Lib.hid (fun w => wide_ok n (k + 1) w h0 hn (by omega) (by omega) (by
    have e : (2 : Int) ^ (8 * (k + 1)) = 2 ^ (8 * k) * 256 := by rw [Nat.mul_add, Int.pow_add]; rfl
    rw [e, ← Int.ediv_ediv_of_nonneg (Int.pow_nonneg (by omega)), hz]; rfl))
  have HE := Lib.hid (show wb n (k + 1) = 0 :: wb n k by simp only [wb]; rw [hz]; rfl)
  clear hsh hz hn
  have hz9 : By [9] := by intro z hz; simp at hz; omega
  go_enter Try.func7, Try.ntmps7
  go_wp2_with fail
  refine (live_any _).mono ?_
  rintro e w0 ⟨rfl, hk0⟩
  go_wp2_with fail
  refine (HW.out _).mono ?_
  rintro e w1 ⟨v1, rfl, ho1, hk1⟩
  have hr1 := ho1.rd
  obtain ⟨a1, cap1, rfl, hc1, hm1, hn1⟩ := hr1.len
  have hl0 : 0 < (wb n k).length := by rw [HLN.out]; omega
  have hne1 : (((wb n k).length : Int) == 0) = false := by rw [beq_eq_false_iff_ne]; omega
  have hlen : (wb n k).length ≤ 8 := by rw [HLN.out]; omega
  go_wp2_with (first | (at_builtin; refine go_appb w1.heap.size (.slice none 0 0) [] rfl (Own.nil _ _ _) _ (wb n k) rfl hr1 ?_ ?_ ?_; rotate_right; intro v2 w2 ho2 hb2) | (at_builtin; refine go_appb w1.heap.size v2 _ rfl (Own.kept ho2 ((Kept.refl w2).alloc _)) _ [9] rfl (Own.lit (w := w2) [9] (by simp)).rd ?_ ?_ ?_; rotate_right; intro v3 w3 ho3 hb3))
  have hk2 : Kept w1 w2 := hb2
  have hk3 : Kept w1 w3 := ((hk2.alloc (.cells #[Value.int .u8 9] 5))).trans' hb3
  · simp only [List.nil_append] at ho3
    have C3 := takeWide_ok _ _ k _ ho3.rd (by intro z hz; rcases List.mem_append.1 hz with h | h; exact HBY.out z h; exact hz9 z h) k1 (by omega) (by rw [List.length_append, HLN.out]; omega)
    rw [HV.out] at C3
    refine C3.mono ?_
    rintro e w4 ⟨rfl, hk4⟩
    clear C3
    go_wp2_with fail
    refine (HN.out _).mono ?_
    rintro e w5 ⟨v5, rfl, ho5, hk5⟩
    have hr1' := hr1.kept (hk3.trans (hk4.trans hk5))
    go_wp2_with ((with_reducible refine go_cut_h _ (wb n k) ?_ hr1' ((wb n k).length - 1) ?_ ?_ ?_ ?_); rfl; rfl; omega; omega; intro v6 hv6)
    have C6 := takeWide_short _ _ k _ hv6 k1 (by omega) (by rw [List.length_take, HLN.out]; omega)
    refine C6.mono ?_
    rintro e w6 ⟨rfl, hk6⟩
    clear C6
    have hkk := hk0.trans (hk1.trans (hk3.trans (hk4.trans (hk5.trans hk6))))
    have hs5 := strs0 (ho5.rd.kept hk6)
    have hs1 := strs0 (hr1'.kept hk6)
    rw [HE.out] at hs5
    have hadd := cat0 (wb n k) hlen
    have hbk : (((wb n k).length : Int) == (k : Int)) = true := by rw [HLN.out, beq_self_eq_true]
    have hb8 : ((k : Int) == 8) = false := by rw [beq_eq_false_iff_ne]; omega
    generalize strOfNums (0 :: wb n k) = s5 at *
    generalize strOfNums (wb n k) = s1 at *
    go_wp2_with fail
    go_ret
    exact ⟨rfl, hkk⟩
  · simp only [List.nil_append, List.length_cons, List.length_nil]; omega
  · rw [alloc_size]; have := Below.size hb2; omega
  · simp only [List.length_nil]; omega
  · exact Nat.le_refl _

set_option maxRecDepth 100000 in
theorem wwide_eq (n : Int) (k : Nat) (w : World) (h0 : 0 ≤ n) (hn : n < 18446744073709551616) (k1 : 1 ≤ k) (k8 : k = 8) (hsh : (n / 2 ^ (8 * k) != 0) = false) :
    Calls Try.prog 7 #[.int .u64 n, .int .i64 k] w fun e w' => e = .returned (.bool true) ∧ Kept w w' := by
  have hz : n / 2 ^ (8 * k) = 0 := bne_zero hsh
  have HW := Lib.hid (fun w => wide_ok n k w h0 hn k1 (by omega) hsh)
  have HV := Lib.hid (valB_wb n k [9] k (Nat.le_refl _) h0 hz)
  rw [Nat.sub_self, Nat.mul_zero, Int.pow_zero, Int.ediv_one] at HV
  have HBY := Lib.hid (wb_by n k)
  have HLN := Lib.hid (wb_length n k)
  have HN := Lib.hid (fun w => wide_bad n 9 w h0 hn (by omega))
  have hk9 : (k : Int) + 1 = 9 := by omega
  have HK8 := Lib.hid k8; clear k8
  clear hsh hz hn
  have hz9 : By [9] := by intro z hz; simp at hz; omega
  go_enter Try.func7, Try.ntmps7
  go_wp2_with fail
  refine (live_any _).mono ?_
  rintro e w0 ⟨rfl, hk0⟩
  go_wp2_with fail
  refine (HW.out _).mono ?_
  rintro e w1 ⟨v1, rfl, ho1, hk1⟩
  have hr1 := ho1.rd
  obtain ⟨a1, cap1, rfl, hc1, hm1, hn1⟩ := hr1.len
  have hl0 : 0 < (wb n k).length := by rw [HLN.out]; omega
  have hne1 : (((wb n k).length : Int) == 0) = false := by rw [beq_eq_false_iff_ne]; omega
  have hlen : (wb n k).length ≤ 8 := by rw [HLN.out]; omega
  go_wp2_with (first | (at_builtin; refine go_appb w1.heap.size (.slice none 0 0) [] rfl (Own.nil _ _ _) _ (wb n k) rfl hr1 ?_ ?_ ?_; rotate_right; intro v2 w2 ho2 hb2) | (at_builtin; refine go_appb w1.heap.size v2 _ rfl (Own.kept ho2 ((Kept.refl w2).alloc _)) _ [9] rfl (Own.lit (w := w2) [9] (by simp)).rd ?_ ?_ ?_; rotate_right; intro v3 w3 ho3 hb3))
  have hk2 : Kept w1 w2 := hb2
  have hk3 : Kept w1 w3 := ((hk2.alloc (.cells #[Value.int .u8 9] 5))).trans' hb3
  · simp only [List.nil_append] at ho3
    have C3 := takeWide_ok _ _ k _ ho3.rd (by intro z hz; rcases List.mem_append.1 hz with h | h; exact HBY.out z h; exact hz9 z h) k1 (by omega) (by rw [List.length_append, HLN.out]; omega)
    rw [HV.out] at C3
    refine C3.mono ?_
    rintro e w4 ⟨rfl, hk4⟩
    clear C3
    go_wp2_with fail
    skip
    refine (HN.out _).mono ?_
    rintro e w5 ⟨rfl, rfl⟩
    have hk5 := Kept.refl w4
    have hr1' := hr1.kept (hk3.trans (hk4.trans hk5))
    go_wp2_with ((with_reducible refine go_cut_h _ (wb n k) ?_ hr1' ((wb n k).length - 1) ?_ ?_ ?_ ?_); rfl; rfl; omega; omega; intro v6 hv6)
    have C6 := takeWide_short _ _ k _ hv6 k1 (by omega) (by rw [List.length_take, HLN.out]; omega)
    refine C6.mono ?_
    rintro e w6 ⟨rfl, hk6⟩
    clear C6
    have hkk := hk0.trans (hk1.trans (hk3.trans (hk4.trans (hk5.trans hk6))))
    have hbk : (((wb n k).length : Int) == (k : Int)) = true := by rw [HLN.out, beq_self_eq_true]
    have hb8 : ((k : Int) == 8) = true := by rw [HK8.out]; rfl
    go_wp2_with fail
    go_ret
    exact ⟨rfl, hkk⟩
  · simp only [List.nil_append, List.length_cons, List.length_nil]; omega
  · rw [alloc_size]; have := Below.size hb2; omega
  · simp only [List.length_nil]; omega
  · exact Nat.le_refl _

theorem wwide_walk (n : Int) (hn : (Lit.int .u64 n).wf = true) (m : Int) (_ : (Lit.int .i64 m).wf = true) (w : World) :
    Calls Try.prog 7 #[.int .u64 n, .int .i64 m] w fun e w' => e = .returned (.bool true) ∧ Kept w w' := by
  have hb := bounds_u64 hn
  by_cases hm : m < 1 ∨ 8 < m
  · exact wwide_bad n m w (by omega) (by omega) hm
  obtain ⟨k, rfl⟩ := Int.eq_ofNat_of_zero_le (show 0 ≤ m by omega)
  by_cases hs : (n / 2 ^ (8 * k) != 0) = true
  · exact wwide_over n k w (by omega) (by omega) (by omega) (by omega) hs
  have hs' : (n / 2 ^ (8 * k) != 0) = false := by simpa using hs
  by_cases h8 : k = 8
  · exact wwide_eq n k w (by omega) (by omega) (by omega) h8 hs'
  · exact wwide_lt n k w (by omega) (by omega) (by omega) (by omega) hs'
end Go.Proofs.Ythjjmadfdfjjdaa

/- The walk of the statement on numbers. -/
import Derived.Test.YthjjmadfdfjjdaaPlain
set_option linter.unusedSimpArgs false
set_option linter.unusedVariables false
namespace Go.Proofs.Ythjjmadfdfjjdaa
open Go.RowKit

set_option maxRecDepth 100000 in
theorem numbers_neg_neg (a b : Int) (w : World) (ha : a < 0) (hb : b < 0) :
    Calls Try.prog 6 #[.int .i64 a, .int .i64 b] w fun e w' => e = .returned (.bool true) ∧ Kept w w' := by
  have HA := Lib.hid (fun w => int_bad a w (.inl ha))
  have HB := Lib.hid (fun w => int_bad b w (.inl hb))
  go_enter Try.func6, Try.ntmps6
  go_wp2_with fail
  refine (live_any _).mono ?_
  rintro e w0 ⟨rfl, hk0⟩
  go_wp2_with fail
  refine (HA.out _).mono ?_; rintro e w1 ⟨rfl, rfl⟩
  go_wp2_with fail
  refine (HB.out _).mono ?_; rintro e w2 ⟨rfl, rfl⟩
  go_wp2_with fail
  go_ret
  exact ⟨rfl, hk0⟩

set_option maxRecDepth 100000 in
theorem numbers_neg_big (a b : Int) (w : World) (ha : a < 0) (hb : 1073741824 ≤ b) :
    Calls Try.prog 6 #[.int .i64 a, .int .i64 b] w fun e w' => e = .returned (.bool true) ∧ Kept w w' := by
  have HA := Lib.hid (fun w => int_bad a w (.inl ha))
  have HB := Lib.hid (fun w => int_bad b w (.inr hb))
  have hbn : 0 ≤ b := by omega
  go_enter Try.func6, Try.ntmps6
  go_wp2_with fail
  refine (live_any _).mono ?_
  rintro e w0 ⟨rfl, hk0⟩
  go_wp2_with fail
  refine (HA.out _).mono ?_; rintro e w1 ⟨rfl, rfl⟩
  go_wp2_with fail
  refine (HB.out _).mono ?_; rintro e w2 ⟨rfl, rfl⟩
  go_wp2_with fail
  go_ret
  exact ⟨rfl, hk0⟩

set_option maxRecDepth 100000 in
theorem numbers_neg_ok (a b : Int) (w : World) (ha : a < 0) (hb : 0 ≤ b) (hb' : b < 1073741824) :
    Calls Try.prog 6 #[.int .i64 a, .int .i64 b] w fun e w' => e = .returned (.bool true) ∧ Kept w w' := by
  have HA := Lib.hid (fun w => int_bad a w (.inl ha))
  have HB := Lib.hid (fun w => int_ok b w hb hb')
  go_enter Try.func6, Try.ntmps6
  go_wp2_with fail
  refine (live_any _).mono ?_
  rintro e w0 ⟨rfl, hk0⟩
  go_wp2_with fail
  refine (HA.out _).mono ?_; rintro e w1 ⟨rfl, rfl⟩
  go_wp2_with fail
  refine (HB.out _).mono ?_; rintro e w2 ⟨v2, rfl, ho2, hk2⟩
  go_wp2_with fail
  go_ret
  exact ⟨rfl, (hk0.trans hk2)⟩

set_option maxRecDepth 100000 in
theorem numbers_big_neg (a b : Int) (w : World) (ha : 1073741824 ≤ a) (hb : b < 0) :
    Calls Try.prog 6 #[.int .i64 a, .int .i64 b] w fun e w' => e = .returned (.bool true) ∧ Kept w w' := by
  have HA := Lib.hid (fun w => int_bad a w (.inr ha))
  have HB := Lib.hid (fun w => int_bad b w (.inl hb))
  have han : 0 ≤ a := by omega
  go_enter Try.func6, Try.ntmps6
  go_wp2_with fail
  refine (live_any _).mono ?_
  rintro e w0 ⟨rfl, hk0⟩
  go_wp2_with fail
  refine (HA.out _).mono ?_; rintro e w1 ⟨rfl, rfl⟩
  go_wp2_with fail
  refine (HB.out _).mono ?_; rintro e w2 ⟨rfl, rfl⟩
  go_wp2_with fail
  go_ret
  exact ⟨rfl, hk0⟩

set_option maxRecDepth 100000 in
theorem numbers_big_big (a b : Int) (w : World) (ha : 1073741824 ≤ a) (hb : 1073741824 ≤ b) :
    Calls Try.prog 6 #[.int .i64 a, .int .i64 b] w fun e w' => e = .returned (.bool true) ∧ Kept w w' := by
  have HA := Lib.hid (fun w => int_bad a w (.inr ha))
  have HB := Lib.hid (fun w => int_bad b w (.inr hb))
  have han : 0 ≤ a := by omega
  have hbn : 0 ≤ b := by omega
  go_enter Try.func6, Try.ntmps6
  go_wp2_with fail
  refine (live_any _).mono ?_
  rintro e w0 ⟨rfl, hk0⟩
  go_wp2_with fail
  refine (HA.out _).mono ?_; rintro e w1 ⟨rfl, rfl⟩
  go_wp2_with fail
  refine (HB.out _).mono ?_; rintro e w2 ⟨rfl, rfl⟩
  go_wp2_with fail
  go_ret
  exact ⟨rfl, hk0⟩

set_option maxRecDepth 100000 in
theorem numbers_big_ok (a b : Int) (w : World) (ha : 1073741824 ≤ a) (hb : 0 ≤ b) (hb' : b < 1073741824) :
    Calls Try.prog 6 #[.int .i64 a, .int .i64 b] w fun e w' => e = .returned (.bool true) ∧ Kept w w' := by
  have HA := Lib.hid (fun w => int_bad a w (.inr ha))
  have HB := Lib.hid (fun w => int_ok b w hb hb')
  have han : 0 ≤ a := by omega
  go_enter Try.func6, Try.ntmps6
  go_wp2_with fail
  refine (live_any _).mono ?_
  rintro e w0 ⟨rfl, hk0⟩
  go_wp2_with fail
  refine (HA.out _).mono ?_; rintro e w1 ⟨rfl, rfl⟩
  go_wp2_with fail
  refine (HB.out _).mono ?_; rintro e w2 ⟨v2, rfl, ho2, hk2⟩
  go_wp2_with fail
  go_ret
  exact ⟨rfl, (hk0.trans hk2)⟩

set_option maxRecDepth 100000 in
theorem numbers_ok_neg (a b : Int) (w : World) (ha : 0 ≤ a) (ha' : a < 1073741824) (hb : b < 0) :
    Calls Try.prog 6 #[.int .i64 a, .int .i64 b] w fun e w' => e = .returned (.bool true) ∧ Kept w w' := by
  have HA := Lib.hid (fun w => int_ok a w ha ha')
  have HB := Lib.hid (fun w => int_bad b w (.inl hb))
  go_enter Try.func6, Try.ntmps6
  go_wp2_with fail
  refine (live_any _).mono ?_
  rintro e w0 ⟨rfl, hk0⟩
  go_wp2_with fail
  refine (HA.out _).mono ?_; rintro e w1 ⟨v1, rfl, ho1, hk1⟩
  go_wp2_with fail
  refine (HB.out _).mono ?_; rintro e w2 ⟨rfl, rfl⟩
  go_wp2_with fail
  go_ret
  exact ⟨rfl, (hk0.trans hk1)⟩

set_option maxRecDepth 100000 in
theorem numbers_ok_big (a b : Int) (w : World) (ha : 0 ≤ a) (ha' : a < 1073741824) (hb : 1073741824 ≤ b) :
    Calls Try.prog 6 #[.int .i64 a, .int .i64 b] w fun e w' => e = .returned (.bool true) ∧ Kept w w' := by
  have HA := Lib.hid (fun w => int_ok a w ha ha')
  have HB := Lib.hid (fun w => int_bad b w (.inr hb))
  have hbn : 0 ≤ b := by omega
  go_enter Try.func6, Try.ntmps6
  go_wp2_with fail
  refine (live_any _).mono ?_
  rintro e w0 ⟨rfl, hk0⟩
  go_wp2_with fail
  refine (HA.out _).mono ?_; rintro e w1 ⟨v1, rfl, ho1, hk1⟩
  go_wp2_with fail
  refine (HB.out _).mono ?_; rintro e w2 ⟨rfl, rfl⟩
  go_wp2_with fail
  go_ret
  exact ⟨rfl, (hk0.trans hk1)⟩

set_option maxRecDepth 100000 in
theorem numbers_ok_1 (a b : Int) (w : World) (ha : 0 ≤ a) (ha' : a < 64) (hb : 0 ≤ b) (hb' : b < 1073741824) :
    Calls Try.prog 6 #[.int .i64 a, .int .i64 b] w fun e w' => e = .returned (.bool true) ∧ Kept w w' := by
  have HA := Lib.hid (fun w => int_ok a w (by omega) (by omega))
  have HB := Lib.hid (fun w => int_ok b w hb hb')
  have HT : takeI (ib a) = (a, 1, 0) := by
    have := takeI_ib a (by omega) (by omega) []
    rw [List.append_nil, isz_1 ha'] at this
    exact this
  have HBY := ib_by (n := a) (by omega) (by omega)
  have hless := ib_less a b (by omega) (by omega) hb hb'
  have hlen : (ib a).length = 1 := by rw [ib_1 ha']; rfl
  generalize ib a = A at *
  generalize ib b = B at *
  go_enter Try.func6, Try.ntmps6
  have HTT := Lib.hid HT; clear HT
  have HLS := Lib.hid hless; clear hless
  have HLN := Lib.hid hlen; clear hlen
  go_wp2_with fail
  refine (live_any _).mono ?_
  rintro e w0 ⟨rfl, hk0⟩
  go_wp2_with fail
  refine (HA.out _).mono ?_; rintro e w1 ⟨v1, rfl, ho1, hk1⟩
  go_wp2_with fail
  refine (HB.out _).mono ?_; rintro e w2 ⟨v2, rfl, ho2, hk2⟩
  go_wp2_with fail
  have HC := takeInt_any _ _ _ (ho1.rd.kept hk2) HBY
  rw [HTT.out] at HC
  refine HC.mono ?_
  rintro e w3 ⟨rfl, hk3⟩
  clear HC
  have hs1 := go_str_run (P := Try.prog) Try.underlying26 Try.underlying5 (ho1.rd.kept (hk2.trans hk3)) 9 Try.underlying9
  have hs2 := go_str_run (P := Try.prog) Try.underlying26 Try.underlying5 (ho2.rd.kept hk3) 9 Try.underlying9
  obtain ⟨va, vc, rfl, _, _, _⟩ := ho1.rd.len
  have hless := HLS.out
  rw [HLN.out] at hs1
  rw [HLN.out]
  generalize strOfNums A = s1 at *
  generalize strOfNums B = s2 at *
  have hkk := hk0.trans (hk1.trans (hk2.trans hk3))
  go_wp2_with fail
  go_ret
  exact ⟨rfl, hkk⟩

set_option maxRecDepth 100000 in
theorem numbers_ok_2 (a b : Int) (w : World) (ha : 64 ≤ a) (ha' : a < 16384) (hb : 0 ≤ b) (hb' : b < 1073741824) :
    Calls Try.prog 6 #[.int .i64 a, .int .i64 b] w fun e w' => e = .returned (.bool true) ∧ Kept w w' := by
  have HA := Lib.hid (fun w => int_ok a w (by omega) (by omega))
  have HB := Lib.hid (fun w => int_ok b w hb hb')
  have HT : takeI (ib a) = (a, 2, 0) := by
    have := takeI_ib a (by omega) (by omega) []
    rw [List.append_nil, isz_2 ha ha'] at this
    exact this
  have HBY := ib_by (n := a) (by omega) (by omega)
  have hless := ib_less a b (by omega) (by omega) hb hb'
  have hlen : (ib a).length = 2 := by rw [ib_2 ha ha']; rfl
  generalize ib a = A at *
  generalize ib b = B at *
  go_enter Try.func6, Try.ntmps6
  have HTT := Lib.hid HT; clear HT
  have HLS := Lib.hid hless; clear hless
  have HLN := Lib.hid hlen; clear hlen
  go_wp2_with fail
  refine (live_any _).mono ?_
  rintro e w0 ⟨rfl, hk0⟩
  go_wp2_with fail
  refine (HA.out _).mono ?_; rintro e w1 ⟨v1, rfl, ho1, hk1⟩
  go_wp2_with fail
  refine (HB.out _).mono ?_; rintro e w2 ⟨v2, rfl, ho2, hk2⟩
  go_wp2_with fail
  have HC := takeInt_any _ _ _ (ho1.rd.kept hk2) HBY
  rw [HTT.out] at HC
  refine HC.mono ?_
  rintro e w3 ⟨rfl, hk3⟩
  clear HC
  have hs1 := go_str_run (P := Try.prog) Try.underlying26 Try.underlying5 (ho1.rd.kept (hk2.trans hk3)) 9 Try.underlying9
  have hs2 := go_str_run (P := Try.prog) Try.underlying26 Try.underlying5 (ho2.rd.kept hk3) 9 Try.underlying9
  obtain ⟨va, vc, rfl, _, _, _⟩ := ho1.rd.len
  have hless := HLS.out
  rw [HLN.out] at hs1
  rw [HLN.out]
  generalize strOfNums A = s1 at *
  generalize strOfNums B = s2 at *
  have hkk := hk0.trans (hk1.trans (hk2.trans hk3))
  go_wp2_with fail
  go_ret
  exact ⟨rfl, hkk⟩

set_option maxRecDepth 100000 in
theorem numbers_ok_4 (a b : Int) (w : World) (ha : 16384 ≤ a) (ha' : a < 1073741824) (hb : 0 ≤ b) (hb' : b < 1073741824) :
    Calls Try.prog 6 #[.int .i64 a, .int .i64 b] w fun e w' => e = .returned (.bool true) ∧ Kept w w' := by
  have HA := Lib.hid (fun w => int_ok a w (by omega) (by omega))
  have HB := Lib.hid (fun w => int_ok b w hb hb')
  have HT : takeI (ib a) = (a, 4, 0) := by
    have := takeI_ib a (by omega) (by omega) []
    rw [List.append_nil, isz_4 ha] at this
    exact this
  have HBY := ib_by (n := a) (by omega) (by omega)
  have hless := ib_less a b (by omega) (by omega) hb hb'
  have hlen : (ib a).length = 4 := by rw [ib_4 ha]; rfl
  generalize ib a = A at *
  generalize ib b = B at *
  go_enter Try.func6, Try.ntmps6
  have HTT := Lib.hid HT; clear HT
  have HLS := Lib.hid hless; clear hless
  have HLN := Lib.hid hlen; clear hlen
  go_wp2_with fail
  refine (live_any _).mono ?_
  rintro e w0 ⟨rfl, hk0⟩
  go_wp2_with fail
  refine (HA.out _).mono ?_; rintro e w1 ⟨v1, rfl, ho1, hk1⟩
  go_wp2_with fail
  refine (HB.out _).mono ?_; rintro e w2 ⟨v2, rfl, ho2, hk2⟩
  go_wp2_with fail
  have HC := takeInt_any _ _ _ (ho1.rd.kept hk2) HBY
  rw [HTT.out] at HC
  refine HC.mono ?_
  rintro e w3 ⟨rfl, hk3⟩
  clear HC
  have hs1 := go_str_run (P := Try.prog) Try.underlying26 Try.underlying5 (ho1.rd.kept (hk2.trans hk3)) 9 Try.underlying9
  have hs2 := go_str_run (P := Try.prog) Try.underlying26 Try.underlying5 (ho2.rd.kept hk3) 9 Try.underlying9
  obtain ⟨va, vc, rfl, _, _, _⟩ := ho1.rd.len
  have hless := HLS.out
  rw [HLN.out] at hs1
  rw [HLN.out]
  generalize strOfNums A = s1 at *
  generalize strOfNums B = s2 at *
  have hkk := hk0.trans (hk1.trans (hk2.trans hk3))
  go_wp2_with fail
  go_ret
  exact ⟨rfl, hkk⟩

theorem numbers_any (a b : Int) (w : World) :
    Calls Try.prog 6 #[.int .i64 a, .int .i64 b] w fun e w' => e = .returned (.bool true) ∧ Kept w w' := by
  by_cases a0 : a < 0
  · by_cases b0 : b < 0
    · exact numbers_neg_neg a b w a0 b0
    by_cases b1 : 1073741824 ≤ b
    · exact numbers_neg_big a b w a0 b1
    · exact numbers_neg_ok a b w a0 (by omega) (by omega)
  by_cases a1 : 1073741824 ≤ a
  · by_cases b0 : b < 0
    · exact numbers_big_neg a b w a1 b0
    by_cases b1 : 1073741824 ≤ b
    · exact numbers_big_big a b w a1 b1
    · exact numbers_big_ok a b w a1 (by omega) (by omega)
  by_cases b0 : b < 0
  · exact numbers_ok_neg a b w (by omega) (by omega) b0
  by_cases b1 : 1073741824 ≤ b
  · exact numbers_ok_big a b w (by omega) (by omega) b1
  by_cases c1 : a < 64
  · exact numbers_ok_1 a b w (by omega) c1 (by omega) (by omega)
  by_cases c2 : a < 16384
  · exact numbers_ok_2 a b w (by omega) c2 (by omega) (by omega)
  · exact numbers_ok_4 a b w (by omega) (by omega) (by omega) (by omega)

theorem numbers_walk (a : Int) (_ : (Lit.int .i64 a).wf = true) (b : Int) (_ : (Lit.int .i64 b).wf = true) (w : World) :
    Calls Try.prog 6 #[.int .i64 a, .int .i64 b] w fun e w' => e = .returned (.bool true) ∧ Kept w w' := numbers_any a b w
end Go.Proofs.Ythjjmadfdfjjdaa

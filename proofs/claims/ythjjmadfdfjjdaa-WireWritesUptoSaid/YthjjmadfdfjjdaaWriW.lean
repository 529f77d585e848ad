/- The walk of the statement on what is written. -/
import Derived.Test.YthjjmadfdfjjdaaRefA
set_option linter.unusedSimpArgs false
set_option linter.unusedVariables false
namespace Go.Proofs.Ythjjmadfdfjjdaa
open Go.RowKit

/-- A slice of bytes and an error's number. -/
def Gives (zs : List Int) (er : Int) (w : World) (e : Ending) (w' : World) : Prop := ∃ v, e = .returned (.tuple #[v, .int .i64 er]) ∧ Rd w' v zs ∧ Kept w w'

theorem int_pair (n : Int) : ∃ zs er, (∀ w, Calls Try.prog 11 #[.int .i64 n] w (Gives zs er w)) ∧ ∀ w, Calls Try.prog 12 #[.int .i64 n] w (Gives zs er w) := by
  by_cases h : n < 0 ∨ 1073741824 ≤ n
  · exact ⟨[], 1, fun w => (int_bad n w h).mono fun e w' ⟨he, hw⟩ => ⟨_, he, Rd.nil _, hw ▸ Kept.refl _⟩, fun w => (rint_bad n w h).mono fun e w' ⟨he, hw⟩ => ⟨_, he, Rd.nil _, hw ▸ Kept.refl _⟩⟩
  · exact ⟨ib n, 0, fun w => (int_ok n w (by omega) (by omega)).mono fun e w' ⟨v, he, ho, hk⟩ => ⟨v, he, ho.rd, hk⟩, fun w => (rint_ok n w (by omega) (by omega)).mono fun e w' ⟨v, he, ho, hk⟩ => ⟨v, he, ho.rd, hk⟩⟩

theorem wide_pair (n m : Int) (h0 : 0 ≤ n) (hn : n < 18446744073709551616) :
    ∃ zs er, (∀ w, Calls Try.prog 13 #[.int .u64 n, .int .i64 m] w (Gives zs er w)) ∧ ∀ w, Calls Try.prog 14 #[.int .u64 n, .int .i64 m] w (Gives zs er w) := by
  by_cases h : m < 1 ∨ 8 < m
  · exact ⟨[], 1, fun w => (wide_bad n m w h0 hn h).mono fun e w' ⟨he, hw⟩ => ⟨_, he, Rd.nil _, hw ▸ Kept.refl _⟩, fun w => (rwide_bad n m w h).mono fun e w' ⟨he, hw⟩ => ⟨_, he, Rd.nil _, hw ▸ Kept.refl _⟩⟩
  obtain ⟨k, rfl⟩ := Int.eq_ofNat_of_zero_le (show 0 ≤ m by omega)
  by_cases hs : (n / 2 ^ (8 * k) != 0) = true
  · have k8 : k < 8 := by
      rcases Nat.lt_or_ge k 8 with q | q
      · exact q
      · obtain rfl : k = 8 := by omega
        have h1 : ¬ n / 2 ^ (8 * 8) = 0 := by simpa using hs
        rw [div_lt_iff n h0 _ (Int.pow_pos (by omega))] at h1
        exact absurd (show n < 2 ^ (8 * 8) by have : (2 : Int) ^ (8 * 8) = 18446744073709551616 := by decide
                                              omega) h1
    exact ⟨[], 1, fun w => (wide_over n k w h0 hn (by omega) (by omega) hs).mono fun e w' ⟨he, hw⟩ => ⟨_, he, Rd.nil _, hw ▸ Kept.refl _⟩, fun w => (rwide_over n k w h0 hn (by omega) k8 hs).mono fun e w' ⟨he, hw⟩ => ⟨_, he, Rd.nil _, hw ▸ Kept.refl _⟩⟩
  · have hs' : (n / 2 ^ (8 * k) != 0) = false := by simpa using hs
    exact ⟨wb n k, 0, fun w => (wide_ok n k w h0 hn (by omega) (by omega) hs').mono fun e w' ⟨v, he, ho, hk⟩ => ⟨v, he, ho.rd, hk⟩, fun w => (rwide_ok n k w h0 hn (by omega) (by omega) hs').mono fun e w' ⟨v, he, ho, hk⟩ => ⟨v, he, ho.rd, hk⟩⟩

theorem opt_pair (xs : List Int) (hl : (xs.length : Int) < 1073741824) (is : Bool) :
    ∃ zs er, (∀ x w, Rd w x xs → Calls Try.prog 17 #[x, .bool is] w (Gives zs er w)) ∧ ∀ x w, Rd w x xs → Calls Try.prog 18 #[x, .bool is] w (Gives zs er w) := by
  cases is
  · exact ⟨[0], 0, fun x w hx => (opt_none x w).mono fun e w' ⟨v, he, ho, hk⟩ => ⟨v, he, ho.rd, hk⟩, fun x w hx => (ropt_none x w).mono fun e w' ⟨v, he, ho, hk⟩ => ⟨v, he, ho.rd, hk⟩⟩
  · exact ⟨1 :: vecB xs, 0, fun x w hx => (opt_ok x xs w hx hl).mono fun e w' ⟨v, he, ho, hk⟩ => ⟨v, he, ho.rd, hk⟩, fun x w hx => (ropt_ok x xs w hx hl).mono fun e w' ⟨v, he, ho, hk⟩ => ⟨v, he, ho.rd, hk⟩⟩

set_option maxRecDepth 100000 in
set_option maxHeartbeats 2000000 in
theorem writes_big (n u m : Int) (v : Value) (xss : List (List Int)) (is : Bool) (w : World) (h : Rds w v xss) (u0 : 0 ≤ u) (u1 : u < 18446744073709551616) (hx : lsum bigN xss ≤ 1048576) (hg : 100000 < lsum bigN xss) :
    Calls Try.prog 3 #[.int .i64 n, .int .u64 u, .int .i64 m, v, .bool is] w fun e w' => e = .returned (.bool true) ∧ Kept w w' := by
  have HH := Lib.hid h
  have HBX := Lib.hid (fun w1 (hk : Kept w w1) => big_any _ xss _ (h.kept hk) (by omega))
  have e0 : decide (100000 < lsum bigN xss) = true := decide_eq_true (by omega)
  rw [e0] at HBX
  clear e0
  go_enter Try.func3, Try.ntmps3
  go_wp2_with fail
  refine (live_any _).mono ?_
  rintro e w0 ⟨rfl, hk0⟩
  go_wp2_with fail
  refine (HBX.out _ hk0).mono ?_
  rintro e w0' ⟨rfl, rfl⟩
  go_wp2_with fail
  go_ret
  exact ⟨rfl, hk0⟩

set_option maxRecDepth 100000 in
set_option maxHeartbeats 2000000 in
theorem writes_small_some (n u m : Int) (v : Value) (xss : List (List Int)) (is : Bool) (w : World) (h : Rds w v xss) (u0 : 0 ≤ u) (u1 : u < 18446744073709551616) (hx : lsum bigN xss ≤ 1048576) (hg : lsum bigN xss ≤ 100000) (hp : 0 < xss.length) :
    Calls Try.prog 3 #[.int .i64 n, .int .u64 u, .int .i64 m, v, .bool is] w fun e w' => e = .returned (.bool true) ∧ Kept w w' := by
  have HH := Lib.hid h
  have HBX := Lib.hid (fun w1 (hk : Kept w w1) => big_any _ xss _ (h.kept hk) (by omega))
  have e0 : decide (100000 < lsum bigN xss) = false := decide_eq_false (by omega)
  rw [e0] at HBX
  clear e0
  have hv4 := lsum_vsz xss
  obtain ⟨za, ea, HA1, HA2⟩ := int_pair n
  obtain ⟨zc, ec, HC1, HC2⟩ := wide_pair u m u0 u1
  have hfl := lsum_big_elem xss 0 hp
  obtain ⟨b, off, cap, vs, rfl, hc, hm, hbw, hcell, hrd⟩ := h.addr hp
  have hc0 := hcell 0 hp
  have hr0 := hrd 0 hp
  simp only [Nat.add_zero] at hc0
  clear hcell hrd
  generalize vs.getD 0 undef = y at *
  obtain ⟨ya, ycap, rfl, y1, y2, y3⟩ := hr0.len
  have hgt : decide ((0 : Int) < (xss.length : Int)) = true := decide_eq_true (by omega)
  obtain ⟨zo, eo, HO1, HO2⟩ := opt_pair (xss.getD 0 []) (by omega) is
  have HJ1 := Lib.hid (fun w1 (hk : Kept w w1) => join_ok _ xss _ (HH.out.kept hk) (by omega))
  have HJ2 := Lib.hid (fun w1 (hk : Kept w w1) => rjoin_ok _ xss _ (HH.out.kept hk) (by omega))
  have HB1 := Lib.hid (fun w1 (hk : Kept w w1) => bytes_ok _ (xss.getD 0 []) _ (hr0.kept hk) (by omega))
  have HB2 := Lib.hid (fun w1 (hk : Kept w w1) => rbytes_ok _ (xss.getD 0 []) _ (hr0.kept hk) (by omega))
  have GA1 := Lib.hid HA1; clear HA1
  have GA2 := Lib.hid HA2; clear HA2
  have GC1 := Lib.hid HC1; clear HC1
  have GC2 := Lib.hid HC2; clear HC2
  have GO1 := Lib.hid HO1; clear HO1
  have GO2 := Lib.hid HO2; clear HO2
  have HR0 := Lib.hid hr0
  clear hv4 hx hg h
  clear hfl
  go_enter Try.func3, Try.ntmps3
  go_wp2_with fail
  refine (live_any _).mono ?_
  rintro e w0 ⟨rfl, hk0⟩
  go_wp2_with fail
  refine (HBX.out _ hk0).mono ?_
  rintro e w0' ⟨rfl, rfl⟩
  go_wp2_with fail
  refine (GA1.out _).mono ?_
  rintro e w1 ⟨v1, rfl, hr1, hk1⟩
  have hkk1 := hk0.trans hk1
  go_wp2_with fail
  refine (GA2.out _).mono ?_
  rintro e w2 ⟨v2, rfl, hr2, hk2⟩
  have hkk2 := hkk1.trans hk2
  go_wp2_with fail
  refine (GC1.out _).mono ?_
  rintro e w3 ⟨v3, rfl, hr3, hk3⟩
  have hkk3 := hkk2.trans hk3
  go_wp2_with fail
  refine (GC2.out _).mono ?_
  rintro e w4 ⟨v4, rfl, hr4, hk4⟩
  have hkk4 := hkk3.trans hk4
  go_wp2_with fail
  refine (HJ1.out _ hkk4).mono ?_
  rintro e w5 ⟨v5, rfl, ho5, hk5⟩
  have hkk5 := hkk4.trans hk5
  have hr5 := ho5.rd
  clear ho5
  go_wp2_with fail
  refine (HJ2.out _ hkk5).mono ?_
  rintro e w6 ⟨v6, rfl, ho6, hk6⟩
  have hkk6 := hkk5.trans hk6
  have hr6 := ho6.rd
  clear ho6
  have hcx : w6.cell? ⟨b, off, none⟩ = some (.slice ya (xss.getD 0 []).length ycap) := by rw [Below.cell hkk6 (by exact hbw)]; exact hc0
  have HG0 := Lib.hid hc0; clear hc0
  generalize hx0 : xss.getD 0 [] = x0 at *
  have HX0 := Lib.hid hx0; clear hx0
  go_wp2_with fail
  refine (GO1.out _ _ (HR0.out.kept hkk6)).mono ?_
  rintro e w7 ⟨v7, rfl, hr7, hk7⟩
  have hkk7 := hkk6.trans hk7
  go_wp2_with fail
  refine (GO2.out _ _ (HR0.out.kept hkk7)).mono ?_
  rintro e w8 ⟨v8, rfl, hr8, hk8⟩
  have hkk8 := hkk7.trans hk8
  go_wp2_with fail
  refine (HB1.out _ hkk8).mono ?_
  rintro e w9 ⟨v9, rfl, ho9, hk9⟩
  have hkk9 := hkk8.trans hk9
  have hr9 := ho9.rd
  clear ho9
  go_wp2_with fail
  refine (HB2.out _ hkk9).mono ?_
  rintro e w10 ⟨v10, rfl, ho10, hk10⟩
  have hkk10 := hkk9.trans hk10
  have hr10 := ho10.rd
  clear ho10
  have hs1 := strs0 (hr1.kept (hk2.trans (hk3.trans (hk4.trans (hk5.trans (hk6.trans (hk7.trans (hk8.trans (hk9.trans (hk10))))))))))
  have hs2 := strs0 (hr2.kept (hk3.trans (hk4.trans (hk5.trans (hk6.trans (hk7.trans (hk8.trans (hk9.trans (hk10)))))))))
  have hs3 := strs0 (hr3.kept (hk4.trans (hk5.trans (hk6.trans (hk7.trans (hk8.trans (hk9.trans (hk10))))))))
  have hs4 := strs0 (hr4.kept (hk5.trans (hk6.trans (hk7.trans (hk8.trans (hk9.trans (hk10)))))))
  have hs5 := strs0 (hr5.kept (hk6.trans (hk7.trans (hk8.trans (hk9.trans (hk10))))))
  have hs6 := strs0 (hr6.kept (hk7.trans (hk8.trans (hk9.trans (hk10)))))
  have hs7 := strs0 (hr7.kept (hk8.trans (hk9.trans (hk10))))
  have hs8 := strs0 (hr8.kept (hk9.trans (hk10)))
  have hs9 := strs0 (hr9.kept (hk10))
  have hs10 := strs0 hr10
  generalize strOfNums za = sa at *
  generalize strOfNums zc = sc at *
  generalize strOfNums zo = so at *
  generalize strOfNums (vecB (vecs xss)) = sj at *
  generalize strOfNums (vecB x0) = sb at *
  clear hr1 hr2 hr3 hr4 hr5 hr6 hr7 hr8 hr9 hr10
  go_wp2_with fail
  go_ret
  exact ⟨rfl, hkk10⟩

set_option maxRecDepth 100000 in
set_option maxHeartbeats 2000000 in
theorem writes_small_none (n u m : Int) (v : Value) (xss : List (List Int)) (is : Bool) (w : World) (h : Rds w v xss) (u0 : 0 ≤ u) (u1 : u < 18446744073709551616) (hx : lsum bigN xss ≤ 1048576) (hg : lsum bigN xss ≤ 100000) (hp : xss.length = 0) :
    Calls Try.prog 3 #[.int .i64 n, .int .u64 u, .int .i64 m, v, .bool is] w fun e w' => e = .returned (.bool true) ∧ Kept w w' := by
  have HH := Lib.hid h
  have HBX := Lib.hid (fun w1 (hk : Kept w w1) => big_any _ xss _ (h.kept hk) (by omega))
  have e0 : decide (100000 < lsum bigN xss) = false := decide_eq_false (by omega)
  rw [e0] at HBX
  clear e0
  have hv4 := lsum_vsz xss
  obtain ⟨za, ea, HA1, HA2⟩ := int_pair n
  obtain ⟨zc, ec, HC1, HC2⟩ := wide_pair u m u0 u1
  obtain rfl : xss = [] := List.eq_nil_of_length_eq_zero hp
  obtain ⟨la, lcap, rfl, l1, l2, l3⟩ := h.len
  have hr0 := Rd.nil w
  obtain ⟨zo, eo, HO1, HO2⟩ := opt_pair ([] : List Int) (by simp) is
  have HJ1 := Lib.hid (fun w1 (hk : Kept w w1) => join_ok _ [] _ (HH.out.kept hk) (by omega))
  have HJ2 := Lib.hid (fun w1 (hk : Kept w w1) => rjoin_ok _ [] _ (HH.out.kept hk) (by omega))
  have HB1 := Lib.hid (fun w1 (hk : Kept w w1) => bytes_ok _ ([] : List Int) _ (hr0.kept hk) (by simp))
  have HB2 := Lib.hid (fun w1 (hk : Kept w w1) => rbytes_ok _ ([] : List Int) _ (hr0.kept hk) (by simp))
  have GA1 := Lib.hid HA1; clear HA1
  have GA2 := Lib.hid HA2; clear HA2
  have GC1 := Lib.hid HC1; clear HC1
  have GC2 := Lib.hid HC2; clear HC2
  have GO1 := Lib.hid HO1; clear HO1
  have GO2 := Lib.hid HO2; clear HO2
  have HR0 := Lib.hid hr0
  clear hv4 hx hg h
  go_enter Try.func3, Try.ntmps3
  go_wp2_with fail
  refine (live_any _).mono ?_
  rintro e w0 ⟨rfl, hk0⟩
  go_wp2_with fail
  refine (HBX.out _ hk0).mono ?_
  rintro e w0' ⟨rfl, rfl⟩
  go_wp2_with fail
  refine (GA1.out _).mono ?_
  rintro e w1 ⟨v1, rfl, hr1, hk1⟩
  have hkk1 := hk0.trans hk1
  go_wp2_with fail
  refine (GA2.out _).mono ?_
  rintro e w2 ⟨v2, rfl, hr2, hk2⟩
  have hkk2 := hkk1.trans hk2
  go_wp2_with fail
  refine (GC1.out _).mono ?_
  rintro e w3 ⟨v3, rfl, hr3, hk3⟩
  have hkk3 := hkk2.trans hk3
  go_wp2_with fail
  refine (GC2.out _).mono ?_
  rintro e w4 ⟨v4, rfl, hr4, hk4⟩
  have hkk4 := hkk3.trans hk4
  go_wp2_with fail
  refine (HJ1.out _ hkk4).mono ?_
  rintro e w5 ⟨v5, rfl, ho5, hk5⟩
  have hkk5 := hkk4.trans hk5
  have hr5 := ho5.rd
  clear ho5
  go_wp2_with fail
  refine (HJ2.out _ hkk5).mono ?_
  rintro e w6 ⟨v6, rfl, ho6, hk6⟩
  have hkk6 := hkk5.trans hk6
  have hr6 := ho6.rd
  clear ho6
  go_wp2_with fail
  refine (GO1.out _ _ (HR0.out.kept hkk6)).mono ?_
  rintro e w7 ⟨v7, rfl, hr7, hk7⟩
  have hkk7 := hkk6.trans hk7
  go_wp2_with fail
  refine (GO2.out _ _ (HR0.out.kept hkk7)).mono ?_
  rintro e w8 ⟨v8, rfl, hr8, hk8⟩
  have hkk8 := hkk7.trans hk8
  go_wp2_with fail
  refine (HB1.out _ hkk8).mono ?_
  rintro e w9 ⟨v9, rfl, ho9, hk9⟩
  have hkk9 := hkk8.trans hk9
  have hr9 := ho9.rd
  clear ho9
  go_wp2_with fail
  refine (HB2.out _ hkk9).mono ?_
  rintro e w10 ⟨v10, rfl, ho10, hk10⟩
  have hkk10 := hkk9.trans hk10
  have hr10 := ho10.rd
  clear ho10
  have hs1 := strs0 (hr1.kept (hk2.trans (hk3.trans (hk4.trans (hk5.trans (hk6.trans (hk7.trans (hk8.trans (hk9.trans (hk10))))))))))
  have hs2 := strs0 (hr2.kept (hk3.trans (hk4.trans (hk5.trans (hk6.trans (hk7.trans (hk8.trans (hk9.trans (hk10)))))))))
  have hs3 := strs0 (hr3.kept (hk4.trans (hk5.trans (hk6.trans (hk7.trans (hk8.trans (hk9.trans (hk10))))))))
  have hs4 := strs0 (hr4.kept (hk5.trans (hk6.trans (hk7.trans (hk8.trans (hk9.trans (hk10)))))))
  have hs5 := strs0 (hr5.kept (hk6.trans (hk7.trans (hk8.trans (hk9.trans (hk10))))))
  have hs6 := strs0 (hr6.kept (hk7.trans (hk8.trans (hk9.trans (hk10)))))
  have hs7 := strs0 (hr7.kept (hk8.trans (hk9.trans (hk10))))
  have hs8 := strs0 (hr8.kept (hk9.trans (hk10)))
  have hs9 := strs0 (hr9.kept (hk10))
  have hs10 := strs0 hr10
  generalize strOfNums za = sa at *
  generalize strOfNums zc = sc at *
  generalize strOfNums zo = so at *
  generalize strOfNums (vecB (vecs [])) = sj at *
  generalize strOfNums (vecB []) = sb at *
  clear hr1 hr2 hr3 hr4 hr5 hr6 hr7 hr8 hr9 hr10
  go_wp2_with fail
  go_ret
  exact ⟨rfl, hkk10⟩

theorem writes_walk {W : World} (n : Int) (_ : (Lit.int .i64 n).wf = true) (u : Int) (hu : (Lit.int .u64 u).wf = true) (m : Int) (_ : (Lit.int .i64 m).wf = true) (v : Value) (xss : List (List Int)) (h : Rds W v xss)
    (_ : ∀ i, i < xss.length → By (xss.getD i [])) (is : Bool) (hx : lsum bigN xss ≤ 1048576) (w : World) (hw : W = w) :
    Calls Try.prog 3 #[.int .i64 n, .int .u64 u, .int .i64 m, v, .bool is] w fun e w' => e = .returned (.bool true) ∧ Kept w w' := by
  subst hw
  have hb := bounds_u64 hu
  by_cases c1 : 100000 < lsum bigN xss
  · exact writes_big n u m v xss is W h (by omega) (by omega) hx c1
  by_cases c2 : 0 < xss.length
  · exact writes_small_some n u m v xss is W h (by omega) (by omega) hx (by omega) c2
  · exact writes_small_none n u m v xss is W h (by omega) (by omega) hx (by omega) (by omega)
end Go.Proofs.Ythjjmadfdfjjdaa

/- The walk of the statement MathSides. -/
import Derived.Test.YtlohedmpcjpaeaaDoorMthL
set_option linter.unusedSimpArgs false
set_option linter.unusedVariables false
namespace Go.Proofs.YtlohedmpcjpaeaaDoor
open Go.RowKit

/-- Siblings are each other's. -/
theorem sib_facts {x n : Int} (h : upB x n = true) : ∃ m k s p : Nat, x = m ∧ n = k ∧ Mth.sib m = s ∧ Mth.par m = p ∧ Mth.sib s = m ∧ Mth.comc m s = p ∧ upB s k = true ∧ inB m k = true ∧ inB s k = true ∧ s < 511 := by
  obtain ⟨m, k, hm, hk, hkf, h4, h5⟩ := in_nat (upB_true h).1
  have hne := (upB_true h).2
  subst hm hk
  have hkb := fulls_bd hkf
  have st := Mth.step_at hkf h4 (show m ≠ k - 1 by omega)
  have hs := Mth.comc_sib hkf h4 (show m ≠ k - 1 by omega)
  have hsr : Mth.sib m ≠ k - 1 := fun e => by
    have a := st.same
    rw [e, par_root hkf] at a
    have := st.inP
    omega
  exact ⟨m, k, _, _, rfl, rfl, rfl, rfl, st.back, hs, by rw [upB_nat hkf st.inS, decide_eq_true hsr], nat_in hkf h4, nat_in hkf st.inS, by have := st.inS; omega⟩
/-- A node's leaves are its children's. -/
theorem kid_facts {x : Int} (h : kidB x = true) : ∃ m l r : Nat, x = m ∧ Mth.left m = l ∧ Mth.right m = r ∧ inB x 256 = true ∧ inB (l : Int) 256 = true ∧ inB (r : Int) 256 = true ∧ Mth.lo l = Mth.lo m ∧ Mth.hi l = Mth.lo r ∧ Mth.hi r = Mth.hi m ∧ Mth.hi l - Mth.lo l = Mth.hi r - Mth.lo r ∧ Mth.lo l ≤ Mth.hi l ∧ Mth.lo r ≤ Mth.hi r ∧ Mth.hi m ≤ 1000 := by
  have hi : inB x 256 = true := by unfold kidB at h; rw [Bool.and_eq_true] at h; exact h.1
  obtain ⟨m, rfl, hm⟩ := any_nat hi
  rw [kidB_nat hm] at h
  have hl := of_decide_eq_true h
  obtain ⟨a1, a2, a3, a4, a5, a6, _⟩ := Mth.kids_leaves hm hl
  refine ⟨m, _, _, rfl, rfl, rfl, hi, in_any a5, in_any a6, a1, a2, a3, a4, ?_, ?_, ?_⟩
  · unfold Mth.lo Mth.hi; omega
  · unfold Mth.lo Mth.hi; omega
  · have := (lo_num hm).2.2
    unfold Mth.hi; omega
theorem size_facts {n : Int} (h : szB n = true) : ∃ m z : Nat, n = m ∧ Mth.size m = z ∧ treeB (z : Int) = true ∧ m ≤ z ∧ (z = 1 ∨ z / 2 < m) ∧ 1 ≤ z ∧ z ≤ 256 := by
  unfold szB at h
  rw [Bool.and_eq_true] at h
  have h0 := of_decide_eq_true h.1
  have h1 := of_decide_eq_true h.2
  obtain ⟨a, b, c⟩ := Mth.size_ok (n := n.toNat) (by omega) (by omega)
  have := fulls_bd a
  exact ⟨n.toNat, _, by omega, rfl, treeB_mk a, b, c, this.1, this.2⟩
/-! ## ways -/
set_option maxHeartbeats 4000000 in
set_option maxRecDepth 100000 in
theorem sides_uk (x : Int) (hx : I64 x) (n : Int) (hn : I64 n) {w : World} (ht : Tabs w) (h1 : upB x n = true) (h2 : kidB x = true) : Calls Tryd.prog 6 #[.int .i64 x, .int .i64 n] w fun e w' => e = .returned (.bool true) ∧ Kept w w' := by
  have HL := Lib.hid (live_any w ht)
  have HZ := Lib.hid (fun W => Size_any n W hn)
  obtain ⟨m, k, s, p, e1, e2, f1, f2, f3, f4, f5, f6, f7, f8⟩ := sib_facts h1
  have H1 : Hid (∀ W, Kept w W → Calls Tryd.prog 25 #[.int .i64 x, .int .i64 n] W fun e w' => e = .returned (.tuple #[.int .i64 s, .int .i64 0]) ∧ Kept W w') := Lib.hid (fun W kk => by
    have := Sibling_any x n W hx hn (ht.kept kk)
    rw [h1, e1] at this
    rw [e1, ← f1]; exact this)
  have H2 : Hid (∀ W, Kept w W → Calls Tryd.prog 25 #[.int .i64 s, .int .i64 n] W fun e w' => e = .returned (.tuple #[.int .i64 x, .int .i64 0]) ∧ Kept W w') := Lib.hid (fun W kk => by
    have := Sibling_any s n W ⟨by omega, by omega⟩ hn (ht.kept kk)
    rw [e2, f5] at this
    rw [e1, e2, ← f3]; exact this)
  have H3 : Hid (∀ W, Kept w W → Calls Tryd.prog 32 #[.int .i64 x, .int .i64 s, .int .i64 n] W fun e w' => e = .returned (.tuple #[.int .i64 p, .int .i64 0]) ∧ Kept W w') := Lib.hid (fun W kk => by
    have := Common_any x s n W hx ⟨by omega, by omega⟩ hn (ht.kept kk)
    rw [e1, e2, f6, f7] at this
    rw [e1, e2, ← f4]; exact this)
  have H4 : Hid (∀ W, Kept w W → Calls Tryd.prog 23 #[.int .i64 x, .int .i64 n] W fun e w' => e = .returned (.tuple #[.int .i64 p, .int .i64 0]) ∧ Kept W w') := Lib.hid (fun W kk => by
    have := Parent_any x n W hx hn (ht.kept kk)
    rw [h1, e1] at this
    rw [e1, ← f2]; exact this)
  clear e1 e2 f1 f2 f3 f4 f5 f6 f7 f8
  obtain ⟨a, l, r, e1, f1, f2, f3, f4, f5, f6, f7, f8, f9, b1, b2, b3⟩ := kid_facts h2
  have H5 : Hid (∀ W, Kept w W → Calls Tryd.prog 15 #[.int .i64 x] W fun e w' => e = .returned (.tuple #[.int .i64 l, .int .i64 0]) ∧ Kept W w') := Lib.hid (fun W kk => by
    have := Left_any x W hx (ht.kept kk)
    rw [h2, e1] at this
    rw [e1, ← f1]; exact this)
  have H6 : Hid (∀ W, Kept w W → Calls Tryd.prog 17 #[.int .i64 x] W fun e w' => e = .returned (.tuple #[.int .i64 r, .int .i64 0]) ∧ Kept W w') := Lib.hid (fun W kk => by
    have := Right_any x W hx (ht.kept kk)
    rw [h2, e1] at this
    rw [e1, ← f2]; exact this)
  have hl5 := (inB_true f4).2
  have hr5 := (inB_true f5).2
  have H7 : Hid (∀ W, Kept w W → Calls Tryd.prog 21 #[.int .i64 l] W fun e w' => e = .returned (.tuple #[.int .i64 (Mth.lo a : Nat), .int .i64 (Mth.hi l : Nat), .int .i64 0]) ∧ Kept W w') := Lib.hid (fun W kk => by
    have := Leaves_any l W ⟨by omega, by omega⟩ (ht.kept kk)
    rw [f4] at this
    rw [← f6]; exact this)
  have H8 : Hid (∀ W, Kept w W → Calls Tryd.prog 21 #[.int .i64 r] W fun e w' => e = .returned (.tuple #[.int .i64 (Mth.hi l : Nat), .int .i64 (Mth.hi a : Nat), .int .i64 0]) ∧ Kept W w') := Lib.hid (fun W kk => by
    have := Leaves_any r W ⟨by omega, by omega⟩ (ht.kept kk)
    rw [f5] at this
    rw [f7, ← f8]; exact this)
  have H9 : Hid (∀ W, Kept w W → Calls Tryd.prog 21 #[.int .i64 x] W fun e w' => e = .returned (.tuple #[.int .i64 (Mth.lo a : Nat), .int .i64 (Mth.hi a : Nat), .int .i64 0]) ∧ Kept W w') := Lib.hid (fun W kk => by
    have := Leaves_any x W hx (ht.kept kk)
    rw [f3, e1] at this
    rw [e1]; exact this)
  rw [f6] at b1 f9
  rw [← f7, f8] at b2 f9
  generalize Mth.lo a = A at H7 H9 b1 f9
  generalize Mth.hi l = B at H7 H8 b1 b2 f9
  generalize Mth.hi a = C at H8 H9 b2 b3 f9
  have g1 : (0 : Int) ≤ (A : Int) := by omega
  have g2 : (A : Int) ≤ (B : Int) := by omega
  have g3 : (B : Int) ≤ (C : Int) := by omega
  have g4 : (C : Int) ≤ 1000 := by omega
  have g5 : ((B : Int) - (A : Int) != (C : Int) - (B : Int)) = false := by simp; omega
  clear e1 f1 f2 f3 f4 f5 f6 f7 f8 f9 b1 b2 b3 hl5 hr5
  clear h1 h2 hx
  go_enter Tryd.func6, Tryd.ntmps6
  go_wp2_with fail
  refine HL.out.mono ?_; rintro e w1 ⟨rfl, k0⟩
  go_wp2_with fail
  refine (H1.out _ k0).mono ?_; rintro e w2 ⟨rfl, q⟩
  replace k0 := k0.trans q
  clear q
  go_wp2_with fail
  refine (H2.out _ k0).mono ?_; rintro e w2 ⟨rfl, q⟩
  replace k0 := k0.trans q
  clear q
  go_wp2_with fail
  refine (H3.out _ k0).mono ?_; rintro e w2 ⟨rfl, q⟩
  replace k0 := k0.trans q
  clear q
  go_wp2_with fail
  refine (H4.out _ k0).mono ?_; rintro e w2 ⟨rfl, q⟩
  replace k0 := k0.trans q
  clear q
  go_wp2_with fail
  refine (H5.out _ k0).mono ?_; rintro e w2 ⟨rfl, q⟩
  replace k0 := k0.trans q
  clear q
  go_wp2_with fail
  refine (H6.out _ k0).mono ?_; rintro e w2 ⟨rfl, q⟩
  replace k0 := k0.trans q
  clear q
  go_wp2_with fail
  refine (H7.out _ k0).mono ?_; rintro e w2 ⟨rfl, q⟩
  replace k0 := k0.trans q
  clear q
  go_wp2_with fail
  refine (H8.out _ k0).mono ?_; rintro e w2 ⟨rfl, q⟩
  replace k0 := k0.trans q
  clear q
  go_wp2_with fail
  refine (H9.out _ k0).mono ?_; rintro e w2 ⟨rfl, q⟩
  replace k0 := k0.trans q
  clear q
  cases hz : szB n with
  | false =>
    rw [hz] at HZ
    have HZ : Hid (∀ W, Calls Tryd.prog 19 #[.int .i64 n] W fun e w' => e = .returned (.tuple #[.int .i64 0, .int .i64 1]) ∧ Kept W w') := HZ
    by_cases hn1 : n < 1
    · clear hz
      have hd : decide (n < 1) = true := decide_eq_true hn1
      go_wp2_with fail
      refine (HZ.out _).mono ?_; rintro e w2 ⟨rfl, q⟩
      go_wp2
      go_ret
      exact ⟨rfl, k0.trans q⟩
    · have hn2 : 256 < n := by
        unfold szB at hz
        rw [Bool.and_eq_false_iff] at hz
        rcases hz with h | h
        · have := of_decide_eq_false h; omega
        · have := of_decide_eq_false h; omega
      clear hz
      have hd : decide (n < 1) = false := decide_eq_false hn1
      have hd2 : decide (256 < n) = true := decide_eq_true hn2
      go_wp2_with fail
      refine (HZ.out _).mono ?_; rintro e w2 ⟨rfl, q⟩
      go_wp2
      go_ret
      exact ⟨rfl, k0.trans q⟩
  | true =>
    rw [hz] at HZ
    obtain ⟨c, z, e1, f1, f2, f3, f4, f5, f6⟩ := size_facts hz
    have HZ : Hid (∀ W, Calls Tryd.prog 19 #[.int .i64 n] W fun e w' => e = .returned (.tuple #[.int .i64 z, .int .i64 0]) ∧ Kept W w') := by
      rw [e1] at HZ ⊢
      rw [← f1]; exact HZ
    have HW : Hid (∀ W, Calls Tryd.prog 9 #[.int .i64 z] W fun e w' => e = .returned (.tuple #[.int .i64 (2 * (z : Int) - 1), .int .i64 0]) ∧ Kept W w') := Lib.hid (fun W => by
      have := Width_any z W ⟨by omega, by omega⟩
      rw [f2] at this
      exact this)
    have g6 : (n : Int) ≤ (z : Int) := by omega
    have g7 : (1 : Int) ≤ (z : Int) := by omega
    have g8 : (z : Int) ≤ 256 := by omega
    have gd : decide (n ≤ (z : Int)) = true := decide_eq_true g6
    by_cases hz1 : z = 1
    · have q1 : ((z : Int) == 1) = true := by simp; omega
      clear hz e1 f1 f2 f3 f4 f5 f6 hz1
      go_wp2_with fail
      refine (HZ.out _).mono ?_; rintro e w2 ⟨rfl, q⟩
      replace k0 := k0.trans q
      clear q
      go_wp2_with fail
      refine (HW.out _).mono ?_; rintro e w2 ⟨rfl, q⟩
      go_wp2
      go_ret
      exact ⟨rfl, k0.trans q⟩
    · have q1 : ((z : Int) == 1) = false := by rw [beq_eq_false_iff_ne]; omega
      have q2 : decide ((z : Int) / 2 < n) = true := decide_eq_true (by omega)
      clear hz e1 f1 f2 f3 f4 f5 f6 hz1
      go_wp2_with fail
      refine (HZ.out _).mono ?_; rintro e w2 ⟨rfl, q⟩
      replace k0 := k0.trans q
      clear q
      go_wp2_with fail
      refine (HW.out _).mono ?_; rintro e w2 ⟨rfl, q⟩
      go_wp2
      go_ret
      exact ⟨rfl, k0.trans q⟩
set_option maxHeartbeats 4000000 in
set_option maxRecDepth 100000 in
theorem sides_ul (x : Int) (hx : I64 x) (n : Int) (hn : I64 n) {w : World} (ht : Tabs w) (h1 : upB x n = true) (h2 : kidB x = false) : Calls Tryd.prog 6 #[.int .i64 x, .int .i64 n] w fun e w' => e = .returned (.bool true) ∧ Kept w w' := by
  have HL := Lib.hid (live_any w ht)
  have HZ := Lib.hid (fun W => Size_any n W hn)
  obtain ⟨m, k, s, p, e1, e2, f1, f2, f3, f4, f5, f6, f7, f8⟩ := sib_facts h1
  have H1 : Hid (∀ W, Kept w W → Calls Tryd.prog 25 #[.int .i64 x, .int .i64 n] W fun e w' => e = .returned (.tuple #[.int .i64 s, .int .i64 0]) ∧ Kept W w') := Lib.hid (fun W kk => by
    have := Sibling_any x n W hx hn (ht.kept kk)
    rw [h1, e1] at this
    rw [e1, ← f1]; exact this)
  have H2 : Hid (∀ W, Kept w W → Calls Tryd.prog 25 #[.int .i64 s, .int .i64 n] W fun e w' => e = .returned (.tuple #[.int .i64 x, .int .i64 0]) ∧ Kept W w') := Lib.hid (fun W kk => by
    have := Sibling_any s n W ⟨by omega, by omega⟩ hn (ht.kept kk)
    rw [e2, f5] at this
    rw [e1, e2, ← f3]; exact this)
  have H3 : Hid (∀ W, Kept w W → Calls Tryd.prog 32 #[.int .i64 x, .int .i64 s, .int .i64 n] W fun e w' => e = .returned (.tuple #[.int .i64 p, .int .i64 0]) ∧ Kept W w') := Lib.hid (fun W kk => by
    have := Common_any x s n W hx ⟨by omega, by omega⟩ hn (ht.kept kk)
    rw [e1, e2, f6, f7] at this
    rw [e1, e2, ← f4]; exact this)
  have H4 : Hid (∀ W, Kept w W → Calls Tryd.prog 23 #[.int .i64 x, .int .i64 n] W fun e w' => e = .returned (.tuple #[.int .i64 p, .int .i64 0]) ∧ Kept W w') := Lib.hid (fun W kk => by
    have := Parent_any x n W hx hn (ht.kept kk)
    rw [h1, e1] at this
    rw [e1, ← f2]; exact this)
  clear e1 e2 f1 f2 f3 f4 f5 f6 f7 f8
  have H5 : Hid (∀ W, Kept w W → Calls Tryd.prog 15 #[.int .i64 x] W fun e w' => e = .returned (.tuple #[.int .i64 0, .int .i64 1]) ∧ Kept W w') := Lib.hid (fun W kk => by
    have := Left_any x W hx (ht.kept kk)
    rw [h2] at this
    exact this)
  have H6 : Hid (∀ W, Kept w W → Calls Tryd.prog 17 #[.int .i64 x] W fun e w' => e = .returned (.tuple #[.int .i64 0, .int .i64 1]) ∧ Kept W w') := Lib.hid (fun W kk => by
    have := Right_any x W hx (ht.kept kk)
    rw [h2] at this
    exact this)
  clear h1 h2 hx
  go_enter Tryd.func6, Tryd.ntmps6
  go_wp2_with fail
  refine HL.out.mono ?_; rintro e w1 ⟨rfl, k0⟩
  go_wp2_with fail
  refine (H1.out _ k0).mono ?_; rintro e w2 ⟨rfl, q⟩
  replace k0 := k0.trans q
  clear q
  go_wp2_with fail
  refine (H2.out _ k0).mono ?_; rintro e w2 ⟨rfl, q⟩
  replace k0 := k0.trans q
  clear q
  go_wp2_with fail
  refine (H3.out _ k0).mono ?_; rintro e w2 ⟨rfl, q⟩
  replace k0 := k0.trans q
  clear q
  go_wp2_with fail
  refine (H4.out _ k0).mono ?_; rintro e w2 ⟨rfl, q⟩
  replace k0 := k0.trans q
  clear q
  go_wp2_with fail
  refine (H5.out _ k0).mono ?_; rintro e w2 ⟨rfl, q⟩
  replace k0 := k0.trans q
  clear q
  go_wp2_with fail
  refine (H6.out _ k0).mono ?_; rintro e w2 ⟨rfl, q⟩
  replace k0 := k0.trans q
  clear q
  cases hz : szB n with
  | false =>
    rw [hz] at HZ
    have HZ : Hid (∀ W, Calls Tryd.prog 19 #[.int .i64 n] W fun e w' => e = .returned (.tuple #[.int .i64 0, .int .i64 1]) ∧ Kept W w') := HZ
    by_cases hn1 : n < 1
    · clear hz
      have hd : decide (n < 1) = true := decide_eq_true hn1
      go_wp2_with fail
      refine (HZ.out _).mono ?_; rintro e w2 ⟨rfl, q⟩
      go_wp2
      go_ret
      exact ⟨rfl, k0.trans q⟩
    · have hn2 : 256 < n := by
        unfold szB at hz
        rw [Bool.and_eq_false_iff] at hz
        rcases hz with h | h
        · have := of_decide_eq_false h; omega
        · have := of_decide_eq_false h; omega
      clear hz
      have hd : decide (n < 1) = false := decide_eq_false hn1
      have hd2 : decide (256 < n) = true := decide_eq_true hn2
      go_wp2_with fail
      refine (HZ.out _).mono ?_; rintro e w2 ⟨rfl, q⟩
      go_wp2
      go_ret
      exact ⟨rfl, k0.trans q⟩
  | true =>
    rw [hz] at HZ
    obtain ⟨c, z, e1, f1, f2, f3, f4, f5, f6⟩ := size_facts hz
    have HZ : Hid (∀ W, Calls Tryd.prog 19 #[.int .i64 n] W fun e w' => e = .returned (.tuple #[.int .i64 z, .int .i64 0]) ∧ Kept W w') := by
      rw [e1] at HZ ⊢
      rw [← f1]; exact HZ
    have HW : Hid (∀ W, Calls Tryd.prog 9 #[.int .i64 z] W fun e w' => e = .returned (.tuple #[.int .i64 (2 * (z : Int) - 1), .int .i64 0]) ∧ Kept W w') := Lib.hid (fun W => by
      have := Width_any z W ⟨by omega, by omega⟩
      rw [f2] at this
      exact this)
    have g6 : (n : Int) ≤ (z : Int) := by omega
    have g7 : (1 : Int) ≤ (z : Int) := by omega
    have g8 : (z : Int) ≤ 256 := by omega
    have gd : decide (n ≤ (z : Int)) = true := decide_eq_true g6
    by_cases hz1 : z = 1
    · have q1 : ((z : Int) == 1) = true := by simp; omega
      clear hz e1 f1 f2 f3 f4 f5 f6 hz1
      go_wp2_with fail
      refine (HZ.out _).mono ?_; rintro e w2 ⟨rfl, q⟩
      replace k0 := k0.trans q
      clear q
      go_wp2_with fail
      refine (HW.out _).mono ?_; rintro e w2 ⟨rfl, q⟩
      go_wp2
      go_ret
      exact ⟨rfl, k0.trans q⟩
    · have q1 : ((z : Int) == 1) = false := by rw [beq_eq_false_iff_ne]; omega
      have q2 : decide ((z : Int) / 2 < n) = true := decide_eq_true (by omega)
      clear hz e1 f1 f2 f3 f4 f5 f6 hz1
      go_wp2_with fail
      refine (HZ.out _).mono ?_; rintro e w2 ⟨rfl, q⟩
      replace k0 := k0.trans q
      clear q
      go_wp2_with fail
      refine (HW.out _).mono ?_; rintro e w2 ⟨rfl, q⟩
      go_wp2
      go_ret
      exact ⟨rfl, k0.trans q⟩
set_option maxHeartbeats 4000000 in
set_option maxRecDepth 100000 in
theorem sides_nk (x : Int) (hx : I64 x) (n : Int) (hn : I64 n) {w : World} (ht : Tabs w) (h1 : upB x n = false) (h2 : kidB x = true) : Calls Tryd.prog 6 #[.int .i64 x, .int .i64 n] w fun e w' => e = .returned (.bool true) ∧ Kept w w' := by
  have HL := Lib.hid (live_any w ht)
  have HZ := Lib.hid (fun W => Size_any n W hn)
  have H1 : Hid (∀ W, Kept w W → Calls Tryd.prog 25 #[.int .i64 x, .int .i64 n] W fun e w' => e = .returned (.tuple #[.int .i64 0, .int .i64 1]) ∧ Kept W w') := Lib.hid (fun W kk => by
    have := Sibling_any x n W hx hn (ht.kept kk)
    rw [h1] at this
    exact this)
  obtain ⟨a, l, r, e1, f1, f2, f3, f4, f5, f6, f7, f8, f9, b1, b2, b3⟩ := kid_facts h2
  have H5 : Hid (∀ W, Kept w W → Calls Tryd.prog 15 #[.int .i64 x] W fun e w' => e = .returned (.tuple #[.int .i64 l, .int .i64 0]) ∧ Kept W w') := Lib.hid (fun W kk => by
    have := Left_any x W hx (ht.kept kk)
    rw [h2, e1] at this
    rw [e1, ← f1]; exact this)
  have H6 : Hid (∀ W, Kept w W → Calls Tryd.prog 17 #[.int .i64 x] W fun e w' => e = .returned (.tuple #[.int .i64 r, .int .i64 0]) ∧ Kept W w') := Lib.hid (fun W kk => by
    have := Right_any x W hx (ht.kept kk)
    rw [h2, e1] at this
    rw [e1, ← f2]; exact this)
  have hl5 := (inB_true f4).2
  have hr5 := (inB_true f5).2
  have H7 : Hid (∀ W, Kept w W → Calls Tryd.prog 21 #[.int .i64 l] W fun e w' => e = .returned (.tuple #[.int .i64 (Mth.lo a : Nat), .int .i64 (Mth.hi l : Nat), .int .i64 0]) ∧ Kept W w') := Lib.hid (fun W kk => by
    have := Leaves_any l W ⟨by omega, by omega⟩ (ht.kept kk)
    rw [f4] at this
    rw [← f6]; exact this)
  have H8 : Hid (∀ W, Kept w W → Calls Tryd.prog 21 #[.int .i64 r] W fun e w' => e = .returned (.tuple #[.int .i64 (Mth.hi l : Nat), .int .i64 (Mth.hi a : Nat), .int .i64 0]) ∧ Kept W w') := Lib.hid (fun W kk => by
    have := Leaves_any r W ⟨by omega, by omega⟩ (ht.kept kk)
    rw [f5] at this
    rw [f7, ← f8]; exact this)
  have H9 : Hid (∀ W, Kept w W → Calls Tryd.prog 21 #[.int .i64 x] W fun e w' => e = .returned (.tuple #[.int .i64 (Mth.lo a : Nat), .int .i64 (Mth.hi a : Nat), .int .i64 0]) ∧ Kept W w') := Lib.hid (fun W kk => by
    have := Leaves_any x W hx (ht.kept kk)
    rw [f3, e1] at this
    rw [e1]; exact this)
  rw [f6] at b1 f9
  rw [← f7, f8] at b2 f9
  generalize Mth.lo a = A at H7 H9 b1 f9
  generalize Mth.hi l = B at H7 H8 b1 b2 f9
  generalize Mth.hi a = C at H8 H9 b2 b3 f9
  have g1 : (0 : Int) ≤ (A : Int) := by omega
  have g2 : (A : Int) ≤ (B : Int) := by omega
  have g3 : (B : Int) ≤ (C : Int) := by omega
  have g4 : (C : Int) ≤ 1000 := by omega
  have g5 : ((B : Int) - (A : Int) != (C : Int) - (B : Int)) = false := by simp; omega
  clear e1 f1 f2 f3 f4 f5 f6 f7 f8 f9 b1 b2 b3 hl5 hr5
  clear h1 h2 hx
  go_enter Tryd.func6, Tryd.ntmps6
  go_wp2_with fail
  refine HL.out.mono ?_; rintro e w1 ⟨rfl, k0⟩
  go_wp2_with fail
  refine (H1.out _ k0).mono ?_; rintro e w2 ⟨rfl, q⟩
  replace k0 := k0.trans q
  clear q
  go_wp2_with fail
  refine (H5.out _ k0).mono ?_; rintro e w2 ⟨rfl, q⟩
  replace k0 := k0.trans q
  clear q
  go_wp2_with fail
  refine (H6.out _ k0).mono ?_; rintro e w2 ⟨rfl, q⟩
  replace k0 := k0.trans q
  clear q
  go_wp2_with fail
  refine (H7.out _ k0).mono ?_; rintro e w2 ⟨rfl, q⟩
  replace k0 := k0.trans q
  clear q
  go_wp2_with fail
  refine (H8.out _ k0).mono ?_; rintro e w2 ⟨rfl, q⟩
  replace k0 := k0.trans q
  clear q
  go_wp2_with fail
  refine (H9.out _ k0).mono ?_; rintro e w2 ⟨rfl, q⟩
  replace k0 := k0.trans q
  clear q
  cases hz : szB n with
  | false =>
    rw [hz] at HZ
    have HZ : Hid (∀ W, Calls Tryd.prog 19 #[.int .i64 n] W fun e w' => e = .returned (.tuple #[.int .i64 0, .int .i64 1]) ∧ Kept W w') := HZ
    by_cases hn1 : n < 1
    · clear hz
      have hd : decide (n < 1) = true := decide_eq_true hn1
      go_wp2_with fail
      refine (HZ.out _).mono ?_; rintro e w2 ⟨rfl, q⟩
      go_wp2
      go_ret
      exact ⟨rfl, k0.trans q⟩
    · have hn2 : 256 < n := by
        unfold szB at hz
        rw [Bool.and_eq_false_iff] at hz
        rcases hz with h | h
        · have := of_decide_eq_false h; omega
        · have := of_decide_eq_false h; omega
      clear hz
      have hd : decide (n < 1) = false := decide_eq_false hn1
      have hd2 : decide (256 < n) = true := decide_eq_true hn2
      go_wp2_with fail
      refine (HZ.out _).mono ?_; rintro e w2 ⟨rfl, q⟩
      go_wp2
      go_ret
      exact ⟨rfl, k0.trans q⟩
  | true =>
    rw [hz] at HZ
    obtain ⟨c, z, e1, f1, f2, f3, f4, f5, f6⟩ := size_facts hz
    have HZ : Hid (∀ W, Calls Tryd.prog 19 #[.int .i64 n] W fun e w' => e = .returned (.tuple #[.int .i64 z, .int .i64 0]) ∧ Kept W w') := by
      rw [e1] at HZ ⊢
      rw [← f1]; exact HZ
    have HW : Hid (∀ W, Calls Tryd.prog 9 #[.int .i64 z] W fun e w' => e = .returned (.tuple #[.int .i64 (2 * (z : Int) - 1), .int .i64 0]) ∧ Kept W w') := Lib.hid (fun W => by
      have := Width_any z W ⟨by omega, by omega⟩
      rw [f2] at this
      exact this)
    have g6 : (n : Int) ≤ (z : Int) := by omega
    have g7 : (1 : Int) ≤ (z : Int) := by omega
    have g8 : (z : Int) ≤ 256 := by omega
    have gd : decide (n ≤ (z : Int)) = true := decide_eq_true g6
    by_cases hz1 : z = 1
    · have q1 : ((z : Int) == 1) = true := by simp; omega
      clear hz e1 f1 f2 f3 f4 f5 f6 hz1
      go_wp2_with fail
      refine (HZ.out _).mono ?_; rintro e w2 ⟨rfl, q⟩
      replace k0 := k0.trans q
      clear q
      go_wp2_with fail
      refine (HW.out _).mono ?_; rintro e w2 ⟨rfl, q⟩
      go_wp2
      go_ret
      exact ⟨rfl, k0.trans q⟩
    · have q1 : ((z : Int) == 1) = false := by rw [beq_eq_false_iff_ne]; omega
      have q2 : decide ((z : Int) / 2 < n) = true := decide_eq_true (by omega)
      clear hz e1 f1 f2 f3 f4 f5 f6 hz1
      go_wp2_with fail
      refine (HZ.out _).mono ?_; rintro e w2 ⟨rfl, q⟩
      replace k0 := k0.trans q
      clear q
      go_wp2_with fail
      refine (HW.out _).mono ?_; rintro e w2 ⟨rfl, q⟩
      go_wp2
      go_ret
      exact ⟨rfl, k0.trans q⟩
set_option maxHeartbeats 4000000 in
set_option maxRecDepth 100000 in
theorem sides_nl (x : Int) (hx : I64 x) (n : Int) (hn : I64 n) {w : World} (ht : Tabs w) (h1 : upB x n = false) (h2 : kidB x = false) : Calls Tryd.prog 6 #[.int .i64 x, .int .i64 n] w fun e w' => e = .returned (.bool true) ∧ Kept w w' := by
  have HL := Lib.hid (live_any w ht)
  have HZ := Lib.hid (fun W => Size_any n W hn)
  have H1 : Hid (∀ W, Kept w W → Calls Tryd.prog 25 #[.int .i64 x, .int .i64 n] W fun e w' => e = .returned (.tuple #[.int .i64 0, .int .i64 1]) ∧ Kept W w') := Lib.hid (fun W kk => by
    have := Sibling_any x n W hx hn (ht.kept kk)
    rw [h1] at this
    exact this)
  have H5 : Hid (∀ W, Kept w W → Calls Tryd.prog 15 #[.int .i64 x] W fun e w' => e = .returned (.tuple #[.int .i64 0, .int .i64 1]) ∧ Kept W w') := Lib.hid (fun W kk => by
    have := Left_any x W hx (ht.kept kk)
    rw [h2] at this
    exact this)
  have H6 : Hid (∀ W, Kept w W → Calls Tryd.prog 17 #[.int .i64 x] W fun e w' => e = .returned (.tuple #[.int .i64 0, .int .i64 1]) ∧ Kept W w') := Lib.hid (fun W kk => by
    have := Right_any x W hx (ht.kept kk)
    rw [h2] at this
    exact this)
  clear h1 h2 hx
  go_enter Tryd.func6, Tryd.ntmps6
  go_wp2_with fail
  refine HL.out.mono ?_; rintro e w1 ⟨rfl, k0⟩
  go_wp2_with fail
  refine (H1.out _ k0).mono ?_; rintro e w2 ⟨rfl, q⟩
  replace k0 := k0.trans q
  clear q
  go_wp2_with fail
  refine (H5.out _ k0).mono ?_; rintro e w2 ⟨rfl, q⟩
  replace k0 := k0.trans q
  clear q
  go_wp2_with fail
  refine (H6.out _ k0).mono ?_; rintro e w2 ⟨rfl, q⟩
  replace k0 := k0.trans q
  clear q
  cases hz : szB n with
  | false =>
    rw [hz] at HZ
    have HZ : Hid (∀ W, Calls Tryd.prog 19 #[.int .i64 n] W fun e w' => e = .returned (.tuple #[.int .i64 0, .int .i64 1]) ∧ Kept W w') := HZ
    by_cases hn1 : n < 1
    · clear hz
      have hd : decide (n < 1) = true := decide_eq_true hn1
      go_wp2_with fail
      refine (HZ.out _).mono ?_; rintro e w2 ⟨rfl, q⟩
      go_wp2
      go_ret
      exact ⟨rfl, k0.trans q⟩
    · have hn2 : 256 < n := by
        unfold szB at hz
        rw [Bool.and_eq_false_iff] at hz
        rcases hz with h | h
        · have := of_decide_eq_false h; omega
        · have := of_decide_eq_false h; omega
      clear hz
      have hd : decide (n < 1) = false := decide_eq_false hn1
      have hd2 : decide (256 < n) = true := decide_eq_true hn2
      go_wp2_with fail
      refine (HZ.out _).mono ?_; rintro e w2 ⟨rfl, q⟩
      go_wp2
      go_ret
      exact ⟨rfl, k0.trans q⟩
  | true =>
    rw [hz] at HZ
    obtain ⟨c, z, e1, f1, f2, f3, f4, f5, f6⟩ := size_facts hz
    have HZ : Hid (∀ W, Calls Tryd.prog 19 #[.int .i64 n] W fun e w' => e = .returned (.tuple #[.int .i64 z, .int .i64 0]) ∧ Kept W w') := by
      rw [e1] at HZ ⊢
      rw [← f1]; exact HZ
    have HW : Hid (∀ W, Calls Tryd.prog 9 #[.int .i64 z] W fun e w' => e = .returned (.tuple #[.int .i64 (2 * (z : Int) - 1), .int .i64 0]) ∧ Kept W w') := Lib.hid (fun W => by
      have := Width_any z W ⟨by omega, by omega⟩
      rw [f2] at this
      exact this)
    have g6 : (n : Int) ≤ (z : Int) := by omega
    have g7 : (1 : Int) ≤ (z : Int) := by omega
    have g8 : (z : Int) ≤ 256 := by omega
    have gd : decide (n ≤ (z : Int)) = true := decide_eq_true g6
    by_cases hz1 : z = 1
    · have q1 : ((z : Int) == 1) = true := by simp; omega
      clear hz e1 f1 f2 f3 f4 f5 f6 hz1
      go_wp2_with fail
      refine (HZ.out _).mono ?_; rintro e w2 ⟨rfl, q⟩
      replace k0 := k0.trans q
      clear q
      go_wp2_with fail
      refine (HW.out _).mono ?_; rintro e w2 ⟨rfl, q⟩
      go_wp2
      go_ret
      exact ⟨rfl, k0.trans q⟩
    · have q1 : ((z : Int) == 1) = false := by rw [beq_eq_false_iff_ne]; omega
      have q2 : decide ((z : Int) / 2 < n) = true := decide_eq_true (by omega)
      clear hz e1 f1 f2 f3 f4 f5 f6 hz1
      go_wp2_with fail
      refine (HZ.out _).mono ?_; rintro e w2 ⟨rfl, q⟩
      replace k0 := k0.trans q
      clear q
      go_wp2_with fail
      refine (HW.out _).mono ?_; rintro e w2 ⟨rfl, q⟩
      go_wp2
      go_ret
      exact ⟨rfl, k0.trans q⟩
theorem sides_any {x : Int} (hx : I64 x) {n : Int} (hn : I64 n) {w : World} (ht : Tabs w) : Calls Tryd.prog 6 #[.int .i64 x, .int .i64 n] w fun e w' => e = .returned (.bool true) ∧ Kept w w' := by
  cases h1 : upB x n <;> cases h2 : kidB x
  · exact sides_nl x hx n hn ht h1 h2
  · exact sides_nk x hx n hn ht h1 h2
  · exact sides_ul x hx n hn ht h1 h2
  · exact sides_uk x hx n hn ht h1 h2
end Go.Proofs.YtlohedmpcjpaeaaDoor

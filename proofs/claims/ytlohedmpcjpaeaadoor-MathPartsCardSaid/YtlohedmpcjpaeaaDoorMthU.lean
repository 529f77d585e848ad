/- Walks of the document's answer: Parent, Sibling, Path, Copath. -/
import Derived.Test.YtlohedmpcjpaeaaDoorMthT
import Derived.Test.YtlohedmpcjpaeaaDoorMthF
set_option linter.unusedSimpArgs false
set_option linter.unusedVariables false
namespace Go.Proofs.YtlohedmpcjpaeaaDoor
open Go.RowKit

theorem kid_par {x p : Nat} (hp : p < 511) (hl : 0 < Mth.lvl p) : (Mth.left p = x → Mth.par x = p) ∧ (Mth.right p = x → Mth.par x = p) := by
  obtain ⟨_, _, _, _, _, _, h1, h2, _, _⟩ := Mth.kids_leaves hp hl
  exact ⟨fun e => by rw [← e]; exact h1, fun e => by rw [← e]; exact h2⟩
theorem par_root {n : Nat} (hn : n ∈ Mth.fulls) : Mth.par (n - 1) = 2 * n - 1 := by
  have : ∀ m ∈ Mth.fulls, Mth.par (m - 1) = 2 * m - 1 := by decide +kernel
  exact this n hn
theorem kidB_pos {p : Nat} (hp : p < 511) (hl : 0 < Mth.lvl p) : kidB (p : Int) = true := by rw [kidB_nat hp, decide_eq_true hl]
theorem kidB_neg {p : Nat} (hp : p < 511) (hl : ¬ 0 < Mth.lvl p) : kidB (p : Int) = false := by rw [kidB_nat hp, decide_eq_false hl]
/-- What Left and Right say of a number. -/
theorem rleft_nat (p : Nat) (w : World) (hp : p < 511) : Calls Tryd.prog 16 #[.int .i64 p] w fun e w' => e = .returned (.tuple #[.int .i64 (pk (kidB p) (Mth.left p : Nat)), .int .i64 (er (kidB p))]) ∧ w = w' := RLeft_any p w ⟨by omega, by omega⟩
theorem rright_nat (p : Nat) (w : World) (hp : p < 511) : Calls Tryd.prog 18 #[.int .i64 p] w fun e w' => e = .returned (.tuple #[.int .i64 (pk (kidB p) (Mth.right p : Nat)), .int .i64 (er (kidB p))]) ∧ w = w' := RRight_any p w ⟨by omega, by omega⟩
theorem upB_nat {m k : Nat} (hk : k ∈ Mth.fulls) (h : m < 2 * k - 1) : upB (m : Int) (k : Int) = decide (m ≠ k - 1) := by
  have := (fulls_bd hk).1
  unfold upB
  rw [nat_in hk h, Bool.true_and]
  by_cases e : m = k - 1
  · rw [decide_eq_false (by simpa using e)]; simp; omega
  · rw [decide_eq_true e]; simp; omega
set_option maxHeartbeats 2000000 in
theorem RParent_any (x n : Int) (w : World) (hx : I64 x) (hn : I64 n) : Calls Tryd.prog 24 #[.int .i64 x, .int .i64 n] w fun e w' => e = .returned (.tuple #[.int .i64 (pk (upB x n) (Mth.par x.toNat : Nat)), .int .i64 (er (upB x n))]) ∧ w = w' := by
  have HA := Lib.hid (fun w => rnode_any x n w hx hn)
  cases hi : inB x n with
  | false =>
    have HK := Shut.mk (show upB x n = false by unfold upB; rw [hi]; rfl)
    rw [hi] at HA
    clear hi
    go_enter Tryd.func24, Tryd.ntmps24
    go_wp2_with (go_at_call 56; refine (HA.out _).mono ?_; rintro e w' ⟨rfl, rfl⟩)
    go_ret2
    exact ⟨by rw [HK.out]; rfl, rfl⟩
  | true =>
    rw [hi] at HA
    obtain ⟨m, k, hm, hk, hkf, h4, h5⟩ := in_nat hi
    subst hm hk
    have hkb := fulls_bd hkf
    have HU := Shut.mk (upB_nat hkf h4)
    clear hi
    have hk1 : (1 : Int) ≤ (k : Int) := by omega
    have hk2 : (k : Int) ≤ 256 := by omega
    have hm0 : (0 : Int) ≤ (m : Int) := by omega
    go_enter Tryd.func24, Tryd.ntmps24
    go_wp2_with (go_at_call 56; refine (HA.out _).mono ?_; rintro e w' ⟨rfl, rfl⟩)
    go_loop [18] (fun u => ∃ p : Nat, u = .int .i64 p ∧ p ≤ 2 * k - 1 ∧ (∀ j, j < p → j ≠ Mth.par m)) (fun u => (1000 - intOf u).toNat)
    case atStart => exact ⟨0, rfl, by omega, fun j hj => absurd hj (Nat.not_lt_zero _)⟩
    case round =>
      obtain ⟨p, rfl, hp, hall⟩ := hrel
      have HAll := Shut.mk hall
      clear hall
      have p0 : (0 : Int) ≤ (p : Int) := by omega
      have p1 : (p : Int) ≤ 511 := by omega
      by_cases hc : (p : Int) < 2 * (k : Int) - 1
      · have hd : decide ((p : Int) < 2 * (k : Int) - 1) = true := decide_eq_true hc
        have hp5 : p < 511 := by omega
        have HL := Lib.hid (fun w => rleft_nat p w hp5)
        have HR := Lib.hid (fun w => rright_nat p w hp5)
        by_cases hl : 0 < Mth.lvl p
        · rw [kidB_pos hp5 hl] at HL HR
          have HL : Hid (∀ w, Calls Tryd.prog 16 #[.int .i64 (p : Int)] w fun e w' => e = .returned (.tuple #[.int .i64 (Mth.left p : Nat), .int .i64 0]) ∧ w = w') := HL
          have HR : Hid (∀ w, Calls Tryd.prog 18 #[.int .i64 (p : Int)] w fun e w' => e = .returned (.tuple #[.int .i64 (Mth.right p : Nat), .int .i64 0]) ∧ w = w') := HR
          have hkp := kid_par (x := m) hp5 hl
          clear hl
          by_cases he : p = Mth.par m
          · have hne : m ≠ k - 1 := fun e => by rw [e, par_root hkf] at he; omega
            have hkids := (Mth.step_at hkf h4 hne).kids
            rw [← he] at hkids
            have HU2 := Shut.mk (HU.out.trans (decide_eq_true hne))
            have HE := Shut.mk he
            clear he hkp hne
            rcases hkids with ⟨c1, c2⟩ | ⟨c1, c2⟩
            · have q1 : ((Mth.left p : Int) == (m : Int)) = true := by simp; omega
              generalize Mth.left p = a at HL q1
              generalize Mth.right p = b at HR
              clear c1 c2
              go_wp2_with (first | (go_at_call 16; refine (HL.out _).mono ?_; rintro e w' ⟨rfl, rfl⟩) | (go_at_call 18; refine (HR.out _).mono ?_; rintro e w' ⟨rfl, rfl⟩))
              go_ret2
              exact ⟨by rw [HU2.out]; show _ = Ending.returned (.tuple #[.int .i64 (Mth.par m : Nat), _]); rw [← HE.out]; rfl, rfl⟩
            · have q1 : ((Mth.right p : Int) == (m : Int)) = true := by simp; omega
              generalize Mth.right p = b at HR q1 c1
              generalize Mth.left p = a at HL c2
              have q2 : ((a : Int) == (m : Int)) = false ∨ ((a : Int) == (m : Int)) = true := by cases ((a : Int) == (m : Int)) <;> simp
              clear c1 c2
              rcases q2 with q2 | q2
              all_goals
                go_wp2_with (first | (go_at_call 16; refine (HL.out _).mono ?_; rintro e w' ⟨rfl, rfl⟩) | (go_at_call 18; refine (HR.out _).mono ?_; rintro e w' ⟨rfl, rfl⟩))
                go_ret2
                exact ⟨by rw [HU2.out]; show _ = Ending.returned (.tuple #[.int .i64 (Mth.par m : Nat), _]); rw [← HE.out]; rfl, rfl⟩
          · have q1 : ((Mth.left p : Int) == (m : Int)) = false := by rw [beq_eq_false_iff_ne]; intro e; exact he (hkp.1 (by omega)).symm
            have q2 : ((Mth.right p : Int) == (m : Int)) = false := by rw [beq_eq_false_iff_ne]; intro e; exact he (hkp.2 (by omega)).symm
            generalize Mth.right p = b at HR q2
            generalize Mth.left p = a at HL q1
            have HE := Shut.mk he
            clear he hkp
            go_wp2_with (first | (go_at_call 16; refine (HL.out _).mono ?_; rintro e w' ⟨rfl, rfl⟩) | (go_at_call 18; refine (HR.out _).mono ?_; rintro e w' ⟨rfl, rfl⟩))
            go_round
            case rel => exact ⟨p + 1, by go_num, by omega, fun j hj => by
              by_cases c : j < p
              · exact HAll.out j c
              · obtain rfl : j = p := by omega
                exact HE.out⟩
            case measure => simp [intOf]; omega
        · rw [kidB_neg hp5 hl] at HL HR
          have HL : Hid (∀ w, Calls Tryd.prog 16 #[.int .i64 (p : Int)] w fun e w' => e = .returned (.tuple #[.int .i64 0, .int .i64 1]) ∧ w = w') := HL
          have HR : Hid (∀ w, Calls Tryd.prog 18 #[.int .i64 (p : Int)] w fun e w' => e = .returned (.tuple #[.int .i64 0, .int .i64 1]) ∧ w = w') := HR
          have he : p ≠ Mth.par m := fun e => by
            by_cases hne : m = k - 1
            · rw [hne, par_root hkf] at e; omega
            · have := (Mth.step_at hkf h4 hne).up
              rw [← e] at this; omega
          have HE := Shut.mk he
          clear he hl
          go_wp2_with (first | (go_at_call 16; refine (HL.out _).mono ?_; rintro e w' ⟨rfl, rfl⟩) | (go_at_call 18; refine (HR.out _).mono ?_; rintro e w' ⟨rfl, rfl⟩))
          go_round
          case rel => exact ⟨p + 1, by go_num, by omega, fun j hj => by
            by_cases c : j < p
            · exact HAll.out j c
            · obtain rfl : j = p := by omega
              exact HE.out⟩
          case measure => simp [intOf]; omega
      · have hd : decide ((p : Int) < 2 * (k : Int) - 1) = false := decide_eq_false hc
        have hroot : m = k - 1 := by
          by_cases hne : m = k - 1
          · exact hne
          · have := (Mth.step_at hkf h4 hne).inP
            exact absurd rfl (HAll.out _ (by omega))
        have HU2 := Shut.mk (HU.out.trans (decide_eq_false (by simpa using hroot)))
        clear hroot
        go_wp2
        go_ret2
        exact ⟨by rw [HU2.out]; rfl, rfl⟩
end Go.Proofs.YtlohedmpcjpaeaaDoor

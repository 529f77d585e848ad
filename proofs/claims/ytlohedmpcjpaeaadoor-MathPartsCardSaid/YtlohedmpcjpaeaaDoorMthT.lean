/- Walks of the document's answer: half, Left, Right, Leaves, Size. -/
import Derived.Test.YtlohedmpcjpaeaaDoorMthR
import Derived.Test.YtlohedmpcjpaeaaDoorMthE
set_option linter.unusedSimpArgs false
set_option linter.unusedVariables false
namespace Go.Proofs.YtlohedmpcjpaeaaDoor
open Go.RowKit

theorem pow_le {i : Nat} (h : i ≤ 8) : 1 ≤ 2 ^ i ∧ 2 ^ i ≤ 256 := by
  have := nine (p := fun l => Nat.ble 1 (2 ^ l) && Nat.ble (2 ^ l) 256) (by decide +kernel) h
  rw [Bool.and_eq_true] at this
  exact ⟨Nat.le_of_ble_eq_true this.1, Nat.le_of_ble_eq_true this.2⟩
set_option maxHeartbeats 1000000 in
theorem rhalf_any (k : Nat) (h0 : 1 ≤ k) (h1 : k ≤ 9) (w : World) : Calls Tryd.prog 46 #[.int .i64 k] w fun e w' => e = .returned (.int .i64 ((2 ^ (k - 1) : Nat) : Int)) ∧ w = w' := by
  have hk0 : (1 : Int) ≤ (k : Int) := by omega
  have hk1 : (k : Int) ≤ 9 := by omega
  generalize hq : 2 ^ (k - 1) = q
  have HQ := Shut.mk hq
  clear hq
  go_enter Tryd.func46, Tryd.ntmps46
  go_wp2
  go_loop [3, 6] (fun u v => ∃ i p : Nat, i ≤ k - 1 ∧ u = .int .i64 p ∧ v = .int .i64 i ∧ p = 2 ^ i) (fun _ v => k - (intOf v).toNat)
  case atStart => exact ⟨0, 1, by omega, rfl, rfl, rfl⟩
  case round =>
    obtain ⟨i, p, hi, rfl, rfl, hp⟩ := hrel
    have hb := pow_le (i := i) (by omega)
    rw [← hp] at hb
    have HP := Shut.mk hp
    clear hp
    have p0 : (1 : Int) ≤ (p : Int) := by omega
    have p1 : (p : Int) ≤ 256 := by omega
    have i0 : (0 : Int) ≤ (i : Int) := by omega
    by_cases hlt : (i : Int) < (k : Int) - 1
    · have hd : decide ((i : Int) < (k : Int) - 1) = true := decide_eq_true hlt
      go_wp2
      go_round
      case rel => exact ⟨i + 1, p * 2, by omega, by go_num, by go_num, by rw [HP.out, Nat.pow_succ]⟩
      case measure => simp [intOf]; omega
    · have hd : decide ((i : Int) < (k : Int) - 1) = false := decide_eq_false hlt
      have e : i = k - 1 := by omega
      have HE := Shut.mk e
      clear e
      go_wp2
      go_ret
      exact ⟨by rw [← HQ.out, ← HE.out, ← HP.out]; rfl, rfl⟩
theorem kidB_lvl {x : Int} (hi : inB x 256 = true) : kidB x = decide (0 < Mth.lvl x.toNat) := by unfold kidB; rw [hi]; rfl
theorem RLeft_any (x : Int) (w : World) (hx : I64 x) : Calls Tryd.prog 16 #[.int .i64 x] w fun e w' => e = .returned (.tuple #[.int .i64 (pk (kidB x) (Mth.left x.toNat : Nat)), .int .i64 (er (kidB x))]) ∧ w = w' := by
  have HA := Lib.hid (fun w => RLevel_any x w hx)
  cases hi : inB x 256 with
  | false =>
    have HK := Shut.mk (show kidB x = false by unfold kidB; rw [hi]; rfl)
    rw [hi] at HA
    clear hi
    go_enter Tryd.func16, Tryd.ntmps16
    go_wp2_with (go_at_call 14; refine (HA.out _).mono ?_; rintro e w' ⟨rfl, rfl⟩)
    go_ret2
    exact ⟨by rw [HK.out]; rfl, rfl⟩
  | true =>
    have hkl := kidB_lvl hi
    rw [hi] at HA
    obtain ⟨x, rfl, h5⟩ := any_nat hi
    have HA : Hid (∀ w, Calls Tryd.prog 14 #[.int .i64 (x : Int)] w fun e w' => e = .returned (.tuple #[.int .i64 (Mth.lvl x : Nat), .int .i64 0]) ∧ w = w') := HA
    have hkl : kidB (x : Int) = decide (0 < Mth.lvl x) := hkl
    by_cases hp : 0 < Mth.lvl x
    · rw [decide_eq_true hp] at hkl
      have HK := Shut.mk hkl
      obtain ⟨n1, n2, n3⟩ := left_num h5 hp
      have N1 := Shut.mk n1
      have hl8 := lvl_le h5
      have HH := Lib.hid (fun w => rhalf_any (Mth.lvl x) hp (by omega) w)
      generalize hs : 2 ^ (Mth.lvl x - 1) = s at n3 N1 HH
      clear hs n1 n2 hkl hi
      generalize Mth.lvl x = l at HA HH hp hl8
      have hl0 : ((l : Int) == 0) = false := by rw [beq_eq_false_iff_ne]; omega
      have s0 : (0 : Int) ≤ (s : Int) := by omega
      have x0 : (0 : Int) ≤ (x : Int) := by omega
      have x1 : (x : Int) ≤ 510 := by omega
      go_enter Tryd.func16, Tryd.ntmps16
      go_wp2_with (first | (go_at_call 14; refine (HA.out _).mono ?_; rintro e w' ⟨rfl, rfl⟩) | (go_at_call 46; refine (HH.out _).mono ?_; rintro e w' ⟨rfl, rfl⟩))
      go_ret2
      exact ⟨by rw [HK.out]; show _ = Ending.returned (.tuple #[.int .i64 (Mth.left x : Nat), _]); rw [← N1.out]; rfl, rfl⟩
    · rw [decide_eq_false hp] at hkl
      have HK := Shut.mk hkl
      have e : Mth.lvl x = 0 := by omega
      rw [e] at HA
      clear e hkl hi hp
      go_enter Tryd.func16, Tryd.ntmps16
      go_wp2_with (go_at_call 14; refine (HA.out _).mono ?_; rintro e w' ⟨rfl, rfl⟩)
      go_ret2
      exact ⟨by rw [HK.out]; rfl, rfl⟩

theorem RRight_any (x : Int) (w : World) (hx : I64 x) : Calls Tryd.prog 18 #[.int .i64 x] w fun e w' => e = .returned (.tuple #[.int .i64 (pk (kidB x) (Mth.right x.toNat : Nat)), .int .i64 (er (kidB x))]) ∧ w = w' := by
  have HA := Lib.hid (fun w => RLevel_any x w hx)
  cases hi : inB x 256 with
  | false =>
    have HK := Shut.mk (show kidB x = false by unfold kidB; rw [hi]; rfl)
    rw [hi] at HA
    clear hi
    go_enter Tryd.func18, Tryd.ntmps18
    go_wp2_with (go_at_call 14; refine (HA.out _).mono ?_; rintro e w' ⟨rfl, rfl⟩)
    go_ret2
    exact ⟨by rw [HK.out]; rfl, rfl⟩
  | true =>
    have hkl := kidB_lvl hi
    rw [hi] at HA
    obtain ⟨x, rfl, h5⟩ := any_nat hi
    have HA : Hid (∀ w, Calls Tryd.prog 14 #[.int .i64 (x : Int)] w fun e w' => e = .returned (.tuple #[.int .i64 (Mth.lvl x : Nat), .int .i64 0]) ∧ w = w') := HA
    have hkl : kidB (x : Int) = decide (0 < Mth.lvl x) := hkl
    by_cases hp : 0 < Mth.lvl x
    · rw [decide_eq_true hp] at hkl
      have HK := Shut.mk hkl
      obtain ⟨n1, n2, n3⟩ := left_num h5 hp
      have N1 := Shut.mk n2
      have hl8 := lvl_le h5
      have HH := Lib.hid (fun w => rhalf_any (Mth.lvl x) hp (by omega) w)
      generalize hs : 2 ^ (Mth.lvl x - 1) = s at n3 N1 HH
      clear hs n1 n2 hkl hi
      generalize Mth.lvl x = l at HA HH hp hl8
      have hl0 : ((l : Int) == 0) = false := by rw [beq_eq_false_iff_ne]; omega
      have s0 : (0 : Int) ≤ (s : Int) := by omega
      have x0 : (0 : Int) ≤ (x : Int) := by omega
      have x1 : (x : Int) ≤ 510 := by omega
      go_enter Tryd.func18, Tryd.ntmps18
      go_wp2_with (first | (go_at_call 14; refine (HA.out _).mono ?_; rintro e w' ⟨rfl, rfl⟩) | (go_at_call 46; refine (HH.out _).mono ?_; rintro e w' ⟨rfl, rfl⟩))
      go_ret2
      exact ⟨by rw [HK.out]; show _ = Ending.returned (.tuple #[.int .i64 (Mth.right x : Nat), _]); rw [← N1.out]; rfl, rfl⟩
    · rw [decide_eq_false hp] at hkl
      have HK := Shut.mk hkl
      have e : Mth.lvl x = 0 := by omega
      rw [e] at HA
      clear e hkl hi hp
      go_enter Tryd.func18, Tryd.ntmps18
      go_wp2_with (go_at_call 14; refine (HA.out _).mono ?_; rintro e w' ⟨rfl, rfl⟩)
      go_ret2
      exact ⟨by rw [HK.out]; rfl, rfl⟩

theorem rlo_num {x : Nat} (hx : x < 511) : 1 ≤ 2 ^ Mth.lvl x ∧ 2 ^ Mth.lvl x ≤ 256 ∧ 2 ^ Mth.lvl x - 1 ≤ x ∧ ((x : Int) - (2 * ((2 ^ Mth.lvl x : Nat) : Int) - 1) / 2) / 2 = (Mth.lo x : Nat) ∧ ((x : Int) + (2 * ((2 ^ Mth.lvl x : Nat) : Int) - 1) / 2) / 2 + 1 = (Mth.hi x : Nat) := by
  obtain ⟨a, b, c, d⟩ := lo_num hx
  have e := pow_le (lvl_le hx)
  refine ⟨e.1, e.2, d, ?_, ?_⟩
  · rw [← a]; omega
  · rw [← b]; omega
set_option maxHeartbeats 1000000 in
theorem RLeaves_any (x : Int) (w : World) (hx : I64 x) : Calls Tryd.prog 22 #[.int .i64 x] w fun e w' => e = .returned (.tuple #[.int .i64 (pk (inB x 256) (Mth.lo x.toNat : Nat)), .int .i64 (pk (inB x 256) (Mth.hi x.toNat : Nat)), .int .i64 (er (inB x 256))]) ∧ w = w' := by
  have HA := Lib.hid (fun w => RLevel_any x w hx)
  cases hi : inB x 256 with
  | false =>
    rw [hi] at HA
    clear hi
    go_enter Tryd.func22, Tryd.ntmps22
    go_wp2_with (go_at_call 14; refine (HA.out _).mono ?_; rintro e w' ⟨rfl, rfl⟩)
    go_ret3
    exact ⟨rfl, rfl⟩
  | true =>
    rw [hi] at HA
    obtain ⟨x, rfl, h5⟩ := any_nat hi
    have HA : Hid (∀ w, Calls Tryd.prog 14 #[.int .i64 (x : Int)] w fun e w' => e = .returned (.tuple #[.int .i64 (Mth.lvl x : Nat), .int .i64 0]) ∧ w = w') := HA
    obtain ⟨s0, s1, s2, n1, n2⟩ := rlo_num h5
    have hl8 := lvl_le h5
    have HH : Hid (∀ w, Calls Tryd.prog 46 #[.int .i64 ((Mth.lvl x : Int) + 1)] w fun e w' => e = .returned (.int .i64 ((2 ^ Mth.lvl x : Nat) : Int)) ∧ w = w') := Lib.hid (fun w => rhalf_any (Mth.lvl x + 1) (by omega) (by omega) w)
    have N1 := Shut.mk n1
    have N2 := Shut.mk n2
    clear n1 n2 hi
    generalize 2 ^ Mth.lvl x = s at s0 s1 s2 N1 N2 HH
    generalize Mth.lvl x = l at HA HH hl8
    have s3 : (1 : Int) ≤ (s : Int) := by omega
    have s4 : (s : Int) ≤ 256 := by omega
    have s5 : (s : Int) - 1 ≤ (x : Int) := by omega
    have x0 : (0 : Int) ≤ (x : Int) := by omega
    have x1 : (x : Int) ≤ 510 := by omega
    have l0 : (0 : Int) ≤ (l : Int) := by omega
    have l1 : (l : Int) ≤ 8 := by omega
    go_enter Tryd.func22, Tryd.ntmps22
    go_wp2_with (first | (go_at_call 14; refine (HA.out _).mono ?_; rintro e w' ⟨rfl, rfl⟩) | (go_at_call 46; refine (HH.out _).mono ?_; rintro e w' ⟨rfl, rfl⟩))
    go_ret3
    exact ⟨by show _ = Ending.returned (.tuple #[.int .i64 (Mth.lo x : Nat), .int .i64 (Mth.hi x : Nat), _]); rw [← N1.out, ← N2.out]; rfl, rfl⟩
theorem size_step {k n : Nat} (h : k ∈ l10) (hk : k < n) (hn : n ≤ 256) (hs : ∀ m ∈ Mth.fulls, m < k → m < n) : 2 * k ∈ l10 ∧ ∀ m ∈ Mth.fulls, m < 2 * k → m < n := by
  obtain ⟨a, b, c⟩ := l10_next h (by omega)
  exact ⟨a, fun m hm hlt => (c m hm hlt).elim (hs m hm) (fun e => by omega)⟩
theorem size_is {k n : Nat} (h : k ∈ l10) (hk : n ≤ k) (h1 : 1 ≤ n) (hn : n ≤ 256) (hs : ∀ m ∈ Mth.fulls, m < k → m < n) : k = Mth.size n := by
  have hall : (List.range 257).all (fun n => Nat.beq n 0 || l10.all fun k => Nat.blt k n || Nat.beq k (Mth.size n) || Mth.fulls.any fun m => Nat.blt m k && Nat.ble n m) = true := by decide +kernel
  have := List.all_eq_true.1 hall n (List.mem_range.2 (by omega))
  rw [Bool.or_eq_true] at this
  rcases this with e | e
  · have := Nat.eq_of_beq_eq_true e; omega
  · have e2 := List.all_eq_true.1 e k h
    rw [Bool.or_eq_true, Bool.or_eq_true] at e2
    rcases e2 with (e3 | e3) | e3
    · have := Nat.le_of_ble_eq_true e3; omega
    · exact Nat.eq_of_beq_eq_true e3
    · obtain ⟨m, hm, hq⟩ := List.any_eq_true.1 e3
      rw [Bool.and_eq_true] at hq
      have a := Nat.le_of_ble_eq_true hq.1
      have b := Nat.le_of_ble_eq_true hq.2
      have := hs m hm a
      omega
set_option maxHeartbeats 1000000 in
theorem RSize_any (n : Int) (w : World) (hx : I64 n) : Calls Tryd.prog 20 #[.int .i64 n] w fun e w' => e = .returned (.tuple #[.int .i64 (pk (szB n) (Mth.size n.toNat : Nat)), .int .i64 (er (szB n))]) ∧ w = w' := by
  obtain ⟨hl, hu⟩ := hx
  by_cases h0 : n ≤ 0
  · have hd : decide (n ≤ 0) = true := decide_eq_true h0
    have HI := Shut.mk (show szB n = false by unfold szB; rw [show decide (0 < n) = false from decide_eq_false (by omega)]; rfl)
    go_enter Tryd.func20, Tryd.ntmps20
    go_wp2
    go_ret2
    exact ⟨by rw [HI.out]; rfl, rfl⟩
  · have hd : decide (n ≤ 0) = false := decide_eq_false h0
    by_cases h1 : 256 < n
    · have hd1 : decide (256 < n) = true := decide_eq_true h1
      have HI := Shut.mk (show szB n = false by unfold szB; rw [show decide (n ≤ 256) = false from decide_eq_false (by omega), Bool.and_false])
      go_enter Tryd.func20, Tryd.ntmps20
      go_wp2
      go_ret2
      exact ⟨by rw [HI.out]; rfl, rfl⟩
    · have hd1 : decide (256 < n) = false := decide_eq_false h1
      have HI := Shut.mk (show szB n = true by unfold szB; rw [decide_eq_true (show 0 < n by omega), decide_eq_true (show n ≤ 256 by omega)]; rfl)
      obtain ⟨n, rfl⟩ : ∃ m : Nat, n = m := ⟨n.toNat, by omega⟩
      go_enter Tryd.func20, Tryd.ntmps20
      go_wp2
      go_loop [4] (fun u => ∃ k : Nat, u = .int .i64 k ∧ k ∈ l10 ∧ (∀ m ∈ Mth.fulls, m < k → m < n)) (fun u => (600 - intOf u).toNat)
      case atStart => exact ⟨1, rfl, by decide, fun m hm h => absurd (fulls_bd hm).1 (by omega)⟩
      case round =>
        obtain ⟨k, rfl, hk, hall⟩ := hrel
        have hb := l10_bd hk
        have HK := Shut.mk hk
        have HA := Shut.mk hall
        clear hk hall
        have hk1 : (1 : Int) ≤ (k : Int) := by omega
        have hk2 : (k : Int) ≤ 512 := by omega
        by_cases hc : k < n
        · obtain ⟨n1, n3⟩ := size_step HK.out hc (by omega) HA.out
          have N1 := Shut.mk n1
          have N3 := Shut.mk n3
          clear n1 n3
          have hd9 : decide (k < n) = true := decide_eq_true hc
          go_wp2
          go_round
          case rel => exact ⟨2 * k, by rw [Int.mul_comm]; rfl, N1.out, N3.out⟩
          case measure => simp [intOf]; omega
        · have hd9 : decide (k < n) = false := decide_eq_false hc
          have HE := Shut.mk (size_is HK.out (by omega) (by omega) (by omega) HA.out)
          go_wp2
          go_ret2
          exact ⟨by rw [HI.out]; show _ = Ending.returned (.tuple #[.int .i64 (Mth.size n : Nat), _]); rw [← HE.out]; rfl, rfl⟩
end Go.Proofs.YtlohedmpcjpaeaaDoor

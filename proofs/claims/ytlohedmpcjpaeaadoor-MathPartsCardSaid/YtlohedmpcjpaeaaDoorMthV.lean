/- Walks of the document's answer: Sibling, Path, Copath. -/
import Derived.Test.YtlohedmpcjpaeaaDoorMthU
set_option linter.unusedSimpArgs false
set_option linter.unusedVariables false
namespace Go.Proofs.YtlohedmpcjpaeaaDoor
open Go.RowKit

theorem er_true : er true = 0 := rfl
theorem er_false : er false = 1 := rfl
set_option maxHeartbeats 1000000 in
theorem RSibling_any (x n : Int) (w : World) (hx : I64 x) (hn : I64 n) : Calls Tryd.prog 26 #[.int .i64 x, .int .i64 n] w fun e w' => e = .returned (.tuple #[.int .i64 (pk (upB x n) (Mth.sib x.toNat : Nat)), .int .i64 (er (upB x n))]) ∧ w = w' := by
  have HA := Lib.hid (fun w => RParent_any x n w hx hn)
  cases hi : upB x n with
  | false =>
    rw [hi] at HA
    have HA : Hid (∀ w, Calls Tryd.prog 24 #[.int .i64 x, .int .i64 n] w fun e w' => e = .returned (.tuple #[.int .i64 0, .int .i64 1]) ∧ w = w') := HA
    clear hi
    go_enter Tryd.func26, Tryd.ntmps26
    go_wp2_with (go_at_call 24; refine (HA.out _).mono ?_; rintro e w' ⟨rfl, rfl⟩)
    go_ret2
    exact ⟨rfl, rfl⟩
  | true =>
    rw [hi] at HA
    obtain ⟨m, k, hm, hk, hkf, h4, h5⟩ := in_nat (upB_true hi).1
    have hne := (upB_true hi).2
    subst hm hk
    have hkb := fulls_bd hkf
    have st := Mth.step_at hkf h4 (show m ≠ k - 1 by omega)
    have hp5 : Mth.par m < 511 := by have := st.inP; omega
    have hl : 0 < Mth.lvl (Mth.par m) := by have := st.up; omega
    have HA : Hid (∀ w, Calls Tryd.prog 24 #[.int .i64 (m : Int), .int .i64 (k : Int)] w fun e w' => e = .returned (.tuple #[.int .i64 (Mth.par m : Nat), .int .i64 0]) ∧ w = w') := HA
    have HL := Lib.hid (fun w => rleft_nat (Mth.par m) w hp5)
    have HR := Lib.hid (fun w => rright_nat (Mth.par m) w hp5)
    rw [kidB_pos hp5 hl] at HL HR
    have HL : Hid (∀ w, Calls Tryd.prog 16 #[.int .i64 (Mth.par m : Int)] w fun e w' => e = .returned (.tuple #[.int .i64 (Mth.left (Mth.par m) : Nat), .int .i64 0]) ∧ w = w') := HL
    have HR : Hid (∀ w, Calls Tryd.prog 18 #[.int .i64 (Mth.par m : Int)] w fun e w' => e = .returned (.tuple #[.int .i64 (Mth.right (Mth.par m) : Nat), .int .i64 0]) ∧ w = w') := HR
    have hlr := lvl_pow hp5 hl
    have hlr2 : Mth.left (Mth.par m) ≠ Mth.right (Mth.par m) := by
      unfold Mth.left Mth.right
      have := (pow_le (i := Mth.lvl (Mth.par m) - 1) (by have := lvl_le hp5; omega)).1
      omega
    have hkids := st.kids
    clear hi hne st hl hlr
    generalize Mth.par m = p at HA HL HR hkids hp5 hlr2
    generalize hs : Mth.sib m = s at hkids
    have HS := Shut.mk hs
    clear hs
    rcases hkids with ⟨c1, c2⟩ | ⟨c1, c2⟩
    · have q1 : ((Mth.left p : Int) != (m : Int)) = false := by simp; omega
      have HC := Shut.mk c2
      generalize Mth.left p = a at HL q1
      generalize Mth.right p = b at HR HC
      clear c1 c2 hlr2
      go_enter Tryd.func26, Tryd.ntmps26
      go_wp2_with (first | (go_at_call 24; refine (HA.out _).mono ?_; rintro e w' ⟨rfl, rfl⟩) | (go_at_call 16; refine (HL.out _).mono ?_; rintro e w' ⟨rfl, rfl⟩) | (go_at_call 18; refine (HR.out _).mono ?_; rintro e w' ⟨rfl, rfl⟩))
      go_ret2
      exact ⟨by show _ = Ending.returned (.tuple #[.int .i64 (Mth.sib m : Nat), _]); rw [HS.out, ← HC.out]; rfl, rfl⟩
    · have q1 : ((Mth.left p : Int) != (m : Int)) = true := by simp; omega
      have HC := Shut.mk c2
      generalize Mth.left p = a at HL q1 HC
      generalize Mth.right p = b at HR
      clear c1 c2 hlr2
      go_enter Tryd.func26, Tryd.ntmps26
      go_wp2_with (first | (go_at_call 24; refine (HA.out _).mono ?_; rintro e w' ⟨rfl, rfl⟩) | (go_at_call 16; refine (HL.out _).mono ?_; rintro e w' ⟨rfl, rfl⟩) | (go_at_call 18; refine (HR.out _).mono ?_; rintro e w' ⟨rfl, rfl⟩))
      go_ret2
      exact ⟨by show _ = Ending.returned (.tuple #[.int .i64 (Mth.sib m : Nat), _]); rw [HS.out, ← HC.out]; rfl, rfl⟩
set_option maxHeartbeats 2000000 in
theorem RPath_any (x n : Int) (w : World) (hx : I64 x) (hn : I64 n) : Calls Tryd.prog 28 #[.int .i64 x, .int .i64 n] w (ListPost w (inB x n) (ints (Mth.path x.toNat n.toNat))) := by
  have HA := Lib.hid (fun w => rnode_any x n w hx hn)
  cases hi : inB x n with
  | false =>
    rw [hi] at HA
    clear hi
    go_enter Tryd.func28, Tryd.ntmps28
    go_wp2_with (go_at_call 56; refine (HA.out _).mono ?_; rintro e w' ⟨rfl, rfl⟩)
    go_ret2
    exact ⟨_, rfl, RdI.nil _, Kept.refl _⟩
  | true =>
    rw [hi] at HA
    obtain ⟨m, k, hm, hk, hkf, h4, h5⟩ := in_nat hi
    subst hm hk
    have hkb := fulls_bd hkf
    have hp := Mth.path_of hkf h4
    have hl8 := lvl_top hkf
    have hL8 : Mth.lvl (k - 1) - Mth.lvl m ≤ 8 := by omega
    have HCP := Shut.mk (cl_path hkf h4)
    have hlast := hp.last
    have hat := hp.at'
    generalize Mth.lvl (k - 1) - Mth.lvl m = L at hlast hat hL8 HCP
    have HLast := Shut.mk hlast
    have HAt := Shut.mk hat
    have HL := Shut.mk hL8
    clear hlast hat hp hL8 hi
    have hk1 : (1 : Int) ≤ (k : Int) := by omega
    have hk2 : (k : Int) ≤ 256 := by omega
    go_enter Tryd.func28, Tryd.ntmps28
    go_wp2_with (go_at_call 56; refine (HA.out _).mono ?_; rintro e w' ⟨rfl, rfl⟩)
    go_loopw [0, 6] (fun y l wr => ∃ i : Nat, i ≤ L ∧ y = .int .i64 (Mth.itr i m : Nat) ∧ (∃ v, v = l ∧ OwnI w.heap.size wr v (cl Mth.par m i) ∧ slen v = i) ∧ Kept w wr) (fun _ l _ => L - slen l)
    case atStart => exact ⟨0, Nat.zero_le _, rfl, ⟨_, rfl, OwnI.nil _ _, rfl⟩, Kept.refl _⟩
    case round =>
      obtain ⟨i, hi, rfl, ⟨v, rfl, ho, hs⟩, hk⟩ := hrel
      have HS := Shut.mk hs
      clear hs
      by_cases hlt : i < L
      · obtain ⟨_, _, a3, a4, _⟩ := HAt.out i hlt
        have hm : Mth.itr i m < 511 := by omega
        have HSucc := Shut.mk (Mth.itr_succ i m)
        have HCl := Shut.mk (cl_succ Mth.par m i)
        have HPy := Lib.hid (fun W => RParent_any (Mth.itr i m : Nat) (k : Int) W ⟨by omega, by omega⟩ ⟨by omega, by omega⟩)
        rw [upB_nat hkf a3, decide_eq_true a4] at HPy
        have HPy : Hid (∀ W, Calls Tryd.prog 24 #[.int .i64 (Mth.itr i m : Nat), .int .i64 (k : Int)] W fun e w' => e = .returned (.tuple #[.int .i64 (Mth.par (Mth.itr i m) : Nat), .int .i64 0]) ∧ W = w') := HPy
        generalize Mth.par (Mth.itr i m) = ty at HSucc HCl HPy
        generalize Mth.itr i m = y at HPy
        clear a3 a4 hm
        have hk2a := hk.alloc (.cells #[.int .i64 (ty : Int)] 3)
        have o2 := Ownv.kept ho ((Kept.refl wr).alloc (.cells #[.int .i64 (ty : Int)] 3))
        have hsz := hk.size
        have hlen : (cl Mth.par m i).length + 1 ≤ 10000000000 := by rw [cl_len]; have := HL.out; omega
        go_wp2_with (first | (go_at_call 24; refine (HPy.out _).mono ?_; rintro e w' ⟨rfl, rfl⟩) | (at_builtin; refine go_appi w.heap.size v (cl Mth.par m i) rfl o2 _ [(ty : Int)] rfl (OwnI.rd (OwnI.lit1 wr _)) hlen (by simp; omega) ?_; intro v6 w6 o6 t6 l6; have k6 : Kept w w6 := Turn.keptOf hk2a t6 (fun b hb => (Ownv.lt o2 hb).2)))
        go_roundw
        case rel => exact ⟨i + 1, hlt, by rw [HSucc.out], ⟨v6, rfl, by rw [HCl.out]; exact o6, by
          obtain ⟨a6, c6, rfl, _⟩ := (OwnI.rd o6).len
          show (cl Mth.par m i ++ [(ty : Int)]).length = i + 1
          rw [List.length_append, cl_len]; rfl⟩, k6⟩
        case measure =>
          obtain ⟨a6, c6, rfl, _⟩ := (OwnI.rd o6).len
          have := HS.out
          show L - (cl Mth.par m i ++ [(ty : Int)]).length < L - slen v
          rw [List.length_append, cl_len, this]
          simp
          omega
      · have e : i = L := by omega
        have hlst := HLast.out
        rw [← e] at hlst
        have HPy := Lib.hid (fun W => RParent_any (Mth.itr i m : Nat) (k : Int) W ⟨by omega, by omega⟩ ⟨by omega, by omega⟩)
        rw [upB_nat hkf (by omega), decide_eq_false (by simpa using hlst)] at HPy
        have HPy : Hid (∀ W, Calls Tryd.prog 24 #[.int .i64 (Mth.itr i m : Nat), .int .i64 (k : Int)] W fun e w' => e = .returned (.tuple #[.int .i64 0, .int .i64 1]) ∧ W = w') := HPy
        have HE := Shut.mk e
        clear e hlst hlt
        generalize Mth.itr i m = y at HPy
        go_wp2_with (go_at_call 24; refine (HPy.out _).mono ?_; rintro e w' ⟨rfl, rfl⟩)
        go_ret2
        exact ⟨_, rfl, by show RdI _ _ (ints (Mth.path m k)); rw [← HCP.out, ← HE.out]; exact OwnI.rd ho, hk⟩
end Go.Proofs.YtlohedmpcjpaeaaDoor

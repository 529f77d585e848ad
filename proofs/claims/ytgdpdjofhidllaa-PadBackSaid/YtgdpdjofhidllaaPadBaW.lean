/- The walk of the statement on what is filled up and comes back. -/
import Derived.Test.YtgdpdjofhidllaaPadFiW
set_option linter.unusedSimpArgs false
set_option linter.unusedVariables false
namespace Go.Proofs.Ytgdpdjofhidllaa
open Go.RowKit

set_option maxRecDepth 100000 in
set_option maxHeartbeats 2000000 in
theorem back_big (v : Value) (zs : List Int) (w : World) (h : Rd w v zs) (hl : (zs.length : Int) ≤ 140737488351232) (hg : 300000 < (zs.length : Int) + 1) :
    Calls Try.prog 4 #[v] w fun e w' => e = .returned (.bool true) ∧ Kept w w' := by
  have HH := Shut.mk h
  obtain ⟨ua, ucap, rfl, u1, u2, u3⟩ := h.len
  have HBB := Shut.mk (fun w1 (hk : Kept w w1) => big_any _ [zs] _ (Rds.lit1 22 (h.kept hk)) (by rw [lsum_one]; omega))
  have e1 : decide (300000 < lsum bigN [zs]) = true := by rw [lsum_one]; exact decide_eq_true hg
  rw [e1] at HBB
  clear hl hg
  clear e1 h
  go_enter Try.func4, Try.ntmps4
  go_wp2_with fail
  refine (live_any _).mono ?_
  rintro e w0 ⟨rfl, hk0⟩
  go_wp2_with fail
  refine (HBB.out _ hk0).mono ?_
  rintro e w1 ⟨rfl, rfl⟩
  have hk1 := hk0.alloc (.cells #[Value.slice ua zs.length ucap] 22)
  clear HBB
  go_wp2_with fail
  go_ret
  exact ⟨rfl, hk1⟩

set_option maxRecDepth 100000 in
set_option maxHeartbeats 2000000 in
theorem back_ok_some (v : Value) (zs : List Int) (w : World) (h : Rd w v zs) (hg : (zs.length : Int) < 65536) (ys : List Int) (hu : unpS zs = some ys) :
    Calls Try.prog 4 #[v] w fun e w' => e = .returned (.bool true) ∧ Kept w w' := by
  have HH := Shut.mk h
  obtain ⟨ua, ucap, rfl, u1, u2, u3⟩ := h.len
  have HBB := Shut.mk (fun w1 (hk : Kept w w1) => big_any _ [zs] _ (Rds.lit1 22 (h.kept hk)) (by rw [lsum_one]; omega))
  have e1 : decide (300000 < lsum bigN [zs]) = false := by rw [lsum_one]; exact decide_eq_false (by omega)
  rw [e1] at HBB
  have HL := Shut.mk (show zs.length ≤ 140737488351232 by omega)
  have HU := Shut.mk (show unpE zs = _ from by unfold unpE; rw [hu])
  have HP := Shut.mk (show padE zs = (padS zs, 0) from if_pos hg)
  have HPL := Shut.mk (padS_length hg)
  have hbk := bk_gt hg
  have HQ := Shut.mk (show unpE (padS zs) = (zs, 0) by unfold unpE; rw [unpS_pad hg])
  obtain ⟨q1, q2, q3⟩ := pad_unpS hu
  have HY := Shut.mk (show padE ys = (zs, 0) by unfold padE; rw [if_pos q2, q1])
  clear q1 q2 q3
  have HG := Shut.mk hg; clear hg hu
  clear e1 h
  go_enter Try.func4, Try.ntmps4
  go_wp2_with fail
  refine (live_any _).mono ?_
  rintro e w0 ⟨rfl, hk0⟩
  go_wp2_with fail
  refine (HBB.out _ hk0).mono ?_
  rintro e w1 ⟨rfl, rfl⟩
  have hk1 := hk0.alloc (.cells #[Value.slice ua zs.length ucap] 22)
  clear HBB
  go_wp2_with fail
  have D2 := padE_any _ zs _ (HH.out.kept hk1)
  rw [HP.out] at D2
  refine D2.mono ?_
  rintro e w2 ⟨v2, rfl, hr2, hk2⟩
  clear D2
  have hk12 := hk1.trans hk2
  have hr2' := hr2
  obtain ⟨a2, c2, rfl, p1, p2, p3⟩ := hr2.len
  clear p1 p2 p3
  go_wp2_with fail
  have D3 := unpE_any _ (padS zs) _ hr2 (by have := HPL.out; have := bk_le zs.length; omega)
  rw [HQ.out] at D3
  refine D3.mono ?_
  rintro e w3 ⟨v3, rfl, hr3, hk3⟩
  clear D3
  have hk13 := hk12.trans hk3
  have hs3 := strs0 hr3
  have hsz := strs0 (HH.out.kept hk13)
  have hle : zs.length < (padS zs).length := by have := HPL.out; omega
  clear hbk
  clear hr2 hr2' hr3
  generalize (padS zs).length = pl at *
  generalize strOfNums zs = s1 at *
  go_wp2_with fail
  have D4 := unpE_any _ zs _ (HH.out.kept hk13) HL.out
  rw [HU.out] at D4
  refine D4.mono ?_
  rintro e w4 ⟨v4, rfl, hr4, hk4⟩
  clear D4
  have hk14 := hk13.trans hk4
  go_wp2_with fail
  have D5 := padE_any _ ys _ hr4
  rw [HY.out] at D5
  refine D5.mono ?_
  rintro e w5 ⟨v5, rfl, hr5, hk5⟩
  clear D5
  have hk15 := hk14.trans hk5
  have hs5 := strs0 hr5
  have hsz5 := strs0 (HH.out.kept hk15)
  generalize strOfNums zs = s2 at *
  go_wp2_with fail
  go_ret
  exact ⟨rfl, hk15⟩

set_option maxRecDepth 100000 in
set_option maxHeartbeats 2000000 in
theorem back_ok_none (v : Value) (zs : List Int) (w : World) (h : Rd w v zs) (hg : (zs.length : Int) < 65536) (hu : unpS zs = none) :
    Calls Try.prog 4 #[v] w fun e w' => e = .returned (.bool true) ∧ Kept w w' := by
  have HH := Shut.mk h
  obtain ⟨ua, ucap, rfl, u1, u2, u3⟩ := h.len
  have HBB := Shut.mk (fun w1 (hk : Kept w w1) => big_any _ [zs] _ (Rds.lit1 22 (h.kept hk)) (by rw [lsum_one]; omega))
  have e1 : decide (300000 < lsum bigN [zs]) = false := by rw [lsum_one]; exact decide_eq_false (by omega)
  rw [e1] at HBB
  have HL := Shut.mk (show zs.length ≤ 140737488351232 by omega)
  have HU := Shut.mk (show unpE zs = _ from by unfold unpE; rw [hu])
  have HP := Shut.mk (show padE zs = (padS zs, 0) from if_pos hg)
  have HPL := Shut.mk (padS_length hg)
  have hbk := bk_gt hg
  have HQ := Shut.mk (show unpE (padS zs) = (zs, 0) by unfold unpE; rw [unpS_pad hg])
  have HG := Shut.mk hg; clear hg hu
  clear e1 h
  go_enter Try.func4, Try.ntmps4
  go_wp2_with fail
  refine (live_any _).mono ?_
  rintro e w0 ⟨rfl, hk0⟩
  go_wp2_with fail
  refine (HBB.out _ hk0).mono ?_
  rintro e w1 ⟨rfl, rfl⟩
  have hk1 := hk0.alloc (.cells #[Value.slice ua zs.length ucap] 22)
  clear HBB
  go_wp2_with fail
  have D2 := padE_any _ zs _ (HH.out.kept hk1)
  rw [HP.out] at D2
  refine D2.mono ?_
  rintro e w2 ⟨v2, rfl, hr2, hk2⟩
  clear D2
  have hk12 := hk1.trans hk2
  have hr2' := hr2
  obtain ⟨a2, c2, rfl, p1, p2, p3⟩ := hr2.len
  clear p1 p2 p3
  go_wp2_with fail
  have D3 := unpE_any _ (padS zs) _ hr2 (by have := HPL.out; have := bk_le zs.length; omega)
  rw [HQ.out] at D3
  refine D3.mono ?_
  rintro e w3 ⟨v3, rfl, hr3, hk3⟩
  clear D3
  have hk13 := hk12.trans hk3
  have hs3 := strs0 hr3
  have hsz := strs0 (HH.out.kept hk13)
  have hle : zs.length < (padS zs).length := by have := HPL.out; omega
  clear hbk
  clear hr2 hr2' hr3
  generalize (padS zs).length = pl at *
  generalize strOfNums zs = s1 at *
  go_wp2_with fail
  have D4 := unpE_any _ zs _ (HH.out.kept hk13) HL.out
  rw [HU.out] at D4
  refine D4.mono ?_
  rintro e w4 ⟨v4, rfl, hr4, hk4⟩
  clear D4
  have hk14 := hk13.trans hk4
  obtain ⟨a4, c4, rfl, p1, p2, p3⟩ := hr4.len
  simp only [List.length_nil]
  clear p1 p2 p3
  go_wp2_with fail
  go_ret
  exact ⟨rfl, hk14⟩

set_option maxRecDepth 100000 in
set_option maxHeartbeats 2000000 in
theorem back_bad_some (v : Value) (zs : List Int) (w : World) (h : Rd w v zs) (hg : (zs.length : Int) + 1 ≤ 300000) (hge : 65536 ≤ (zs.length : Int)) (ys : List Int) (hu : unpS zs = some ys) :
    Calls Try.prog 4 #[v] w fun e w' => e = .returned (.bool true) ∧ Kept w w' := by
  have HH := Shut.mk h
  obtain ⟨ua, ucap, rfl, u1, u2, u3⟩ := h.len
  have HBB := Shut.mk (fun w1 (hk : Kept w w1) => big_any _ [zs] _ (Rds.lit1 22 (h.kept hk)) (by rw [lsum_one]; omega))
  have e1 : decide (300000 < lsum bigN [zs]) = false := by rw [lsum_one]; exact decide_eq_false (by omega)
  rw [e1] at HBB
  have HL := Shut.mk (show zs.length ≤ 140737488351232 by omega)
  have HU := Shut.mk (show unpE zs = _ from by unfold unpE; rw [hu])
  have HP := Shut.mk (show padE zs = ([], 2) from if_neg (by omega))
  have hdl : decide ((zs.length : Int) < 65536) = false := decide_eq_false (by omega)
  obtain ⟨q1, q2, q3⟩ := pad_unpS hu
  have HY := Shut.mk (show padE ys = (zs, 0) by unfold padE; rw [if_pos q2, q1])
  clear q1 q2 q3
  have HGE := Shut.mk hge; clear hge
  have HG := Shut.mk hg; clear hg hu
  clear e1 h
  go_enter Try.func4, Try.ntmps4
  go_wp2_with fail
  refine (live_any _).mono ?_
  rintro e w0 ⟨rfl, hk0⟩
  go_wp2_with fail
  refine (HBB.out _ hk0).mono ?_
  rintro e w1 ⟨rfl, rfl⟩
  have hk1 := hk0.alloc (.cells #[Value.slice ua zs.length ucap] 22)
  clear HBB
  go_wp2_with fail
  have D2 := padE_any _ zs _ (HH.out.kept hk1)
  rw [HP.out] at D2
  refine D2.mono ?_
  rintro e w2 ⟨v2, rfl, hr2, hk2⟩
  clear D2
  have hk12 := hk1.trans hk2
  have hk13 := hk12
  obtain ⟨a2, c2, rfl, p1, p2, p3⟩ := hr2.len
  clear p1 p2 p3
  simp only [List.length_nil]
  go_wp2_with fail
  have D4 := unpE_any _ zs _ (HH.out.kept hk13) HL.out
  rw [HU.out] at D4
  refine D4.mono ?_
  rintro e w4 ⟨v4, rfl, hr4, hk4⟩
  clear D4
  have hk14 := hk13.trans hk4
  go_wp2_with fail
  have D5 := padE_any _ ys _ hr4
  rw [HY.out] at D5
  refine D5.mono ?_
  rintro e w5 ⟨v5, rfl, hr5, hk5⟩
  clear D5
  have hk15 := hk14.trans hk5
  have hs5 := strs0 hr5
  have hsz5 := strs0 (HH.out.kept hk15)
  generalize strOfNums zs = s2 at *
  go_wp2_with fail
  go_ret
  exact ⟨rfl, hk15⟩

set_option maxRecDepth 100000 in
set_option maxHeartbeats 2000000 in
theorem back_bad_none (v : Value) (zs : List Int) (w : World) (h : Rd w v zs) (hg : (zs.length : Int) + 1 ≤ 300000) (hge : 65536 ≤ (zs.length : Int)) (hu : unpS zs = none) :
    Calls Try.prog 4 #[v] w fun e w' => e = .returned (.bool true) ∧ Kept w w' := by
  have HH := Shut.mk h
  obtain ⟨ua, ucap, rfl, u1, u2, u3⟩ := h.len
  have HBB := Shut.mk (fun w1 (hk : Kept w w1) => big_any _ [zs] _ (Rds.lit1 22 (h.kept hk)) (by rw [lsum_one]; omega))
  have e1 : decide (300000 < lsum bigN [zs]) = false := by rw [lsum_one]; exact decide_eq_false (by omega)
  rw [e1] at HBB
  have HL := Shut.mk (show zs.length ≤ 140737488351232 by omega)
  have HU := Shut.mk (show unpE zs = _ from by unfold unpE; rw [hu])
  have HP := Shut.mk (show padE zs = ([], 2) from if_neg (by omega))
  have hdl : decide ((zs.length : Int) < 65536) = false := decide_eq_false (by omega)
  have HGE := Shut.mk hge; clear hge
  have HG := Shut.mk hg; clear hg hu
  clear e1 h
  go_enter Try.func4, Try.ntmps4
  go_wp2_with fail
  refine (live_any _).mono ?_
  rintro e w0 ⟨rfl, hk0⟩
  go_wp2_with fail
  refine (HBB.out _ hk0).mono ?_
  rintro e w1 ⟨rfl, rfl⟩
  have hk1 := hk0.alloc (.cells #[Value.slice ua zs.length ucap] 22)
  clear HBB
  go_wp2_with fail
  have D2 := padE_any _ zs _ (HH.out.kept hk1)
  rw [HP.out] at D2
  refine D2.mono ?_
  rintro e w2 ⟨v2, rfl, hr2, hk2⟩
  clear D2
  have hk12 := hk1.trans hk2
  have hk13 := hk12
  obtain ⟨a2, c2, rfl, p1, p2, p3⟩ := hr2.len
  clear p1 p2 p3
  simp only [List.length_nil]
  go_wp2_with fail
  have D4 := unpE_any _ zs _ (HH.out.kept hk13) HL.out
  rw [HU.out] at D4
  refine D4.mono ?_
  rintro e w4 ⟨v4, rfl, hr4, hk4⟩
  clear D4
  have hk14 := hk13.trans hk4
  obtain ⟨a4, c4, rfl, p1, p2, p3⟩ := hr4.len
  simp only [List.length_nil]
  clear p1 p2 p3
  go_wp2_with fail
  go_ret
  exact ⟨rfl, hk14⟩

theorem back_walk {W : World} (v : Value) (zs : List Int) (h : Rd W v zs) (_ : By zs) (hl : zs.length ≤ 140737488351232) (w : World) (hw : W = w) :
    Calls Try.prog 4 #[v] w fun e w' => e = .returned (.bool true) ∧ Kept w w' := by
  subst hw
  by_cases c1 : 300000 < (zs.length : Int) + 1
  · exact back_big v zs W h (by omega) c1
  by_cases c2 : (zs.length : Int) < 65536
  · cases hu : unpS zs with
    | none => exact back_ok_none v zs W h c2 hu
    | some ys => exact back_ok_some v zs W h c2 ys hu
  · cases hu : unpS zs with
    | none => exact back_bad_none v zs W h (by omega) (by omega) hu
    | some ys => exact back_bad_some v zs W h (by omega) (by omega) ys hu
end Go.Proofs.Ytgdpdjofhidllaa

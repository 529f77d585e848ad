/- The walk of the statement on the document's answers. -/
import Derived.Test.YtgdpdjofhidllaaPadG
set_option linter.unusedSimpArgs false
set_option linter.unusedVariables false
namespace Go.Proofs.Ytgdpdjofhidllaa
open Go.RowKit

theorem lsum_one (zs : List Int) : lsum bigN [zs] = zs.length + 1 := by simp [lsum, bigN]

set_option maxRecDepth 100000 in
set_option maxHeartbeats 2000000 in
theorem fills_big (v : Value) (zs : List Int) (n : Int) (w : World) (h : Rd w v zs) (hl : (zs.length : Int) ≤ 140737488351232) (hg : 300000 < (zs.length : Int) + 1) :
    Calls Try.prog 3 #[v, .int .i64 n] w fun e w' => e = .returned (.bool true) ∧ Kept w w' := by
  have HH := Lib.hid h
  obtain ⟨ua, ucap, rfl, u1, u2, u3⟩ := h.len
  have HBB := Lib.hid (fun w1 (hk : Kept w w1) => big_any _ [zs] _ (Rds.lit1 22 (h.kept hk)) (by rw [lsum_one]; omega))
  have e1 : decide (300000 < lsum bigN [zs]) = true := by rw [lsum_one]; exact decide_eq_true hg
  rw [e1] at HBB
  clear e1 h hl hg
  go_enter Try.func3, Try.ntmps3
  go_wp2_with fail
  refine (live_any _).mono ?_
  rintro e w0 ⟨rfl, hk0⟩
  go_wp2_with fail
  refine (HBB.out _ hk0).mono ?_
  rintro e w1 ⟨rfl, rfl⟩
  have hk1 := hk0.alloc (.cells #[Value.slice ua zs.length ucap] 22)
  clear HBB
  go_wp2_with fail
  go_ret
  exact ⟨rfl, hk1⟩

set_option maxRecDepth 100000 in
set_option maxHeartbeats 2000000 in
theorem fills_small (v : Value) (zs : List Int) (n : Int) (w : World) (h : Rd w v zs) (hg : (zs.length : Int) + 1 ≤ 300000) :
    Calls Try.prog 3 #[v, .int .i64 n] w fun e w' => e = .returned (.bool true) ∧ Kept w w' := by
  have HH := Lib.hid h
  obtain ⟨ua, ucap, rfl, u1, u2, u3⟩ := h.len
  have HBB := Lib.hid (fun w1 (hk : Kept w w1) => big_any _ [zs] _ (Rds.lit1 22 (h.kept hk)) (by rw [lsum_one]; omega))
  have e1 : decide (300000 < lsum bigN [zs]) = false := by rw [lsum_one]; exact decide_eq_false (by omega)
  rw [e1] at HBB
  have HL := Lib.hid (show zs.length ≤ 140737488351232 by omega)
  clear e1 h hg
  go_enter Try.func3, Try.ntmps3
  go_wp2_with fail
  refine (live_any _).mono ?_
  rintro e w0 ⟨rfl, hk0⟩
  go_wp2_with fail
  refine (HBB.out _ hk0).mono ?_
  rintro e w1 ⟨rfl, rfl⟩
  have hk1 := hk0.alloc (.cells #[Value.slice ua zs.length ucap] 22)
  clear HBB
  go_wp2_with fail
  refine (padE_any _ zs _ (HH.out.kept hk1)).mono ?_
  rintro e w2 ⟨v2, rfl, hr2, hk2⟩
  have hk12 := hk1.trans hk2
  go_wp2_with fail
  refine (rpadE_any _ zs _ (HH.out.kept hk12)).mono ?_
  rintro e w3 ⟨v3, rfl, hr3, hk3⟩
  have hk13 := hk12.trans hk3
  go_wp2_with fail
  refine (unpE_any _ zs _ (HH.out.kept hk13) HL.out).mono ?_
  rintro e w4 ⟨v4, rfl, hr4, hk4⟩
  have hk14 := hk13.trans hk4
  go_wp2_with fail
  refine (runpE_any _ zs _ (HH.out.kept hk14) HL.out).mono ?_
  rintro e w5 ⟨v5, rfl, hr5, hk5⟩
  have hk15 := hk14.trans hk5
  go_wp2_with fail
  refine (bkE_any n _).mono ?_
  rintro e w6 ⟨rfl, rfl⟩
  go_wp2_with fail
  refine (rbkE_any n _).mono ?_
  rintro e w6 ⟨rfl, rfl⟩
  have hs2 := strs0 (hr2.kept (hk3.trans (hk4.trans hk5)))
  have hs3 := strs0 (hr3.kept (hk4.trans hk5))
  have hs4 := strs0 (hr4.kept hk5)
  have hs5 := strs0 hr5
  clear hr2 hr3 hr4 hr5
  generalize strOfNums (padE zs).1 = s1 at *
  generalize strOfNums (unpE zs).1 = s2 at *
  go_wp2_with fail
  go_ret
  exact ⟨rfl, hk15⟩

theorem fills_walk {W : World} (v : Value) (zs : List Int) (h : Rd W v zs) (_ : By zs) (n : Int) (_ : (Lit.int .i64 n).wf = true) (hl : zs.length ≤ 140737488351232) (w : World) (hw : W = w) :
    Calls Try.prog 3 #[v, .int .i64 n] w fun e w' => e = .returned (.bool true) ∧ Kept w w' := by
  subst hw
  by_cases c1 : 300000 < (zs.length : Int) + 1
  · exact fills_big v zs n W h (by omega) c1
  · exact fills_small v zs n W h (by omega)
end Go.Proofs.Ytgdpdjofhidllaa

/- The walk of the statement on options. -/
import Derived.Test.YthjjmadfdfjjdaaPlain
set_option linter.unusedSimpArgs false
set_option linter.unusedVariables false
namespace Go.Proofs.Ythjjmadfdfjjdaa
open Go.RowKit

theorem lsum_one (zs : List Int) : lsum bigN [zs] = zs.length + 1 := by simp [lsum, bigN]
theorem lsum_vsz_one (zs : List Int) : lsum vsz [zs] = (vecB zs).length := by simp [lsum, vsz]
theorem vecs_one (zs : List Int) : vecs [zs] = vecB zs := by simp [vecs]
theorem strs {w : World} {v : Value} {zs : List Int} (h : Rd w v zs) : ∀ n, (convert 26 9 v).run Try.prog (w.drewN n) = .ok (.string (strOfNums zs)) (w.drewN n) := fun n =>
  go_str_run (P := Try.prog) Try.underlying26 Try.underlying5 (h.kept ((Kept.refl w).drewN n)) 9 Try.underlying9
theorem strs0 {w : World} {v : Value} {zs : List Int} (h : Rd w v zs) : (convert 26 9 v).run Try.prog w = .ok (.string (strOfNums zs)) w :=
  go_str_run (P := Try.prog) Try.underlying26 Try.underlying5 h 9 Try.underlying9

set_option maxRecDepth 100000 in
theorem options_big_true (v : Value) (zs : List Int) (w : World) (h : Rd w v zs) (hb : By zs) (hl : (zs.length : Int) ≤ 140737488351232) (hg : 100000 ≤ (zs.length : Int)) :
    Calls Try.prog 8 #[v, .bool true] w fun e w' => e = .returned (.bool true) ∧ Kept w w' := by
  have hr := h
  obtain ⟨a, cap, rfl, h1, h2, h3⟩ := h.len
  have HR := Lib.hid hr
  have HBG := Lib.hid (fun w1 (hk : Kept w w1) => big_any _ [zs] _ (Rds.lit1 26 (hr.kept hk)) (by rw [lsum_one]; omega))
  have e0 : decide (100000 < lsum bigN [zs]) = true := by rw [lsum_one]; simp; omega
  rw [e0] at HBG
  clear e0 hr
  go_enter Try.func8, Try.ntmps8
  go_wp2_with fail
  refine (live_any _).mono ?_
  rintro e w0 ⟨rfl, hk0⟩
  go_wp2_with fail
  refine (HBG.out _ hk0).mono ?_
  rintro e w1 ⟨rfl, rfl⟩
  have hk1 := hk0.alloc (.cells #[Value.slice a zs.length cap] 26)
  clear HBG
  go_wp2_with fail
  go_ret
  exact ⟨rfl, hk1⟩

set_option maxRecDepth 100000 in
theorem options_big_false (v : Value) (zs : List Int) (w : World) (h : Rd w v zs) (hb : By zs) (hl : (zs.length : Int) ≤ 140737488351232) (hg : 100000 ≤ (zs.length : Int)) :
    Calls Try.prog 8 #[v, .bool false] w fun e w' => e = .returned (.bool true) ∧ Kept w w' := by
  have hr := h
  obtain ⟨a, cap, rfl, h1, h2, h3⟩ := h.len
  have HR := Lib.hid hr
  have HBG := Lib.hid (fun w1 (hk : Kept w w1) => big_any _ [zs] _ (Rds.lit1 26 (hr.kept hk)) (by rw [lsum_one]; omega))
  have e0 : decide (100000 < lsum bigN [zs]) = true := by rw [lsum_one]; simp; omega
  rw [e0] at HBG
  clear e0 hr
  go_enter Try.func8, Try.ntmps8
  go_wp2_with fail
  refine (live_any _).mono ?_
  rintro e w0 ⟨rfl, hk0⟩
  go_wp2_with fail
  refine (HBG.out _ hk0).mono ?_
  rintro e w1 ⟨rfl, rfl⟩
  have hk1 := hk0.alloc (.cells #[Value.slice a zs.length cap] 26)
  clear HBG
  go_wp2_with fail
  go_ret
  exact ⟨rfl, hk1⟩

set_option maxRecDepth 100000 in
theorem options_true (v : Value) (zs : List Int) (w : World) (h : Rd w v zs) (hb : By zs) (hg : (zs.length : Int) < 100000) :
    Calls Try.prog 8 #[v, .bool true] w fun e w' => e = .returned (.bool true) ∧ Kept w w' := by
  have hr := h
  obtain ⟨a, cap, rfl, h1, h2, h3⟩ := h.len
  have HR := Lib.hid hr
  have HBG := Lib.hid (fun w1 (hk : Kept w w1) => big_any _ [zs] _ (Rds.lit1 26 (hr.kept hk)) (by rw [lsum_one]; omega))
  have e0 : decide (100000 < lsum bigN [zs]) = false := by rw [lsum_one]; simp; omega
  rw [e0] at HBG
  clear e0 hr
  go_enter Try.func8, Try.ntmps8
  go_wp2_with fail
  refine (live_any _).mono ?_
  rintro e w0 ⟨rfl, hk0⟩
  go_wp2_with fail
  refine (HBG.out _ hk0).mono ?_
  rintro e w1 ⟨rfl, rfl⟩
  have hk1 := hk0.alloc (.cells #[Value.slice a zs.length cap] 26)
  clear HBG
  have HG := Lib.hid hg
  go_wp2_with fail
  refine (opt_ok _ zs _ (HR.out.kept hk1) (by omega)).mono ?_
  rintro e w2 ⟨v2, rfl, ho2, hk2⟩
  have hvl := vecB_length zs
  have hvp := isz_pos zs.length
  have hbv : By (vecB zs) := by
    intro z hz
    unfold vecB at hz
    rcases List.mem_append.1 hz with h | h
    · exact ib_by (n := (zs.length : Int)) (by omega) (by omega) z h
    · exact hb z h
  have hb1 : By (1 :: vecB zs) := by
    intro z hz
    rcases List.mem_cons.1 hz with rfl | h
    · omega
    · exact hbv z h
  have HTK := takeI_vec zs [] (by omega)
  have HCT := vec_cut zs []
  rw [List.append_nil] at HTK HCT
  have C4 := takeOpt_ok _ _ w2 ho2.rd hb1 (by simp) rfl _ _ HTK (by simp only [List.drop_succ_cons, List.drop_zero]; omega) (by simp only [List.length_cons]; omega)
  simp only [List.drop_succ_cons, List.drop_zero] at C4
  rw [HCT] at C4
  have HC4 := Lib.hid C4
  clear C4 HTK HCT
  go_wp2_with fail
  refine HC4.out.mono ?_
  rintro e w3 ⟨v3, rfl, ho3, hk3⟩
  go_wp2_with fail
  refine (bytes_ok _ zs _ (HR.out.kept (hk1.trans (hk2.trans hk3))) (by omega)).mono ?_
  rintro e w4 ⟨v4, rfl, ho4, hk4⟩
  go_wp2_with fail
  refine (bytes_ok _ _ _ ho4.rd (by omega)).mono ?_
  rintro e w5 ⟨v5, rfl, ho5, hk5⟩
  have hk15 := hk1.trans (hk2.trans (hk3.trans (hk4.trans hk5)))
  have HJ := Lib.hid (join_ok _ [zs] _ (Rds.lit1 26 (HR.out.kept hk15)) (by rw [lsum_vsz_one]; omega))
  rw [vecs_one] at HJ
  go_wp2_with fail
  refine HJ.out.mono ?_
  rintro e w6 ⟨v6, rfl, ho6, hk6⟩
  have hk56 := ((Kept.refl w5).alloc (.cells #[Value.slice a zs.length cap] 26)).trans hk6
  have hs3 := strs (ho3.rd.kept (hk4.trans (hk5.trans hk56)))
  have hsx := strs (HR.out.kept (hk15.trans hk56))
  have hs4 := strs (ho4.rd.kept (hk5.trans hk56))
  have hs5 := strs (ho5.rd.kept hk56)
  have hs6 := strs ho6.rd
  have hkk := hk15.trans hk56
  have hrd2 := ho2.rd.kept (hk3.trans (hk4.trans (hk5.trans hk56)))
  clear HC4 HJ
  obtain ⟨b2, off2, cap2, rfl, hc2, hm2, hbw2, hcell2⟩ := hrd2.addr (by simp)
  clear hcell2
  have hcut := hrd2.cut (lo := 1) (hi := (1 :: vecB zs).length) (by simp) (Nat.le_refl _)
  rw [List.take_length, List.drop_succ_cons, List.drop_zero] at hcut
  have hcap2 : ¬ cap2 = 1 := by
    have := hvl
    simp only [List.length_cons] at hc2; omega
  unfold sliced at hcut
  rw [if_neg hcap2] at hcut
  simp only [Option.map_some, Nat.mul_one, Addr.add_lit, List.length_cons, Nat.add_sub_cancel] at hcut
  have hs2 := strs hcut
  simp only [List.length_cons] at hc2
  have hln : ((1 : Int) + (isz zs.length + zs.length) == ((vecB zs).length : Int) + 1) = true := by rw [beq_iff_eq]; omega
  clear hcut hrd2 ho2 ho3 ho4 ho5 ho6 hbv hb1
  generalize strOfNums zs = s0 at *
  generalize strOfNums (vecB zs) = s1 at *
  generalize strOfNums (vecB (vecB zs)) = s2 at *
  have HVL := Lib.hid hvl; clear hvl
  unfold maxLen at hm2
  go_wp2_with fail
  go_quiet (fail)
  go_wp2_with fail
  go_ret
  exact ⟨rfl, hkk.drewN _⟩

set_option maxRecDepth 100000 in
theorem options_false (v : Value) (zs : List Int) (w : World) (h : Rd w v zs) (hb : By zs) (hg : (zs.length : Int) < 100000) :
    Calls Try.prog 8 #[v, .bool false] w fun e w' => e = .returned (.bool true) ∧ Kept w w' := by
  have hr := h
  obtain ⟨a, cap, rfl, h1, h2, h3⟩ := h.len
  have HR := Lib.hid hr
  have HBG := Lib.hid (fun w1 (hk : Kept w w1) => big_any _ [zs] _ (Rds.lit1 26 (hr.kept hk)) (by rw [lsum_one]; omega))
  have e0 : decide (100000 < lsum bigN [zs]) = false := by rw [lsum_one]; simp; omega
  rw [e0] at HBG
  clear e0 hr
  go_enter Try.func8, Try.ntmps8
  go_wp2_with fail
  refine (live_any _).mono ?_
  rintro e w0 ⟨rfl, hk0⟩
  go_wp2_with fail
  refine (HBG.out _ hk0).mono ?_
  rintro e w1 ⟨rfl, rfl⟩
  have hk1 := hk0.alloc (.cells #[Value.slice a zs.length cap] 26)
  clear HBG
  have HG := Lib.hid hg
  have hvl := vecB_length zs
  have hvp := isz_pos zs.length
  go_wp2_with fail
  refine (opt_none _ _).mono ?_
  rintro e w2 ⟨v2, rfl, ho2, hk2⟩
  go_wp2_with fail
  refine (takeOpt_none _ _ _ ho2.rd (by simp) rfl).mono ?_
  rintro e w3 ⟨rfl, hk3⟩
  go_wp2_with fail
  refine (bytes_ok _ zs _ (HR.out.kept (hk1.trans (hk2.trans hk3))) (by omega)).mono ?_
  rintro e w4 ⟨v4, rfl, ho4, hk4⟩
  go_wp2_with fail
  refine (bytes_ok _ _ _ ho4.rd (by omega)).mono ?_
  rintro e w5 ⟨v5, rfl, ho5, hk5⟩
  have hk15 := hk1.trans (hk2.trans (hk3.trans (hk4.trans hk5)))
  have HJ := Lib.hid (join_ok _ [zs] _ (Rds.lit1 26 (HR.out.kept hk15)) (by rw [lsum_vsz_one]; omega))
  rw [vecs_one] at HJ
  go_wp2_with fail
  refine HJ.out.mono ?_
  rintro e w6 ⟨v6, rfl, ho6, hk6⟩
  have hk56 := ((Kept.refl w5).alloc (.cells #[Value.slice a zs.length cap] 26)).trans hk6
  have hs5 := strs (ho5.rd.kept hk56)
  have hs6 := strs ho6.rd
  have hkk := hk15.trans hk56
  clear HJ
  obtain ⟨a2, cap2, rfl, _, _, _⟩ := ho2.rd.len
  clear ho2 ho4 ho5 ho6
  generalize strOfNums (vecB (vecB zs)) = s2 at *
  have HVL := Lib.hid hvl; clear hvl
  go_wp2_with fail
  go_quiet (fail)
  go_wp2_with fail
  go_ret
  exact ⟨rfl, hkk.drewN _⟩

theorem options_walk {W : World} (v : Value) (zs : List Int) (h : Rd W v zs) (hb : By zs) (is : Bool) (hl : zs.length ≤ 140737488351232) (w : World) (hw : W = w) :
    Calls Try.prog 8 #[v, .bool is] w fun e w' => e = .returned (.bool true) ∧ Kept w w' := by
  subst hw
  by_cases hg : (zs.length : Int) < 100000
  · cases is
    · exact options_false v zs W h hb hg
    · exact options_true v zs W h hb hg
  · cases is
    · exact options_big_false v zs W h hb (by omega) (by omega)
    · exact options_big_true v zs W h hb (by omega) (by omega)
end Go.Proofs.Ythjjmadfdfjjdaa

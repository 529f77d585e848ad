/- The walk of the statement on what was written. -/
import Derived.Test.YtegeflbppagbkaaOneW
set_option linter.unusedSimpArgs false
set_option linter.unusedVariables false
namespace Go.Proofs.Ytegeflbppagbkaa
open Go.RowKit

theorem takeI_len0 : takeI [] = (0, 0, 10) := rfl

theorem takeI_cut2 (x : Int) (h1 : 64 ≤ x) (h2 : x < 128) : takeI [x] = (0, 0, 10) := by
  unfold takeI
  have e0 : [x].getD 0 0 = x := rfl
  rw [e0, if_neg (by simp), if_neg (by omega), if_neg (by omega), if_pos h2, if_pos (by simp)]
theorem takeI_cut4 (x : Int) (r : List Int) (h1 : 128 ≤ x) (h2 : x < 192) (h3 : r.length < 3) : takeI (x :: r) = (0, 0, 10) := by
  unfold takeI
  have e0 : (x :: r).getD 0 0 = x := rfl
  rw [e0, if_neg (by simp), if_neg (by omega), if_neg (by omega), if_neg (by omega), if_pos (by simp; omega)]

/-- A beginning of a vector that is shorter is short. -/
theorem vec_short (R : List Int) (hR : (R.length : Int) < 1073741824) (kk : Nat) (hk : kk < (vecB R).length) :
    takeI ((vecB R).take kk) = (0, 0, 10) ∨ ∃ n k, takeI ((vecB R).take kk) = (n, k, 0) ∧ ((vecB R).take kk).length - k < n := by
  have hl := vecB_length R
  have hi := @ib_length (R.length : Int)
  by_cases h1 : kk < (ib R.length).length
  · left
    have e : (vecB R).take kk = (ib R.length).take kk := by unfold vecB; rw [List.take_append_of_le_length (by omega)]
    rw [e]
    generalize (R.length : Int) = m at *
    by_cases c1 : m < 64
    · rw [ib_1 c1] at h1 ⊢
      obtain rfl : kk = 0 := by simp at h1; omega
      rfl
    by_cases c2 : m < 16384
    · rw [ib_2 (by omega) c2] at h1 ⊢
      have : kk = 0 ∨ kk = 1 := by simp at h1; omega
      rcases this with rfl | rfl
      · rfl
      · exact takeI_cut2 _ (by omega) (by omega)
    · rw [ib_4 (by omega)] at h1 ⊢
      have : kk = 0 ∨ kk = 1 ∨ kk = 2 ∨ kk = 3 := by simp at h1; omega
      rcases this with rfl | rfl | rfl | rfl
      · rfl
      · exact takeI_cut4 _ _ (by omega) (by omega) (by simp)
      · exact takeI_cut4 _ _ (by omega) (by omega) (by simp)
      · exact takeI_cut4 _ _ (by omega) (by omega) (by simp)
  · right
    have e : (vecB R).take kk = ib R.length ++ R.take (kk - (ib R.length).length) := by
      unfold vecB; rw [List.take_append, List.take_of_length_le (by omega)]
    rw [e]
    refine ⟨_, _, takeI_ib _ (by omega) hR _, ?_⟩
    rw [← e, List.length_take]; omega

theorem vsz_bigN (x : List Int) : vsz x ≤ 4 * bigN x := by
  have h1 := vecB_length x
  have h2 := isz_pos x.length
  unfold vsz bigN; omega
theorem lsum_vsz (xss : List (List Int)) : lsum vsz xss ≤ 4 * lsum bigN xss := by
  induction xss with
  | nil => simp [lsum]
  | cons x r ih => have := vsz_bigN x; simp only [lsum]; omega
theorem lsum_big_elem (xss : List (List Int)) (i : Nat) (hi : i < xss.length) : ((xss.getD i []).length : Int) + 1 ≤ lsum bigN xss := lsum_elem bigN bigN_nonneg xss i hi
theorem vecs_by {xss : List (List Int)} (h : ∀ i, i < xss.length → By (xss.getD i [])) (hs : lsum bigN xss ≤ 1048576) : By (vecs xss) := by
  intro z hz
  unfold vecs at hz
  obtain ⟨l, hl, hz⟩ := List.mem_flatten.1 hz
  obtain ⟨x, hx, rfl⟩ := List.mem_map.1 hl
  obtain ⟨i, hi, rfl⟩ := List.getElem_of_mem hx
  have e : xss.getD i [] = xss[i] := by simp [List.getD, List.getElem?_eq_getElem hi]
  have h1 := h i hi
  have h2 := lsum_big_elem xss i hi
  rw [e] at h1 h2
  unfold vecB at hz
  rcases List.mem_append.1 hz with q | q
  · exact ib_by (n := (xss[i].length : Int)) (by omega) (by omega) z q
  · exact h1 z q

-- WALKS

set_option maxRecDepth 100000 in
set_option maxHeartbeats 2000000 in
theorem back_bigl (v : Value) (xss : List (List Int)) (u : Value) (bs : List Int) (cut : Int) (w : World) (h : Rds w v xss) (hb : ∀ i, i < xss.length → By (xss.getD i [])) (g : Rd w u bs) (gb : By bs)
    (hx : lsum bigN xss ≤ 1048576) (hz : (bs.length : Int) ≤ 1048576) (hg : 100000 < lsum bigN xss) :
    Calls Try.prog 3 #[v, u, .int .i64 cut] w fun e w' => e = .returned (.bool true) ∧ Kept w w' := by
  have HH := Lib.hid h
  have HG := Lib.hid g
  obtain ⟨ua, ucap, rfl, u1, u2, u3⟩ := g.len
  have HBX := Lib.hid (fun w1 (hk : Kept w w1) => big_any _ xss _ (h.kept hk) (by omega))
  have HBB := Lib.hid (fun w1 (hk : Kept w w1) => big_any _ [bs] _ (Rds.lit1 23 (g.kept hk)) (by rw [lsum_one]; omega))
  have e0 : decide (100000 < lsum bigN xss) = true := decide_eq_true hg
  rw [e0] at HBX
  clear e0 HBB h
  go_enter Try.func3, Try.ntmps3
  go_wp2_with fail
  refine (live_any _).mono ?_
  rintro e w0 ⟨rfl, hk0⟩
  go_wp2_with fail
  refine (HBX.out _ hk0).mono ?_
  rintro e w1 ⟨rfl, rfl⟩
  go_wp2_with fail
  go_ret
  exact ⟨rfl, hk0⟩

set_option maxRecDepth 100000 in
set_option maxHeartbeats 2000000 in
theorem back_bigb (v : Value) (xss : List (List Int)) (u : Value) (bs : List Int) (cut : Int) (w : World) (h : Rds w v xss) (hb : ∀ i, i < xss.length → By (xss.getD i [])) (g : Rd w u bs) (gb : By bs)
    (hx : lsum bigN xss ≤ 1048576) (hz : (bs.length : Int) ≤ 1048576) (hg : lsum bigN xss ≤ 100000) (hg2 : 100000 < (bs.length : Int) + 1) :
    Calls Try.prog 3 #[v, u, .int .i64 cut] w fun e w' => e = .returned (.bool true) ∧ Kept w w' := by
  have HH := Lib.hid h
  have HG := Lib.hid g
  obtain ⟨ua, ucap, rfl, u1, u2, u3⟩ := g.len
  have HBX := Lib.hid (fun w1 (hk : Kept w w1) => big_any _ xss _ (h.kept hk) (by omega))
  have HBB := Lib.hid (fun w1 (hk : Kept w w1) => big_any _ [bs] _ (Rds.lit1 23 (g.kept hk)) (by rw [lsum_one]; omega))
  have e0 : decide (100000 < lsum bigN xss) = false := decide_eq_false (by omega)
  rw [e0] at HBX
  have e1 : decide (100000 < lsum bigN [bs]) = true := by rw [lsum_one]; exact decide_eq_true hg2
  rw [e1] at HBB
  clear e0 e1 h
  go_enter Try.func3, Try.ntmps3
  go_wp2_with fail
  refine (live_any _).mono ?_
  rintro e w0 ⟨rfl, hk0⟩
  go_wp2_with fail
  refine (HBX.out _ hk0).mono ?_
  rintro e w1 ⟨rfl, rfl⟩
  go_wp2_with fail
  refine (HBB.out _ hk0).mono ?_
  rintro e w1 ⟨rfl, rfl⟩
  have hk1 := hk0.alloc (.cells #[Value.slice ua bs.length ucap] 23)
  go_wp2_with fail
  go_ret
  exact ⟨rfl, hk1⟩

set_option maxRecDepth 100000 in
set_option maxHeartbeats 2000000 in
theorem back_small (v : Value) (xss : List (List Int)) (u : Value) (bs : List Int) (cut : Int) (w : World) (h : Rds w v xss) (hb : ∀ i, i < xss.length → By (xss.getD i [])) (g : Rd w u bs) (gb : By bs)
    (hx : lsum bigN xss ≤ 1048576) (hz : (bs.length : Int) ≤ 1048576) (hg : lsum bigN xss ≤ 100000) (hg2 : (bs.length : Int) < 100000) :
    Calls Try.prog 3 #[v, u, .int .i64 cut] w fun e w' => e = .returned (.bool true) ∧ Kept w w' := by
  have HH := Lib.hid h
  have HG := Lib.hid g
  obtain ⟨ua, ucap, rfl, u1, u2, u3⟩ := g.len
  have HBX := Lib.hid (fun w1 (hk : Kept w w1) => big_any _ xss _ (h.kept hk) (by omega))
  have HBB := Lib.hid (fun w1 (hk : Kept w w1) => big_any _ [bs] _ (Rds.lit1 23 (g.kept hk)) (by rw [lsum_one]; omega))
  have e0 : decide (100000 < lsum bigN xss) = false := decide_eq_false (by omega)
  rw [e0] at HBX
  have e1 : decide (100000 < lsum bigN [bs]) = false := by rw [lsum_one]; exact decide_eq_false (by omega)
  rw [e1] at HBB
  have hv4 := lsum_vsz xss
  have hvl := vecs_length xss
  have hRB := Lib.hid (vecs_by hb hx)
  have HJ := Lib.hid (fun w1 (hk : Kept w w1) => join_ok v xss _ (h.kept hk) (by omega))
  have hRl : ((vecs xss).length : Int) < 1073741824 := by omega
  have hBl := vecB_length (vecs xss)
  have hBp := isz_pos (vecs xss).length
  have HTK := Lib.hid (takeI_vec (vecs xss) bs hRl)
  have HCT := Lib.hid (vec_cut (vecs xss) bs)
  have HSH := Lib.hid (vec_short (vecs xss) hRl)
  have HRL := Lib.hid (show ((vecs xss).length : Int) ≤ 400000 by omega)
  have HBY : By (vecB (vecs xss)) := by
    intro z hz
    unfold vecB at hz
    rcases List.mem_append.1 hz with q | q
    · exact ib_by (n := ((vecs xss).length : Int)) (by omega) hRl z q
    · exact hRB.out z q
  have HRS := Lib.hid (show vecs xss = vecs xss from rfl)
  clear e0 e1 h g hv4 hvl hRl
  go_enter Try.func3, Try.ntmps3
  go_wp2_with fail
  refine (live_any _).mono ?_
  rintro e w0 ⟨rfl, hk0⟩
  go_wp2_with fail
  refine (HBX.out _ hk0).mono ?_
  rintro e w1 ⟨rfl, rfl⟩
  go_wp2_with fail
  refine (HBB.out _ hk0).mono ?_
  rintro e w1 ⟨rfl, rfl⟩
  have hk1 := hk0.alloc (.cells #[Value.slice ua bs.length ucap] 23)
  go_wp2_with fail
  refine (HJ.out _ hk1).mono ?_
  rintro e w2 ⟨v2, rfl, ho2, hk2⟩
  have hr2 := ho2.rd
  obtain ⟨a2, cap2, rfl, hc2, hm2, hn2⟩ := hr2.len
  have hgk := HG.out.kept (hk1.trans hk2)
  have hLp : 0 < (vecB (vecs xss)).length := by omega
  have hLm : ((vecB (vecs xss)).length : Int) ≤ 400010 := by have := HRL.out; omega
  clear HBX HBB
  go_wp2_with (first | (at_builtin; refine go_appb w2.heap.size (.slice none 0 0) [] rfl (Own.nil _ _ _) _ (vecB (vecs xss)) rfl hr2 ?_ ?_ ?_; rotate_right; intro v3 w3 ho3 hb3) | (at_builtin; refine go_appb w2.heap.size v3 _ rfl ho3 _ bs rfl (hgk.kept hb3) ?_ ?_ ?_; rotate_right; intro v4 w4 ho4 hb4))
  · simp only [List.nil_append] at ho4
    have hk24 : Kept w2 w4 := Below.trans hb3 hb4
    have hk4 := (hk1.trans hk2).trans hk24
    have hby4 : By (vecB (vecs xss) ++ bs) := fun z hz => (List.mem_append.1 hz).elim (HBY z) (gb z)
    have C5 := Lib.hid (split_ok v4 _ w4 ho4.rd hby4 (by rw [List.length_append]; omega) _ _ HTK.out (by rw [List.length_append]; omega) xss HCT.out)
    refine C5.out.mono ?_
    rintro e w5 ⟨v5, rfl, hr5, hk5⟩
    have hk45 := hk4.trans hk5
    have C6 := Lib.hid (sameList_yes v v5 xss _ (HH.out.kept hk45) hr5)
    rw [← hBl]
    clear C5 hby4
    generalize vecB (vecs xss) = BB at *
    have HBL := Lib.hid hBl; clear hBl
    have hnb : ((BB.length : Int) != BB.length) = false := by simp
    have hnz : ((BB.length : Int) == 0) = false := by rw [beq_eq_false_iff_ne]; omega
    go_wp2_with fail
    refine C6.out.mono ?_
    rintro e w6 ⟨rfl, hk6⟩
    have hk46 := hk45.trans hk6
    have hr26 := hr2.kept (hk24.trans (hk5.trans hk6))
    have t1 := Int.lt_tmod_of_pos cut (show (0 : Int) < BB.length by omega)
    have t2 := Int.tmod_lt_of_pos cut (show (0 : Int) < BB.length by omega)
    have hw : wrap64 (cut.tmod BB.length + BB.length) = cut.tmod BB.length + BB.length := IntWalk.wrap64_in _ ⟨by omega, by omega⟩
    have H0 := Lib.hid (show 0 ≤ (wrap64 (cut.tmod BB.length + BB.length)).tmod BB.length by rw [hw]; exact Int.tmod_nonneg _ (by omega))
    have H1 := Lib.hid (show (wrap64 (cut.tmod BB.length + BB.length)).tmod BB.length < BB.length by exact Int.tmod_lt_of_pos _ (by omega))
    clear hw t1 t2 hx hz hg hg2 hb
    go_wp2_with ((with_reducible refine go_cut_h (.slice a2 BB.length cap2) BB ?_ hr26 ((wrap64 (cut.tmod BB.length + BB.length)).tmod BB.length) ?_ ?_ ?_ ?_); rfl; rfl; exact H0.out; exact Int.le_of_lt H1.out; intro v7 hv7)
    have hkn : ((wrap64 (cut.tmod BB.length + BB.length)).tmod BB.length).toNat < BB.length := by have := H0.out; have := H1.out; omega
    generalize ((wrap64 (cut.tmod BB.length + BB.length)).tmod BB.length).toNat = kk at *
    have hbk : By (BB.take kk) := HBY.take kk
    have C7 : ∀ w, Rd w v7 (BB.take kk) → Calls Try.prog 15 #[v7] w fun x w' => x = .returned (.tuple #[.slice none 0 0, .int .i64 0, .int .i64 10]) ∧ Kept w w' := by
      intro w hr
      rcases HSH.out kk hkn with ht | ⟨n, k, ht, hs⟩
      · exact look_err v7 _ w hr hbk 10 (by rw [ht]) (by omega)
      · exact look_short v7 _ w hr hbk n k ht hs
    refine (split_look v7 _ _ 10 (by omega) C7 hv7).mono ?_
    rintro e w7 ⟨rfl, hk7⟩
    clear C7
    have hkk := hk46.trans hk7
    go_wp2_with fail
    go_ret
    exact ⟨rfl, hkk⟩
  · rw [List.nil_append]; have := HRL.out; omega
  · exact hb3.size
  · simp only [List.length_nil]; omega
  · exact Nat.le_refl _

theorem back_walk {W : World} (v : Value) (xss : List (List Int)) (h : Rds W v xss) (hb : ∀ i, i < xss.length → By (xss.getD i [])) (u : Value) (bs : List Int) (g : Rd W u bs) (gb : By bs) (cut : Int) (_ : (Lit.int .i64 cut).wf = true)
    (hx : lsum bigN xss ≤ 1048576) (hz : (bs.length : Int) ≤ 1048576) (w : World) (hw : W = w) :
    Calls Try.prog 3 #[v, u, .int .i64 cut] w fun e w' => e = .returned (.bool true) ∧ Kept w w' := by
  subst hw
  by_cases c1 : 100000 < lsum bigN xss
  · exact back_bigl v xss u bs cut W h hb g gb hx hz c1
  by_cases c2 : 100000 < (bs.length : Int) + 1
  · exact back_bigb v xss u bs cut W h hb g gb hx hz (by omega) c2
  · exact back_small v xss u bs cut W h hb g gb hx hz (by omega) (by omega)
end Go.Proofs.Ytegeflbppagbkaa

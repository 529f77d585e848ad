/- The walk of the statement on what was written: for lists of whatever size. -/
import Derived.Test.YtegeflbppagbkaaBackW
set_option linter.unusedSimpArgs false
set_option linter.unusedVariables false
namespace Go.Proofs.Ytegeflbppagbkaa
open Go.RowKit

theorem wrap_step (s x : Int) (hx : 0 ≤ x ∧ x ≤ 281474976710656) : wrap64 (wrap64 s + x) = wrap64 (s + x) := by
  unfold wrap64
  omega
theorem wrap_rng (s : Int) : -9223372036854775808 ≤ wrap64 s ∧ wrap64 s ≤ 9223372036854775807 := by
  unfold wrap64
  omega
set_option maxHeartbeats 2000000 in
/-- 'big', whatever the sum: it wraps. -/
theorem big_wrap (v : Value) (xss : List (List Int)) (w : World) (h : Rds w v xss) (hl : ∀ i, i < xss.length → ((xss.getD i []).length : Int) ≤ 140737488355328) :
    Calls Try.prog 5 #[v] w fun e w' => e = .returned (.bool (decide (100000 < wrap64 (lsum bigN xss)))) ∧ w = w' := by
  by_cases hp : 0 < xss.length
  · obtain ⟨b, off, cap, vs, rfl, hc, hm, hb, hcell, hr⟩ := h.addr hp
    have HX := Lib.hid hcell; clear hcell
    have HR := Lib.hid hr; clear hr
    have HHL := Lib.hid hl; clear hl
    unfold maxLen at hm
    go_enter Try.func5, Try.ntmps5
    go_wp2
    go_loop [3, 8] (fun n i => ∃ k : Nat, k ≤ xss.length ∧ i = .int .i64 k ∧ n = .int .i64 (wrap64 (lsum bigN (xss.take k)))) (fun _ i => xss.length - (intOf i).toNat)
    case atStart => exact ⟨0, Nat.zero_le _, rfl, by rw [List.take_zero, show lsum bigN [] = 0 from rfl, IntWalk.wrap64_in 0 ⟨by omega, by omega⟩]⟩
    case round =>
      obtain ⟨k, hk, rfl, rfl⟩ := hrel
      by_cases hlt : k < xss.length
      · have hyl := HHL.out k hlt
        have hcx := HX.out k hlt
        have hrx := HR.out k hlt
        have t1 := Lib.hid (lsum_take bigN xss k hlt)
        generalize vs.getD k undef = y at *
        obtain ⟨ya, ycap, rfl, y1, y2, y3⟩ := hrx.len
        have t5 : bigN (xss.getD k []) = (xss.getD k []).length + 1 := rfl
        rw [t5] at t1
        clear t5
        generalize xss.getD k [] = ys at *
        generalize lsum bigN (xss.take k) = s at *
        have hr := wrap_rng s
        have hst := wrap_step s ((ys.length : Int) + 1) ⟨by omega, by omega⟩
        have HST := Lib.hid hst
        generalize wrap64 s = s1 at *
        clear hst
        go_wp2
        go_round
        case rel => exact ⟨k + 1, by omega, by go_num, by rw [t1.out, ← HST.out]⟩
        case measure => simp [intOf]; omega
      · obtain rfl : k = xss.length := by omega
        have ht : xss.take xss.length = xss := List.take_length
        rw [ht]
        go_wp2
        go_ret
        exact ⟨rfl, rfl⟩
  · obtain rfl : xss = [] := List.eq_nil_of_length_eq_zero (by omega)
    obtain ⟨a, cap, rfl, h1, h2, h3⟩ := h.len
    go_enter Try.func5, Try.ntmps5
    go_wp2
    refine wp_loop_rounds 1 ?_
    rw [rounds_succ]
    go_wp2
    go_ret
    exact ⟨by rw [show lsum bigN [] = 0 from rfl, IntWalk.wrap64_in 0 ⟨by omega, by omega⟩]; rfl, rfl⟩

theorem bigN_vsz (x : List Int) : bigN x ≤ vsz x := by
  have h1 := vecB_length x
  have h2 := isz_pos x.length
  unfold vsz bigN; omega
theorem lsum_bigvsz (xss : List (List Int)) : lsum bigN xss ≤ lsum vsz xss := by
  induction xss with
  | nil => simp [lsum]
  | cons x r ih => have := bigN_vsz x; simp only [lsum]; omega
set_option maxRecDepth 100000 in
set_option maxHeartbeats 2000000 in
theorem back_off (v : Value) (xss : List (List Int)) (u : Value) (bs : List Int) (cut : Int) (w : World) (h : Rds w v xss) (g : Rd w u bs) (hl : ∀ i, i < xss.length → ((xss.getD i []).length : Int) ≤ 140737488355328) (hz : (bs.length : Int) ≤ 140737488355328) (hg : 100000 < wrap64 (lsum bigN xss)) :
    Calls Try.prog 3 #[v, u, .int .i64 cut] w fun e w' => e = .returned (.bool true) ∧ Kept w w' := by
  obtain ⟨ua, ucap, rfl, u1, u2, u3⟩ := g.len
  have HBX := Lib.hid (fun w1 (hk : Kept w w1) => big_wrap _ xss _ (h.kept hk) hl)
  have e0 : decide (100000 < wrap64 (lsum bigN xss)) = true := decide_eq_true hg
  rw [e0] at HBX
  clear e0 h hg hl hz
  go_enter Try.func3, Try.ntmps3
  go_wp2_with fail
  refine (live_any _).mono ?_
  rintro e w0 ⟨rfl, hk0⟩
  go_wp2_with fail
  refine (HBX.out _ hk0).mono ?_
  rintro e w1 ⟨rfl, rfl⟩
  go_wp2_with fail
  go_ret
  exact ⟨rfl, hk0⟩

set_option maxRecDepth 100000 in
set_option maxHeartbeats 2000000 in
theorem back_off2 (v : Value) (xss : List (List Int)) (u : Value) (bs : List Int) (cut : Int) (w : World) (h : Rds w v xss) (g : Rd w u bs) (hl : ∀ i, i < xss.length → ((xss.getD i []).length : Int) ≤ 140737488355328) (hz : (bs.length : Int) ≤ 140737488355328) (hg : ¬ 100000 < wrap64 (lsum bigN xss)) (hg2 : 100000 < (bs.length : Int) + 1) :
    Calls Try.prog 3 #[v, u, .int .i64 cut] w fun e w' => e = .returned (.bool true) ∧ Kept w w' := by
  have HG := Lib.hid g
  obtain ⟨ua, ucap, rfl, u1, u2, u3⟩ := g.len
  have HBX := Lib.hid (fun w1 (hk : Kept w w1) => big_wrap _ xss _ (h.kept hk) hl)
  have HBB := Lib.hid (fun w1 (hk : Kept w w1) => big_any _ [bs] _ (Rds.lit1 23 (g.kept hk)) (by rw [lsum_one]; omega))
  have e0 : decide (100000 < wrap64 (lsum bigN xss)) = false := decide_eq_false hg
  rw [e0] at HBX
  have e1 : decide (100000 < lsum bigN [bs]) = true := by rw [lsum_one]; exact decide_eq_true hg2
  rw [e1] at HBB
  clear e0 e1 h hg hg2 u1 u2 hl hz
  go_enter Try.func3, Try.ntmps3
  go_wp2_with fail
  refine (live_any _).mono ?_
  rintro e w0 ⟨rfl, hk0⟩
  go_wp2_with fail
  refine (HBX.out _ hk0).mono ?_
  rintro e w1 ⟨rfl, rfl⟩
  go_wp2_with fail
  refine (HBB.out _ hk0).mono ?_
  rintro e w1 ⟨rfl, rfl⟩
  have hk1 := hk0.alloc (.cells #[Value.slice ua bs.length ucap] 23)
  go_wp2_with fail
  go_ret
  exact ⟨rfl, hk1⟩

set_option maxRecDepth 100000 in
set_option maxHeartbeats 2000000 in
theorem back_off3 (v : Value) (xss : List (List Int)) (u : Value) (bs : List Int) (cut : Int) (w : World) (h : Rds w v xss) (g : Rd w u bs) (hl : ∀ i, i < xss.length → ((xss.getD i []).length : Int) ≤ 140737488355328) (hz : (bs.length : Int) ≤ 140737488355328) (hg : ¬ 100000 < wrap64 (lsum bigN xss)) (hb : 1073741824 ≤ lsum vsz xss) (hg2 : (bs.length : Int) < 100000) :
    Calls Try.prog 3 #[v, u, .int .i64 cut] w fun e w' => e = .returned (.bool true) ∧ Kept w w' := by
  have HG := Lib.hid g
  have HF := Lib.hid (fun i hi => by have := hl i hi; omega : ∀ i, i < xss.length → (xss.getD i []).length ≤ 140737488355328)
  obtain ⟨ua, ucap, rfl, u1, u2, u3⟩ := g.len
  have HBX := Lib.hid (fun w1 (hk : Kept w w1) => big_wrap _ xss _ (h.kept hk) hl)
  have HBB := Lib.hid (fun w1 (hk : Kept w w1) => big_any _ [bs] _ (Rds.lit1 23 (g.kept hk)) (by rw [lsum_one]; omega))
  have HJ := Lib.hid (fun w1 (hk : Kept w w1) => join_bad v xss _ (h.kept hk) HF.out hb)
  have e0 : decide (100000 < wrap64 (lsum bigN xss)) = false := decide_eq_false hg
  rw [e0] at HBX
  have e1 : decide (100000 < lsum bigN [bs]) = false := by rw [lsum_one]; exact decide_eq_false (by omega)
  rw [e1] at HBB
  clear e0 e1 h hg hb u1 u2 hl hz
  go_enter Try.func3, Try.ntmps3
  go_wp2_with fail
  refine (live_any _).mono ?_
  rintro e w0 ⟨rfl, hk0⟩
  go_wp2_with fail
  refine (HBX.out _ hk0).mono ?_
  rintro e w1 ⟨rfl, rfl⟩
  go_wp2_with fail
  refine (HBB.out _ hk0).mono ?_
  rintro e w1 ⟨rfl, rfl⟩
  have hk1 := hk0.alloc (.cells #[Value.slice ua bs.length ucap] 23)
  go_wp2_with fail
  refine (HJ.out _ hk1).mono ?_
  rintro e w2 ⟨rfl, rfl⟩
  go_wp2
  go_ret
  exact ⟨rfl, hk1⟩

theorem back_all {W : World} (v : Value) (xss : List (List Int)) (h : Rds W v xss) (hb : ∀ i, i < xss.length → By (xss.getD i [])) (u : Value) (bs : List Int) (g : Rd W u bs) (gb : By bs) (cut : Int) (_ : (Lit.int .i64 cut).wf = true) (hl : ∀ i, i < xss.length → ((xss.getD i []).length : Int) ≤ 140737488355328) (hz : bs.length ≤ 140737488351232) (w : World) (hw : W = w) :
    Calls Try.prog 3 #[v, u, .int .i64 cut] w fun e w' => e = .returned (.bool true) ∧ Kept w w' := by
  subst hw
  have h0 := lsum_nonneg bigN bigN_nonneg xss
  by_cases c1 : 100000 < wrap64 (lsum bigN xss)
  · exact back_off v xss u bs cut W h g hl (by omega) c1
  by_cases c2 : 100000 < (bs.length : Int) + 1
  · exact back_off2 v xss u bs cut W h g hl (by omega) c1 c2
  by_cases c3 : lsum bigN xss ≤ 100000
  · exact back_small v xss u bs cut W h hb g gb (by omega) (by omega) c3 (by omega)
  · refine back_off3 v xss u bs cut W h g hl (by omega) c1 ?_ (by omega)
    have hle := lsum_bigvsz xss
    have : 9223372036854775808 ≤ lsum bigN xss := by
      unfold wrap64 at c1
      omega
    omega
end Go.Proofs.Ytegeflbppagbkaa

/- The walk of the statement on texts of one bucket. -/
import Derived.Test.YtgdpdjofhidllaaPadWhW
set_option linter.unusedSimpArgs false
set_option linter.unusedVariables false
namespace Go.Proofs.Ytgdpdjofhidllaa
open Go.RowKit

theorem sameB_nil : sameB [] = true := rfl
theorem sameB_one (x : List Int) : sameB [x] = decide ((x.length : Int) < 65536) := by
  by_cases h : (x.length : Int) < 65536
  · rw [decide_eq_true h]
    exact sameB_true fun i hi => by
      obtain rfl : i = 0 := by simp at hi; omega
      exact ⟨h, rfl⟩
  · rw [decide_eq_false h]
    exact sameB_false (i := 0) (by simp) fun q => h q.1
theorem sameB_two_ok {x y : List Int} (hx : (x.length : Int) < 65536) (hy : (y.length : Int) < 65536) : sameB [x, y] = decide ((padS x).length = (padS y).length) := by
  have h1 := padS_length hx
  have h2 := padS_length hy
  by_cases h : bk x.length = bk y.length
  · rw [decide_eq_true (by omega)]
    exact sameB_true fun i hi => by
      rcases i with _ | _ | i
      · exact ⟨hx, rfl⟩
      · exact ⟨hy, h.symm⟩
      · simp at hi; omega
  · rw [decide_eq_false (by omega)]
    exact sameB_false (i := 1) (by simp) fun q => h q.2.symm
theorem sameB_two_1 {x y : List Int} (hx : 65536 ≤ (x.length : Int)) : sameB [x, y] = false := sameB_false (i := 0) (by simp) fun q => by
  have := q.1
  simp at this; omega
theorem sameB_two_2 {x y : List Int} (hy : 65536 ≤ (y.length : Int)) : sameB [x, y] = false := sameB_false (i := 1) (by simp) fun q => by
  have := q.1
  simp at this; omega

theorem lsum_bound {l : List (List Int)} {m : Nat} (h : l.length ≤ m) (hb : ∀ i, i < l.length → ((l.getD i []).length : Int) ≤ 140737488355328) : lsum bigN l ≤ m * 140737488355329 := by
  induction l generalizing m with
  | nil => simp only [lsum]; omega
  | cons x r ih =>
    obtain ⟨m, rfl⟩ : ∃ k, m = k + 1 := ⟨m - 1, by simp at h; omega⟩
    have h0 := hb 0 (by simp)
    have := ih (m := m) (by simpa using h) (fun i hi => by have := hb (i + 1) (by simpa using hi); simpa using this)
    simp only [List.getD_cons_zero] at h0
    simp only [lsum]
    have e : bigN x = x.length + 1 := rfl
    rw [e, Int.natCast_add, Int.add_mul]
    omega

set_option maxRecDepth 100000 in
set_option maxHeartbeats 4000000 in
theorem hides_big (v : Value) (x : List Int) (u : Value) (y : List Int) (z : Value) (l : List (List Int)) (w : World) (h : Rd w v x) (g : Rd w u y) (r : Rds w z l) (hx : (x.length : Int) ≤ 140737488351232) (hy : (y.length : Int) ≤ 140737488351232) (hg : 300000 < (x.length : Int) + 1 + (y.length + 1)) :
    Calls Try.prog 5 #[v, u, z] w fun e w' => e = .returned (.bool true) ∧ Kept w w' := by
  have HX := Shut.mk h
  have HY := Shut.mk g
  have HZ := Shut.mk r
  have HBB := Shut.mk (fun w1 (hk : Kept w w1) => big_any _ [x, y] _ (Rds.lit2 22 (h.kept hk) (g.kept hk)) (by rw [lsum_two]; omega))
  have e1 : decide (300000 < lsum bigN [x, y]) = true := by rw [lsum_two]; exact decide_eq_true hg
  rw [e1] at HBB
  obtain ⟨ua, ucap, rfl, u1, u2, u3⟩ := h.len
  obtain ⟨va, vcap, rfl, v1, v2, v3⟩ := g.len
  clear e1 h g r hx hy hg
  go_enter Try.func5, Try.ntmps5
  go_wp2_with fail
  refine (live_any _).mono ?_
  rintro e w0 ⟨rfl, hk0⟩
  go_wp2_with fail
  refine (HBB.out _ hk0).mono ?_
  rintro e w1 ⟨rfl, rfl⟩
  have hk1 := hk0.alloc (.cells #[Value.slice ua x.length ucap, Value.slice va y.length vcap] 22)
  clear HBB
  generalize w0.alloc (.cells #[Value.slice ua x.length ucap, Value.slice va y.length vcap] 22) = w1 at hk1 ⊢
  go_wp2_with fail
  go_ret
  exact ⟨rfl, hk1⟩

set_option maxRecDepth 100000 in
set_option maxHeartbeats 4000000 in
theorem hides_many (v : Value) (x : List Int) (u : Value) (y : List Int) (z : Value) (l : List (List Int)) (w : World) (h : Rd w v x) (g : Rd w u y) (r : Rds w z l) (hg : (x.length : Int) + 1 + (y.length + 1) ≤ 300000) (hm : 100 < l.length) :
    Calls Try.prog 5 #[v, u, z] w fun e w' => e = .returned (.bool true) ∧ Kept w w' := by
  have HX := Shut.mk h
  have HY := Shut.mk g
  have HZ := Shut.mk r
  have HBB := Shut.mk (fun w1 (hk : Kept w w1) => big_any _ [x, y] _ (Rds.lit2 22 (h.kept hk) (g.kept hk)) (by rw [lsum_two]; omega))
  have e1 : decide (300000 < lsum bigN [x, y]) = false := by rw [lsum_two]; exact decide_eq_false (by omega)
  rw [e1] at HBB
  obtain ⟨ua, ucap, rfl, u1, u2, u3⟩ := h.len
  obtain ⟨va, vcap, rfl, v1, v2, v3⟩ := g.len
  obtain ⟨za, zcap, rfl, z1, z2, z3⟩ := r.len
  have hgt : decide ((100 : Int) < (l.length : Int)) = true := by simp; omega
  have HBL := Shut.mk (fun w1 (hk : Kept w w1) => big_some _ l _ (r.kept hk))
  clear e1 h g r hg z1 z2 z3 u1 u2 u3 v1 v2 v3
  go_enter Try.func5, Try.ntmps5
  go_wp2_with fail
  refine (live_any _).mono ?_
  rintro e w0 ⟨rfl, hk0⟩
  go_wp2_with fail
  refine (HBB.out _ hk0).mono ?_
  rintro e w1 ⟨rfl, rfl⟩
  have hk1 := hk0.alloc (.cells #[Value.slice ua x.length ucap, Value.slice va y.length vcap] 22)
  clear HBB
  generalize w0.alloc (.cells #[Value.slice ua x.length ucap, Value.slice va y.length vcap] 22) = w1 at hk1 ⊢
  go_wp2_with fail
  refine (HBL.out _ hk1).mono ?_
  rintro e w1 ⟨⟨b, rfl⟩, rfl⟩
  cases b
  · go_wp2_with fail
    go_ret
    exact ⟨rfl, hk1⟩
  · go_wp2_with fail
    go_ret
    exact ⟨rfl, hk1⟩

set_option maxRecDepth 100000 in
set_option maxHeartbeats 4000000 in
theorem hides_bigl (v : Value) (x : List Int) (u : Value) (y : List Int) (z : Value) (l : List (List Int)) (w : World) (h : Rd w v x) (g : Rd w u y) (r : Rds w z l) (hg : (x.length : Int) + 1 + (y.length + 1) ≤ 300000) (hs : lsum bigN l ≤ 9223372036854775807) (hm : 300000 < lsum bigN l) :
    Calls Try.prog 5 #[v, u, z] w fun e w' => e = .returned (.bool true) ∧ Kept w w' := by
  have HX := Shut.mk h
  have HY := Shut.mk g
  have HZ := Shut.mk r
  have HBB := Shut.mk (fun w1 (hk : Kept w w1) => big_any _ [x, y] _ (Rds.lit2 22 (h.kept hk) (g.kept hk)) (by rw [lsum_two]; omega))
  have e1 : decide (300000 < lsum bigN [x, y]) = false := by rw [lsum_two]; exact decide_eq_false (by omega)
  rw [e1] at HBB
  obtain ⟨ua, ucap, rfl, u1, u2, u3⟩ := h.len
  obtain ⟨va, vcap, rfl, v1, v2, v3⟩ := g.len
  obtain ⟨za, zcap, rfl, z1, z2, z3⟩ := r.len
  have HBL := Shut.mk (fun w1 (hk : Kept w w1) => big_any _ l _ (r.kept hk) hs)
  have e2 : decide (300000 < lsum bigN l) = true := decide_eq_true hm
  rw [e2] at HBL
  clear e1 e2 h g r hg z1 z2 z3 u1 u2 u3 v1 v2 v3 hs hm
  go_enter Try.func5, Try.ntmps5
  go_wp2_with fail
  refine (live_any _).mono ?_
  rintro e w0 ⟨rfl, hk0⟩
  go_wp2_with fail
  refine (HBB.out _ hk0).mono ?_
  rintro e w1 ⟨rfl, rfl⟩
  have hk1 := hk0.alloc (.cells #[Value.slice ua x.length ucap, Value.slice va y.length vcap] 22)
  clear HBB
  generalize w0.alloc (.cells #[Value.slice ua x.length ucap, Value.slice va y.length vcap] 22) = w1 at hk1 ⊢
  go_wp2_with fail
  refine (HBL.out _ hk1).mono ?_
  rintro e w1 ⟨rfl, rfl⟩
  go_wp2_with fail
  go_ret
  exact ⟨rfl, hk1⟩

set_option maxRecDepth 100000 in
set_option maxHeartbeats 4000000 in
theorem hides_ok_ok (v : Value) (x : List Int) (u : Value) (y : List Int) (z : Value) (l : List (List Int)) (w : World) (h : Rd w v x) (g : Rd w u y) (r : Rds w z l) (hg : (x.length : Int) + 1 + (y.length + 1) ≤ 300000) (hs : lsum bigN l ≤ 300000) (hm : l.length ≤ 100) (hx : (x.length : Int) < 65536) (hy : (y.length : Int) < 65536) :
    Calls Try.prog 5 #[v, u, z] w fun e w' => e = .returned (.bool true) ∧ Kept w w' := by
  have HX := Shut.mk h
  have HY := Shut.mk g
  have HZ := Shut.mk r
  have HBB := Shut.mk (fun w1 (hk : Kept w w1) => big_any _ [x, y] _ (Rds.lit2 22 (h.kept hk) (g.kept hk)) (by rw [lsum_two]; omega))
  have e1 : decide (300000 < lsum bigN [x, y]) = false := by rw [lsum_two]; exact decide_eq_false (by omega)
  rw [e1] at HBB
  obtain ⟨ua, ucap, rfl, u1, u2, u3⟩ := h.len
  obtain ⟨va, vcap, rfl, v1, v2, v3⟩ := g.len
  obtain ⟨za, zcap, rfl, z1, z2, z3⟩ := r.len
  have hgt : decide ((100 : Int) < (l.length : Int)) = false := by simp; omega
  have HBL := Shut.mk (fun w1 (hk : Kept w w1) => big_any _ l _ (r.kept hk) (by omega))
  have e2 : decide (300000 < lsum bigN l) = false := decide_eq_false (by omega)
  rw [e2] at HBL
  have HBX := Shut.mk (fun w1 => bucket_ok x.length w1 (by omega) hx)
  have HPX := Shut.mk (fun w1 (hr : Rd w1 (.slice ua x.length ucap) x) => pad_ok _ x w1 hr hx)
  have HLX := padS_length hx
  have HBY := Shut.mk (fun w1 => bucket_ok y.length w1 (by omega) hy)
  have HPY := Shut.mk (fun w1 (hr : Rd w1 (.slice va y.length vcap) y) => pad_ok _ y w1 hr hy)
  have HLY := padS_length hy
  have HSA := Shut.mk (sameB_one x)
  rw [decide_eq_true hx] at HSA
  have HS2 := Shut.mk (sameB_two_ok hx hy)
  rw [← HLX] at HBX
  rw [← HLY] at HBY
  clear e1 e2 h g r hg hs hm z1 z2 z3 u1 u2 u3 v1 v2 v3 hx hy HLX HLY
  go_enter Try.func5, Try.ntmps5
  go_wp2_with fail
  refine (live_any _).mono ?_
  rintro e w0 ⟨rfl, hk0⟩
  go_wp2_with fail
  refine (HBB.out _ hk0).mono ?_
  rintro e w1 ⟨rfl, rfl⟩
  have hk1 := hk0.alloc (.cells #[Value.slice ua x.length ucap, Value.slice va y.length vcap] 22)
  clear HBB
  generalize w0.alloc (.cells #[Value.slice ua x.length ucap, Value.slice va y.length vcap] 22) = w1 at hk1 ⊢
  go_wp2_with fail
  refine (HBL.out _ hk1).mono ?_
  rintro e w1 ⟨rfl, rfl⟩
  go_wp2_with fail
  refine (HBX.out _).mono ?_
  rintro e w1 ⟨rfl, rfl⟩
  go_wp2_with fail
  refine (HBY.out _).mono ?_
  rintro e w1 ⟨rfl, rfl⟩
  go_wp2_with fail
  refine (HPX.out _ (HX.out.kept hk1)).mono ?_
  rintro e w2 ⟨v2, rfl, ho2, hk2⟩
  have hk12 := hk1.trans hk2
  obtain ⟨a2, c2, rfl, p1, p2, p3⟩ := ho2.rd.len
  clear ho2 p1 p2 p3
  go_wp2_with fail
  refine (HPY.out _ (HY.out.kept hk12)).mono ?_
  rintro e w3 ⟨v3, rfl, ho3, hk3⟩
  have hk13 := hk12.trans hk3
  obtain ⟨a3, c3, rfl, p1, p2, p3⟩ := ho3.rd.len
  clear ho3 p1 p2 p3
  clear HBX HBY HPX HPY HBL
  generalize (padS x).length = px at *
  generalize (padS y).length = py at *
  by_cases hpe : px = py
  · subst hpe
    rw [decide_eq_true rfl] at HS2
    go_wp2_with fail
    with_reducible refine (same_any _ [x, y] _ (Rds.lit2 22 (HX.out.kept hk13) (HY.out.kept hk13))).mono ?_
    rintro e w4 ⟨rfl, rfl⟩
    have hk14 := hk13.alloc (.cells #[Value.slice ua x.length ucap, Value.slice va y.length vcap] 22)
    generalize World.alloc _ (.cells #[Value.slice ua x.length ucap, Value.slice va y.length vcap] 22) = w5 at hk14 ⊢
    rw [HS2.out]
    go_wp2_with fail
    refine (same_any _ l _ (HZ.out.kept hk14)).mono ?_
    rintro e w4 ⟨rfl, rfl⟩
    go_wp2_with fail
    refine (rsame_any _ l _ (HZ.out.kept hk14)).mono ?_
    rintro e w4 ⟨rfl, rfl⟩
    generalize sameB l = bl at *
    go_wp2_with fail
    with_reducible refine (same_any _ [x] _ (Rds.lit1 22 (HX.out.kept hk14))).mono ?_
    rintro e w4 ⟨rfl, rfl⟩
    have hk15 := hk14.alloc (.cells #[Value.slice ua x.length ucap] 22)
    rw [HSA.out]
    go_wp2_with fail
    refine (same_any _ [] _ (Rds.nil _)).mono ?_
    rintro e w4 ⟨rfl, rfl⟩
    rw [sameB_nil]
    go_wp2_with fail
    go_ret
    exact ⟨rfl, hk15⟩
  · rw [decide_eq_false hpe] at HS2
    have hpi : ((px : Int) == (py : Int)) = false := by rw [beq_eq_false_iff_ne]; omega
    clear hpe
    go_wp2_with fail
    with_reducible refine (same_any _ [x, y] _ (Rds.lit2 22 (HX.out.kept hk13) (HY.out.kept hk13))).mono ?_
    rintro e w4 ⟨rfl, rfl⟩
    have hk14 := hk13.alloc (.cells #[Value.slice ua x.length ucap, Value.slice va y.length vcap] 22)
    generalize World.alloc _ (.cells #[Value.slice ua x.length ucap, Value.slice va y.length vcap] 22) = w5 at hk14 ⊢
    rw [HS2.out]
    go_wp2_with fail
    refine (same_any _ l _ (HZ.out.kept hk14)).mono ?_
    rintro e w4 ⟨rfl, rfl⟩
    go_wp2_with fail
    refine (rsame_any _ l _ (HZ.out.kept hk14)).mono ?_
    rintro e w4 ⟨rfl, rfl⟩
    generalize sameB l = bl at *
    go_wp2_with fail
    with_reducible refine (same_any _ [x] _ (Rds.lit1 22 (HX.out.kept hk14))).mono ?_
    rintro e w4 ⟨rfl, rfl⟩
    have hk15 := hk14.alloc (.cells #[Value.slice ua x.length ucap] 22)
    rw [HSA.out]
    go_wp2_with fail
    refine (same_any _ [] _ (Rds.nil _)).mono ?_
    rintro e w4 ⟨rfl, rfl⟩
    rw [sameB_nil]
    go_wp2_with fail
    go_ret
    exact ⟨rfl, hk15⟩

set_option maxRecDepth 100000 in
set_option maxHeartbeats 4000000 in
theorem hides_ok_bad (v : Value) (x : List Int) (u : Value) (y : List Int) (z : Value) (l : List (List Int)) (w : World) (h : Rd w v x) (g : Rd w u y) (r : Rds w z l) (hg : (x.length : Int) + 1 + (y.length + 1) ≤ 300000) (hs : lsum bigN l ≤ 300000) (hm : l.length ≤ 100) (hx : (x.length : Int) < 65536) (hy : 65536 ≤ (y.length : Int)) :
    Calls Try.prog 5 #[v, u, z] w fun e w' => e = .returned (.bool true) ∧ Kept w w' := by
  have HX := Shut.mk h
  have HY := Shut.mk g
  have HZ := Shut.mk r
  have HBB := Shut.mk (fun w1 (hk : Kept w w1) => big_any _ [x, y] _ (Rds.lit2 22 (h.kept hk) (g.kept hk)) (by rw [lsum_two]; omega))
  have e1 : decide (300000 < lsum bigN [x, y]) = false := by rw [lsum_two]; exact decide_eq_false (by omega)
  rw [e1] at HBB
  obtain ⟨ua, ucap, rfl, u1, u2, u3⟩ := h.len
  obtain ⟨va, vcap, rfl, v1, v2, v3⟩ := g.len
  obtain ⟨za, zcap, rfl, z1, z2, z3⟩ := r.len
  have hgt : decide ((100 : Int) < (l.length : Int)) = false := by simp; omega
  have HBL := Shut.mk (fun w1 (hk : Kept w w1) => big_any _ l _ (r.kept hk) (by omega))
  have e2 : decide (300000 < lsum bigN l) = false := decide_eq_false (by omega)
  rw [e2] at HBL
  have HBX := Shut.mk (fun w1 => bucket_ok x.length w1 (by omega) hx)
  have HPX := Shut.mk (fun w1 (hr : Rd w1 (.slice ua x.length ucap) x) => pad_ok _ x w1 hr hx)
  have HLX := padS_length hx
  have HBY := Shut.mk (fun w1 => bucket_big y.length w1 hy)
  have HPY := Shut.mk (fun w1 (hr : Rd w1 (.slice va y.length vcap) y) => pad_bad _ y w1 hr hy)
  have HSA := Shut.mk (sameB_one x)
  rw [decide_eq_true hx] at HSA
  have HS2 := Shut.mk (sameB_two_2 (x := x) hy)
  rw [← HLX] at HBX
  clear e1 e2 h g r hg hs hm z1 z2 z3 u1 u2 u3 v1 v2 v3 hx hy HLX
  go_enter Try.func5, Try.ntmps5
  go_wp2_with fail
  refine (live_any _).mono ?_
  rintro e w0 ⟨rfl, hk0⟩
  go_wp2_with fail
  refine (HBB.out _ hk0).mono ?_
  rintro e w1 ⟨rfl, rfl⟩
  have hk1 := hk0.alloc (.cells #[Value.slice ua x.length ucap, Value.slice va y.length vcap] 22)
  clear HBB
  generalize w0.alloc (.cells #[Value.slice ua x.length ucap, Value.slice va y.length vcap] 22) = w1 at hk1 ⊢
  go_wp2_with fail
  refine (HBL.out _ hk1).mono ?_
  rintro e w1 ⟨rfl, rfl⟩
  go_wp2_with fail
  refine (HBX.out _).mono ?_
  rintro e w1 ⟨rfl, rfl⟩
  go_wp2_with fail
  refine (HBY.out _).mono ?_
  rintro e w1 ⟨rfl, rfl⟩
  go_wp2_with fail
  refine (HPX.out _ (HX.out.kept hk1)).mono ?_
  rintro e w2 ⟨v2, rfl, ho2, hk2⟩
  have hk12 := hk1.trans hk2
  obtain ⟨a2, c2, rfl, p1, p2, p3⟩ := ho2.rd.len
  clear ho2 p1 p2 p3
  go_wp2_with fail
  refine (HPY.out _ (HY.out.kept hk12)).mono ?_
  rintro e w1 ⟨rfl, rfl⟩
  clear HBX HBY HPX HPY HBL
  generalize (padS x).length = px at *
  go_wp2_with fail
  with_reducible refine (same_any _ [x, y] _ (Rds.lit2 22 (HX.out.kept hk12) (HY.out.kept hk12))).mono ?_
  rintro e w4 ⟨rfl, rfl⟩
  have hk14 := hk12.alloc (.cells #[Value.slice ua x.length ucap, Value.slice va y.length vcap] 22)
  generalize World.alloc _ (.cells #[Value.slice ua x.length ucap, Value.slice va y.length vcap] 22) = w5 at hk14 ⊢
  rw [HS2.out]
  go_wp2_with fail
  refine (same_any _ l _ (HZ.out.kept hk14)).mono ?_
  rintro e w4 ⟨rfl, rfl⟩
  go_wp2_with fail
  refine (rsame_any _ l _ (HZ.out.kept hk14)).mono ?_
  rintro e w4 ⟨rfl, rfl⟩
  generalize sameB l = bl at *
  go_wp2_with fail
  with_reducible refine (same_any _ [x] _ (Rds.lit1 22 (HX.out.kept hk14))).mono ?_
  rintro e w4 ⟨rfl, rfl⟩
  have hk15 := hk14.alloc (.cells #[Value.slice ua x.length ucap] 22)
  rw [HSA.out]
  go_wp2_with fail
  refine (same_any _ [] _ (Rds.nil _)).mono ?_
  rintro e w4 ⟨rfl, rfl⟩
  rw [sameB_nil]
  go_wp2_with fail
  go_ret
  exact ⟨rfl, hk15⟩

set_option maxRecDepth 100000 in
set_option maxHeartbeats 4000000 in
theorem hides_bad_ok (v : Value) (x : List Int) (u : Value) (y : List Int) (z : Value) (l : List (List Int)) (w : World) (h : Rd w v x) (g : Rd w u y) (r : Rds w z l) (hg : (x.length : Int) + 1 + (y.length + 1) ≤ 300000) (hs : lsum bigN l ≤ 300000) (hm : l.length ≤ 100) (hx : 65536 ≤ (x.length : Int)) (hy : (y.length : Int) < 65536) :
    Calls Try.prog 5 #[v, u, z] w fun e w' => e = .returned (.bool true) ∧ Kept w w' := by
  have HX := Shut.mk h
  have HY := Shut.mk g
  have HZ := Shut.mk r
  have HBB := Shut.mk (fun w1 (hk : Kept w w1) => big_any _ [x, y] _ (Rds.lit2 22 (h.kept hk) (g.kept hk)) (by rw [lsum_two]; omega))
  have e1 : decide (300000 < lsum bigN [x, y]) = false := by rw [lsum_two]; exact decide_eq_false (by omega)
  rw [e1] at HBB
  obtain ⟨ua, ucap, rfl, u1, u2, u3⟩ := h.len
  obtain ⟨va, vcap, rfl, v1, v2, v3⟩ := g.len
  obtain ⟨za, zcap, rfl, z1, z2, z3⟩ := r.len
  have hgt : decide ((100 : Int) < (l.length : Int)) = false := by simp; omega
  have HBL := Shut.mk (fun w1 (hk : Kept w w1) => big_any _ l _ (r.kept hk) (by omega))
  have e2 : decide (300000 < lsum bigN l) = false := decide_eq_false (by omega)
  rw [e2] at HBL
  have HBX := Shut.mk (fun w1 => bucket_big x.length w1 hx)
  have HPX := Shut.mk (fun w1 (hr : Rd w1 (.slice ua x.length ucap) x) => pad_bad _ x w1 hr hx)
  have HBY := Shut.mk (fun w1 => bucket_ok y.length w1 (by omega) hy)
  have HPY := Shut.mk (fun w1 (hr : Rd w1 (.slice va y.length vcap) y) => pad_ok _ y w1 hr hy)
  have HLY := padS_length hy
  have HSA := Shut.mk (sameB_one x)
  rw [decide_eq_false (show ¬ (x.length : Int) < 65536 by omega)] at HSA
  have HS2 := Shut.mk (sameB_two_1 (y := y) hx)
  rw [← HLY] at HBY
  clear e1 e2 h g r hg hs hm z1 z2 z3 u1 u2 u3 v1 v2 v3 hx hy HLY
  go_enter Try.func5, Try.ntmps5
  go_wp2_with fail
  refine (live_any _).mono ?_
  rintro e w0 ⟨rfl, hk0⟩
  go_wp2_with fail
  refine (HBB.out _ hk0).mono ?_
  rintro e w1 ⟨rfl, rfl⟩
  have hk1 := hk0.alloc (.cells #[Value.slice ua x.length ucap, Value.slice va y.length vcap] 22)
  clear HBB
  generalize w0.alloc (.cells #[Value.slice ua x.length ucap, Value.slice va y.length vcap] 22) = w1 at hk1 ⊢
  go_wp2_with fail
  refine (HBL.out _ hk1).mono ?_
  rintro e w1 ⟨rfl, rfl⟩
  go_wp2_with fail
  refine (HBX.out _).mono ?_
  rintro e w1 ⟨rfl, rfl⟩
  go_wp2_with fail
  refine (HBY.out _).mono ?_
  rintro e w1 ⟨rfl, rfl⟩
  go_wp2_with fail
  refine (HPX.out _ (HX.out.kept hk1)).mono ?_
  rintro e w1 ⟨rfl, rfl⟩
  go_wp2_with fail
  refine (HPY.out _ (HY.out.kept hk1)).mono ?_
  rintro e w3 ⟨v3, rfl, ho3, hk3⟩
  have hk13 := hk1.trans hk3
  obtain ⟨a3, c3, rfl, p1, p2, p3⟩ := ho3.rd.len
  clear ho3 p1 p2 p3
  clear HBX HBY HPX HPY HBL
  generalize (padS y).length = py at *
  go_wp2_with fail
  with_reducible refine (same_any _ [x, y] _ (Rds.lit2 22 (HX.out.kept hk13) (HY.out.kept hk13))).mono ?_
  rintro e w4 ⟨rfl, rfl⟩
  have hk14 := hk13.alloc (.cells #[Value.slice ua x.length ucap, Value.slice va y.length vcap] 22)
  generalize World.alloc _ (.cells #[Value.slice ua x.length ucap, Value.slice va y.length vcap] 22) = w5 at hk14 ⊢
  rw [HS2.out]
  go_wp2_with fail
  refine (same_any _ l _ (HZ.out.kept hk14)).mono ?_
  rintro e w4 ⟨rfl, rfl⟩
  go_wp2_with fail
  refine (rsame_any _ l _ (HZ.out.kept hk14)).mono ?_
  rintro e w4 ⟨rfl, rfl⟩
  generalize sameB l = bl at *
  go_wp2_with fail
  with_reducible refine (same_any _ [x] _ (Rds.lit1 22 (HX.out.kept hk14))).mono ?_
  rintro e w4 ⟨rfl, rfl⟩
  have hk15 := hk14.alloc (.cells #[Value.slice ua x.length ucap] 22)
  rw [HSA.out]
  go_wp2_with fail
  refine (same_any _ [] _ (Rds.nil _)).mono ?_
  rintro e w4 ⟨rfl, rfl⟩
  rw [sameB_nil]
  go_wp2_with fail
  go_ret
  exact ⟨rfl, hk15⟩

set_option maxRecDepth 100000 in
set_option maxHeartbeats 4000000 in
theorem hides_bad_bad (v : Value) (x : List Int) (u : Value) (y : List Int) (z : Value) (l : List (List Int)) (w : World) (h : Rd w v x) (g : Rd w u y) (r : Rds w z l) (hg : (x.length : Int) + 1 + (y.length + 1) ≤ 300000) (hs : lsum bigN l ≤ 300000) (hm : l.length ≤ 100) (hx : 65536 ≤ (x.length : Int)) (hy : 65536 ≤ (y.length : Int)) :
    Calls Try.prog 5 #[v, u, z] w fun e w' => e = .returned (.bool true) ∧ Kept w w' := by
  have HX := Shut.mk h
  have HY := Shut.mk g
  have HZ := Shut.mk r
  have HBB := Shut.mk (fun w1 (hk : Kept w w1) => big_any _ [x, y] _ (Rds.lit2 22 (h.kept hk) (g.kept hk)) (by rw [lsum_two]; omega))
  have e1 : decide (300000 < lsum bigN [x, y]) = false := by rw [lsum_two]; exact decide_eq_false (by omega)
  rw [e1] at HBB
  obtain ⟨ua, ucap, rfl, u1, u2, u3⟩ := h.len
  obtain ⟨va, vcap, rfl, v1, v2, v3⟩ := g.len
  obtain ⟨za, zcap, rfl, z1, z2, z3⟩ := r.len
  have hgt : decide ((100 : Int) < (l.length : Int)) = false := by simp; omega
  have HBL := Shut.mk (fun w1 (hk : Kept w w1) => big_any _ l _ (r.kept hk) (by omega))
  have e2 : decide (300000 < lsum bigN l) = false := decide_eq_false (by omega)
  rw [e2] at HBL
  have HBX := Shut.mk (fun w1 => bucket_big x.length w1 hx)
  have HPX := Shut.mk (fun w1 (hr : Rd w1 (.slice ua x.length ucap) x) => pad_bad _ x w1 hr hx)
  have HBY := Shut.mk (fun w1 => bucket_big y.length w1 hy)
  have HPY := Shut.mk (fun w1 (hr : Rd w1 (.slice va y.length vcap) y) => pad_bad _ y w1 hr hy)
  have HSA := Shut.mk (sameB_one x)
  rw [decide_eq_false (show ¬ (x.length : Int) < 65536 by omega)] at HSA
  have HS2 := Shut.mk (sameB_two_1 (y := y) hx)
  clear e1 e2 h g r hg hs hm z1 z2 z3 u1 u2 u3 v1 v2 v3 hx hy
  go_enter Try.func5, Try.ntmps5
  go_wp2_with fail
  refine (live_any _).mono ?_
  rintro e w0 ⟨rfl, hk0⟩
  go_wp2_with fail
  refine (HBB.out _ hk0).mono ?_
  rintro e w1 ⟨rfl, rfl⟩
  have hk1 := hk0.alloc (.cells #[Value.slice ua x.length ucap, Value.slice va y.length vcap] 22)
  clear HBB
  generalize w0.alloc (.cells #[Value.slice ua x.length ucap, Value.slice va y.length vcap] 22) = w1 at hk1 ⊢
  go_wp2_with fail
  refine (HBL.out _ hk1).mono ?_
  rintro e w1 ⟨rfl, rfl⟩
  go_wp2_with fail
  refine (HBX.out _).mono ?_
  rintro e w1 ⟨rfl, rfl⟩
  go_wp2_with fail
  refine (HBY.out _).mono ?_
  rintro e w1 ⟨rfl, rfl⟩
  go_wp2_with fail
  refine (HPX.out _ (HX.out.kept hk1)).mono ?_
  rintro e w1 ⟨rfl, rfl⟩
  go_wp2_with fail
  refine (HPY.out _ (HY.out.kept hk1)).mono ?_
  rintro e w1 ⟨rfl, rfl⟩
  clear HBX HBY HPX HPY HBL
  go_wp2_with fail
  with_reducible refine (same_any _ [x, y] _ (Rds.lit2 22 (HX.out.kept hk1) (HY.out.kept hk1))).mono ?_
  rintro e w4 ⟨rfl, rfl⟩
  have hk14 := hk1.alloc (.cells #[Value.slice ua x.length ucap, Value.slice va y.length vcap] 22)
  generalize World.alloc _ (.cells #[Value.slice ua x.length ucap, Value.slice va y.length vcap] 22) = w5 at hk14 ⊢
  rw [HS2.out]
  go_wp2_with fail
  refine (same_any _ l _ (HZ.out.kept hk14)).mono ?_
  rintro e w4 ⟨rfl, rfl⟩
  go_wp2_with fail
  refine (rsame_any _ l _ (HZ.out.kept hk14)).mono ?_
  rintro e w4 ⟨rfl, rfl⟩
  generalize sameB l = bl at *
  go_wp2_with fail
  with_reducible refine (same_any _ [x] _ (Rds.lit1 22 (HX.out.kept hk14))).mono ?_
  rintro e w4 ⟨rfl, rfl⟩
  have hk15 := hk14.alloc (.cells #[Value.slice ua x.length ucap] 22)
  rw [HSA.out]
  go_wp2_with fail
  refine (same_any _ [] _ (Rds.nil _)).mono ?_
  rintro e w4 ⟨rfl, rfl⟩
  rw [sameB_nil]
  go_wp2_with fail
  go_ret
  exact ⟨rfl, hk15⟩

theorem hides_walk {W : World} (v : Value) (x : List Int) (h : Rd W v x) (_ : By x) (u : Value) (y : List Int) (g : Rd W u y) (_ : By y) (z : Value) (l : List (List Int)) (r : Rds W z l) (_ : ∀ i, i < l.length → By (l.getD i []))
    (hx : x.length ≤ 140737488351232) (hy : y.length ≤ 140737488351232) (hl : ∀ i, i < l.length → ((l.getD i []).length : Int) ≤ 140737488355328) (w : World) (hw : W = w) :
    Calls Try.prog 5 #[v, u, z] w fun e w' => e = .returned (.bool true) ∧ Kept w w' := by
  subst hw
  by_cases c1 : 300000 < (x.length : Int) + 1 + (y.length + 1)
  · exact hides_big v x u y z l W h g r (by omega) (by omega) c1
  by_cases c2 : 100 < l.length
  · exact hides_many v x u y z l W h g r (by omega) c2
  have hs := lsum_bound (m := 100) (by omega) hl
  by_cases c3 : 300000 < lsum bigN l
  · exact hides_bigl v x u y z l W h g r (by omega) (by omega) c3
  by_cases c4 : (x.length : Int) < 65536
  · by_cases c5 : (y.length : Int) < 65536
    · exact hides_ok_ok v x u y z l W h g r (by omega) (by omega) (by omega) c4 c5
    · exact hides_ok_bad v x u y z l W h g r (by omega) (by omega) (by omega) c4 (by omega)
  · by_cases c5 : (y.length : Int) < 65536
    · exact hides_bad_ok v x u y z l W h g r (by omega) (by omega) (by omega) (by omega) c5
    · exact hides_bad_bad v x u y z l W h g r (by omega) (by omega) (by omega) (by omega) (by omega)
end Go.Proofs.Ytgdpdjofhidllaa

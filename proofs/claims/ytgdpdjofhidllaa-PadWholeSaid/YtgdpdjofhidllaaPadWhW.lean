/- The walk of the statement on whole texts. -/
import Derived.Test.YtgdpdjofhidllaaPadFiW
set_option linter.unusedSimpArgs false
set_option linter.unusedVariables false
namespace Go.Proofs.Ytgdpdjofhidllaa
open Go.RowKit

theorem meas_step {k n : Nat} (h : k + 1 ≤ n) : n - (intOf (.int .i64 ((k : Int) + 1))).toNat < n - (intOf (.int .i64 (k : Int))).toNat := by
  simp [intOf]; omega

theorem lsum_two (x y : List Int) : lsum bigN [x, y] = x.length + 1 + (y.length + 1) := by simp [lsum, bigN]
theorem Rds.lit2 {w : World} (e : TypeId) {v u : Value} {x y : List Int} (h : Rd w v x) (k : Rd w u y) : Rds (w.alloc (.cells #[v, u] e)) (.slice (some ⟨w.heap.size, 0, none⟩) 2 2) [x, y] :=
  Rds.lit e [v, u] [x, y] rfl (by simp) (fun i hi => by
    rcases i with _ | _ | i
    · exact h
    · exact k
    · simp at hi; omega)

set_option maxRecDepth 100000 in
set_option maxHeartbeats 2000000 in
theorem whole_big (v : Value) (x : List Int) (u : Value) (y : List Int) (w : World) (h : Rd w v x) (g : Rd w u y) (hx : (x.length : Int) ≤ 140737488351232) (hy : (y.length : Int) ≤ 140737488351232) (hg : 300000 < (x.length : Int) + 1 + (y.length + 1)) :
    Calls Try.prog 6 #[v, u] w fun e w' => e = .returned (.bool true) ∧ Kept w w' := by
  have HBB := Shut.mk (fun w1 (hk : Kept w w1) => big_any _ [x, y] _ (Rds.lit2 22 (h.kept hk) (g.kept hk)) (by rw [lsum_two]; omega))
  have e1 : decide (300000 < lsum bigN [x, y]) = true := by rw [lsum_two]; exact decide_eq_true hg
  rw [e1] at HBB
  obtain ⟨ua, ucap, rfl, u1, u2, u3⟩ := h.len
  obtain ⟨va, vcap, rfl, v1, v2, v3⟩ := g.len
  clear e1 h g hx hy hg
  go_enter Try.func6, Try.ntmps6
  go_wp2_with fail
  refine (live_any _).mono ?_
  rintro e w0 ⟨rfl, hk0⟩
  go_wp2_with fail
  refine (HBB.out _ hk0).mono ?_
  rintro e w1 ⟨rfl, rfl⟩
  have hk1 := hk0.alloc (.cells #[Value.slice ua x.length ucap, Value.slice va y.length vcap] 22)
  clear HBB
  go_wp2_with fail
  go_ret
  exact ⟨rfl, hk1⟩

set_option maxRecDepth 100000 in
set_option maxHeartbeats 2000000 in
theorem whole_bad (v : Value) (x : List Int) (u : Value) (y : List Int) (w : World) (h : Rd w v x) (g : Rd w u y) (hg : (x.length : Int) + 1 + (y.length + 1) ≤ 300000) (hb : (padE x).2 ≠ 0 ∨ ((padE x).2 = 0 ∧ (padE y).2 ≠ 0)) :
    Calls Try.prog 6 #[v, u] w fun e w' => e = .returned (.bool true) ∧ Kept w w' := by
  have HX := Shut.mk h
  have HY := Shut.mk g
  have HBB := Shut.mk (fun w1 (hk : Kept w w1) => big_any _ [x, y] _ (Rds.lit2 22 (h.kept hk) (g.kept hk)) (by rw [lsum_two]; omega))
  have e1 : decide (300000 < lsum bigN [x, y]) = false := by rw [lsum_two]; exact decide_eq_false (by omega)
  rw [e1] at HBB
  obtain ⟨ua, ucap, rfl, u1, u2, u3⟩ := h.len
  obtain ⟨va, vcap, rfl, v1, v2, v3⟩ := g.len
  have hb' := Shut.mk hb
  clear e1 h g hg hb
  go_enter Try.func6, Try.ntmps6
  go_wp2_with fail
  refine (live_any _).mono ?_
  rintro e w0 ⟨rfl, hk0⟩
  go_wp2_with fail
  refine (HBB.out _ hk0).mono ?_
  rintro e w1 ⟨rfl, rfl⟩
  have hk1 := hk0.alloc (.cells #[Value.slice ua x.length ucap, Value.slice va y.length vcap] 22)
  clear HBB
  go_wp2_with fail
  refine (padE_any _ x _ (HX.out.kept hk1)).mono ?_
  rintro e w2 ⟨v2, rfl, hr2, hk2⟩
  have hk12 := hk1.trans hk2
  go_wp2_with fail
  refine (padE_any _ y _ (HY.out.kept hk12)).mono ?_
  rintro e w3 ⟨v3, rfl, hr3, hk3⟩
  have hk13 := hk12.trans hk3
  clear hr2 hr3
  generalize (padE x).2 = ex at *
  generalize (padE y).2 = ey at *
  rcases hb'.out with q | ⟨q, q2⟩
  · have hq : (ex != 0) = true := by rw [bne_iff_ne]; exact q
    clear q
    go_wp2_with fail
    go_ret
    exact ⟨rfl, hk13⟩
  · have hq : (ex != 0) = false := by rw [bne_eq_false_iff_eq]; exact q
    have hq2 : (ey != 0) = true := by rw [bne_iff_ne]; exact q2
    clear q q2
    go_wp2_with fail
    go_ret
    exact ⟨rfl, hk13⟩

theorem beq_same {a b c d : List Int} (ha : By a) (hb : By b) (hc : By c) (hd : By d) (h : a = b ↔ c = d) : ((strOfNums a).toList == (strOfNums b).toList) = ((strOfNums c).toList == (strOfNums d).toList) := by
  have t : ∀ {p q : List Int}, By p → By q → ((strOfNums p).toList == (strOfNums q).toList) = decide (p = q) := fun {p q} hp hq => by
    rw [strOf_toList, strOf_toList]
    by_cases e : p = q
    · subst e; simp
    · rw [decide_eq_false e, beq_eq_false_iff_ne]
      exact fun e' => e (map_inj hp hq e')
  rw [t ha hb, t hc hd]
  exact decide_eq_decide.2 h

set_option maxRecDepth 100000 in
set_option maxHeartbeats 2000000 in
theorem whole_ok (v : Value) (x : List Int) (u : Value) (y : List Int) (w : World) (h : Rd w v x) (g : Rd w u y) (bx : By x) (by' : By y) (hx : (x.length : Int) < 65536) (hy : (y.length : Int) < 65536) :
    Calls Try.prog 6 #[v, u] w fun e w' => e = .returned (.bool true) ∧ Kept w w' := by
  have HX := Shut.mk h
  have HY := Shut.mk g
  have HBB := Shut.mk (fun w1 (hk : Kept w w1) => big_any _ [x, y] _ (Rds.lit2 22 (h.kept hk) (g.kept hk)) (by rw [lsum_two]; omega))
  have e1 : decide (300000 < lsum bigN [x, y]) = false := by rw [lsum_two]; exact decide_eq_false (by omega)
  rw [e1] at HBB
  obtain ⟨ua, ucap, rfl, u1, u2, u3⟩ := h.len
  obtain ⟨va, vcap, rfl, v1, v2, v3⟩ := g.len
  have HPX := Shut.mk (fun w1 (hr : Rd w1 (.slice ua x.length ucap) x) => pad_ok _ x w1 hr hx)
  have HPY := Shut.mk (fun w1 (hr : Rd w1 (.slice va y.length vcap) y) => pad_ok _ y w1 hr hy)
  have HQ := Shut.mk (beq_same (padS_by bx) (padS_by by') bx by' ⟨fun e => padS_inj hx hy e, fun e => by rw [e]⟩)
  have hlx := padS_length hx
  have hgx := bk_gt hx
  have hlt : x.length < (padS x).length := by omega
  have HLL := Shut.mk (show (padS x).length ≤ 65536 by have := bk_le x.length; omega)
  have HTK := Shut.mk (show (padS x).take x.length = x by unfold padS; simp)
  have HMK := Shut.mk (show (padS x).getD x.length 0 = 128 by unfold padS; simp [List.getD])
  have HZR := Shut.mk (show ∀ i, i < (padS x).length - (x.length + 1) → ((padS x).drop (x.length + 1)).getD i 0 = 0 from fun i hi => by
    unfold padS
    have e2 : (x ++ 128 :: List.replicate ((bk x.length).toNat - x.length - 1) (0 : Int)).drop (x.length + 1) = List.replicate ((bk x.length).toNat - x.length - 1) 0 := by
      rw [List.drop_append]; simp
    rw [e2]; simp [List.getD, List.getElem?_replicate]; split <;> rfl)
  clear e1 h g hx hy bx by' hlx hgx
  go_enter Try.func6, Try.ntmps6
  go_wp2_with fail
  refine (live_any _).mono ?_
  rintro e w0 ⟨rfl, hk0⟩
  go_wp2_with fail
  refine (HBB.out _ hk0).mono ?_
  rintro e w1 ⟨rfl, rfl⟩
  have hk1 := hk0.alloc (.cells #[Value.slice ua x.length ucap, Value.slice va y.length vcap] 22)
  clear HBB
  go_wp2_with fail
  refine (HPX.out _ (HX.out.kept hk1)).mono ?_
  rintro e w2 ⟨v2, rfl, ho2, hk2⟩
  have hk12 := hk1.trans hk2
  go_wp2_with fail
  refine (HPY.out _ (HY.out.kept hk12)).mono ?_
  rintro e w3 ⟨v3, rfl, ho3, hk3⟩
  have hk13 := hk12.trans hk3
  have hr2 := ho2.rd.kept hk3
  have hs2 := strs hr2
  have hs3 := strs ho3.rd
  have hsx := strs (HX.out.kept hk13)
  have hsy := strs (HY.out.kept hk13)
  have HR2 := Shut.mk hr2
  obtain ⟨b2, off2, c2, rfl, hc2, hm2, hbw2, hcell2⟩ := hr2.addr (by omega)
  have HC2 := Shut.mk hcell2; clear hcell2
  have hmk := HC2.out x.length hlt
  rw [HMK.out] at hmk
  have hcut := hr2.cut (lo := 0) (hi := x.length) (Nat.zero_le _) (by omega)
  rw [HTK.out] at hcut
  unfold sliced at hcut
  rw [if_neg (by omega)] at hcut
  simp only [Option.map_some, Nat.zero_mul, Addr.add_lit, Nat.add_zero, Nat.sub_zero, List.drop_zero] at hcut
  have hsc := strs hcut
  clear hcut
  clear ho2 ho3 hr2 HPX HPY
  obtain ⟨px, hpx⟩ : ∃ px, (padS x).length = px := ⟨_, rfl⟩
  rw [hpx] at hlt hc2 HC2 HR2 hs2 HLL HZR
  rw [hpx]
  have HPX2 := Shut.mk hpx; clear hpx
  have hq := HQ.out
  generalize strOfNums (padS x) = sx at *
  generalize strOfNums (padS y) = sy at *
  generalize strOfNums x = rx at *
  generalize strOfNums y = ry at *
  have hm3 := Shut.mk hm2; clear hm2
  have hxc : x.length ≤ c2 := by omega
  have hxp : x.length ≤ px := by omega
  have hw : wrap64 ((x.length : Int) + 1) = x.length + 1 := IntWalk.wrap64_in _ ⟨by omega, by have := HLL.out; omega⟩
  obtain ⟨n7, hn7⟩ : ∃ n7, px - (x.length + 1) = n7 := ⟨_, rfl⟩
  rw [hn7] at HZR
  have HPL := Shut.mk (show ((padS x).drop (x.length + 1)).length = n7 by rw [List.length_drop, HPX2.out, hn7])
  have HN7 := Shut.mk (show n7 ≤ 65536 by have := HLL.out; omega)
  clear hn7
  go_wp2_with fail
  go_quiet (fail)
  by_cases hz : 0 < n7
  · go_wp2_with ((with_reducible refine go_cut_l (.slice (some ⟨b2, off2, none⟩) px c2) (padS x) ?_ (HR2.out.kept ((Kept.refl w3).drewN _)) (wrap64 ((x.length : Int) + 1)) ?_ ?_ ?_ ?_); rfl; rfl; (rw [hw]; omega); (rw [hw, HPX2.out]; omega); intro v7 hv7; rw [hw, show ((x.length : Int) + 1).toNat = x.length + 1 by omega] at hv7; obtain ⟨b7, o7, c7, rfl, hc7, hm7, hb7, hcell7⟩ := hv7.addr (by rw [HPL.out]; exact hz); rw [HPL.out] at hcell7 ⊢; have HC7 := Shut.mk hcell7; clear hv7 hc7 hm7 hb7 hcell7)
    go_loop [64] (fun i => ∃ k : Nat, k ≤ n7 ∧ i = .int .i64 k) (fun i => n7 - (intOf i).toNat)
    case atStart => exact ⟨0, Nat.zero_le _, rfl⟩
    case round =>
      obtain ⟨k, hk, rfl⟩ := hrel
      by_cases hlk : k < n7
      · have c7k := HC7.out k hlk
        rw [HZR.out k hlk] at c7k
        have HK := Shut.mk (show k + 1 ≤ n7 by omega)
        have hw2 : wrap64 ((k : Int) + 1) = k + 1 := IntWalk.wrap64_in _ ⟨by omega, by have := HN7.out; omega⟩
        go_wp2_with fail
        go_round
        case rel => exact ⟨k + 1, HK.out, by rw [hw2]; exact congrArg (Value.int .i64) (by omega)⟩
        case measure => rw [hw2]; exact meas_step HK.out
      · obtain rfl : k = n7 := by omega
        go_wp2_with fail
        go_ret
        exact ⟨rfl, hk13.drewN _⟩
  · obtain rfl : n7 = 0 := by omega
    go_wp2_with ((with_reducible refine go_cut_l (.slice (some ⟨b2, off2, none⟩) px c2) (padS x) ?_ (HR2.out.kept ((Kept.refl w3).drewN _)) (wrap64 ((x.length : Int) + 1)) ?_ ?_ ?_ ?_); rfl; rfl; (rw [hw]; omega); (rw [hw, HPX2.out]; omega); intro v7 hv7; rw [hw, show ((x.length : Int) + 1).toNat = x.length + 1 by omega] at hv7; obtain ⟨a7, c7, rfl, hc7, hm7, hn7⟩ := hv7.len; rw [HPL.out]; clear hv7 hc7 hm7 hn7)
    refine wp_loop_rounds 1 ?_
    rw [rounds_succ]
    go_wp2_with fail
    go_ret
    exact ⟨rfl, hk13.drewN _⟩

theorem whole_walk {W : World} (v : Value) (x : List Int) (h : Rd W v x) (bx : By x) (u : Value) (y : List Int) (g : Rd W u y) (by' : By y) (hx : x.length ≤ 140737488351232) (hy : y.length ≤ 140737488351232) (w : World) (hw : W = w) :
    Calls Try.prog 6 #[v, u] w fun e w' => e = .returned (.bool true) ∧ Kept w w' := by
  subst hw
  by_cases c1 : 300000 < (x.length : Int) + 1 + (y.length + 1)
  · exact whole_big v x u y W h g (by omega) (by omega) c1
  by_cases c2 : (x.length : Int) < 65536
  · by_cases c3 : (y.length : Int) < 65536
    · exact whole_ok v x u y W h g bx by' c2 c3
    · exact whole_bad v x u y W h g (by omega) (.inr ⟨by unfold padE; rw [if_pos c2], by unfold padE; rw [if_neg c3]; decide⟩)
  · exact whole_bad v x u y W h g (by omega) (.inl (by unfold padE; rw [if_neg c2]; decide))
end Go.Proofs.Ytgdpdjofhidllaa

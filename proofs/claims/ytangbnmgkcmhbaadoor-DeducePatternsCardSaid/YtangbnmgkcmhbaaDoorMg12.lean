/- Texts of one proof, put together: AlikeT. -/
import Derived.Test.YtangbnmgkcmhbaaDoorMg11
import Derived.Test.YtangbnmgkcmhbaaDoorMg08
import Derived.Test.YtangbnmgkcmhbaaDoorMg09
section
/- The walk of DeduceAlike. -/
set_option linter.unusedSimpArgs false
set_option linter.unusedVariables false
namespace Go.Proofs.YtangbnmgkcmhbaaDoor
open Go.RowKit Go.Maps

noncomputable def alB (ds : List Nd) (l m : List Int) : Bool := termsB ds l && termsB ds m && decide (looks ds l = looks ds m)
def alE (ds : List Nd) (l m : List Int) : Int := if (termsB ds l && termsB ds m) = true then 0 else 1
theorem alB_symm (ds : List Nd) (l m : List Int) : alB ds m l = alB ds l m := by
  unfold alB
  rw [Bool.and_comm (termsB ds m), show decide (looks ds m = looks ds l) = decide (looks ds l = looks ds m) by rw [Bool.eq_iff_iff]; simp [eq_comm]]
theorem alE_symm (ds : List Nd) (l m : List Int) : alE ds m l = alE ds l m := by
  unfold alE
  rw [Bool.and_comm (termsB ds m)]
theorem alB_self (ds : List Nd) (l : List Int) : alB ds l l = termsB ds l := by
  unfold alB
  simp
theorem alE_self (ds : List Nd) (l : List Int) : alE ds l l = if termsB ds l = true then 0 else 1 := by
  unfold alE
  rw [Bool.and_self]
theorem alike_all {F : Nat → Prop} {w : World} {p v u : Value} {ds : List Nd} {l m : List Int} (ht : TabsD w) (h : Ar F w p ds) (hd : RdI w v l) (hm : RdI w u m) (hll : l.length ≤ 100) (hml : m.length ≤ 100) (hsl : termsB ds l = true → (looks ds l).flatten.length ≤ 1000000) (hsm : termsB ds m = true → (looks ds m).flatten.length ≤ 1000000) :
    Calls Tryd.prog 19 #[p, v, u] w fun e w' => e = .returned (.tuple #[.bool (alB ds l m), .int .i64 (alE ds l m)]) ∧ Kept w w' := by
  cases hT : termsB ds l with
  | false =>
    have e1 : alB ds l m = false := by unfold alB; rw [hT]; rfl
    have e2 : alE ds l m = 1 := by unfold alE; rw [hT]; rfl
    rw [e1, e2]
    exact alike_bad1 h hd hm hT
  | true =>
    cases hU : termsB ds m with
    | false =>
      have e1 : alB ds l m = false := by unfold alB; rw [hU]; simp
      have e2 : alE ds l m = 1 := by unfold alE; rw [hU]; simp
      rw [e1, e2]
      exact alike_bad2 ht h hd hm hT hU hll
    | true =>
      have e1 : alB ds l m = decide (looks ds l = looks ds m) := by unfold alB; rw [hT, hU]; simp
      have e2 : alE ds l m = 0 := by unfold alE; rw [hT, hU]; simp
      rw [e1, e2]
      exact alikeA ht h hd hm hT hU hll hml (hsl hT) (hsm hU)
theorem RdT.none_at (w : World) (ad : Addr) (c : Nat) (hc : c ≤ maxLen := by unfold maxLen; omega) : RdT w (.slice (some ad) 0 c) [] := ⟨some ad, c, rfl, rfl, Nat.zero_le _, hc, (fun h => by cases h), (fun _ _ j u hj => by simp at hj)⟩
/-- Both halves of a list of texts that is one twice. -/
theorem textsTwice {B : Nat} {w : World} {g N2 cap n : Nat} {X : List (List UInt8)} (h : OwnT B w (.slice (some ⟨g, 0, none⟩) N2 cap) (X ++ X)) (hX : X.length = n) (hN : N2 = n + n) :
    RdT w (.slice (some ⟨g, 0, none⟩) n cap) X ∧ (n < cap → RdT w (.slice (some ⟨g, n, none⟩) (N2 - n) (cap - n)) X) := by
  subst hN hX
  have hc : X.length + X.length ≤ cap ∧ cap ≤ maxLen := by
    obtain ⟨a, c, hv, _, h1, h2, _⟩ := OwnT.rd h
    rw [List.length_append] at hv h1
    simp only [Value.slice.injEq] at hv
    obtain ⟨_, _, rfl⟩ := hv
    exact ⟨h1, h2⟩
  have hrow : ∀ i, i < X.length + X.length → w.cell? ⟨g, i, none⟩ = some (((X ++ X).map strV).getD i undef) := fun i hi => by
    have hl : (X ++ X).length = X.length + X.length := by rw [List.length_append]
    obtain ⟨g', c', hv, _, _, _, _, hcell, _⟩ := Ownv.row h (by rw [hl]; omega)
    rw [hl] at hv hcell
    simp only [Value.slice.injEq, Option.some.injEq, Addr.mk.injEq] at hv
    obtain ⟨⟨rfl, _⟩, _, _⟩ := hv
    exact hcell i (by omega)
  refine ⟨⟨some ⟨g, 0, none⟩, cap, rfl, by simp, by omega, hc.2, fun e => (by cases e), fun ad had j u hj => ?_⟩, fun hlt => ⟨some ⟨g, X.length, none⟩, cap - X.length, by rw [Nat.add_sub_cancel], by simp, by omega, by omega, fun e => (by cases e), fun ad had j u hj => ?_⟩⟩
  · obtain rfl := Option.some.inj had
    have hjl : j < X.length := by
      have := (List.getElem?_eq_some_iff.1 hj).1
      rwa [List.length_map] at this
    rw [Addr.add_lit, Nat.zero_add, hrow j (by omega), List.map_append, List.getD_eq_getElem?_getD, List.getElem?_append_left (by rw [List.length_map]; exact hjl), hj]
    rfl
  · obtain rfl := Option.some.inj had
    have hjl : j < X.length := by
      have := (List.getElem?_eq_some_iff.1 hj).1
      rwa [List.length_map] at this
    rw [Addr.add_lit, hrow _ (by omega), List.map_append, List.getD_eq_getElem?_getD, List.getElem?_append_right (by rw [List.length_map]; omega), List.length_map, Nat.add_sub_cancel_left, hj]
    rfl
set_option maxHeartbeats 8000000 in
set_option maxRecDepth 100000 in
theorem alike_walk {w : World} {v u u2 : Value} {ls : List Nd} {l m : List Int} (hv : RdNs w v ls) (hok : ∀ d ∈ ls, NdOk d) (hl : RdI w u l) (hl64 : ∀ x ∈ l, I64 x) (hm : RdI w u2 m) (hm64 : ∀ x ∈ m, I64 x) (ht : TabsD w) :
    Calls Tryd.prog 7 #[v, u, u2] w fun e w' => e = .returned (.bool true) ∧ Kept w w' := by
  obtain ⟨na, ncap, rfl, n1, n2, _⟩ := hv.len
  obtain ⟨la, lc, rfl, l1, l2, _⟩ := hl.len
  obtain ⟨ma, mc, rfl, m1, m2, _⟩ := hm.len
  have l63 : ((l.length : Nat) : Int) ≤ 9223372036854775807 := by unfold maxLen at l2; omega
  have m63 : ((m.length : Nat) : Int) ≤ 9223372036854775807 := by unfold maxLen at m2; omega
  have HV := Shut.mk hv
  have HL := Shut.mk hl
  have HM := Shut.mk hm
  have HT := Shut.mk ht
  have HOK := Shut.mk hok
  have HL64 := Shut.mk hl64
  have HM64 := Shut.mk hm64
  clear hv hl hm ht hok n1 n2 l1 l2 m1 m2 hl64 hm64
  go_enter Tryd.func7, Tryd.ntmps7
  go_wp2_with fail
  (with_reducible refine (live5_any HT.out).mono ?_)
  rintro e w1 ⟨rfl, k1⟩
  have kb : Kept w1 (w1.alloc (.cells #[.slice la l.length lc, .slice ma m.length mc] 23)) := (Kept.refl w1).alloc _
  have hfew := few5_any ((HV.out.kept k1).kept kb) (cap := 2) (rowL2 w1 la ma l.length m.length lc mc l63 m63) (by simp)
  simp only [List.length_cons, List.length_nil, Nat.zero_add, Nat.reduceAdd] at hfew
  have HK1 := Shut.mk (k1.trans kb)
  clear k1 kb
  go_wp2_with fail
  (with_reducible refine hfew.mono ?_)
  clear hfew
  rintro e w2 ⟨b, rfl, hfew, k2⟩
  have HK2 := Shut.mk (HK1.out.trans k2)
  clear k2
  cases b with
  | false =>
    go_wp2
    go_ret
    exact ⟨rfl, HK2.out⟩
  | true =>
  have HF := Shut.mk (hfew rfl)
  have hl20 : l.length ≤ 20 := HF.out.2.2 0 (by simp)
  have hm20 : m.length ≤ 20 := HF.out.2.2 1 (by simp)
  have hls := HF.out.1
  clear hfew
  have h2 := two_any (HV.out.kept HK2.out) HOK.out (HT.out.kept HK2.out).tabs
  go_wp2_with fail
  (with_reducible refine h2.mono ?_)
  clear h2
  rintro e w3 ⟨F, G, aa, q, rfl, ha, hb, _, hF, hG, k3⟩
  have hdl := mkAll_len ls
  have HSL := Shut.mk (mkAll_s (fun k hk => (HF.out.2.1 k hk).1))
  generalize mkAll ls = ds at ha hb hdl HSL
  have HK3 := Shut.mk (HK2.out.trans k3)
  have HA := Shut.mk ha
  have HB := Shut.mk hb
  have HGD := Shut.mk ha.good
  have hlg := light_any hb (HL.out.kept HK3.out) HL64.out (by omega) (by omega)
  clear ha hb hF hG k3
  by_cases c : lightN ds l < 3000
  case neg =>
    rw [decide_eq_false c] at hlg
    clear c
    go_wp2_with fail
    (with_reducible refine hlg.mono ?_)
    clear hlg
    rintro e w4 ⟨rfl, k4⟩
    go_wp2
    go_ret
    exact ⟨rfl, HK3.out.trans k4⟩
  rw [decide_eq_true c] at hlg
  have HC1 := Shut.mk c
  clear c
  go_wp2_with fail
  (with_reducible refine hlg.mono ?_)
  clear hlg
  rintro e w4 ⟨rfl, k4⟩
  have HK4 := Shut.mk (HK3.out.trans k4)
  have HA4 : Shut (Ar F w4 (.pointer (some aa)) ds) := ⟨ArG.kept HA.out k4⟩
  have hlg := light_any (ArG.kept HB.out k4) (HM.out.kept HK4.out) HM64.out (by omega) (by omega)
  clear k4
  by_cases c : lightN ds m < 3000
  case neg =>
    rw [decide_eq_false c] at hlg
    clear c
    go_wp2_with fail
    (with_reducible refine hlg.mono ?_)
    clear hlg
    rintro e w5 ⟨rfl, k5⟩
    go_wp2
    go_ret
    exact ⟨rfl, HK4.out.trans k5⟩
  rw [decide_eq_true c] at hlg
  have HC2 := Shut.mk c
  clear c
  go_wp2_with fail
  (with_reducible refine hlg.mono ?_)
  clear hlg
  rintro e w5 ⟨rfl, k5⟩
  have HK5 := Shut.mk (HK4.out.trans k5)
  have HA5 : Shut (Ar F w5 (.pointer (some aa)) ds) := ⟨ArG.kept HA4.out k5⟩
  have HT5 : Shut (TabsD w5) := ⟨HT.out.kept HK5.out⟩
  have HL5 := Shut.mk (HL.out.kept HK5.out)
  have HM5 := Shut.mk (HM.out.kept HK5.out)
  clear k5
  have hsl : Shut (termsB ds l = true → (looks ds l).flatten.length ≤ 1000000) := ⟨fun hT => light_flat2 HGD.out (by omega) HSL.out (termsB_all hT) (by have := HC1.out; omega)⟩
  have hsm : Shut (termsB ds m = true → (looks ds m).flatten.length ≤ 1000000) := ⟨fun hT => light_flat2 HGD.out (by omega) HSL.out (termsB_all hT) (by have := HC2.out; omega)⟩
  have c1 := alike_all HT5.out HA5.out HL5.out HM5.out (by omega) (by omega) hsl.out hsm.out
  have c2 := fun W (k : Kept w5 W) => alike_all (HT5.out.kept k) (ArG.kept HA5.out k) (HM5.out.kept k) (HL5.out.kept k) (by omega) (by omega) hsm.out hsl.out
  have c3 := fun W (k : Kept w5 W) => alike_all (HT5.out.kept k) (ArG.kept HA5.out k) (HL5.out.kept k) (HL5.out.kept k) (by omega) (by omega) hsl.out hsl.out
  rw [alB_symm, alE_symm] at c2
  rw [alB_self, alE_self] at c3
  generalize alB ds l m = B at c1 c2
  generalize alE ds l m = E at c1 c2
  have C2 := Shut.mk c2
  have C3 := Shut.mk c3
  clear c2 c3
  go_wp2_with fail
  (with_reducible refine c1.mono ?_)
  clear c1
  rintro e w6 ⟨rfl, k6⟩
  have HK6 := Shut.mk k6
  clear k6
  go_wp2_with fail
  (with_reducible refine (C2.out _ HK6.out).mono ?_)
  rintro e w7 ⟨rfl, k7⟩
  have HK7 := Shut.mk (HK6.out.trans k7)
  clear k7
  go_wp2_with fail
  (with_reducible refine (C3.out _ HK7.out).mono ?_)
  rintro e w8 ⟨rfl, k8⟩
  have HK8 := Shut.mk (HK7.out.trans k8)
  clear k8
  have hlx := HL5.out.kept HK8.out
  have hBB : (B != B) = false := by simp
  have hEE : (E != E) = false := by simp
  cases hT : termsB ds l with
  | false =>
    have hT2 : termsB ds (l ++ l) = false := by
      unfold termsB at hT ⊢
      rw [List.all_append, hT]; rfl
    have HT2 := Shut.mk hT2
    clear hT hT2
    simp only [Bool.false_eq_true, if_false]
    go_wp2_with (first
      | (at_builtin; refine go_appi w5.heap.size _ [] rfl (OwnI.nil _ _) _ l rfl hlx (by simp; omega) HK8.out.size ?_; intro v9 w9 o9 t9 l9; have k9 : Kept w8 w9 := Turn.keptOf (Kept.refl w8) t9 (fun b hb => by cases hb); have hl9 := hlx.kept k9; have hs9 := Nat.le_trans HK8.out.size k9.size)
      | (at_builtin; refine go_appi w5.heap.size _ ([] ++ l) rfl o9 _ l rfl hl9 (by simp; omega) hs9 ?_; intro v10 w10 o10 t10 l10; have k10 : Kept w8 w10 := Turn.keptOf k9 t10 (fun b hb => (l9 b hb).elim (fun c => by cases c) (fun c => c)); have hp := pattern_bad (ArG.kept HA5.out (HK8.out.trans k10)) (OwnI.rd o10) HT2.out)
      | (go_at_call 17; (with_reducible refine hp.mono ?_); rintro e w11 ⟨rfl, k11⟩))
    go_ret
    exact ⟨rfl, (HK5.out.trans HK8.out).trans (k10.trans k11)⟩
  | true =>
    have hT2 : termsB ds (l ++ l) = true := termsB_append hT (termsB_all hT)
    have HT2 := Shut.mk hT2
    have HTT := Shut.mk (termsB_all hT)
    clear hT hT2
    simp only [if_true]
    have hsum : Shut ((looks ds (l ++ l)).flatten.length ≤ 1000000) := ⟨light_flat2 HGD.out (by omega) HSL.out (termsB_all HT2.out) (by rw [lightN_append]; have := HC1.out; omega)⟩
    obtain ⟨X, hX, hXl⟩ := looks_twice HGD.out HTT.out
    have HX := Shut.mk hX
    have HXL := Shut.mk hXl
    clear hX hXl
    go_wp2_with (first
      | (at_builtin; refine go_appi w5.heap.size _ [] rfl (OwnI.nil _ _) _ l rfl hlx (by simp; omega) HK8.out.size ?_; intro v9 w9 o9 t9 l9; have k9 : Kept w8 w9 := Turn.keptOf (Kept.refl w8) t9 (fun b hb => by cases hb); have hl9 := hlx.kept k9; have hs9 := Nat.le_trans HK8.out.size k9.size)
      | (at_builtin; refine go_appi w5.heap.size _ ([] ++ l) rfl o9 _ l rfl hl9 (by simp; omega) hs9 ?_; intro v10 w10 o10 t10 l10; have k10 : Kept w8 w10 := Turn.keptOf k9 t10 (fun b hb => (l9 b hb).elim (fun c => by cases c) (fun c => c)); have hp := patternA (HT5.out.kept (HK8.out.trans k10)) (ArG.kept HA5.out (HK8.out.trans k10)) (OwnI.rd o10) HT2.out (by simp; omega) hsum.out)
      | fail)
    have HK10 := Shut.mk (HK8.out.trans k10)
    clear hl9 hs9 o9 t9 l9 k9 o10 t10 l10 k10 hlx
    (with_reducible refine hp.mono ?_)
    clear hp
    rintro e w11 ⟨u11, rfl, o11, k11⟩
    rw [List.nil_append, HX.out] at o11
    have HO := Shut.mk o11
    have HK11 := Shut.mk (HK10.out.trans k11)
    have hXX : (X ++ X).length = l.length + l.length := by rw [List.length_append, HXL.out]
    clear k11
    rcases o11.2 with ⟨rfl, h0⟩ | ⟨g, cap, cur, rfl, _, _, hcl, hcm, _⟩
    · rw [hXX] at h0
      have hl0 : l.length = 0 := by omega
      clear o11 h0 hXX HO
      obtain rfl : X = [] := List.eq_nil_of_length_eq_zero (by rw [HXL.out]; exact hl0)
      rw [hl0]
      clear hl20 l63
      have HL0 := Shut.mk hl0
      clear hl0
      have hnil : ∀ W, RdT W (.slice none 0 0) [] := fun W => ⟨none, 0, rfl, rfl, Nat.le_refl _, Nat.zero_le _, fun _ => rfl, fun _ h => by cases h⟩
      have hs := fun W (k : Kept w11 W) => sameTexts_any (hnil W) (hnil W)
      rw [decide_eq_true rfl] at hs
      clear hnil
      have kz := Kept.refl w11
      have hw0 : IntKind.i64.wrap (2 * 0) = 0 := IntWalk.i64_in _ ⟨by omega, by omega⟩
      have hw1 : IntKind.i64.wrap 0 = 0 := IntWalk.i64_in _ ⟨by omega, by omega⟩
      go_upto_region 15 with fail
      go_region_held3 (fun _ => True) (exact trivial) ((go_at_call 21; (with_reducible refine (hs _ (by first | exact kz | exact kz.drew | exact kz.drewN _)).mono ?_); rintro e w12 ⟨rfl, k12⟩; have k13 : Kept w11 w12 := (by first | exact kz.trans k12 | exact kz.drew.trans k12 | exact (kz.drewN _).trans k12)))
      go_wp2
      go_ret
      first | exact ⟨rfl, (HK5.out.trans HK11.out).trans k13⟩ | exact ⟨rfl, (HK5.out.trans HK11.out).trans k13.drew⟩ | exact ⟨rfl, (HK5.out.trans HK11.out).trans (k13.drewN _)⟩
    · rw [hXX] at hcl HO ⊢
      clear o11 hXX
      obtain ⟨N2, hN2⟩ : ∃ N2, N2 = l.length + l.length := ⟨_, rfl⟩
      rw [← hN2] at HO hcl ⊢
      have hc1 : (l.length : Int) ≤ (cap : Int) := by omega
      have hc2 : (l.length : Int) ≤ (N2 : Int) := by omega
      have hq : ((N2 : Int) == 2 * (l.length : Int)) = true := by rw [beq_iff_eq]; omega
      have hwr : IntKind.i64.wrap (2 * (l.length : Int)) = 2 * (l.length : Int) := by
        exact IntWalk.i64_in _ ⟨by omega, by omega⟩
      obtain ⟨hx1, hx3⟩ := textsTwice HO.out HXL.out (by omega)
      have HX1 := Shut.mk hx1
      have HN2 := Shut.mk hN2
      clear hN2 hx1
      by_cases hcap : cap = l.length
      · have hl0 : l.length = 0 := by have := HN2.out; omega
        obtain rfl : N2 = 0 := by have := HN2.out; omega
        obtain rfl : X = [] := List.eq_nil_of_length_eq_zero (by rw [HXL.out]; exact hl0)
        rw [hcap, hl0]
        clear hx3 hcl hc1 hc2 hq hwr hl20 l63
        have HL0 := Shut.mk hl0
        clear hcap hl0
        have hs := fun W (k : Kept w11 W) => sameTexts_any (RdT.none_at W ⟨g, 0, none⟩ 0) (RdT.none_at W ⟨g, 0, none⟩ 0)
        rw [decide_eq_true rfl] at hs
        have kz := Kept.refl w11
        have hw0 : IntKind.i64.wrap (2 * 0) = 0 := IntWalk.i64_in _ ⟨by omega, by omega⟩
        have hw1 : IntKind.i64.wrap 0 = 0 := IntWalk.i64_in _ ⟨by omega, by omega⟩
        go_upto_region 15 with fail
        go_region_held3 (fun _ => True) (exact trivial) ((go_at_call 21; (with_reducible refine (hs _ (by first | exact kz | exact kz.drew | exact kz.drewN _)).mono ?_); rintro e w12 ⟨rfl, k12⟩; have k13 : Kept w11 w12 := (by first | exact kz.trans k12 | exact kz.drew.trans k12 | exact (kz.drewN _).trans k12)))
        go_wp2
        go_ret
        first | exact ⟨rfl, (HK5.out.trans HK11.out).trans k13⟩ | exact ⟨rfl, (HK5.out.trans HK11.out).trans k13.drew⟩ | exact ⟨rfl, (HK5.out.trans HK11.out).trans (k13.drewN _)⟩
      have hx2 := hx3 (by omega)
      clear hx3
      have hs := fun W (k : Kept w11 W) => sameTexts_any (HX1.out.kept k) (hx2.kept k)
      rw [decide_eq_true rfl] at hs
      have kz := Kept.refl w11
      clear hx2
      go_upto_region 15 with fail
      go_region_held3 (fun _ => True) (exact trivial) ((go_at_call 21; (with_reducible refine (hs _ (by first | exact kz | exact kz.drew | exact kz.drewN _)).mono ?_); rintro e w12 ⟨rfl, k12⟩; have k13 : Kept w11 w12 := (by first | exact kz.trans k12 | exact kz.drew.trans k12 | exact (kz.drewN _).trans k12)))
      go_wp2
      go_ret
      first | exact ⟨rfl, (HK5.out.trans HK11.out).trans k13⟩ | exact ⟨rfl, (HK5.out.trans HK11.out).trans k13.drew⟩ | exact ⟨rfl, (HK5.out.trans HK11.out).trans (k13.drewN _)⟩
end Go.Proofs.YtangbnmgkcmhbaaDoor
end

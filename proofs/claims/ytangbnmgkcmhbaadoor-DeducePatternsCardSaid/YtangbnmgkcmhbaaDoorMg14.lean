/- Texts of one proof, put together: PatT. -/
import Derived.Test.YtangbnmgkcmhbaaDoorMg12
import Derived.Test.YtangbnmgkcmhbaaDoorMg13
section
/- The walk of DeducePatterns. -/
set_option linter.unusedSimpArgs false
set_option linter.unusedVariables false
namespace Go.Proofs.YtangbnmgkcmhbaaDoor
open Go.RowKit Go.Maps

/-- What terms look like, or that one is none. -/
def PatAll (w : World) (ds : List Nd) (l : List Int) (e : Ending) (w' : World) : Prop := ∃ u, e = .returned (.tuple #[u, .int .i64 (if termsB ds l = true then 0 else 1)]) ∧ RdT w' u (if termsB ds l = true then looks ds l else []) ∧ Kept w w'
theorem RdT.nil (w : World) : RdT w (.slice none 0 0) [] := ⟨none, 0, rfl, rfl, Nat.le_refl _, Nat.zero_le _, fun _ => rfl, fun _ h => by cases h⟩
theorem pattern_all {F : Nat → Prop} {w : World} {p v : Value} {ds : List Nd} {l : List Int} (ht : TabsD w) (h : Ar F w p ds) (hd : RdI w v l) (hll : l.length ≤ 1000) (hsum : termsB ds l = true → (looks ds l).flatten.length ≤ 1000000) :
    Calls Tryd.prog 17 #[p, v] w (PatAll w ds l) := by
  unfold PatAll
  cases hT : termsB ds l with
  | false => exact (pattern_bad h hd hT).mono fun e w' ⟨he, k⟩ => ⟨_, he, RdT.nil _, k⟩
  | true => exact (patternA ht h hd hT (by omega) (hsum hT)).mono fun e w' ⟨u, he, o, k⟩ => ⟨u, he, OwnT.rd o, k⟩
theorem patternR_all {G : Nat → Prop} {w : World} {q v : Value} {ds : List Nd} {l : List Int} (h : ArR G w q ds) (hd : RdI w v l) (hll : l.length ≤ 1000) (hds : ds.length ≤ 1000) (hs60 : ∀ t, IsT ds t → (nd ds t).s.length ≤ 60) (hw : lightN ds l < 3000) :
    Calls Tryd.prog 18 #[q, v] w (PatAll w ds l) := by
  unfold PatAll
  cases hT : termsB ds l with
  | false => exact (patternR_bad h hd hT).mono fun e w' ⟨he, k⟩ => ⟨_, he, RdT.nil _, k⟩
  | true => exact (patternR_any h hd hT hll hds hs60 hw).mono fun e w' ⟨u, he, o, k⟩ => ⟨u, he, OwnT.rd o, k⟩

set_option maxHeartbeats 8000000 in
set_option maxRecDepth 100000 in
theorem patterns_walk {w : World} {v u u2 : Value} {ls : List Nd} {l m : List Int} (hv : RdNs w v ls) (hok : ∀ d ∈ ls, NdOk d) (hl : RdI w u l) (hl64 : ∀ x ∈ l, I64 x) (hm : RdI w u2 m) (hm64 : ∀ x ∈ m, I64 x) (ht : TabsD w) :
    Calls Tryd.prog 4 #[v, u, u2] w fun e w' => e = .returned (.bool true) ∧ Kept w w' := by
  obtain ⟨na, ncap, rfl, n1, n2, _⟩ := hv.len
  obtain ⟨la, lc, rfl, l1, l2, _⟩ := hl.len
  obtain ⟨ma, mc, rfl, m1, m2, _⟩ := hm.len
  have l63 : ((l.length : Nat) : Int) ≤ 9223372036854775807 := by unfold maxLen at l2; omega
  have m63 : ((m.length : Nat) : Int) ≤ 9223372036854775807 := by unfold maxLen at m2; omega
  have HV := Shut.mk hv
  have HL := Shut.mk hl
  have HM := Shut.mk hm
  have HT := Shut.mk ht
  have HOK := Shut.mk hok
  have HL64 := Shut.mk hl64
  have HM64 := Shut.mk hm64
  clear hv hl hm ht hok n1 n2 l1 l2 m1 m2 hl64 hm64
  go_enter Tryd.func4, Tryd.ntmps4
  go_wp2_with fail
  (with_reducible refine (live5_any HT.out).mono ?_)
  rintro e w1 ⟨rfl, k1⟩
  have kb : Kept w1 (w1.alloc (.cells #[.slice la l.length lc, .slice ma m.length mc] 23)) := (Kept.refl w1).alloc _
  have hfew := few5_any ((HV.out.kept k1).kept kb) (cap := 2) (rowL2 w1 la ma l.length m.length lc mc l63 m63) (by simp)
  simp only [List.length_cons, List.length_nil, Nat.zero_add, Nat.reduceAdd] at hfew
  have HK1 := Shut.mk (k1.trans kb)
  clear k1 kb
  go_wp2_with fail
  (with_reducible refine hfew.mono ?_)
  clear hfew
  rintro e w2 ⟨b, rfl, hfew, k2⟩
  have HK2 := Shut.mk (HK1.out.trans k2)
  clear k2
  cases b with
  | false =>
    go_wp2
    go_ret
    exact ⟨rfl, HK2.out⟩
  | true =>
  have HF := Shut.mk (hfew rfl)
  have hl20 : l.length ≤ 20 := HF.out.2.2 0 (by simp)
  have hm20 : m.length ≤ 20 := HF.out.2.2 1 (by simp)
  have hls := HF.out.1
  clear hfew
  have h2 := two_any (HV.out.kept HK2.out) HOK.out (HT.out.kept HK2.out).tabs
  go_wp2_with fail
  (with_reducible refine h2.mono ?_)
  clear h2
  rintro e w3 ⟨F, G, aa, q, rfl, ha, hb, _, hF, hG, k3⟩
  have hdl := mkAll_len ls
  have HSL := Shut.mk (mkAll_s (fun k hk => (HF.out.2.1 k hk).1))
  generalize mkAll ls = ds at ha hb hdl HSL
  have HK3 := Shut.mk (HK2.out.trans k3)
  have HA := Shut.mk ha
  have HB := Shut.mk hb
  have HGD := Shut.mk ha.good
  have hlg := light_any hb (HL.out.kept HK3.out) HL64.out (by omega) (by omega)
  clear ha hb hF hG k3
  by_cases c : lightN ds l < 3000
  case neg =>
    rw [decide_eq_false c] at hlg
    clear c
    go_wp2_with fail
    (with_reducible refine hlg.mono ?_)
    clear hlg
    rintro e w4 ⟨rfl, k4⟩
    go_wp2
    go_ret
    exact ⟨rfl, HK3.out.trans k4⟩
  rw [decide_eq_true c] at hlg
  have HC1 := Shut.mk c
  clear c
  go_wp2_with fail
  (with_reducible refine hlg.mono ?_)
  clear hlg
  rintro e w4 ⟨rfl, k4⟩
  have HK4 := Shut.mk (HK3.out.trans k4)
  have HA4 : Shut (Ar F w4 (.pointer (some aa)) ds) := ⟨ArG.kept HA.out k4⟩
  have HB4 : Shut (ArR G w4 q ds) := ⟨ArG.kept HB.out k4⟩
  have hlg := light_any (ArG.kept HB.out k4) (HM.out.kept HK4.out) HM64.out (by omega) (by omega)
  clear k4
  by_cases c : lightN ds m < 3000
  case neg =>
    rw [decide_eq_false c] at hlg
    clear c
    go_wp2_with fail
    (with_reducible refine hlg.mono ?_)
    clear hlg
    rintro e w5 ⟨rfl, k5⟩
    go_wp2
    go_ret
    exact ⟨rfl, HK4.out.trans k5⟩
  rw [decide_eq_true c] at hlg
  have HC2 := Shut.mk c
  clear c
  go_wp2_with fail
  (with_reducible refine hlg.mono ?_)
  clear hlg
  rintro e w5 ⟨rfl, k5⟩
  have HK5 := Shut.mk (HK4.out.trans k5)
  have HA5 : Shut (Ar F w5 (.pointer (some aa)) ds) := ⟨ArG.kept HA4.out k5⟩
  have HB5 : Shut (ArR G w5 q ds) := ⟨ArG.kept HB4.out k5⟩
  have HT5 : Shut (TabsD w5) := ⟨HT.out.kept HK5.out⟩
  have HL5 := Shut.mk (HL.out.kept HK5.out)
  have HM5 := Shut.mk (HM.out.kept HK5.out)
  clear k5
  have hsl : Shut (termsB ds l = true → (looks ds l).flatten.length ≤ 1000000) := ⟨fun hT => light_flat2 HGD.out (by omega) HSL.out (termsB_all hT) (by have := HC1.out; omega)⟩
  have hsm : Shut (termsB ds m = true → (looks ds m).flatten.length ≤ 1000000) := ⟨fun hT => light_flat2 HGD.out (by omega) HSL.out (termsB_all hT) (by have := HC2.out; omega)⟩
  have c1 := pattern_all HT5.out HA5.out HL5.out (by omega) hsl.out
  have c2 := fun W (k : Kept w5 W) => patternR_all (ArG.kept HB5.out k) (HL5.out.kept k) (by omega) (by omega) HSL.out HC1.out
  have c3 := fun W (k : Kept w5 W) => alike_all (HT5.out.kept k) (ArG.kept HA5.out k) (HL5.out.kept k) (HM5.out.kept k) (by omega) (by omega) hsl.out hsm.out
  have c4 : ∀ W, Kept w5 W → Calls Tryd.prog 20 #[q, .slice la l.length lc, .slice ma m.length mc] W fun e w' => e = .returned (.tuple #[.bool (alB ds l m), .int .i64 (alE ds l m)]) ∧ Kept W w' := fun W (k : Kept w5 W) => alikeR_any (ArG.kept HB5.out k) (HL5.out.kept k) (HM5.out.kept k) (by omega) (by omega) (by omega) HSL.out HC1.out HC2.out
  unfold PatAll at c1 c2
  generalize (if termsB ds l = true then looks ds l else []) = X at c1 c2
  generalize (if termsB ds l = true then (0 : Int) else 1) = E1 at c1 c2
  generalize alB ds l m = B at c3 c4
  generalize alE ds l m = E at c3 c4
  have C2 := Shut.mk c2
  have C3 := Shut.mk c3
  have C4 := Shut.mk c4
  clear c2 c3 c4
  go_wp2_with fail
  (with_reducible refine c1.mono ?_)
  clear c1
  rintro e w6 ⟨u6, rfl, o6, k6⟩
  have HK6 := Shut.mk k6
  have HO6 := Shut.mk o6
  obtain ⟨ta, tc, rfl, _, _, _⟩ := o6.len
  clear k6 o6
  go_wp2_with fail
  (with_reducible refine (C2.out _ HK6.out).mono ?_)
  rintro e w7 ⟨u7, rfl, o7, k7⟩
  have HK7 := Shut.mk (HK6.out.trans k7)
  have HO7 := Shut.mk o7
  have HO6' := Shut.mk (HO6.out.kept k7)
  obtain ⟨tb, td, rfl, _, _, _⟩ := o7.len
  clear k7 o7
  go_wp2_with fail
  (with_reducible refine (C3.out _ HK7.out).mono ?_)
  rintro e w8 ⟨rfl, k8⟩
  have HK8 := Shut.mk (HK7.out.trans k8)
  have K8 := Shut.mk k8
  clear k8
  go_wp2_with fail
  (with_reducible refine (C4.out _ HK8.out).mono ?_)
  rintro e w9 ⟨rfl, k9⟩
  have HK9 := Shut.mk (HK8.out.trans k9)
  have hs := sameTexts_any ((HO6'.out.kept K8.out).kept k9) ((HO7.out.kept K8.out).kept k9)
  rw [decide_eq_true rfl] at hs
  clear k9
  have hBB : (B == B) = true := by simp
  have hEE : (E == E) = true := by simp
  have hE1 : (E1 == E1) = true := by simp
  generalize X.length = XL at hs ⊢
  go_wp2_with (go_at_call 21; (with_reducible refine hs.mono ?_); rintro e w10 ⟨rfl, k10⟩)
  go_ret
  exact ⟨rfl, (HK5.out.trans HK9.out).trans k10⟩
end Go.Proofs.YtangbnmgkcmhbaaDoor
end

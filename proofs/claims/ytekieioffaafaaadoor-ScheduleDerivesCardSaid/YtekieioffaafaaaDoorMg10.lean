/- Texts of one proof, put together: ScO. -/
import Derived.Test.YtekieioffaafaaaDoorMg09
section
/- The walk of ScheduleApart (written by gen_sco.py). -/
set_option linter.unusedSimpArgs false
set_option linter.unusedVariables false
namespace Go.Proofs.YtekieioffaafaaaDoor
open Go.RowKit Go.Maps

theorem den_eqB {A B : Tr} {ds : List Nd} (hg : Good ds) {a b : Int} (ha : Den A ds a) (hb : Den B ds b) {P : Prop} [Decidable P] (h : A = B ↔ P) : (a == b) = decide P := by
  rw [Bool.eq_iff_iff, beq_iff_eq, decide_eq_true_iff, ← h]
  constructor
  · intro e
    have h1 := ha.2
    rw [e] at h1
    exact h1.symm.trans hb.2
  · rintro rfl
    exact ha.same hg hb
theorem atomT_iff {a b : Int} : atomT a = atomT b ↔ a = b := ⟨atomT_inj, fun h => by rw [h]⟩
theorem apart_xy {ds : List Nd} (hg : Good ds) {X Y : Ep} {i c x a b d : Int} (hX : EpD (joinT (atomT i) (atomT c) (atomT x)) (pskT []) (atomT x) ds X) (hY : EpD (joinT (atomT a) (atomT b) (atomT d)) (pskT []) (atomT d) ds Y) {k : Nat} (hk : k < 10) :
    (X.inner.getD k 0 == Y.inner.getD k 0) = (i == a && (c == b && x == d)) := by
  rw [den_eqB hg (hX.at hk) (hY.at hk) (P := i = a ∧ (c = b ∧ x = d)) (by
    rw [inner_iff hk, joinT_iff, atomT_iff, atomT_iff, atomT_iff]
    constructor
    · rintro ⟨h, _⟩; exact h
    · rintro ⟨h1, h2, h3⟩; exact ⟨⟨h1, h2, h3⟩, .inr rfl, .inr (.inr h3)⟩)]
  by_cases h1 : i = a <;> by_cases h2 : c = b <;> by_cases h3 : x = d <;> simp [h1, h2, h3]
theorem apart_xz {ds : List Nd} (hg : Good ds) {X Y : Ep} {j t : Tr} (hX : EpD j (pskT []) t ds X) (hY : EpD j (pskT [atomT 3]) t ds Y) {k : Nat} (hk : k < 10) :
    (X.inner.getD k 0 == Y.inner.getD k 0) = decide (k = 0) := by
  refine den_eqB hg (hX.at hk) (hY.at hk) ?_
  rw [inner_iff hk]
  constructor
  · rintro ⟨_, h, _⟩
    rcases h with h | h
    · exact h
    · have := pskT_inj _ _ _ (Nat.le_refl _) h
      cases this
  · rintro rfl
    exact ⟨rfl, .inl rfl, .inl rfl⟩
theorem exp_iff {e o : Tr} {s t : List UInt8} : keyT (derT e s) exportedS o = keyT (derT e t) exportedS o ↔ s = t :=
  ⟨fun h => (derT_inj (keyT_inj h).1).2, fun h => by rw [h]⟩
theorem rdi_arr {w : World} {g : Nat} {a b c : Int} (h : Blk w g 55 [.int .i64 a, .int .i64 b, .int .i64 c]) : RdI w (.slice (some ⟨g, 0, none⟩) 3 3) [a, b, c] :=
  RdvBlk h rfl (by unfold maxLen; decide)
set_option maxHeartbeats 32000000 in
set_option maxRecDepth 100000 in
theorem sapart_walk {w : World} {i c x : Int} (hi : I64 i) (hc : I64 c) (hx : I64 x) {o0 o1 o2 : Int} (P : ByteArray) (hP : P.size ≤ 9223372036854775807) (Q : ByteArray) (hQ : Q.size ≤ 9223372036854775807) (ht : Tabs w) :
    Calls Tryd.prog 6 #[.int .i64 i, .int .i64 c, .int .i64 x, .agg #[.int .i64 o0, .int .i64 o1, .int .i64 o2], .string P, .string Q] w fun e w' => e = .returned (.bool true) ∧ Kept w w' := by
  have HT := Lib.hid ht
  obtain ⟨xp, hxp⟩ : ∃ x, P = strB x := ⟨P.data.toList, by cases P; rfl⟩
  obtain ⟨xq, hxq⟩ : ∃ x, Q = strB x := ⟨Q.data.toList, by cases Q; rfl⟩
  have p1 : P.size = xp.length := by rw [hxp, strB_size]
  have p2 : Q.size = xq.length := by rw [hxq, strB_size]
  have HP3 := Shut.mk (show P.toList = xp by rw [hxp, strB_list])
  have HP4 := Shut.mk (show Q.toList = xq by rw [hxq, strB_list])
  have HXP := Shut.mk hxp
  have HXQ := Shut.mk hxq
  clear hxp hxq ht hi hc hx
  have k0 : Kept w (w.alloc (.cells #[.int .i64 o0, .int .i64 o1, .int .i64 o2] 55)) := (Kept.refl w).alloc _
  have b0 := Blk.new w [.int .i64 o0, .int .i64 o1, .int .i64 o2] 55
  by_cases h1 : P.size ≤ 100
  · have d1 : ¬ (100 : Int) < (P.size : Int) := by omega
    by_cases h2 : Q.size ≤ 100
    · have d2 : ¬ (100 : Int) < (Q.size : Int) := by omega
      have H1 := Shut.mk (show xp.length ≤ 100 by omega)
      have H2 := Shut.mk (show xq.length ≤ 100 by omega)
      have K0 := Lib.hid k0
      have HB0 := Lib.hid b0
      have s1 : (P.size : Int) ≤ 9223372036854775807 := by omega
      have s2 : (Q.size : Int) ≤ 9223372036854775807 := by omega
      have HP1 := Shut.mk p1
      clear h1 h2 k0 b0 p1 p2 hP hQ
      go_enter Tryd.func6, Tryd.ntmps6
      go_upto_region 1 with fail
      generalize w.alloc (.cells #[.int .i64 o0, .int .i64 o1, .int .i64 o2] 55) = wa at *
      generalize w.heap.size = ob at *
      go_wp2_with fail
      (with_reducible refine (live11_any (HT.out.kept K0.out)).mono ?_); rintro e w1 ⟨rfl, k1⟩
      have ks : Kept w1 (w1.alloc (.cells #[.int .i64 i, .int .i64 c, .int .i64 x] 3)) := (Kept.refl w1).alloc _
      have HB := Lib.hid (beyond_any (RdI.sl3 w1 i c x) 10)
      go_wp2_with fail
      generalize w1.alloc (.cells #[.int .i64 i, .int .i64 c, .int .i64 x] 3) = w1' at *
      (with_reducible refine HB.out.mono ?_); rintro e w2 ⟨b1, rfl, hb1, k2⟩
      clear HB
      have k12 := ((K0.out.trans k1).trans ks).trans k2
      have kb2 := (k1.trans ks).trans k2
      clear k1 ks k2
      cases b1 with
      | true =>
        clear hb1
        go_wp2
        go_ret
        exact ⟨rfl, k12⟩
      | false =>
        have N1 := Shut.mk (hb1 rfl)
        have HB2 := Lib.hid (beyond_any (rdi_arr (HB0.out.kept kb2)) 10)
        clear hb1
        go_wp2_with fail
        (with_reducible refine HB2.out.mono ?_); rintro e w3 ⟨b2, rfl, hb2, k3⟩
        have k13 := k12.trans k3
        cases b2 with
        | true =>
          clear hb2
          go_wp2
          go_ret
          exact ⟨rfl, k13⟩
        | false =>
          have N2 := Shut.mk (hb2 rfl)
          have HB3 := Lib.hid (HB0.out.kept (kb2.trans k3))
          have K13 := Lib.hid k13
          clear hb2 k12 k3 k13 kb2 HB2 HB0
          go_wp2_with fail
          (with_reducible refine (two11_any (HT.out.kept K13.out)).mono ?_); rintro e w4 ⟨p, q, pa, rfl, rfl, F, G, hA, hR, hFG, hF, hG, k4⟩
          have a4 := At.mkA hA hF k4 (HT.out.kept K13.out)
          have hg := a4.good
          have HG0 := Shut.mk hg
          have HA := Lib.hid a4
          have HB4 := Lib.hid (HB3.out.kept k4)
          have HLT := Shut.mk (show ob < w3.heap.size from HB3.out.lt)
          clear hA hR hFG hF hG k4 a4 hg
          have hz : ∀ (r : List Nd) W, At w3 (fun b => b < w3.heap.size) W (.pointer (some pa)) (atomsL 10 ++ r) → True := fun _ _ _ => trivial
          cases cx : tB [i, c, x] with
          | true =>
            cases cy : tB [o0, o1, o2] with
            | true =>
              have u0 := HB4.out.cell 0
              have u1 := HB4.out.cell 1
              have u2 := HB4.out.cell 2
              simp only [List.getElem?_cons_zero, List.getElem?_cons_succ] at u0 u1 u2
              have ii := isT_atom HG0.out (tB_isT cx (x := i) (by simp))
              have ic := isT_atom HG0.out (tB_isT cx (x := c) (by simp))
              have ix := isT_atom HG0.out (tB_isT cx (x := x) (by simp))
              have HD := Shut.mk (And.intro ii (And.intro ic ix))
              clear ii ic ix
              have ii := isT_atom HG0.out (tB_isT cy (x := o0) (by simp))
              have ic := isT_atom HG0.out (tB_isT cy (x := o1) (by simp))
              have ix := isT_atom HG0.out (tB_isT cy (x := o2) (by simp))
              have HE := Shut.mk (And.intro ii (And.intro ic ix))
              clear ii ic ix
              have HC1 := Lib.hid (PNext_ok HA.out (RdK.nil _ _) HD.out.1 HD.out.2.1 HD.out.2.2 (DenL.nil _) (by simp only [List.length_append, List.length_nil, List.length_cons]; rw [atomsL_len]; omega))
              go_wp2_with fail
              (with_reducible refine HC1.out.mono ?_); rintro e w5 ⟨r5, X, rfl, a5, hr5, d5, k5⟩
              simp only [List.length_nil] at hr5
              have DX := Shut.mk d5
              obtain ⟨x0, x1, x2, x3, x4, x5, x6, x7, x8, x9, x10⟩ := X
              have hb5 := k5.blk HB4.out HLT.out
              have kX : Kept w5 (w5.alloc (.cells #[.int .i64 x0, .int .i64 x1, .int .i64 x2, .int .i64 x3, .int .i64 x4, .int .i64 x5, .int .i64 x6, .int .i64 x7, .int .i64 x8, .int .i64 x9, .int .i64 x10] 30)) := (Kept.refl w5).alloc _
              have bX := Blk.new w5 [.int .i64 x0, .int .i64 x1, .int .i64 x2, .int .i64 x3, .int .i64 x4, .int .i64 x5, .int .i64 x6, .int .i64 x7, .int .i64 x8, .int .i64 x9, .int .i64 x10] 30
              have aX := a5.plusE kX
              have HBo := Lib.hid (hb5.kept kX)
              have HAX := Lib.hid aX
              have HBX := Lib.hid bX
              have TX := Shut.mk (show PlusE (fun b => b < w3.heap.size) w5 (w5.alloc (.cells #[.int .i64 x0, .int .i64 x1, .int .i64 x2, .int .i64 x3, .int .i64 x4, .int .i64 x5, .int .i64 x6, .int .i64 x7, .int .i64 x8, .int .i64 x9, .int .i64 x10] 30)) w5.heap.size from .inr ⟨Nat.le_refl _, bX.lt⟩)
              have TO := Shut.mk (show PlusE (fun b => b < w3.heap.size) w5 (w5.alloc (.cells #[.int .i64 x0, .int .i64 x1, .int .i64 x2, .int .i64 x3, .int .i64 x4, .int .i64 x5, .int .i64 x6, .int .i64 x7, .int .i64 x8, .int .i64 x9, .int .i64 x10] 30)) ob from .inl HLT.out)
              have FX := Shut.mk (show ∀ b, b < w3.heap.size → PlusE (fun b => b < w3.heap.size) w5 (w5.alloc (.cells #[.int .i64 x0, .int .i64 x1, .int .i64 x2, .int .i64 x3, .int .i64 x4, .int .i64 x5, .int .i64 x6, .int .i64 x7, .int .i64 x8, .int .i64 x9, .int .i64 x10] 30)) b from fun b q => .inl q)
              clear u0 u1 u2
              have u0 := HBo.out.cell 0
              have u1 := HBo.out.cell 1
              have u2 := HBo.out.cell 2
              simp only [List.getElem?_cons_zero, List.getElem?_cons_succ] at u0 u1 u2
              unfold epV
              simp only
              clear a5 k5 kX bX aX HC1 hb5 HA HB4 d5
              go_upto_region 6 with fail
              generalize PlusE (fun b => b < w3.heap.size) w5 (w5.alloc (.cells #[.int .i64 x0, .int .i64 x1, .int .i64 x2, .int .i64 x3, .int .i64 x4, .int .i64 x5, .int .i64 x6, .int .i64 x7, .int .i64 x8, .int .i64 x9, .int .i64 x10] 30)) = T at *
              generalize (w5.alloc (.cells #[.int .i64 x0, .int .i64 x1, .int .i64 x2, .int .i64 x3, .int .i64 x4, .int .i64 x5, .int .i64 x6, .int .i64 x7, .int .i64 x8, .int .i64 x9, .int .i64 x10] 30)) = w6 at *
              generalize w5.heap.size = xb at *
              have HC2 := Lib.hid (PNext_ok HAX.out (RdK.nil _ _) ((HE.out.1).more r5) ((HE.out.2.1).more r5) ((HE.out.2.2).more r5) (DenL.nil _) (by simp only [List.length_append, List.length_nil, List.length_cons]; rw [atomsL_len]; omega))
              go_wp2_with fail
              (with_reducible refine HC2.out.mono ?_); rintro e w7 ⟨r7, Y, rfl, a7, hr7, d7, k7⟩
              simp only [List.length_nil] at hr7
              have DY := Shut.mk d7
              obtain ⟨y0, y1, y2, y3, y4, y5, y6, y7, y8, y9, y10⟩ := Y
              have hb7 := k7.blk HBo.out TO.out
              have hx7 := k7.blk HBX.out TX.out
              have kY : Kept w7 ((w7.alloc (.cells #[.int .i64 y0, .int .i64 y1, .int .i64 y2, .int .i64 y3, .int .i64 y4, .int .i64 y5, .int .i64 y6, .int .i64 y7, .int .i64 y8, .int .i64 y9, .int .i64 y10] 30)).alloc (.cells #[.int .i64 3] 3)) := ((Kept.refl w7).alloc _).alloc _
              have bY := (Blk.new w7 [.int .i64 y0, .int .i64 y1, .int .i64 y2, .int .i64 y3, .int .i64 y4, .int .i64 y5, .int .i64 y6, .int .i64 y7, .int .i64 y8, .int .i64 y9, .int .i64 y10] 30).kept ((Kept.refl _).alloc (.cells #[.int .i64 3] 3))
              have aY := a7.plusE kY
              have hl3 : RdK (PlusE T w7 ((w7.alloc (.cells #[.int .i64 y0, .int .i64 y1, .int .i64 y2, .int .i64 y3, .int .i64 y4, .int .i64 y5, .int .i64 y6, .int .i64 y7, .int .i64 y8, .int .i64 y9, .int .i64 y10] 30)).alloc (.cells #[.int .i64 3] 3))) ((w7.alloc (.cells #[.int .i64 y0, .int .i64 y1, .int .i64 y2, .int .i64 y3, .int .i64 y4, .int .i64 y5, .int .i64 y6, .int .i64 y7, .int .i64 y8, .int .i64 y9, .int .i64 y10] 30)).alloc (.cells #[.int .i64 3] 3)) (.slice (some ⟨w7.heap.size + 1, 0, none⟩) 1 1) [3] := by
                have ho : OwnI (w7.heap.size + 1) ((w7.alloc (.cells #[.int .i64 y0, .int .i64 y1, .int .i64 y2, .int .i64 y3, .int .i64 y4, .int .i64 y5, .int .i64 y6, .int .i64 y7, .int .i64 y8, .int .i64 y9, .int .i64 y10] 30)).alloc (.cells #[.int .i64 3] 3)) (.slice (some ⟨w7.heap.size + 1, 0, none⟩) 1 1) [3] := by
                  have := Ownv.lit (B := w7.heap.size + 1) 3 (w := (w7.alloc (.cells #[.int .i64 y0, .int .i64 y1, .int .i64 y2, .int .i64 y3, .int .i64 y4, .int .i64 y5, .int .i64 y6, .int .i64 y7, .int .i64 y8, .int .i64 y9, .int .i64 y10] 30))) [.int .i64 3] (by rw [World.size_alloc]; exact Nat.le_refl _) (by unfold maxLen; simp)
                  rw [World.size_alloc] at this
                  exact this
                refine RdK.own ho fun b hb => .inr ?_
                have := Ownv.lt ho hb
                exact ⟨by omega, this.1⟩
              have HAY := Lib.hid aY
              have HL3 := Lib.hid hl3
              have HBo2 := Lib.hid (hb7.kept kY)
              have HBX2 := Lib.hid (hx7.kept kY)
              have HBY := Lib.hid bY
              have TS := Shut.mk (show PlusE T w7 ((w7.alloc (.cells #[.int .i64 y0, .int .i64 y1, .int .i64 y2, .int .i64 y3, .int .i64 y4, .int .i64 y5, .int .i64 y6, .int .i64 y7, .int .i64 y8, .int .i64 y9, .int .i64 y10] 30)).alloc (.cells #[.int .i64 3] 3)) ob ∧ PlusE T w7 ((w7.alloc (.cells #[.int .i64 y0, .int .i64 y1, .int .i64 y2, .int .i64 y3, .int .i64 y4, .int .i64 y5, .int .i64 y6, .int .i64 y7, .int .i64 y8, .int .i64 y9, .int .i64 y10] 30)).alloc (.cells #[.int .i64 3] 3)) xb ∧ PlusE T w7 ((w7.alloc (.cells #[.int .i64 y0, .int .i64 y1, .int .i64 y2, .int .i64 y3, .int .i64 y4, .int .i64 y5, .int .i64 y6, .int .i64 y7, .int .i64 y8, .int .i64 y9, .int .i64 y10] 30)).alloc (.cells #[.int .i64 3] 3)) w7.heap.size from ⟨.inl TO.out, .inl TX.out, .inr ⟨Nat.le_refl _, bY.lt⟩⟩)
              have HC3 := Lib.hid (PNext_ok aY hl3 (((HD.out.1).more r5).more r7) (((HD.out.2.1).more r5).more r7) (((HD.out.2.2).more r5).more r7) (DenL.cons ((((atoms_den (k := 10) (n := 3) HG0.out (by decide))).more r5).more r7) (DenL.nil _)) (by simp only [List.length_append, List.length_nil, List.length_cons]; rw [atomsL_len]; omega))
              unfold epV
              simp only
              clear a7 k7 kY bY aY hl3 HC2 hb7 hx7 HBo HBX HAX u0 u1 u2 TX TO HL3 d7
              go_wp2_with fail
              generalize PlusE T w7 ((w7.alloc (.cells #[.int .i64 y0, .int .i64 y1, .int .i64 y2, .int .i64 y3, .int .i64 y4, .int .i64 y5, .int .i64 y6, .int .i64 y7, .int .i64 y8, .int .i64 y9, .int .i64 y10] 30)).alloc (.cells #[.int .i64 3] 3)) = T2 at *
              generalize ((w7.alloc (.cells #[.int .i64 y0, .int .i64 y1, .int .i64 y2, .int .i64 y3, .int .i64 y4, .int .i64 y5, .int .i64 y6, .int .i64 y7, .int .i64 y8, .int .i64 y9, .int .i64 y10] 30)).alloc (.cells #[.int .i64 3] 3)) = w8 at *
              generalize w7.heap.size = yb at *
              (with_reducible refine HC3.out.mono ?_); rintro e w9 ⟨r9, V, rfl, a9, hr9, d9, k9⟩
              simp only [List.length_nil, List.length_cons] at hr9
              have DZ := Shut.mk d9
              obtain ⟨v0, v1, v2, v3, v4, v5, v6, v7, v8, v9, v10⟩ := V
              have kZ : Kept w9 (w9.alloc (.cells #[.int .i64 v0, .int .i64 v1, .int .i64 v2, .int .i64 v3, .int .i64 v4, .int .i64 v5, .int .i64 v6, .int .i64 v7, .int .i64 v8, .int .i64 v9, .int .i64 v10] 30)) := (Kept.refl w9).alloc _
              have bZ := Blk.new w9 [.int .i64 v0, .int .i64 v1, .int .i64 v2, .int .i64 v3, .int .i64 v4, .int .i64 v5, .int .i64 v6, .int .i64 v7, .int .i64 v8, .int .i64 v9, .int .i64 v10] 30
              have aZ := a9.plusE kZ
              have HAZ := Lib.hid aZ
              have HBo := Lib.hid ((k9.blk HBo2.out TS.out.1).kept kZ)
              have HBX := Lib.hid ((k9.blk HBX2.out TS.out.2.1).kept kZ)
              have HBY3 := Lib.hid ((k9.blk HBY.out TS.out.2.2).kept kZ)
              have HBZ := Lib.hid bZ
              have TZ := Shut.mk (show PlusE T2 w9 (w9.alloc (.cells #[.int .i64 v0, .int .i64 v1, .int .i64 v2, .int .i64 v3, .int .i64 v4, .int .i64 v5, .int .i64 v6, .int .i64 v7, .int .i64 v8, .int .i64 v9, .int .i64 v10] 30)) xb from .inl TS.out.2.1)
              unfold epV
              simp only
              clear a9 k9 kZ bZ aZ HC3 HBo2 HBX2 HBY HAY TS d9
              have TZ3 := TZ
              go_upto_region 10 with fail
              generalize PlusE T2 w9 (w9.alloc (.cells #[.int .i64 v0, .int .i64 v1, .int .i64 v2, .int .i64 v3, .int .i64 v4, .int .i64 v5, .int .i64 v6, .int .i64 v7, .int .i64 v8, .int .i64 v9, .int .i64 v10] 30)) = T3 at *
              generalize (w9.alloc (.cells #[.int .i64 v0, .int .i64 v1, .int .i64 v2, .int .i64 v3, .int .i64 v4, .int .i64 v5, .int .i64 v6, .int .i64 v7, .int .i64 v8, .int .i64 v9, .int .i64 v10] 30)) = wz at *
              generalize w9.heap.size = zb at *
              have u0 := HBo.out.cell 0
              have u1 := HBo.out.cell 1
              have u2 := HBo.out.cell 2
              simp only [List.getElem?_cons_zero, List.getElem?_cons_succ] at u0 u1 u2
              have p0 := HBX.out.cell 0
              have p1 := HBX.out.cell 1
              have p2 := HBX.out.cell 2
              have p3 := HBX.out.cell 3
              have p4 := HBX.out.cell 4
              have p5 := HBX.out.cell 5
              have p6 := HBX.out.cell 6
              have p7 := HBX.out.cell 7
              have p8 := HBX.out.cell 8
              have p9 := HBX.out.cell 9
              have p10 := HBX.out.cell 10
              have q0 := HBY3.out.cell 0
              have q1 := HBY3.out.cell 1
              have q2 := HBY3.out.cell 2
              have q3 := HBY3.out.cell 3
              have q4 := HBY3.out.cell 4
              have q5 := HBY3.out.cell 5
              have q6 := HBY3.out.cell 6
              have q7 := HBY3.out.cell 7
              have q8 := HBY3.out.cell 8
              have q9 := HBY3.out.cell 9
              have q10 := HBY3.out.cell 10
              have s0 := HBZ.out.cell 0
              have s1 := HBZ.out.cell 1
              have s2 := HBZ.out.cell 2
              have s3 := HBZ.out.cell 3
              have s4 := HBZ.out.cell 4
              have s5 := HBZ.out.cell 5
              have s6 := HBZ.out.cell 6
              have s7 := HBZ.out.cell 7
              have s8 := HBZ.out.cell 8
              have s9 := HBZ.out.cell 9
              have s10 := HBZ.out.cell 10
              simp only [List.getElem?_cons_zero, List.getElem?_cons_succ] at p0 p1 p2 p3 p4 p5 p6 p7 p8 p9 p10 q0 q1 q2 q3 q4 q5 q6 q7 q8 q9 q10 s0 s1 s2 s3 s4 s5 s6 s7 s8 s9 s10
              have hg := HAZ.out.good
              have XY := Shut.mk (fun (k : Nat) (hk : k < 10) => apart_xy hg ((DX.out.more r7).more r9) (DY.out.more r9) hk)
              have XZ := Shut.mk (fun (k : Nat) (hk : k < 10) => apart_xz hg ((DX.out.more r7).more r9) DZ.out hk)
              have EX := Shut.mk ((DX.out.more r7).more r9).exporter
              have IX := Lib.hid (fun W => PInner_any W ⟨x0, x1, x2, x3, x4, x5, x6, x7, x8, x9, x10⟩)
              have IY := Lib.hid (fun W => PInner_any W ⟨y0, y1, y2, y3, y4, y5, y6, y7, y8, y9, y10⟩)
              have IZ := Lib.hid (fun W => PInner_any W ⟨v0, v1, v2, v3, v4, v5, v6, v7, v8, v9, v10⟩)
              unfold epV at IX IY IZ
              simp only at IX IY IZ
              obtain ⟨X, hX⟩ : ∃ X : Ep, X = ⟨x0, x1, x2, x3, x4, x5, x6, x7, x8, x9, x10⟩ := ⟨_, rfl⟩
              obtain ⟨Y, hY⟩ : ∃ Y : Ep, Y = ⟨y0, y1, y2, y3, y4, y5, y6, y7, y8, y9, y10⟩ := ⟨_, rfl⟩
              obtain ⟨V, hV⟩ : ∃ V : Ep, V = ⟨v0, v1, v2, v3, v4, v5, v6, v7, v8, v9, v10⟩ := ⟨_, rfl⟩
              rw [← hX] at IX XY XZ EX
              rw [← hY] at IY XY
              rw [← hV] at IZ XZ
              have HX := Shut.mk hX
              clear hX hY hV hg DY DZ HE
              have hw : ((i == o0) = false) ∨ ((i == o0) = true ∧ (c == o1) = false) ∨ ((i == o0) = true ∧ (c == o1) = true ∧ (x == o2) = false) ∨ ((i == o0) = true ∧ (c == o1) = true ∧ (x == o2) = true) := by
                cases (i == o0) <;> cases (c == o1) <;> cases (x == o2) <;> simp
              rcases hw with h0 | ⟨h0, h1⟩ | ⟨h0, h1, h2⟩ | ⟨h0, h1, h2⟩
              · have HXY := Shut.mk (fun k hk => (XY.out k hk).trans (show (i == o0 && (c == o1 && x == o2)) = false by simp [h0]))
                clear XY
                go_wp2_with fail
                (with_reducible refine (IX.out _).mono ?_); rintro e wi ⟨l1, rfl, ol1, ki⟩
                obtain ⟨la, lc, hla⟩ : ∃ la lc, l1 = .slice la 10 lc := by
                  obtain ⟨va, vc, h, _, _, _⟩ := (OwnI.rd ol1).len
                  exact ⟨va, vc, h⟩
                subst hla
                have q0 := (ki.cell (World.block_lt_of_cell? _ _ q0)).trans q0
                have q1 := (ki.cell (World.block_lt_of_cell? _ _ q1)).trans q1
                have q2 := (ki.cell (World.block_lt_of_cell? _ _ q2)).trans q2
                have q3 := (ki.cell (World.block_lt_of_cell? _ _ q3)).trans q3
                have q4 := (ki.cell (World.block_lt_of_cell? _ _ q4)).trans q4
                have q5 := (ki.cell (World.block_lt_of_cell? _ _ q5)).trans q5
                have q6 := (ki.cell (World.block_lt_of_cell? _ _ q6)).trans q6
                have q7 := (ki.cell (World.block_lt_of_cell? _ _ q7)).trans q7
                have q8 := (ki.cell (World.block_lt_of_cell? _ _ q8)).trans q8
                have q9 := (ki.cell (World.block_lt_of_cell? _ _ q9)).trans q9
                have q10 := (ki.cell (World.block_lt_of_cell? _ _ q10)).trans q10
                have s0 := (ki.cell (World.block_lt_of_cell? _ _ s0)).trans s0
                have s1 := (ki.cell (World.block_lt_of_cell? _ _ s1)).trans s1
                have s2 := (ki.cell (World.block_lt_of_cell? _ _ s2)).trans s2
                have s3 := (ki.cell (World.block_lt_of_cell? _ _ s3)).trans s3
                have s4 := (ki.cell (World.block_lt_of_cell? _ _ s4)).trans s4
                have s5 := (ki.cell (World.block_lt_of_cell? _ _ s5)).trans s5
                have s6 := (ki.cell (World.block_lt_of_cell? _ _ s6)).trans s6
                have s7 := (ki.cell (World.block_lt_of_cell? _ _ s7)).trans s7
                have s8 := (ki.cell (World.block_lt_of_cell? _ _ s8)).trans s8
                have s9 := (ki.cell (World.block_lt_of_cell? _ _ s9)).trans s9
                have s10 := (ki.cell (World.block_lt_of_cell? _ _ s10)).trans s10
                go_wp2_with fail
                (with_reducible refine (IY.out _).mono ?_); rintro e wj ⟨l2, rfl, ol2, kj⟩
                obtain ⟨ma, mc, hma⟩ : ∃ la lc, l2 = .slice la 10 lc := by
                  obtain ⟨va, vc, h, _, _, _⟩ := (OwnI.rd ol2).len
                  exact ⟨va, vc, h⟩
                subst hma
                have s0 := (kj.cell (World.block_lt_of_cell? _ _ s0)).trans s0
                have s1 := (kj.cell (World.block_lt_of_cell? _ _ s1)).trans s1
                have s2 := (kj.cell (World.block_lt_of_cell? _ _ s2)).trans s2
                have s3 := (kj.cell (World.block_lt_of_cell? _ _ s3)).trans s3
                have s4 := (kj.cell (World.block_lt_of_cell? _ _ s4)).trans s4
                have s5 := (kj.cell (World.block_lt_of_cell? _ _ s5)).trans s5
                have s6 := (kj.cell (World.block_lt_of_cell? _ _ s6)).trans s6
                have s7 := (kj.cell (World.block_lt_of_cell? _ _ s7)).trans s7
                have s8 := (kj.cell (World.block_lt_of_cell? _ _ s8)).trans s8
                have s9 := (kj.cell (World.block_lt_of_cell? _ _ s9)).trans s9
                have s10 := (kj.cell (World.block_lt_of_cell? _ _ s10)).trans s10
                go_wp2_with fail
                (with_reducible refine (IZ.out _).mono ?_); rintro e wk ⟨l3, rfl, ol3, kk⟩
                obtain ⟨na, nc, hna⟩ : ∃ la lc, l3 = .slice la 10 lc := by
                  obtain ⟨va, vc, h, _, _, _⟩ := (OwnI.rd ol3).len
                  exact ⟨va, vc, h⟩
                subst hna
                have R1 := Lib.hid ((OwnI.rd ol1).kept (kj.trans kk))
                have R2 := Lib.hid ((OwnI.rd ol2).kept kk)
                have R3 := Lib.hid (OwnI.rd ol3)
                have KZ := Lib.hid ((ki.trans kj).trans kk)
                clear ol1 ol2 ol3 ki kj kk IX IY IZ p0 p1 p2 p3 p4 p5 p6 p7 p8 p9 p10 q0 q1 q2 q3 q4 q5 q6 q7 q8 q9 q10 s0 s1 s2 s3 s4 s5 s6 s7 s8 s9 s10 u0 u1 u2
                go_wp2
                go_loopw [132] (fun s wr => ∃ k : Nat, k ≤ 10 ∧ s = .int .i64 k ∧ Kept wk wr) (fun s _ => 10 - (intOf s).toNat)
                case atStart => exact ⟨0, Nat.zero_le _, rfl, Kept.refl _⟩
                case round =>
                  obtain ⟨k, hk0, rfl, hkw⟩ := hrel
                  by_cases hlt : k < 10
                  · have x1 := HXY.out k hlt
                    have x2 := XZ.out k hlt
                    obtain ⟨rb1, ro1, rc1, hrv, _, _, hrb, hcl⟩ := (R1.out.kept hkw).addr (show 0 < 10 by decide)
                    simp only [Value.slice.injEq] at hrv
                    obtain ⟨rfl, hdrop, rfl⟩ := hrv
                    clear hdrop
                    have f1 := hcl k hlt
                    clear hcl
                    obtain ⟨rb2, ro2, rc2, hrv, _, _, hrb, hcl⟩ := (R2.out.kept hkw).addr (show 0 < 10 by decide)
                    simp only [Value.slice.injEq] at hrv
                    obtain ⟨rfl, hdrop, rfl⟩ := hrv
                    clear hdrop
                    have f2 := hcl k hlt
                    clear hcl
                    obtain ⟨rb3, ro3, rc3, hrv, _, _, hrb, hcl⟩ := (R3.out.kept hkw).addr (show 0 < 10 by decide)
                    simp only [Value.slice.injEq] at hrv
                    obtain ⟨rfl, hdrop, rfl⟩ := hrv
                    clear hdrop
                    have f3 := hcl k hlt
                    clear hcl
                    generalize X.inner.getD k 0 = g1 at x1 x2 f1
                    generalize Y.inner.getD k 0 = g2 at x1 f2
                    generalize V.inner.getD k 0 = g3 at x2 f3
                    have c0 : (0 : Int) ≤ (k : Int) := by omega
                    have c1 : (k : Int) < 10 := by omega
                    have HLT2 := Shut.mk hlt
                    clear hlt
                    by_cases hk : k = 0
                    · have x3 : ((k : Int) == 0) = true := beq_iff_eq.2 (by omega)
                      rw [decide_eq_true hk] at x2
                      clear hk
                      go_wp2
                      go_quiet (fail)
                      go_wp2
                      go_roundw
                      case rel => exact ⟨k + 1, HLT2.out, by go_num, hkw.drewN _⟩
                      case measure => simp [intOf]; have := HLT2.out; omega
                    · have x3 : ((k : Int) == 0) = false := beq_eq_false_iff_ne.2 (by omega)
                      rw [decide_eq_false hk] at x2
                      clear hk
                      go_wp2
                      go_quiet (fail)
                      go_wp2
                      go_roundw
                      case rel => exact ⟨k + 1, HLT2.out, by go_num, hkw.drewN _⟩
                      case measure => simp [intOf]; have := HLT2.out; omega
                  · obtain rfl : k = 10 := by omega
                    have hA := HAZ.out.step (KZ.out.trans hkw)
                    have HXr := Lib.hid (HBX.out.kept (KZ.out.trans hkw))
                    clear HXY XZ R1 R2 R3
                    have p0 := HXr.out.cell 0
                    have p1 := HXr.out.cell 1
                    have p2 := HXr.out.cell 2
                    have p3 := HXr.out.cell 3
                    have p4 := HXr.out.cell 4
                    have p5 := HXr.out.cell 5
                    have p6 := HXr.out.cell 6
                    have p7 := HXr.out.cell 7
                    have p8 := HXr.out.cell 8
                    have p9 := HXr.out.cell 9
                    have p10 := HXr.out.cell 10
                    simp only [List.getElem?_cons_zero, List.getElem?_cons_succ] at p0 p1 p2 p3 p4 p5 p6 p7 p8 p9 p10
                    have HE1 := Lib.hid (PExport_ok hA (((HD.out.2.2.more r5).more r7).more r9) EX.out (s := xp) (by have := H1.out; omega) (by simp only [List.length_append]; rw [atomsL_len]; omega))
                    rw [← HXP.out, HX.out] at HE1
                    unfold epV at HE1
                    simp only at HE1
                    go_wp2_with fail
                    (with_reducible refine HE1.out.mono ?_); rintro e we ⟨re, te, rfl, ae, hre, de, ke⟩
                    have HXe := Lib.hid (ke.blk HXr.out TZ3.out)
                    clear HXr p0 p1 p2 p3 p4 p5 p6 p7 p8 p9 p10
                    have p0 := HXe.out.cell 0
                    have p1 := HXe.out.cell 1
                    have p2 := HXe.out.cell 2
                    have p3 := HXe.out.cell 3
                    have p4 := HXe.out.cell 4
                    have p5 := HXe.out.cell 5
                    have p6 := HXe.out.cell 6
                    have p7 := HXe.out.cell 7
                    have p8 := HXe.out.cell 8
                    have p9 := HXe.out.cell 9
                    have p10 := HXe.out.cell 10
                    simp only [List.getElem?_cons_zero, List.getElem?_cons_succ] at p0 p1 p2 p3 p4 p5 p6 p7 p8 p9 p10
                    have HE2 := Lib.hid (PExport_ok ae ((((HD.out.2.2.more r5).more r7).more r9).more re) (EX.out.more re) (s := xq) (by have := H2.out; omega) (by simp only [List.length_append]; rw [atomsL_len]; omega))
                    rw [← HXQ.out, HX.out] at HE2
                    unfold epV at HE2
                    simp only at HE2
                    have DE := Shut.mk de
                    clear ae de ke hA HE1
                    go_wp2_with fail
                    (with_reducible refine HE2.out.mono ?_); rintro e wf ⟨rf, tf, rfl, af, hrf, df, kf⟩
                    have hq1 : (te == tf) = decide (xp = xq) := den_eqB af.good (DE.out.more rf) df exp_iff
                    have hq2 : (P.toList == Q.toList) = decide (xp = xq) := by rw [HP3.out, HP4.out, Bool.eq_iff_iff, beq_iff_eq, decide_eq_true_iff]
                    have KK := Lib.hid (K13.out.trans af.kept)
                    generalize decide (xp = xq) = B at hq1 hq2
                    have hbb : (B == B) = true := by simp
                    clear af df kf HE2 DE HXe p0 p1 p2 p3 p4 p5 p6 p7 p8 p9 p10
                    go_wp2
                    go_ret
                    exact ⟨by simp, KK.out⟩
              · have HXY := Shut.mk (fun k hk => (XY.out k hk).trans (show (i == o0 && (c == o1 && x == o2)) = false by simp [h0, h1]))
                clear XY
                go_wp2_with fail
                (with_reducible refine (IX.out _).mono ?_); rintro e wi ⟨l1, rfl, ol1, ki⟩
                obtain ⟨la, lc, hla⟩ : ∃ la lc, l1 = .slice la 10 lc := by
                  obtain ⟨va, vc, h, _, _, _⟩ := (OwnI.rd ol1).len
                  exact ⟨va, vc, h⟩
                subst hla
                have q0 := (ki.cell (World.block_lt_of_cell? _ _ q0)).trans q0
                have q1 := (ki.cell (World.block_lt_of_cell? _ _ q1)).trans q1
                have q2 := (ki.cell (World.block_lt_of_cell? _ _ q2)).trans q2
                have q3 := (ki.cell (World.block_lt_of_cell? _ _ q3)).trans q3
                have q4 := (ki.cell (World.block_lt_of_cell? _ _ q4)).trans q4
                have q5 := (ki.cell (World.block_lt_of_cell? _ _ q5)).trans q5
                have q6 := (ki.cell (World.block_lt_of_cell? _ _ q6)).trans q6
                have q7 := (ki.cell (World.block_lt_of_cell? _ _ q7)).trans q7
                have q8 := (ki.cell (World.block_lt_of_cell? _ _ q8)).trans q8
                have q9 := (ki.cell (World.block_lt_of_cell? _ _ q9)).trans q9
                have q10 := (ki.cell (World.block_lt_of_cell? _ _ q10)).trans q10
                have s0 := (ki.cell (World.block_lt_of_cell? _ _ s0)).trans s0
                have s1 := (ki.cell (World.block_lt_of_cell? _ _ s1)).trans s1
                have s2 := (ki.cell (World.block_lt_of_cell? _ _ s2)).trans s2
                have s3 := (ki.cell (World.block_lt_of_cell? _ _ s3)).trans s3
                have s4 := (ki.cell (World.block_lt_of_cell? _ _ s4)).trans s4
                have s5 := (ki.cell (World.block_lt_of_cell? _ _ s5)).trans s5
                have s6 := (ki.cell (World.block_lt_of_cell? _ _ s6)).trans s6
                have s7 := (ki.cell (World.block_lt_of_cell? _ _ s7)).trans s7
                have s8 := (ki.cell (World.block_lt_of_cell? _ _ s8)).trans s8
                have s9 := (ki.cell (World.block_lt_of_cell? _ _ s9)).trans s9
                have s10 := (ki.cell (World.block_lt_of_cell? _ _ s10)).trans s10
                go_wp2_with fail
                (with_reducible refine (IY.out _).mono ?_); rintro e wj ⟨l2, rfl, ol2, kj⟩
                obtain ⟨ma, mc, hma⟩ : ∃ la lc, l2 = .slice la 10 lc := by
                  obtain ⟨va, vc, h, _, _, _⟩ := (OwnI.rd ol2).len
                  exact ⟨va, vc, h⟩
                subst hma
                have s0 := (kj.cell (World.block_lt_of_cell? _ _ s0)).trans s0
                have s1 := (kj.cell (World.block_lt_of_cell? _ _ s1)).trans s1
                have s2 := (kj.cell (World.block_lt_of_cell? _ _ s2)).trans s2
                have s3 := (kj.cell (World.block_lt_of_cell? _ _ s3)).trans s3
                have s4 := (kj.cell (World.block_lt_of_cell? _ _ s4)).trans s4
                have s5 := (kj.cell (World.block_lt_of_cell? _ _ s5)).trans s5
                have s6 := (kj.cell (World.block_lt_of_cell? _ _ s6)).trans s6
                have s7 := (kj.cell (World.block_lt_of_cell? _ _ s7)).trans s7
                have s8 := (kj.cell (World.block_lt_of_cell? _ _ s8)).trans s8
                have s9 := (kj.cell (World.block_lt_of_cell? _ _ s9)).trans s9
                have s10 := (kj.cell (World.block_lt_of_cell? _ _ s10)).trans s10
                go_wp2_with fail
                (with_reducible refine (IZ.out _).mono ?_); rintro e wk ⟨l3, rfl, ol3, kk⟩
                obtain ⟨na, nc, hna⟩ : ∃ la lc, l3 = .slice la 10 lc := by
                  obtain ⟨va, vc, h, _, _, _⟩ := (OwnI.rd ol3).len
                  exact ⟨va, vc, h⟩
                subst hna
                have R1 := Lib.hid ((OwnI.rd ol1).kept (kj.trans kk))
                have R2 := Lib.hid ((OwnI.rd ol2).kept kk)
                have R3 := Lib.hid (OwnI.rd ol3)
                have KZ := Lib.hid ((ki.trans kj).trans kk)
                clear ol1 ol2 ol3 ki kj kk IX IY IZ p0 p1 p2 p3 p4 p5 p6 p7 p8 p9 p10 q0 q1 q2 q3 q4 q5 q6 q7 q8 q9 q10 s0 s1 s2 s3 s4 s5 s6 s7 s8 s9 s10 u0 u1 u2
                go_wp2
                go_loopw [132] (fun s wr => ∃ k : Nat, k ≤ 10 ∧ s = .int .i64 k ∧ Kept wk wr) (fun s _ => 10 - (intOf s).toNat)
                case atStart => exact ⟨0, Nat.zero_le _, rfl, Kept.refl _⟩
                case round =>
                  obtain ⟨k, hk0, rfl, hkw⟩ := hrel
                  by_cases hlt : k < 10
                  · have x1 := HXY.out k hlt
                    have x2 := XZ.out k hlt
                    obtain ⟨rb1, ro1, rc1, hrv, _, _, hrb, hcl⟩ := (R1.out.kept hkw).addr (show 0 < 10 by decide)
                    simp only [Value.slice.injEq] at hrv
                    obtain ⟨rfl, hdrop, rfl⟩ := hrv
                    clear hdrop
                    have f1 := hcl k hlt
                    clear hcl
                    obtain ⟨rb2, ro2, rc2, hrv, _, _, hrb, hcl⟩ := (R2.out.kept hkw).addr (show 0 < 10 by decide)
                    simp only [Value.slice.injEq] at hrv
                    obtain ⟨rfl, hdrop, rfl⟩ := hrv
                    clear hdrop
                    have f2 := hcl k hlt
                    clear hcl
                    obtain ⟨rb3, ro3, rc3, hrv, _, _, hrb, hcl⟩ := (R3.out.kept hkw).addr (show 0 < 10 by decide)
                    simp only [Value.slice.injEq] at hrv
                    obtain ⟨rfl, hdrop, rfl⟩ := hrv
                    clear hdrop
                    have f3 := hcl k hlt
                    clear hcl
                    generalize X.inner.getD k 0 = g1 at x1 x2 f1
                    generalize Y.inner.getD k 0 = g2 at x1 f2
                    generalize V.inner.getD k 0 = g3 at x2 f3
                    have c0 : (0 : Int) ≤ (k : Int) := by omega
                    have c1 : (k : Int) < 10 := by omega
                    have HLT2 := Shut.mk hlt
                    clear hlt
                    by_cases hk : k = 0
                    · have x3 : ((k : Int) == 0) = true := beq_iff_eq.2 (by omega)
                      rw [decide_eq_true hk] at x2
                      clear hk
                      go_wp2
                      go_quiet (fail)
                      go_wp2
                      go_roundw
                      case rel => exact ⟨k + 1, HLT2.out, by go_num, hkw.drewN _⟩
                      case measure => simp [intOf]; have := HLT2.out; omega
                    · have x3 : ((k : Int) == 0) = false := beq_eq_false_iff_ne.2 (by omega)
                      rw [decide_eq_false hk] at x2
                      clear hk
                      go_wp2
                      go_quiet (fail)
                      go_wp2
                      go_roundw
                      case rel => exact ⟨k + 1, HLT2.out, by go_num, hkw.drewN _⟩
                      case measure => simp [intOf]; have := HLT2.out; omega
                  · obtain rfl : k = 10 := by omega
                    have hA := HAZ.out.step (KZ.out.trans hkw)
                    have HXr := Lib.hid (HBX.out.kept (KZ.out.trans hkw))
                    clear HXY XZ R1 R2 R3
                    have p0 := HXr.out.cell 0
                    have p1 := HXr.out.cell 1
                    have p2 := HXr.out.cell 2
                    have p3 := HXr.out.cell 3
                    have p4 := HXr.out.cell 4
                    have p5 := HXr.out.cell 5
                    have p6 := HXr.out.cell 6
                    have p7 := HXr.out.cell 7
                    have p8 := HXr.out.cell 8
                    have p9 := HXr.out.cell 9
                    have p10 := HXr.out.cell 10
                    simp only [List.getElem?_cons_zero, List.getElem?_cons_succ] at p0 p1 p2 p3 p4 p5 p6 p7 p8 p9 p10
                    have HE1 := Lib.hid (PExport_ok hA (((HD.out.2.2.more r5).more r7).more r9) EX.out (s := xp) (by have := H1.out; omega) (by simp only [List.length_append]; rw [atomsL_len]; omega))
                    rw [← HXP.out, HX.out] at HE1
                    unfold epV at HE1
                    simp only at HE1
                    go_wp2_with fail
                    (with_reducible refine HE1.out.mono ?_); rintro e we ⟨re, te, rfl, ae, hre, de, ke⟩
                    have HXe := Lib.hid (ke.blk HXr.out TZ3.out)
                    clear HXr p0 p1 p2 p3 p4 p5 p6 p7 p8 p9 p10
                    have p0 := HXe.out.cell 0
                    have p1 := HXe.out.cell 1
                    have p2 := HXe.out.cell 2
                    have p3 := HXe.out.cell 3
                    have p4 := HXe.out.cell 4
                    have p5 := HXe.out.cell 5
                    have p6 := HXe.out.cell 6
                    have p7 := HXe.out.cell 7
                    have p8 := HXe.out.cell 8
                    have p9 := HXe.out.cell 9
                    have p10 := HXe.out.cell 10
                    simp only [List.getElem?_cons_zero, List.getElem?_cons_succ] at p0 p1 p2 p3 p4 p5 p6 p7 p8 p9 p10
                    have HE2 := Lib.hid (PExport_ok ae ((((HD.out.2.2.more r5).more r7).more r9).more re) (EX.out.more re) (s := xq) (by have := H2.out; omega) (by simp only [List.length_append]; rw [atomsL_len]; omega))
                    rw [← HXQ.out, HX.out] at HE2
                    unfold epV at HE2
                    simp only at HE2
                    have DE := Shut.mk de
                    clear ae de ke hA HE1
                    go_wp2_with fail
                    (with_reducible refine HE2.out.mono ?_); rintro e wf ⟨rf, tf, rfl, af, hrf, df, kf⟩
                    have hq1 : (te == tf) = decide (xp = xq) := den_eqB af.good (DE.out.more rf) df exp_iff
                    have hq2 : (P.toList == Q.toList) = decide (xp = xq) := by rw [HP3.out, HP4.out, Bool.eq_iff_iff, beq_iff_eq, decide_eq_true_iff]
                    have KK := Lib.hid (K13.out.trans af.kept)
                    generalize decide (xp = xq) = B at hq1 hq2
                    have hbb : (B == B) = true := by simp
                    clear af df kf HE2 DE HXe p0 p1 p2 p3 p4 p5 p6 p7 p8 p9 p10
                    go_wp2
                    go_ret
                    exact ⟨by simp, KK.out⟩
              · have HXY := Shut.mk (fun k hk => (XY.out k hk).trans (show (i == o0 && (c == o1 && x == o2)) = false by simp [h0, h1, h2]))
                clear XY
                go_wp2_with fail
                (with_reducible refine (IX.out _).mono ?_); rintro e wi ⟨l1, rfl, ol1, ki⟩
                obtain ⟨la, lc, hla⟩ : ∃ la lc, l1 = .slice la 10 lc := by
                  obtain ⟨va, vc, h, _, _, _⟩ := (OwnI.rd ol1).len
                  exact ⟨va, vc, h⟩
                subst hla
                have q0 := (ki.cell (World.block_lt_of_cell? _ _ q0)).trans q0
                have q1 := (ki.cell (World.block_lt_of_cell? _ _ q1)).trans q1
                have q2 := (ki.cell (World.block_lt_of_cell? _ _ q2)).trans q2
                have q3 := (ki.cell (World.block_lt_of_cell? _ _ q3)).trans q3
                have q4 := (ki.cell (World.block_lt_of_cell? _ _ q4)).trans q4
                have q5 := (ki.cell (World.block_lt_of_cell? _ _ q5)).trans q5
                have q6 := (ki.cell (World.block_lt_of_cell? _ _ q6)).trans q6
                have q7 := (ki.cell (World.block_lt_of_cell? _ _ q7)).trans q7
                have q8 := (ki.cell (World.block_lt_of_cell? _ _ q8)).trans q8
                have q9 := (ki.cell (World.block_lt_of_cell? _ _ q9)).trans q9
                have q10 := (ki.cell (World.block_lt_of_cell? _ _ q10)).trans q10
                have s0 := (ki.cell (World.block_lt_of_cell? _ _ s0)).trans s0
                have s1 := (ki.cell (World.block_lt_of_cell? _ _ s1)).trans s1
                have s2 := (ki.cell (World.block_lt_of_cell? _ _ s2)).trans s2
                have s3 := (ki.cell (World.block_lt_of_cell? _ _ s3)).trans s3
                have s4 := (ki.cell (World.block_lt_of_cell? _ _ s4)).trans s4
                have s5 := (ki.cell (World.block_lt_of_cell? _ _ s5)).trans s5
                have s6 := (ki.cell (World.block_lt_of_cell? _ _ s6)).trans s6
                have s7 := (ki.cell (World.block_lt_of_cell? _ _ s7)).trans s7
                have s8 := (ki.cell (World.block_lt_of_cell? _ _ s8)).trans s8
                have s9 := (ki.cell (World.block_lt_of_cell? _ _ s9)).trans s9
                have s10 := (ki.cell (World.block_lt_of_cell? _ _ s10)).trans s10
                go_wp2_with fail
                (with_reducible refine (IY.out _).mono ?_); rintro e wj ⟨l2, rfl, ol2, kj⟩
                obtain ⟨ma, mc, hma⟩ : ∃ la lc, l2 = .slice la 10 lc := by
                  obtain ⟨va, vc, h, _, _, _⟩ := (OwnI.rd ol2).len
                  exact ⟨va, vc, h⟩
                subst hma
                have s0 := (kj.cell (World.block_lt_of_cell? _ _ s0)).trans s0
                have s1 := (kj.cell (World.block_lt_of_cell? _ _ s1)).trans s1
                have s2 := (kj.cell (World.block_lt_of_cell? _ _ s2)).trans s2
                have s3 := (kj.cell (World.block_lt_of_cell? _ _ s3)).trans s3
                have s4 := (kj.cell (World.block_lt_of_cell? _ _ s4)).trans s4
                have s5 := (kj.cell (World.block_lt_of_cell? _ _ s5)).trans s5
                have s6 := (kj.cell (World.block_lt_of_cell? _ _ s6)).trans s6
                have s7 := (kj.cell (World.block_lt_of_cell? _ _ s7)).trans s7
                have s8 := (kj.cell (World.block_lt_of_cell? _ _ s8)).trans s8
                have s9 := (kj.cell (World.block_lt_of_cell? _ _ s9)).trans s9
                have s10 := (kj.cell (World.block_lt_of_cell? _ _ s10)).trans s10
                go_wp2_with fail
                (with_reducible refine (IZ.out _).mono ?_); rintro e wk ⟨l3, rfl, ol3, kk⟩
                obtain ⟨na, nc, hna⟩ : ∃ la lc, l3 = .slice la 10 lc := by
                  obtain ⟨va, vc, h, _, _, _⟩ := (OwnI.rd ol3).len
                  exact ⟨va, vc, h⟩
                subst hna
                have R1 := Lib.hid ((OwnI.rd ol1).kept (kj.trans kk))
                have R2 := Lib.hid ((OwnI.rd ol2).kept kk)
                have R3 := Lib.hid (OwnI.rd ol3)
                have KZ := Lib.hid ((ki.trans kj).trans kk)
                clear ol1 ol2 ol3 ki kj kk IX IY IZ p0 p1 p2 p3 p4 p5 p6 p7 p8 p9 p10 q0 q1 q2 q3 q4 q5 q6 q7 q8 q9 q10 s0 s1 s2 s3 s4 s5 s6 s7 s8 s9 s10 u0 u1 u2
                go_wp2
                go_loopw [132] (fun s wr => ∃ k : Nat, k ≤ 10 ∧ s = .int .i64 k ∧ Kept wk wr) (fun s _ => 10 - (intOf s).toNat)
                case atStart => exact ⟨0, Nat.zero_le _, rfl, Kept.refl _⟩
                case round =>
                  obtain ⟨k, hk0, rfl, hkw⟩ := hrel
                  by_cases hlt : k < 10
                  · have x1 := HXY.out k hlt
                    have x2 := XZ.out k hlt
                    obtain ⟨rb1, ro1, rc1, hrv, _, _, hrb, hcl⟩ := (R1.out.kept hkw).addr (show 0 < 10 by decide)
                    simp only [Value.slice.injEq] at hrv
                    obtain ⟨rfl, hdrop, rfl⟩ := hrv
                    clear hdrop
                    have f1 := hcl k hlt
                    clear hcl
                    obtain ⟨rb2, ro2, rc2, hrv, _, _, hrb, hcl⟩ := (R2.out.kept hkw).addr (show 0 < 10 by decide)
                    simp only [Value.slice.injEq] at hrv
                    obtain ⟨rfl, hdrop, rfl⟩ := hrv
                    clear hdrop
                    have f2 := hcl k hlt
                    clear hcl
                    obtain ⟨rb3, ro3, rc3, hrv, _, _, hrb, hcl⟩ := (R3.out.kept hkw).addr (show 0 < 10 by decide)
                    simp only [Value.slice.injEq] at hrv
                    obtain ⟨rfl, hdrop, rfl⟩ := hrv
                    clear hdrop
                    have f3 := hcl k hlt
                    clear hcl
                    generalize X.inner.getD k 0 = g1 at x1 x2 f1
                    generalize Y.inner.getD k 0 = g2 at x1 f2
                    generalize V.inner.getD k 0 = g3 at x2 f3
                    have c0 : (0 : Int) ≤ (k : Int) := by omega
                    have c1 : (k : Int) < 10 := by omega
                    have HLT2 := Shut.mk hlt
                    clear hlt
                    by_cases hk : k = 0
                    · have x3 : ((k : Int) == 0) = true := beq_iff_eq.2 (by omega)
                      rw [decide_eq_true hk] at x2
                      clear hk
                      go_wp2
                      go_quiet (fail)
                      go_wp2
                      go_roundw
                      case rel => exact ⟨k + 1, HLT2.out, by go_num, hkw.drewN _⟩
                      case measure => simp [intOf]; have := HLT2.out; omega
                    · have x3 : ((k : Int) == 0) = false := beq_eq_false_iff_ne.2 (by omega)
                      rw [decide_eq_false hk] at x2
                      clear hk
                      go_wp2
                      go_quiet (fail)
                      go_wp2
                      go_roundw
                      case rel => exact ⟨k + 1, HLT2.out, by go_num, hkw.drewN _⟩
                      case measure => simp [intOf]; have := HLT2.out; omega
                  · obtain rfl : k = 10 := by omega
                    have hA := HAZ.out.step (KZ.out.trans hkw)
                    have HXr := Lib.hid (HBX.out.kept (KZ.out.trans hkw))
                    clear HXY XZ R1 R2 R3
                    have p0 := HXr.out.cell 0
                    have p1 := HXr.out.cell 1
                    have p2 := HXr.out.cell 2
                    have p3 := HXr.out.cell 3
                    have p4 := HXr.out.cell 4
                    have p5 := HXr.out.cell 5
                    have p6 := HXr.out.cell 6
                    have p7 := HXr.out.cell 7
                    have p8 := HXr.out.cell 8
                    have p9 := HXr.out.cell 9
                    have p10 := HXr.out.cell 10
                    simp only [List.getElem?_cons_zero, List.getElem?_cons_succ] at p0 p1 p2 p3 p4 p5 p6 p7 p8 p9 p10
                    have HE1 := Lib.hid (PExport_ok hA (((HD.out.2.2.more r5).more r7).more r9) EX.out (s := xp) (by have := H1.out; omega) (by simp only [List.length_append]; rw [atomsL_len]; omega))
                    rw [← HXP.out, HX.out] at HE1
                    unfold epV at HE1
                    simp only at HE1
                    go_wp2_with fail
                    (with_reducible refine HE1.out.mono ?_); rintro e we ⟨re, te, rfl, ae, hre, de, ke⟩
                    have HXe := Lib.hid (ke.blk HXr.out TZ3.out)
                    clear HXr p0 p1 p2 p3 p4 p5 p6 p7 p8 p9 p10
                    have p0 := HXe.out.cell 0
                    have p1 := HXe.out.cell 1
                    have p2 := HXe.out.cell 2
                    have p3 := HXe.out.cell 3
                    have p4 := HXe.out.cell 4
                    have p5 := HXe.out.cell 5
                    have p6 := HXe.out.cell 6
                    have p7 := HXe.out.cell 7
                    have p8 := HXe.out.cell 8
                    have p9 := HXe.out.cell 9
                    have p10 := HXe.out.cell 10
                    simp only [List.getElem?_cons_zero, List.getElem?_cons_succ] at p0 p1 p2 p3 p4 p5 p6 p7 p8 p9 p10
                    have HE2 := Lib.hid (PExport_ok ae ((((HD.out.2.2.more r5).more r7).more r9).more re) (EX.out.more re) (s := xq) (by have := H2.out; omega) (by simp only [List.length_append]; rw [atomsL_len]; omega))
                    rw [← HXQ.out, HX.out] at HE2
                    unfold epV at HE2
                    simp only at HE2
                    have DE := Shut.mk de
                    clear ae de ke hA HE1
                    go_wp2_with fail
                    (with_reducible refine HE2.out.mono ?_); rintro e wf ⟨rf, tf, rfl, af, hrf, df, kf⟩
                    have hq1 : (te == tf) = decide (xp = xq) := den_eqB af.good (DE.out.more rf) df exp_iff
                    have hq2 : (P.toList == Q.toList) = decide (xp = xq) := by rw [HP3.out, HP4.out, Bool.eq_iff_iff, beq_iff_eq, decide_eq_true_iff]
                    have KK := Lib.hid (K13.out.trans af.kept)
                    generalize decide (xp = xq) = B at hq1 hq2
                    have hbb : (B == B) = true := by simp
                    clear af df kf HE2 DE HXe p0 p1 p2 p3 p4 p5 p6 p7 p8 p9 p10
                    go_wp2
                    go_ret
                    exact ⟨by simp, KK.out⟩
              · have HXY := Shut.mk (fun k hk => (XY.out k hk).trans (show (i == o0 && (c == o1 && x == o2)) = true by simp [h0, h1, h2]))
                clear XY
                go_wp2_with fail
                (with_reducible refine (IX.out _).mono ?_); rintro e wi ⟨l1, rfl, ol1, ki⟩
                obtain ⟨la, lc, hla⟩ : ∃ la lc, l1 = .slice la 10 lc := by
                  obtain ⟨va, vc, h, _, _, _⟩ := (OwnI.rd ol1).len
                  exact ⟨va, vc, h⟩
                subst hla
                have q0 := (ki.cell (World.block_lt_of_cell? _ _ q0)).trans q0
                have q1 := (ki.cell (World.block_lt_of_cell? _ _ q1)).trans q1
                have q2 := (ki.cell (World.block_lt_of_cell? _ _ q2)).trans q2
                have q3 := (ki.cell (World.block_lt_of_cell? _ _ q3)).trans q3
                have q4 := (ki.cell (World.block_lt_of_cell? _ _ q4)).trans q4
                have q5 := (ki.cell (World.block_lt_of_cell? _ _ q5)).trans q5
                have q6 := (ki.cell (World.block_lt_of_cell? _ _ q6)).trans q6
                have q7 := (ki.cell (World.block_lt_of_cell? _ _ q7)).trans q7
                have q8 := (ki.cell (World.block_lt_of_cell? _ _ q8)).trans q8
                have q9 := (ki.cell (World.block_lt_of_cell? _ _ q9)).trans q9
                have q10 := (ki.cell (World.block_lt_of_cell? _ _ q10)).trans q10
                have s0 := (ki.cell (World.block_lt_of_cell? _ _ s0)).trans s0
                have s1 := (ki.cell (World.block_lt_of_cell? _ _ s1)).trans s1
                have s2 := (ki.cell (World.block_lt_of_cell? _ _ s2)).trans s2
                have s3 := (ki.cell (World.block_lt_of_cell? _ _ s3)).trans s3
                have s4 := (ki.cell (World.block_lt_of_cell? _ _ s4)).trans s4
                have s5 := (ki.cell (World.block_lt_of_cell? _ _ s5)).trans s5
                have s6 := (ki.cell (World.block_lt_of_cell? _ _ s6)).trans s6
                have s7 := (ki.cell (World.block_lt_of_cell? _ _ s7)).trans s7
                have s8 := (ki.cell (World.block_lt_of_cell? _ _ s8)).trans s8
                have s9 := (ki.cell (World.block_lt_of_cell? _ _ s9)).trans s9
                have s10 := (ki.cell (World.block_lt_of_cell? _ _ s10)).trans s10
                go_wp2_with fail
                (with_reducible refine (IY.out _).mono ?_); rintro e wj ⟨l2, rfl, ol2, kj⟩
                obtain ⟨ma, mc, hma⟩ : ∃ la lc, l2 = .slice la 10 lc := by
                  obtain ⟨va, vc, h, _, _, _⟩ := (OwnI.rd ol2).len
                  exact ⟨va, vc, h⟩
                subst hma
                have s0 := (kj.cell (World.block_lt_of_cell? _ _ s0)).trans s0
                have s1 := (kj.cell (World.block_lt_of_cell? _ _ s1)).trans s1
                have s2 := (kj.cell (World.block_lt_of_cell? _ _ s2)).trans s2
                have s3 := (kj.cell (World.block_lt_of_cell? _ _ s3)).trans s3
                have s4 := (kj.cell (World.block_lt_of_cell? _ _ s4)).trans s4
                have s5 := (kj.cell (World.block_lt_of_cell? _ _ s5)).trans s5
                have s6 := (kj.cell (World.block_lt_of_cell? _ _ s6)).trans s6
                have s7 := (kj.cell (World.block_lt_of_cell? _ _ s7)).trans s7
                have s8 := (kj.cell (World.block_lt_of_cell? _ _ s8)).trans s8
                have s9 := (kj.cell (World.block_lt_of_cell? _ _ s9)).trans s9
                have s10 := (kj.cell (World.block_lt_of_cell? _ _ s10)).trans s10
                go_wp2_with fail
                (with_reducible refine (IZ.out _).mono ?_); rintro e wk ⟨l3, rfl, ol3, kk⟩
                obtain ⟨na, nc, hna⟩ : ∃ la lc, l3 = .slice la 10 lc := by
                  obtain ⟨va, vc, h, _, _, _⟩ := (OwnI.rd ol3).len
                  exact ⟨va, vc, h⟩
                subst hna
                have R1 := Lib.hid ((OwnI.rd ol1).kept (kj.trans kk))
                have R2 := Lib.hid ((OwnI.rd ol2).kept kk)
                have R3 := Lib.hid (OwnI.rd ol3)
                have KZ := Lib.hid ((ki.trans kj).trans kk)
                clear ol1 ol2 ol3 ki kj kk IX IY IZ p0 p1 p2 p3 p4 p5 p6 p7 p8 p9 p10 q0 q1 q2 q3 q4 q5 q6 q7 q8 q9 q10 s0 s1 s2 s3 s4 s5 s6 s7 s8 s9 s10 u0 u1 u2
                go_wp2
                go_loopw [132] (fun s wr => ∃ k : Nat, k ≤ 10 ∧ s = .int .i64 k ∧ Kept wk wr) (fun s _ => 10 - (intOf s).toNat)
                case atStart => exact ⟨0, Nat.zero_le _, rfl, Kept.refl _⟩
                case round =>
                  obtain ⟨k, hk0, rfl, hkw⟩ := hrel
                  by_cases hlt : k < 10
                  · have x1 := HXY.out k hlt
                    have x2 := XZ.out k hlt
                    obtain ⟨rb1, ro1, rc1, hrv, _, _, hrb, hcl⟩ := (R1.out.kept hkw).addr (show 0 < 10 by decide)
                    simp only [Value.slice.injEq] at hrv
                    obtain ⟨rfl, hdrop, rfl⟩ := hrv
                    clear hdrop
                    have f1 := hcl k hlt
                    clear hcl
                    obtain ⟨rb2, ro2, rc2, hrv, _, _, hrb, hcl⟩ := (R2.out.kept hkw).addr (show 0 < 10 by decide)
                    simp only [Value.slice.injEq] at hrv
                    obtain ⟨rfl, hdrop, rfl⟩ := hrv
                    clear hdrop
                    have f2 := hcl k hlt
                    clear hcl
                    obtain ⟨rb3, ro3, rc3, hrv, _, _, hrb, hcl⟩ := (R3.out.kept hkw).addr (show 0 < 10 by decide)
                    simp only [Value.slice.injEq] at hrv
                    obtain ⟨rfl, hdrop, rfl⟩ := hrv
                    clear hdrop
                    have f3 := hcl k hlt
                    clear hcl
                    generalize X.inner.getD k 0 = g1 at x1 x2 f1
                    generalize Y.inner.getD k 0 = g2 at x1 f2
                    generalize V.inner.getD k 0 = g3 at x2 f3
                    have c0 : (0 : Int) ≤ (k : Int) := by omega
                    have c1 : (k : Int) < 10 := by omega
                    have HLT2 := Shut.mk hlt
                    clear hlt
                    by_cases hk : k = 0
                    · have x3 : ((k : Int) == 0) = true := beq_iff_eq.2 (by omega)
                      rw [decide_eq_true hk] at x2
                      clear hk
                      go_wp2
                      go_quiet (fail)
                      go_wp2
                      go_roundw
                      case rel => exact ⟨k + 1, HLT2.out, by go_num, hkw.drewN _⟩
                      case measure => simp [intOf]; have := HLT2.out; omega
                    · have x3 : ((k : Int) == 0) = false := beq_eq_false_iff_ne.2 (by omega)
                      rw [decide_eq_false hk] at x2
                      clear hk
                      go_wp2
                      go_quiet (fail)
                      go_wp2
                      go_roundw
                      case rel => exact ⟨k + 1, HLT2.out, by go_num, hkw.drewN _⟩
                      case measure => simp [intOf]; have := HLT2.out; omega
                  · obtain rfl : k = 10 := by omega
                    have hA := HAZ.out.step (KZ.out.trans hkw)
                    have HXr := Lib.hid (HBX.out.kept (KZ.out.trans hkw))
                    clear HXY XZ R1 R2 R3
                    have p0 := HXr.out.cell 0
                    have p1 := HXr.out.cell 1
                    have p2 := HXr.out.cell 2
                    have p3 := HXr.out.cell 3
                    have p4 := HXr.out.cell 4
                    have p5 := HXr.out.cell 5
                    have p6 := HXr.out.cell 6
                    have p7 := HXr.out.cell 7
                    have p8 := HXr.out.cell 8
                    have p9 := HXr.out.cell 9
                    have p10 := HXr.out.cell 10
                    simp only [List.getElem?_cons_zero, List.getElem?_cons_succ] at p0 p1 p2 p3 p4 p5 p6 p7 p8 p9 p10
                    have HE1 := Lib.hid (PExport_ok hA (((HD.out.2.2.more r5).more r7).more r9) EX.out (s := xp) (by have := H1.out; omega) (by simp only [List.length_append]; rw [atomsL_len]; omega))
                    rw [← HXP.out, HX.out] at HE1
                    unfold epV at HE1
                    simp only at HE1
                    go_wp2_with fail
                    (with_reducible refine HE1.out.mono ?_); rintro e we ⟨re, te, rfl, ae, hre, de, ke⟩
                    have HXe := Lib.hid (ke.blk HXr.out TZ3.out)
                    clear HXr p0 p1 p2 p3 p4 p5 p6 p7 p8 p9 p10
                    have p0 := HXe.out.cell 0
                    have p1 := HXe.out.cell 1
                    have p2 := HXe.out.cell 2
                    have p3 := HXe.out.cell 3
                    have p4 := HXe.out.cell 4
                    have p5 := HXe.out.cell 5
                    have p6 := HXe.out.cell 6
                    have p7 := HXe.out.cell 7
                    have p8 := HXe.out.cell 8
                    have p9 := HXe.out.cell 9
                    have p10 := HXe.out.cell 10
                    simp only [List.getElem?_cons_zero, List.getElem?_cons_succ] at p0 p1 p2 p3 p4 p5 p6 p7 p8 p9 p10
                    have HE2 := Lib.hid (PExport_ok ae ((((HD.out.2.2.more r5).more r7).more r9).more re) (EX.out.more re) (s := xq) (by have := H2.out; omega) (by simp only [List.length_append]; rw [atomsL_len]; omega))
                    rw [← HXQ.out, HX.out] at HE2
                    unfold epV at HE2
                    simp only at HE2
                    have DE := Shut.mk de
                    clear ae de ke hA HE1
                    go_wp2_with fail
                    (with_reducible refine HE2.out.mono ?_); rintro e wf ⟨rf, tf, rfl, af, hrf, df, kf⟩
                    have hq1 : (te == tf) = decide (xp = xq) := den_eqB af.good (DE.out.more rf) df exp_iff
                    have hq2 : (P.toList == Q.toList) = decide (xp = xq) := by rw [HP3.out, HP4.out, Bool.eq_iff_iff, beq_iff_eq, decide_eq_true_iff]
                    have KK := Lib.hid (K13.out.trans af.kept)
                    generalize decide (xp = xq) = B at hq1 hq2
                    have hbb : (B == B) = true := by simp
                    clear af df kf HE2 DE HXe p0 p1 p2 p3 p4 p5 p6 p7 p8 p9 p10
                    go_wp2
                    go_ret
                    exact ⟨by simp, KK.out⟩
            | false =>
              have u0 := HB4.out.cell 0
              have u1 := HB4.out.cell 1
              have u2 := HB4.out.cell 2
              simp only [List.getElem?_cons_zero, List.getElem?_cons_succ] at u0 u1 u2
              have ii := isT_atom HG0.out (tB_isT cx (x := i) (by simp))
              have ic := isT_atom HG0.out (tB_isT cx (x := c) (by simp))
              have ix := isT_atom HG0.out (tB_isT cx (x := x) (by simp))
              have HD := Shut.mk (And.intro ii (And.intro ic ix))
              clear ii ic ix
              have HC1 := Lib.hid (PNext_ok HA.out (RdK.nil _ _) HD.out.1 HD.out.2.1 HD.out.2.2 (DenL.nil _) (by simp only [List.length_append, List.length_nil, List.length_cons]; rw [atomsL_len]; omega))
              go_wp2_with fail
              (with_reducible refine HC1.out.mono ?_); rintro e w5 ⟨r5, X, rfl, a5, hr5, d5, k5⟩
              simp only [List.length_nil] at hr5
              have DX := Shut.mk d5
              obtain ⟨x0, x1, x2, x3, x4, x5, x6, x7, x8, x9, x10⟩ := X
              have hb5 := k5.blk HB4.out HLT.out
              have kX : Kept w5 (w5.alloc (.cells #[.int .i64 x0, .int .i64 x1, .int .i64 x2, .int .i64 x3, .int .i64 x4, .int .i64 x5, .int .i64 x6, .int .i64 x7, .int .i64 x8, .int .i64 x9, .int .i64 x10] 30)) := (Kept.refl w5).alloc _
              have bX := Blk.new w5 [.int .i64 x0, .int .i64 x1, .int .i64 x2, .int .i64 x3, .int .i64 x4, .int .i64 x5, .int .i64 x6, .int .i64 x7, .int .i64 x8, .int .i64 x9, .int .i64 x10] 30
              have aX := a5.plusE kX
              have HBo := Lib.hid (hb5.kept kX)
              have HAX := Lib.hid aX
              have HBX := Lib.hid bX
              have TX := Shut.mk (show PlusE (fun b => b < w3.heap.size) w5 (w5.alloc (.cells #[.int .i64 x0, .int .i64 x1, .int .i64 x2, .int .i64 x3, .int .i64 x4, .int .i64 x5, .int .i64 x6, .int .i64 x7, .int .i64 x8, .int .i64 x9, .int .i64 x10] 30)) w5.heap.size from .inr ⟨Nat.le_refl _, bX.lt⟩)
              have TO := Shut.mk (show PlusE (fun b => b < w3.heap.size) w5 (w5.alloc (.cells #[.int .i64 x0, .int .i64 x1, .int .i64 x2, .int .i64 x3, .int .i64 x4, .int .i64 x5, .int .i64 x6, .int .i64 x7, .int .i64 x8, .int .i64 x9, .int .i64 x10] 30)) ob from .inl HLT.out)
              have FX := Shut.mk (show ∀ b, b < w3.heap.size → PlusE (fun b => b < w3.heap.size) w5 (w5.alloc (.cells #[.int .i64 x0, .int .i64 x1, .int .i64 x2, .int .i64 x3, .int .i64 x4, .int .i64 x5, .int .i64 x6, .int .i64 x7, .int .i64 x8, .int .i64 x9, .int .i64 x10] 30)) b from fun b q => .inl q)
              clear u0 u1 u2
              have u0 := HBo.out.cell 0
              have u1 := HBo.out.cell 1
              have u2 := HBo.out.cell 2
              simp only [List.getElem?_cons_zero, List.getElem?_cons_succ] at u0 u1 u2
              unfold epV
              simp only
              clear a5 k5 kX bX aX HC1 hb5 HA HB4 d5
              go_upto_region 6 with fail
              generalize PlusE (fun b => b < w3.heap.size) w5 (w5.alloc (.cells #[.int .i64 x0, .int .i64 x1, .int .i64 x2, .int .i64 x3, .int .i64 x4, .int .i64 x5, .int .i64 x6, .int .i64 x7, .int .i64 x8, .int .i64 x9, .int .i64 x10] 30)) = T at *
              generalize (w5.alloc (.cells #[.int .i64 x0, .int .i64 x1, .int .i64 x2, .int .i64 x3, .int .i64 x4, .int .i64 x5, .int .i64 x6, .int .i64 x7, .int .i64 x8, .int .i64 x9, .int .i64 x10] 30)) = w6 at *
              generalize w5.heap.size = xb at *
              have HC2 := Lib.hid (PNext_no HAX.out (RdI.nil _) (show (termsB (atomsL 10 ++ r5) [o0, o1, o2] && termsB (atomsL 10 ++ r5) []) = false by rw [(near_terms N2.out HAX.out.few).trans cy]; rfl))
              unfold epV ep0 at HC2
              simp only at HC2
              go_wp2_with fail
              (with_reducible refine HC2.out.mono ?_); rintro e w7 ⟨rfl, k7⟩
              have a7 := HAX.out.step k7
              have hb7 := HBo.out.kept k7
              have hx7 := HBX.out.kept k7
              have kY : Kept w7 ((w7.alloc (.cells #[.int .i64 0, .int .i64 0, .int .i64 0, .int .i64 0, .int .i64 0, .int .i64 0, .int .i64 0, .int .i64 0, .int .i64 0, .int .i64 0, .int .i64 0] 30)).alloc (.cells #[.int .i64 3] 3)) := ((Kept.refl w7).alloc _).alloc _
              have bY := (Blk.new w7 [.int .i64 0, .int .i64 0, .int .i64 0, .int .i64 0, .int .i64 0, .int .i64 0, .int .i64 0, .int .i64 0, .int .i64 0, .int .i64 0, .int .i64 0] 30).kept ((Kept.refl _).alloc (.cells #[.int .i64 3] 3))
              have aY := a7.plusE kY
              have hl3 : RdK (PlusE T w7 ((w7.alloc (.cells #[.int .i64 0, .int .i64 0, .int .i64 0, .int .i64 0, .int .i64 0, .int .i64 0, .int .i64 0, .int .i64 0, .int .i64 0, .int .i64 0, .int .i64 0] 30)).alloc (.cells #[.int .i64 3] 3))) ((w7.alloc (.cells #[.int .i64 0, .int .i64 0, .int .i64 0, .int .i64 0, .int .i64 0, .int .i64 0, .int .i64 0, .int .i64 0, .int .i64 0, .int .i64 0, .int .i64 0] 30)).alloc (.cells #[.int .i64 3] 3)) (.slice (some ⟨w7.heap.size + 1, 0, none⟩) 1 1) [3] := by
                have ho : OwnI (w7.heap.size + 1) ((w7.alloc (.cells #[.int .i64 0, .int .i64 0, .int .i64 0, .int .i64 0, .int .i64 0, .int .i64 0, .int .i64 0, .int .i64 0, .int .i64 0, .int .i64 0, .int .i64 0] 30)).alloc (.cells #[.int .i64 3] 3)) (.slice (some ⟨w7.heap.size + 1, 0, none⟩) 1 1) [3] := by
                  have := Ownv.lit (B := w7.heap.size + 1) 3 (w := (w7.alloc (.cells #[.int .i64 0, .int .i64 0, .int .i64 0, .int .i64 0, .int .i64 0, .int .i64 0, .int .i64 0, .int .i64 0, .int .i64 0, .int .i64 0, .int .i64 0] 30))) [.int .i64 3] (by rw [World.size_alloc]; exact Nat.le_refl _) (by unfold maxLen; simp)
                  rw [World.size_alloc] at this
                  exact this
                refine RdK.own ho fun b hb => .inr ?_
                have := Ownv.lt ho hb
                exact ⟨by omega, this.1⟩
              have HAY := Lib.hid aY
              have HL3 := Lib.hid hl3
              have HBo2 := Lib.hid (hb7.kept kY)
              have HBX2 := Lib.hid (hx7.kept kY)
              have HBY := Lib.hid bY
              have TS := Shut.mk (show PlusE T w7 ((w7.alloc (.cells #[.int .i64 0, .int .i64 0, .int .i64 0, .int .i64 0, .int .i64 0, .int .i64 0, .int .i64 0, .int .i64 0, .int .i64 0, .int .i64 0, .int .i64 0] 30)).alloc (.cells #[.int .i64 3] 3)) ob ∧ PlusE T w7 ((w7.alloc (.cells #[.int .i64 0, .int .i64 0, .int .i64 0, .int .i64 0, .int .i64 0, .int .i64 0, .int .i64 0, .int .i64 0, .int .i64 0, .int .i64 0, .int .i64 0] 30)).alloc (.cells #[.int .i64 3] 3)) xb ∧ PlusE T w7 ((w7.alloc (.cells #[.int .i64 0, .int .i64 0, .int .i64 0, .int .i64 0, .int .i64 0, .int .i64 0, .int .i64 0, .int .i64 0, .int .i64 0, .int .i64 0, .int .i64 0] 30)).alloc (.cells #[.int .i64 3] 3)) w7.heap.size from ⟨.inl TO.out, .inl TX.out, .inr ⟨Nat.le_refl _, bY.lt⟩⟩)
              have HC3 := Lib.hid (PNext_ok aY hl3 ((HD.out.1).more r5) ((HD.out.2.1).more r5) ((HD.out.2.2).more r5) (DenL.cons (((atoms_den (k := 10) (n := 3) HG0.out (by decide))).more r5) (DenL.nil _)) (by simp only [List.length_append, List.length_nil, List.length_cons]; rw [atomsL_len]; omega))
              clear a7 k7 kY bY aY hl3 HC2 hb7 hx7 HBo HBX HAX u0 u1 u2 TX TO HL3
              go_wp2_with fail
              generalize PlusE T w7 ((w7.alloc (.cells #[.int .i64 0, .int .i64 0, .int .i64 0, .int .i64 0, .int .i64 0, .int .i64 0, .int .i64 0, .int .i64 0, .int .i64 0, .int .i64 0, .int .i64 0] 30)).alloc (.cells #[.int .i64 3] 3)) = T2 at *
              generalize ((w7.alloc (.cells #[.int .i64 0, .int .i64 0, .int .i64 0, .int .i64 0, .int .i64 0, .int .i64 0, .int .i64 0, .int .i64 0, .int .i64 0, .int .i64 0, .int .i64 0] 30)).alloc (.cells #[.int .i64 3] 3)) = w8 at *
              generalize w7.heap.size = yb at *
              (with_reducible refine HC3.out.mono ?_); rintro e w9 ⟨r9, V, rfl, a9, hr9, d9, k9⟩
              simp only [List.length_nil, List.length_cons] at hr9
              have DZ := Shut.mk d9
              obtain ⟨v0, v1, v2, v3, v4, v5, v6, v7, v8, v9, v10⟩ := V
              have KK := Lib.hid (K13.out.trans a9.kept)
              unfold epV
              simp only
              clear a9 k9 HC3 HBo2 HBX2 HBY HAY d9
              go_wp2
              go_ret
              exact ⟨rfl, KK.out.alloc _⟩
          | false =>
            cases cy : tB [o0, o1, o2] with
            | true =>
              have u0 := HB4.out.cell 0
              have u1 := HB4.out.cell 1
              have u2 := HB4.out.cell 2
              simp only [List.getElem?_cons_zero, List.getElem?_cons_succ] at u0 u1 u2
              have ii := isT_atom HG0.out (tB_isT cy (x := o0) (by simp))
              have ic := isT_atom HG0.out (tB_isT cy (x := o1) (by simp))
              have ix := isT_atom HG0.out (tB_isT cy (x := o2) (by simp))
              have HE := Shut.mk (And.intro ii (And.intro ic ix))
              clear ii ic ix
              have HC1 := Lib.hid (PNext_no HA.out (RdI.nil _) (show (termsB (atomsL 10) [i, c, x] && termsB (atomsL 10) []) = false by rw [show termsB (atomsL 10) [i, c, x] = false from cx]; rfl))
              unfold epV ep0 at HC1
              simp only at HC1
              go_wp2_with fail
              (with_reducible refine HC1.out.mono ?_); rintro e w5 ⟨rfl, k5⟩
              have a5 := HA.out.step k5
              have hb5 := HB4.out.kept k5
              have kX : Kept w5 (w5.alloc (.cells #[.int .i64 0, .int .i64 0, .int .i64 0, .int .i64 0, .int .i64 0, .int .i64 0, .int .i64 0, .int .i64 0, .int .i64 0, .int .i64 0, .int .i64 0] 30)) := (Kept.refl w5).alloc _
              have bX := Blk.new w5 [.int .i64 0, .int .i64 0, .int .i64 0, .int .i64 0, .int .i64 0, .int .i64 0, .int .i64 0, .int .i64 0, .int .i64 0, .int .i64 0, .int .i64 0] 30
              have aX := a5.plusE kX
              have HBo := Lib.hid (hb5.kept kX)
              have HAX := Lib.hid aX
              have HBX := Lib.hid bX
              have TX := Shut.mk (show PlusE (fun b => b < w3.heap.size) w5 (w5.alloc (.cells #[.int .i64 0, .int .i64 0, .int .i64 0, .int .i64 0, .int .i64 0, .int .i64 0, .int .i64 0, .int .i64 0, .int .i64 0, .int .i64 0, .int .i64 0] 30)) w5.heap.size from .inr ⟨Nat.le_refl _, bX.lt⟩)
              have TO := Shut.mk (show PlusE (fun b => b < w3.heap.size) w5 (w5.alloc (.cells #[.int .i64 0, .int .i64 0, .int .i64 0, .int .i64 0, .int .i64 0, .int .i64 0, .int .i64 0, .int .i64 0, .int .i64 0, .int .i64 0, .int .i64 0] 30)) ob from .inl HLT.out)
              have FX := Shut.mk (show ∀ b, b < w3.heap.size → PlusE (fun b => b < w3.heap.size) w5 (w5.alloc (.cells #[.int .i64 0, .int .i64 0, .int .i64 0, .int .i64 0, .int .i64 0, .int .i64 0, .int .i64 0, .int .i64 0, .int .i64 0, .int .i64 0, .int .i64 0] 30)) b from fun b q => .inl q)
              clear u0 u1 u2
              have u0 := HBo.out.cell 0
              have u1 := HBo.out.cell 1
              have u2 := HBo.out.cell 2
              simp only [List.getElem?_cons_zero, List.getElem?_cons_succ] at u0 u1 u2
              clear a5 k5 kX bX aX HC1 hb5 HA HB4
              go_upto_region 6 with fail
              generalize PlusE (fun b => b < w3.heap.size) w5 (w5.alloc (.cells #[.int .i64 0, .int .i64 0, .int .i64 0, .int .i64 0, .int .i64 0, .int .i64 0, .int .i64 0, .int .i64 0, .int .i64 0, .int .i64 0, .int .i64 0] 30)) = T at *
              generalize (w5.alloc (.cells #[.int .i64 0, .int .i64 0, .int .i64 0, .int .i64 0, .int .i64 0, .int .i64 0, .int .i64 0, .int .i64 0, .int .i64 0, .int .i64 0, .int .i64 0] 30)) = w6 at *
              generalize w5.heap.size = xb at *
              have HC2 := Lib.hid (PNext_ok HAX.out (RdK.nil _ _) (HE.out.1) (HE.out.2.1) (HE.out.2.2) (DenL.nil _) (by simp only [List.length_append, List.length_nil, List.length_cons]; rw [atomsL_len]; omega))
              go_wp2_with fail
              (with_reducible refine HC2.out.mono ?_); rintro e w7 ⟨r7, Y, rfl, a7, hr7, d7, k7⟩
              simp only [List.length_nil] at hr7
              have DY := Shut.mk d7
              obtain ⟨y0, y1, y2, y3, y4, y5, y6, y7, y8, y9, y10⟩ := Y
              have hb7 := k7.blk HBo.out TO.out
              have hx7 := k7.blk HBX.out TX.out
              have kY : Kept w7 ((w7.alloc (.cells #[.int .i64 y0, .int .i64 y1, .int .i64 y2, .int .i64 y3, .int .i64 y4, .int .i64 y5, .int .i64 y6, .int .i64 y7, .int .i64 y8, .int .i64 y9, .int .i64 y10] 30)).alloc (.cells #[.int .i64 3] 3)) := ((Kept.refl w7).alloc _).alloc _
              have bY := (Blk.new w7 [.int .i64 y0, .int .i64 y1, .int .i64 y2, .int .i64 y3, .int .i64 y4, .int .i64 y5, .int .i64 y6, .int .i64 y7, .int .i64 y8, .int .i64 y9, .int .i64 y10] 30).kept ((Kept.refl _).alloc (.cells #[.int .i64 3] 3))
              have aY := a7.plusE kY
              have hl3 : RdK (PlusE T w7 ((w7.alloc (.cells #[.int .i64 y0, .int .i64 y1, .int .i64 y2, .int .i64 y3, .int .i64 y4, .int .i64 y5, .int .i64 y6, .int .i64 y7, .int .i64 y8, .int .i64 y9, .int .i64 y10] 30)).alloc (.cells #[.int .i64 3] 3))) ((w7.alloc (.cells #[.int .i64 y0, .int .i64 y1, .int .i64 y2, .int .i64 y3, .int .i64 y4, .int .i64 y5, .int .i64 y6, .int .i64 y7, .int .i64 y8, .int .i64 y9, .int .i64 y10] 30)).alloc (.cells #[.int .i64 3] 3)) (.slice (some ⟨w7.heap.size + 1, 0, none⟩) 1 1) [3] := by
                have ho : OwnI (w7.heap.size + 1) ((w7.alloc (.cells #[.int .i64 y0, .int .i64 y1, .int .i64 y2, .int .i64 y3, .int .i64 y4, .int .i64 y5, .int .i64 y6, .int .i64 y7, .int .i64 y8, .int .i64 y9, .int .i64 y10] 30)).alloc (.cells #[.int .i64 3] 3)) (.slice (some ⟨w7.heap.size + 1, 0, none⟩) 1 1) [3] := by
                  have := Ownv.lit (B := w7.heap.size + 1) 3 (w := (w7.alloc (.cells #[.int .i64 y0, .int .i64 y1, .int .i64 y2, .int .i64 y3, .int .i64 y4, .int .i64 y5, .int .i64 y6, .int .i64 y7, .int .i64 y8, .int .i64 y9, .int .i64 y10] 30))) [.int .i64 3] (by rw [World.size_alloc]; exact Nat.le_refl _) (by unfold maxLen; simp)
                  rw [World.size_alloc] at this
                  exact this
                refine RdK.own ho fun b hb => .inr ?_
                have := Ownv.lt ho hb
                exact ⟨by omega, this.1⟩
              have HAY := Lib.hid aY
              have HL3 := Lib.hid hl3
              have HBo2 := Lib.hid (hb7.kept kY)
              have HBX2 := Lib.hid (hx7.kept kY)
              have HBY := Lib.hid bY
              have TS := Shut.mk (show PlusE T w7 ((w7.alloc (.cells #[.int .i64 y0, .int .i64 y1, .int .i64 y2, .int .i64 y3, .int .i64 y4, .int .i64 y5, .int .i64 y6, .int .i64 y7, .int .i64 y8, .int .i64 y9, .int .i64 y10] 30)).alloc (.cells #[.int .i64 3] 3)) ob ∧ PlusE T w7 ((w7.alloc (.cells #[.int .i64 y0, .int .i64 y1, .int .i64 y2, .int .i64 y3, .int .i64 y4, .int .i64 y5, .int .i64 y6, .int .i64 y7, .int .i64 y8, .int .i64 y9, .int .i64 y10] 30)).alloc (.cells #[.int .i64 3] 3)) xb ∧ PlusE T w7 ((w7.alloc (.cells #[.int .i64 y0, .int .i64 y1, .int .i64 y2, .int .i64 y3, .int .i64 y4, .int .i64 y5, .int .i64 y6, .int .i64 y7, .int .i64 y8, .int .i64 y9, .int .i64 y10] 30)).alloc (.cells #[.int .i64 3] 3)) w7.heap.size from ⟨.inl TO.out, .inl TX.out, .inr ⟨Nat.le_refl _, bY.lt⟩⟩)
              have HC3 := Lib.hid (PNext_no aY hl3.rd (show (termsB (atomsL 10 ++ r7) [i, c, x] && termsB (atomsL 10 ++ r7) [3]) = false by rw [(near_terms N1.out aY.few).trans cx]; rfl))
              unfold epV ep0 at HC3
              simp only at HC3
              unfold epV
              simp only
              clear a7 k7 kY bY aY hl3 HC2 hb7 hx7 HBo HBX HAX u0 u1 u2 TX TO HL3 d7
              go_wp2_with fail
              generalize PlusE T w7 ((w7.alloc (.cells #[.int .i64 y0, .int .i64 y1, .int .i64 y2, .int .i64 y3, .int .i64 y4, .int .i64 y5, .int .i64 y6, .int .i64 y7, .int .i64 y8, .int .i64 y9, .int .i64 y10] 30)).alloc (.cells #[.int .i64 3] 3)) = T2 at *
              generalize ((w7.alloc (.cells #[.int .i64 y0, .int .i64 y1, .int .i64 y2, .int .i64 y3, .int .i64 y4, .int .i64 y5, .int .i64 y6, .int .i64 y7, .int .i64 y8, .int .i64 y9, .int .i64 y10] 30)).alloc (.cells #[.int .i64 3] 3)) = w8 at *
              generalize w7.heap.size = yb at *
              (with_reducible refine HC3.out.mono ?_); rintro e w9 ⟨rfl, k9⟩
              have a9 := HAY.out.step k9
              have KK := Lib.hid (K13.out.trans a9.kept)
              clear a9 k9 HC3 HBo2 HBX2 HBY HAY
              go_wp2
              go_ret
              exact ⟨rfl, KK.out.alloc _⟩
            | false =>
              have u0 := HB4.out.cell 0
              have u1 := HB4.out.cell 1
              have u2 := HB4.out.cell 2
              simp only [List.getElem?_cons_zero, List.getElem?_cons_succ] at u0 u1 u2
              have HC1 := Lib.hid (PNext_no HA.out (RdI.nil _) (show (termsB (atomsL 10) [i, c, x] && termsB (atomsL 10) []) = false by rw [show termsB (atomsL 10) [i, c, x] = false from cx]; rfl))
              unfold epV ep0 at HC1
              simp only at HC1
              go_wp2_with fail
              (with_reducible refine HC1.out.mono ?_); rintro e w5 ⟨rfl, k5⟩
              have a5 := HA.out.step k5
              have hb5 := HB4.out.kept k5
              have kX : Kept w5 (w5.alloc (.cells #[.int .i64 0, .int .i64 0, .int .i64 0, .int .i64 0, .int .i64 0, .int .i64 0, .int .i64 0, .int .i64 0, .int .i64 0, .int .i64 0, .int .i64 0] 30)) := (Kept.refl w5).alloc _
              have bX := Blk.new w5 [.int .i64 0, .int .i64 0, .int .i64 0, .int .i64 0, .int .i64 0, .int .i64 0, .int .i64 0, .int .i64 0, .int .i64 0, .int .i64 0, .int .i64 0] 30
              have aX := a5.plusE kX
              have HBo := Lib.hid (hb5.kept kX)
              have HAX := Lib.hid aX
              have HBX := Lib.hid bX
              have TX := Shut.mk (show PlusE (fun b => b < w3.heap.size) w5 (w5.alloc (.cells #[.int .i64 0, .int .i64 0, .int .i64 0, .int .i64 0, .int .i64 0, .int .i64 0, .int .i64 0, .int .i64 0, .int .i64 0, .int .i64 0, .int .i64 0] 30)) w5.heap.size from .inr ⟨Nat.le_refl _, bX.lt⟩)
              have TO := Shut.mk (show PlusE (fun b => b < w3.heap.size) w5 (w5.alloc (.cells #[.int .i64 0, .int .i64 0, .int .i64 0, .int .i64 0, .int .i64 0, .int .i64 0, .int .i64 0, .int .i64 0, .int .i64 0, .int .i64 0, .int .i64 0] 30)) ob from .inl HLT.out)
              have FX := Shut.mk (show ∀ b, b < w3.heap.size → PlusE (fun b => b < w3.heap.size) w5 (w5.alloc (.cells #[.int .i64 0, .int .i64 0, .int .i64 0, .int .i64 0, .int .i64 0, .int .i64 0, .int .i64 0, .int .i64 0, .int .i64 0, .int .i64 0, .int .i64 0] 30)) b from fun b q => .inl q)
              clear u0 u1 u2
              have u0 := HBo.out.cell 0
              have u1 := HBo.out.cell 1
              have u2 := HBo.out.cell 2
              simp only [List.getElem?_cons_zero, List.getElem?_cons_succ] at u0 u1 u2
              clear a5 k5 kX bX aX HC1 hb5 HA HB4
              go_upto_region 6 with fail
              generalize PlusE (fun b => b < w3.heap.size) w5 (w5.alloc (.cells #[.int .i64 0, .int .i64 0, .int .i64 0, .int .i64 0, .int .i64 0, .int .i64 0, .int .i64 0, .int .i64 0, .int .i64 0, .int .i64 0, .int .i64 0] 30)) = T at *
              generalize (w5.alloc (.cells #[.int .i64 0, .int .i64 0, .int .i64 0, .int .i64 0, .int .i64 0, .int .i64 0, .int .i64 0, .int .i64 0, .int .i64 0, .int .i64 0, .int .i64 0] 30)) = w6 at *
              generalize w5.heap.size = xb at *
              have HC2 := Lib.hid (PNext_no HAX.out (RdI.nil _) (show (termsB (atomsL 10) [o0, o1, o2] && termsB (atomsL 10) []) = false by rw [show termsB (atomsL 10) [o0, o1, o2] = false from cy]; rfl))
              unfold epV ep0 at HC2
              simp only at HC2
              go_wp2_with fail
              (with_reducible refine HC2.out.mono ?_); rintro e w7 ⟨rfl, k7⟩
              have a7 := HAX.out.step k7
              have hb7 := HBo.out.kept k7
              have hx7 := HBX.out.kept k7
              have kY : Kept w7 ((w7.alloc (.cells #[.int .i64 0, .int .i64 0, .int .i64 0, .int .i64 0, .int .i64 0, .int .i64 0, .int .i64 0, .int .i64 0, .int .i64 0, .int .i64 0, .int .i64 0] 30)).alloc (.cells #[.int .i64 3] 3)) := ((Kept.refl w7).alloc _).alloc _
              have bY := (Blk.new w7 [.int .i64 0, .int .i64 0, .int .i64 0, .int .i64 0, .int .i64 0, .int .i64 0, .int .i64 0, .int .i64 0, .int .i64 0, .int .i64 0, .int .i64 0] 30).kept ((Kept.refl _).alloc (.cells #[.int .i64 3] 3))
              have aY := a7.plusE kY
              have hl3 : RdK (PlusE T w7 ((w7.alloc (.cells #[.int .i64 0, .int .i64 0, .int .i64 0, .int .i64 0, .int .i64 0, .int .i64 0, .int .i64 0, .int .i64 0, .int .i64 0, .int .i64 0, .int .i64 0] 30)).alloc (.cells #[.int .i64 3] 3))) ((w7.alloc (.cells #[.int .i64 0, .int .i64 0, .int .i64 0, .int .i64 0, .int .i64 0, .int .i64 0, .int .i64 0, .int .i64 0, .int .i64 0, .int .i64 0, .int .i64 0] 30)).alloc (.cells #[.int .i64 3] 3)) (.slice (some ⟨w7.heap.size + 1, 0, none⟩) 1 1) [3] := by
                have ho : OwnI (w7.heap.size + 1) ((w7.alloc (.cells #[.int .i64 0, .int .i64 0, .int .i64 0, .int .i64 0, .int .i64 0, .int .i64 0, .int .i64 0, .int .i64 0, .int .i64 0, .int .i64 0, .int .i64 0] 30)).alloc (.cells #[.int .i64 3] 3)) (.slice (some ⟨w7.heap.size + 1, 0, none⟩) 1 1) [3] := by
                  have := Ownv.lit (B := w7.heap.size + 1) 3 (w := (w7.alloc (.cells #[.int .i64 0, .int .i64 0, .int .i64 0, .int .i64 0, .int .i64 0, .int .i64 0, .int .i64 0, .int .i64 0, .int .i64 0, .int .i64 0, .int .i64 0] 30))) [.int .i64 3] (by rw [World.size_alloc]; exact Nat.le_refl _) (by unfold maxLen; simp)
                  rw [World.size_alloc] at this
                  exact this
                refine RdK.own ho fun b hb => .inr ?_
                have := Ownv.lt ho hb
                exact ⟨by omega, this.1⟩
              have HAY := Lib.hid aY
              have HL3 := Lib.hid hl3
              have HBo2 := Lib.hid (hb7.kept kY)
              have HBX2 := Lib.hid (hx7.kept kY)
              have HBY := Lib.hid bY
              have TS := Shut.mk (show PlusE T w7 ((w7.alloc (.cells #[.int .i64 0, .int .i64 0, .int .i64 0, .int .i64 0, .int .i64 0, .int .i64 0, .int .i64 0, .int .i64 0, .int .i64 0, .int .i64 0, .int .i64 0] 30)).alloc (.cells #[.int .i64 3] 3)) ob ∧ PlusE T w7 ((w7.alloc (.cells #[.int .i64 0, .int .i64 0, .int .i64 0, .int .i64 0, .int .i64 0, .int .i64 0, .int .i64 0, .int .i64 0, .int .i64 0, .int .i64 0, .int .i64 0] 30)).alloc (.cells #[.int .i64 3] 3)) xb ∧ PlusE T w7 ((w7.alloc (.cells #[.int .i64 0, .int .i64 0, .int .i64 0, .int .i64 0, .int .i64 0, .int .i64 0, .int .i64 0, .int .i64 0, .int .i64 0, .int .i64 0, .int .i64 0] 30)).alloc (.cells #[.int .i64 3] 3)) w7.heap.size from ⟨.inl TO.out, .inl TX.out, .inr ⟨Nat.le_refl _, bY.lt⟩⟩)
              have HC3 := Lib.hid (PNext_no aY hl3.rd (show (termsB (atomsL 10) [i, c, x] && termsB (atomsL 10) [3]) = false by rw [show termsB (atomsL 10) [i, c, x] = false from cx]; rfl))
              unfold epV ep0 at HC3
              simp only at HC3
              clear a7 k7 kY bY aY hl3 HC2 hb7 hx7 HBo HBX HAX u0 u1 u2 TX TO HL3
              go_wp2_with fail
              generalize PlusE T w7 ((w7.alloc (.cells #[.int .i64 0, .int .i64 0, .int .i64 0, .int .i64 0, .int .i64 0, .int .i64 0, .int .i64 0, .int .i64 0, .int .i64 0, .int .i64 0, .int .i64 0] 30)).alloc (.cells #[.int .i64 3] 3)) = T2 at *
              generalize ((w7.alloc (.cells #[.int .i64 0, .int .i64 0, .int .i64 0, .int .i64 0, .int .i64 0, .int .i64 0, .int .i64 0, .int .i64 0, .int .i64 0, .int .i64 0, .int .i64 0] 30)).alloc (.cells #[.int .i64 3] 3)) = w8 at *
              generalize w7.heap.size = yb at *
              (with_reducible refine HC3.out.mono ?_); rintro e w9 ⟨rfl, k9⟩
              have a9 := HAY.out.step k9
              have KK := Lib.hid (K13.out.trans a9.kept)
              clear a9 k9 HC3 HBo2 HBX2 HBY HAY
              go_wp2
              go_ret
              exact ⟨rfl, KK.out.alloc _⟩
    · have d2 : (100 : Int) < (Q.size : Int) := by omega
      clear h1 h2
      go_enter Tryd.func6, Tryd.ntmps6
      go_wp2_with fail
      (with_reducible refine (live11_any (HT.out.kept k0)).mono ?_); rintro e w1 ⟨rfl, k1⟩
      go_wp2
      go_ret
      exact ⟨rfl, k0.trans k1⟩
  · have d1 : (100 : Int) < (P.size : Int) := by omega
    clear h1
    go_enter Tryd.func6, Tryd.ntmps6
    go_wp2_with fail
    (with_reducible refine (live11_any (HT.out.kept k0)).mono ?_); rintro e w1 ⟨rfl, k1⟩
    go_wp2
    go_ret
    exact ⟨rfl, k0.trans k1⟩
end Go.Proofs.YtekieioffaafaaaDoor
end

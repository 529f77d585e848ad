/- Texts of one proof, put together: TsG, TsN, TsO. -/
import Derived.Test.YtdjfdobcjakmhaaDoorMg07
import Derived.Test.YtdjfdobcjakmhaaDoorMg06
import Derived.Test.YtdjfdobcjakmhaaDoorMg02
section
/- The walk of TranscriptTags (written by gen_tst.py). -/
set_option linter.unusedSimpArgs false
set_option linter.unusedVariables false
namespace Go.Proofs.YtdjfdobcjakmhaaDoor
open Go.RowKit Go.Maps

theorem conf3_iff {a b c x y z : Int} : confT (atomT a) (atomT b) (atomT c) = confT (atomT x) (atomT y) (atomT z) ↔ (a = x ∧ b = y ∧ c = z) := by rw [confT_iff, atomT_iff, atomT_iff, atomT_iff]
theorem mac2_iff {a b x y : Int} : macT (atomT a) (atomT b) = macT (atomT x) (atomT y) ↔ (a = x ∧ b = y) := by rw [macT_iff, atomT_iff, atomT_iff]
theorem int2_iff {a b x y : Int} : intT (atomT a) (atomT b) = intT (atomT x) (atomT y) ↔ (a = x ∧ b = y) := by rw [intT_iff, atomT_iff, atomT_iff]
theorem den_ne {A B : Tr} {ds : List Nd} (hg : Good ds) {a b : Int} (ha : Den A ds a) (hb : Den B ds b) (h : A ≠ B) : a ≠ b := fun e => by
  subst e
  exact h (ha.2.symm.trans hb.2)
theorem conf_ne_int {a b c x y : Tr} : confT a b c ≠ intT x y := by
  intro h
  unfold confT intT hashLT at h
  simp [hashT, listT] at h
theorem conf_ne_mac {a b c x y : Tr} : confT a b c ≠ macT x y := by
  intro h
  unfold confT hashLT macT at h
  simp [hashT, listT] at h
theorem mac_ne_int {a b x y : Tr} : macT a b ≠ intT x y := by
  intro h
  unfold intT hashLT macT at h
  simp [hashT, listT] at h
theorem conf_ne_atom {a b c : Tr} {n : Int} : confT a b c ≠ atomT n := by
  intro h
  unfold confT hashLT atomT at h
  simp [hashT, listT] at h
theorem tB2 {a b c : Int} (h : tB [a, b, c] = true) : tB [a, b] = true := by
  unfold tB termsB at *
  simp only [List.all_cons, List.all_nil, Bool.and_true, Bool.and_eq_true] at *
  exact ⟨h.1, h.2.1⟩
set_option maxHeartbeats 16000000 in
set_option maxRecDepth 100000 in
theorem tags12_walk {w : World} {a0 a1 a2 b0 b1 b2 : Int} (oa : I64 a0 ∧ I64 a1 ∧ I64 a2) (ob : I64 b0 ∧ I64 b1 ∧ I64 b2) (ht : Tabs w) (hte : TabsE w) :
    Calls Tryd.prog 8 #[.agg #[.int .i64 a0, .int .i64 a1, .int .i64 a2], .agg #[.int .i64 b0, .int .i64 b1, .int .i64 b2]] w fun e w' => e = .returned (.bool true) ∧ Kept w w' := by
  have k0 : Kept w (w.alloc (.cells #[.int .i64 a0, .int .i64 a1, .int .i64 a2] 50)) := (Kept.refl w).alloc _
  have k0' : Kept (w.alloc (.cells #[.int .i64 a0, .int .i64 a1, .int .i64 a2] 50)) ((w.alloc (.cells #[.int .i64 a0, .int .i64 a1, .int .i64 a2] 50)).alloc (.cells #[.int .i64 b0, .int .i64 b1, .int .i64 b2] 50)) := (Kept.refl _).alloc _
  have bA := (Blk.new w [.int .i64 a0, .int .i64 a1, .int .i64 a2] 50).kept k0'
  have bB := Blk.new (w.alloc (.cells #[.int .i64 a0, .int .i64 a1, .int .i64 a2] 50)) [.int .i64 b0, .int .i64 b1, .int .i64 b2] 50
  have hsz : (w.alloc (.cells #[.int .i64 a0, .int .i64 a1, .int .i64 a2] 50)).heap.size = w.heap.size + 1 := World.size_alloc _ _
  rw [hsz] at bB
  have K0 := Lib.hid (k0.trans k0')
  have HT := Lib.hid (ht.kept (k0.trans k0'))
  have HTE := Lib.hid (hte.kept (k0.trans k0'))
  have OA := Shut.mk oa
  have OB := Shut.mk ob
  clear ht hte oa ob k0 k0' hsz
  go_enter Tryd.func8, Tryd.ntmps8
  go_wp2_with fail
  generalize (w.alloc (.cells #[.int .i64 a0, .int .i64 a1, .int .i64 a2] 50)).alloc (.cells #[.int .i64 b0, .int .i64 b1, .int .i64 b2] 50) = wa at *
  generalize hga : w.heap.size = ga at *
  clear hga
  have hab : ga + 1 ≠ ga := by omega
  generalize ga + 1 = gb at *
  (with_reducible refine (live12_any HT.out HTE.out).mono ?_); rintro e w1 ⟨rfl, k1⟩
  have BA := Lib.hid (bA.kept k1)
  have BB := Lib.hid (bB.kept k1)
  have K1 := Lib.hid (K0.out.trans k1)
  have HT1 := Lib.hid (HT.out.kept k1)
  clear bA bB k1 K0 HT
  go_wp2_with fail
  (with_reducible refine (beyond_any (rdi_arr BA.out) 10).mono ?_); rintro e w2 ⟨c1, rfl, hb1, k2⟩
  have BA := Lib.hid (BA.out.kept k2)
  have BB := Lib.hid (BB.out.kept k2)
  have K2 := Lib.hid (K1.out.trans k2)
  have HT2 := Lib.hid (HT1.out.kept k2)
  clear k2 K1 HT1
  cases c1 with
  | true =>
    clear hb1
    go_wp2
    go_ret
    exact ⟨rfl, K2.out⟩
  | false =>
    have N1 := Shut.mk (hb1 rfl)
    clear hb1
    go_wp2_with fail
    (with_reducible refine (beyond_any (rdi_arr BB.out) 10).mono ?_); rintro e w3 ⟨c2, rfl, hb2, k3⟩
    have BA := Lib.hid (BA.out.kept k3)
    have BB := Lib.hid (BB.out.kept k3)
    have K3 := Lib.hid (K2.out.trans k3)
    have HT3 := Lib.hid (HT2.out.kept k3)
    clear k3 K2 HT2
    cases c2 with
    | true =>
      clear hb2
      go_wp2
      go_ret
      exact ⟨rfl, K3.out⟩
    | false =>
      have N2 := Shut.mk (hb2 rfl)
      clear hb2
      have N3 := Shut.mk (show Near 10 [a0, a1] from N1.out.sub (fun y hy => by simp only [List.mem_cons, List.not_mem_nil, or_false] at hy ⊢; omega))
      have N4 := Shut.mk (show Near 10 [b0, b1] from N2.out.sub (fun y hy => by simp only [List.mem_cons, List.not_mem_nil, or_false] at hy ⊢; omega))
      go_wp2_with fail
      (with_reducible refine (two12_any HT3.out).mono ?_); rintro e w4 ⟨p, q, pa, rfl, rfl, F, G, hA, hR, hFG, hF, hG, k4⟩
      have a4 := At.mkA hA hF k4 HT3.out
      have A4 : At w3 (fun b => b < w3.heap.size) w4 (.pointer (some pa)) (atomsL 10 ++ []) := by rw [List.append_nil]; exact a4
      have A := Lib.hid A4
      have hS : Shut (ga < w3.heap.size ∧ gb < w3.heap.size) := Shut.mk ⟨BA.out.lt, BB.out.lt⟩
      have BA := Lib.hid (BA.out.kept k4)
      have BB := Lib.hid (BB.out.kept k4)
      have SA : Shut ((fun b => b < w3.heap.size) ga) := Shut.mk hS.out.1
      have SB : Shut ((fun b => b < w3.heap.size) gb) := Shut.mk hS.out.2
      have HK : Hid (∀ W, At w3 (fun b => b < w3.heap.size) W (.pointer (some pa)) [] → True) := Lib.hid (fun _ _ => trivial)
      clear HK hS hA hR hFG hF hG k4 a4 A4
      generalize (fun b => b < w3.heap.size : Nat → Prop) = S at *
      have P1 := Lib.hid (fun W (r : List Nd) (a : At w3 S W (.pointer (some pa)) (atomsL 10 ++ r)) (hr : r.length ≤ 300) => PConfirmed_any a N1.out OA.out.1 OA.out.2.1 OA.out.2.2 (by omega))
      have P2 := Lib.hid (fun W (r : List Nd) (a : At w3 S W (.pointer (some pa)) (atomsL 10 ++ r)) (hr : r.length ≤ 300) => PConfirmed_any a N2.out OB.out.1 OB.out.2.1 OB.out.2.2 (by omega))
      have P3 := Lib.hid (fun W (r : List Nd) (a : At w3 S W (.pointer (some pa)) (atomsL 10 ++ r)) (hr : r.length ≤ 300) => PTag_any a N3.out OA.out.1 OA.out.2.1 (by omega))
      have P4 := Lib.hid (fun W (r : List Nd) (a : At w3 S W (.pointer (some pa)) (atomsL 10 ++ r)) (hr : r.length ≤ 300) => PTag_any a N4.out OB.out.1 OB.out.2.1 (by omega))
      have P5 := Lib.hid (fun W (r : List Nd) (a : At w3 S W (.pointer (some pa)) (atomsL 10 ++ r)) (hr : r.length ≤ 300) => PInterim_any a N3.out OA.out.1 OA.out.2.1 (by omega))
      have P6 := Lib.hid (fun W (r : List Nd) (a : At w3 S W (.pointer (some pa)) (atomsL 10 ++ r)) (hr : r.length ≤ 300) => PInterim_any a N4.out OB.out.1 OB.out.2.1 (by omega))
      have TA := Shut.mk (fun h => tB2 (a := a0) (b := a1) (c := a2) h)
      have TB := Shut.mk (fun h => tB2 (a := b0) (b := b1) (c := b2) h)
      have DA := Shut.mk (fun (r : List Nd) (h : tB [a0, a1, a2] = true) => And.intro (tBd (r := r) h (x := a0) (by simp)) (And.intro (tBd (r := r) h (x := a1) (by simp)) (tBd (r := r) h (x := a2) (by simp))))
      generalize tB [a0, a1, a2] = e1 at *
      generalize tB [b0, b1, b2] = e2 at *
      generalize tB [a0, a1] = e3 at *
      generalize tB [b0, b1] = e4 at *
      have H := Lib.hid (P1.out _ [] A.out (by simp only [List.length_append, List.length_nil]; omega))
      have ca0 := BA.out.cell 0
      have ca1 := BA.out.cell 1
      have ca2 := BA.out.cell 2
      have cb0 := BB.out.cell 0
      have cb1 := BB.out.cell 1
      have cb2 := BB.out.cell 2
      simp only [List.getElem?_cons_succ, List.getElem?_cons_zero] at ca0 ca1 ca2 cb0 cb1 cb2
      go_wp2_with fail
      (with_reducible refine H.out.mono ?_); rintro e v1 ⟨r1, t1, rfl, x1, l1, q1, z1, kk1⟩
      have X1 : Hid (At w3 S v1 (.pointer (some pa)) (atomsL 10 ++ ([] ++ r1))) := Lib.hid (by rw [← List.append_assoc]; exact x1)
      have Q1 := Shut.mk q1
      have BA := Lib.hid (kk1.blk BA.out SA.out)
      have BB := Lib.hid (kk1.blk BB.out SB.out)
      clear H x1 q1 z1 kk1 ca0 ca1 ca2 cb0 cb1 cb2 A
      have H := Lib.hid (P2.out _ ([] ++ r1) X1.out (by simp only [List.length_append, List.length_nil]; omega))
      have ca0 := BA.out.cell 0
      have ca1 := BA.out.cell 1
      have ca2 := BA.out.cell 2
      have cb0 := BB.out.cell 0
      have cb1 := BB.out.cell 1
      have cb2 := BB.out.cell 2
      simp only [List.getElem?_cons_succ, List.getElem?_cons_zero] at ca0 ca1 ca2 cb0 cb1 cb2
      go_wp2_with fail
      (with_reducible refine H.out.mono ?_); rintro e v2 ⟨r2, t2, rfl, x2, l2, q2, z2, kk2⟩
      have X2 : Hid (At w3 S v2 (.pointer (some pa)) (atomsL 10 ++ (([] ++ r1) ++ r2))) := Lib.hid (by rw [← List.append_assoc]; exact x2)
      have Q2 := Shut.mk q2
      have BA := Lib.hid (kk2.blk BA.out SA.out)
      have BB := Lib.hid (kk2.blk BB.out SB.out)
      clear H x2 q2 z2 kk2 ca0 ca1 ca2 cb0 cb1 cb2 X1
      have H := Lib.hid (P3.out _ (([] ++ r1) ++ r2) X2.out (by simp only [List.length_append, List.length_nil]; omega))
      have ca0 := BA.out.cell 0
      have ca1 := BA.out.cell 1
      have ca2 := BA.out.cell 2
      have cb0 := BB.out.cell 0
      have cb1 := BB.out.cell 1
      have cb2 := BB.out.cell 2
      simp only [List.getElem?_cons_succ, List.getElem?_cons_zero] at ca0 ca1 ca2 cb0 cb1 cb2
      go_wp2_with fail
      (with_reducible refine H.out.mono ?_); rintro e v3 ⟨r3, t3, rfl, x3, l3, q3, z3, kk3⟩
      have X3 : Hid (At w3 S v3 (.pointer (some pa)) (atomsL 10 ++ ((([] ++ r1) ++ r2) ++ r3))) := Lib.hid (by rw [← List.append_assoc]; exact x3)
      have Q3 := Shut.mk q3
      have BA := Lib.hid (kk3.blk BA.out SA.out)
      have BB := Lib.hid (kk3.blk BB.out SB.out)
      clear H x3 q3 z3 kk3 ca0 ca1 ca2 cb0 cb1 cb2 X2
      have H := Lib.hid (P4.out _ ((([] ++ r1) ++ r2) ++ r3) X3.out (by simp only [List.length_append, List.length_nil]; omega))
      have ca0 := BA.out.cell 0
      have ca1 := BA.out.cell 1
      have ca2 := BA.out.cell 2
      have cb0 := BB.out.cell 0
      have cb1 := BB.out.cell 1
      have cb2 := BB.out.cell 2
      simp only [List.getElem?_cons_succ, List.getElem?_cons_zero] at ca0 ca1 ca2 cb0 cb1 cb2
      go_wp2_with fail
      (with_reducible refine H.out.mono ?_); rintro e v4 ⟨r4, t4, rfl, x4, l4, q4, z4, kk4⟩
      have X4 : Hid (At w3 S v4 (.pointer (some pa)) (atomsL 10 ++ (((([] ++ r1) ++ r2) ++ r3) ++ r4))) := Lib.hid (by rw [← List.append_assoc]; exact x4)
      have Q4 := Shut.mk q4
      have BA := Lib.hid (kk4.blk BA.out SA.out)
      have BB := Lib.hid (kk4.blk BB.out SB.out)
      clear H x4 q4 z4 kk4 ca0 ca1 ca2 cb0 cb1 cb2 X3
      have H := Lib.hid (P5.out _ (((([] ++ r1) ++ r2) ++ r3) ++ r4) X4.out (by simp only [List.length_append, List.length_nil]; omega))
      have ca0 := BA.out.cell 0
      have ca1 := BA.out.cell 1
      have ca2 := BA.out.cell 2
      have cb0 := BB.out.cell 0
      have cb1 := BB.out.cell 1
      have cb2 := BB.out.cell 2
      simp only [List.getElem?_cons_succ, List.getElem?_cons_zero] at ca0 ca1 ca2 cb0 cb1 cb2
      go_wp2_with fail
      (with_reducible refine H.out.mono ?_); rintro e v5 ⟨r5, t5, rfl, x5, l5, q5, z5, kk5⟩
      have X5 : Hid (At w3 S v5 (.pointer (some pa)) (atomsL 10 ++ ((((([] ++ r1) ++ r2) ++ r3) ++ r4) ++ r5))) := Lib.hid (by rw [← List.append_assoc]; exact x5)
      have Q5 := Shut.mk q5
      have BA := Lib.hid (kk5.blk BA.out SA.out)
      have BB := Lib.hid (kk5.blk BB.out SB.out)
      clear H x5 q5 z5 kk5 ca0 ca1 ca2 cb0 cb1 cb2 X4
      have H := Lib.hid (P6.out _ ((((([] ++ r1) ++ r2) ++ r3) ++ r4) ++ r5) X5.out (by simp only [List.length_append, List.length_nil]; omega))
      have ca0 := BA.out.cell 0
      have ca1 := BA.out.cell 1
      have ca2 := BA.out.cell 2
      have cb0 := BB.out.cell 0
      have cb1 := BB.out.cell 1
      have cb2 := BB.out.cell 2
      simp only [List.getElem?_cons_succ, List.getElem?_cons_zero] at ca0 ca1 ca2 cb0 cb1 cb2
      go_wp2_with fail
      (with_reducible refine H.out.mono ?_); rintro e v6 ⟨r6, t6, rfl, x6, l6, q6, z6, kk6⟩
      have X6 : Hid (At w3 S v6 (.pointer (some pa)) (atomsL 10 ++ (((((([] ++ r1) ++ r2) ++ r3) ++ r4) ++ r5) ++ r6))) := Lib.hid (by rw [← List.append_assoc]; exact x6)
      have Q6 := Shut.mk q6
      have BA := Lib.hid (kk6.blk BA.out SA.out)
      have BB := Lib.hid (kk6.blk BB.out SB.out)
      clear H x6 q6 z6 kk6 ca0 ca1 ca2 cb0 cb1 cb2 X5
      have ca0 := BA.out.cell 0
      have ca1 := BA.out.cell 1
      have ca2 := BA.out.cell 2
      have cb0 := BB.out.cell 0
      have cb1 := BB.out.cell 1
      have cb2 := BB.out.cell 2
      simp only [List.getElem?_cons_succ, List.getElem?_cons_zero] at ca0 ca1 ca2 cb0 cb1 cb2
      have KK := Lib.hid (K3.out.trans X6.out.kept)
      cases e1 with
      | false =>
        unfold eB
        go_wp2
        all_goals
          go_ret
          exact ⟨rfl, KK.out⟩
      | true =>
        cases e2 with
        | false =>
          unfold eB
          go_wp2
          all_goals
            go_ret
            exact ⟨rfl, KK.out⟩
        | true =>
          obtain rfl := TA.out rfl
          obtain rfl := TB.out rfl
          have hg := X6.out.good
          have hf := X6.out.few
          have D1 : Den (confT (atomT a0) (atomT a1) (atomT a2)) (atomsL 10 ++ (((((([] ++ r1) ++ r2) ++ r3) ++ r4) ++ r5) ++ r6)) t1 := by
            have h := (((((Q1.out rfl).more r2).more r3).more r4).more r5).more r6
            simp only [List.nil_append, List.append_assoc] at h ⊢
            exact h
          have D2 : Den (confT (atomT b0) (atomT b1) (atomT b2)) (atomsL 10 ++ (((((([] ++ r1) ++ r2) ++ r3) ++ r4) ++ r5) ++ r6)) t2 := by
            have h := ((((Q2.out rfl).more r3).more r4).more r5).more r6
            simp only [List.nil_append, List.append_assoc] at h ⊢
            exact h
          have D3 : Den (macT (atomT a0) (atomT a1)) (atomsL 10 ++ (((((([] ++ r1) ++ r2) ++ r3) ++ r4) ++ r5) ++ r6)) t3 := by
            have h := (((Q3.out rfl).more r4).more r5).more r6
            simp only [List.nil_append, List.append_assoc] at h ⊢
            exact h
          have D4 : Den (macT (atomT b0) (atomT b1)) (atomsL 10 ++ (((((([] ++ r1) ++ r2) ++ r3) ++ r4) ++ r5) ++ r6)) t4 := by
            have h := ((Q4.out rfl).more r5).more r6
            simp only [List.nil_append, List.append_assoc] at h ⊢
            exact h
          have D5 : Den (intT (atomT a0) (atomT a1)) (atomsL 10 ++ (((((([] ++ r1) ++ r2) ++ r3) ++ r4) ++ r5) ++ r6)) t5 := by
            have h := (Q5.out rfl).more r6
            simp only [List.nil_append, List.append_assoc] at h ⊢
            exact h
          have D6 : Den (intT (atomT b0) (atomT b1)) (atomsL 10 ++ (((((([] ++ r1) ++ r2) ++ r3) ++ r4) ++ r5) ++ r6)) t6 := by
            have h := Q6.out rfl
            simp only [List.nil_append, List.append_assoc] at h ⊢
            exact h
          obtain ⟨A0, A1, A2⟩ := DA.out (((((([] ++ r1) ++ r2) ++ r3) ++ r4) ++ r5) ++ r6) rfl
          have E12 := den_eqB hg D1 D2 conf3_iff
          have E34 := den_eqB hg D3 D4 mac2_iff
          have E56 := den_eqB hg D5 D6 int2_iff
          have N15 := bne_int (den_ne hg D1 D5 conf_ne_int)
          have N13 := bne_int (den_ne hg D1 D3 conf_ne_mac)
          have N35 := bne_int (den_ne hg D3 D5 mac_ne_int)
          have nin : decide (t1 ∈ [a0, a1, a2]) = false := decide_eq_false (fun h => by
            simp only [List.mem_cons, List.not_mem_nil, or_false] at h
            rcases h with h | h | h
            · exact den_ne hg D1 A0 conf_ne_atom h
            · exact den_ne hg D1 A1 conf_ne_atom h
            · exact den_ne hg D1 A2 conf_ne_atom h)
          have HIn := Lib.hid (inR_any (rdi_arr BA.out) (D1.1.i64' hf))
          rw [nin] at HIn
          have hc := fun W => cmp3 W a0 a1 a2 b0 b1 b2
          have hgd := grd3
          clear D1 D2 D3 D4 D5 D6 A0 A1 A2 nin hg hf
          unfold eB
          by_cases h0 : a0 = b0
          · subst h0
            by_cases h1 : a1 = b1
            · subst h1
              by_cases h2 : a2 = b2
              · subst h2
                simp at E12 E34 E56 hc
                first | subst E12 | (replace E12 := beq_eq_false_iff_ne.2 E12)
                first | subst E34 | (replace E34 := beq_eq_false_iff_ne.2 E34)
                first | subst E56 | (replace E56 := beq_eq_false_iff_ne.2 E56)
                go_wp2_with fail
                (with_reducible refine HIn.out.mono ?_); rintro e wz ⟨rfl, rfl⟩
                go_wp2
                go_ret
                exact ⟨rfl, KK.out⟩
              · simp [h2] at E12 E34 E56 hc
                have g2 := beq_eq_false_iff_ne.2 h2
                first | subst E12 | (replace E12 := beq_eq_false_iff_ne.2 E12)
                first | subst E34 | (replace E34 := beq_eq_false_iff_ne.2 E34)
                first | subst E56 | (replace E56 := beq_eq_false_iff_ne.2 E56)
                go_wp2_with fail
                (with_reducible refine HIn.out.mono ?_); rintro e wz ⟨rfl, rfl⟩
                go_wp2
                go_ret
                exact ⟨rfl, KK.out⟩
            · by_cases h2 : a2 = b2
              · subst h2
                simp [h1] at E12 E34 E56 hc
                have g1 := beq_eq_false_iff_ne.2 h1
                first | subst E12 | (replace E12 := beq_eq_false_iff_ne.2 E12)
                first | subst E34 | (replace E34 := beq_eq_false_iff_ne.2 E34)
                first | subst E56 | (replace E56 := beq_eq_false_iff_ne.2 E56)
                go_wp2_with fail
                (with_reducible refine HIn.out.mono ?_); rintro e wz ⟨rfl, rfl⟩
                go_wp2
                go_ret
                exact ⟨rfl, KK.out⟩
              · simp [h1, h2] at E12 E34 E56 hc
                have g1 := beq_eq_false_iff_ne.2 h1
                have g2 := beq_eq_false_iff_ne.2 h2
                first | subst E12 | (replace E12 := beq_eq_false_iff_ne.2 E12)
                first | subst E34 | (replace E34 := beq_eq_false_iff_ne.2 E34)
                first | subst E56 | (replace E56 := beq_eq_false_iff_ne.2 E56)
                go_wp2_with fail
                (with_reducible refine HIn.out.mono ?_); rintro e wz ⟨rfl, rfl⟩
                go_wp2
                go_ret
                exact ⟨rfl, KK.out⟩
          · by_cases h1 : a1 = b1
            · subst h1
              by_cases h2 : a2 = b2
              · subst h2
                simp [h0] at E12 E34 E56 hc
                have g0 := beq_eq_false_iff_ne.2 h0
                first | subst E12 | (replace E12 := beq_eq_false_iff_ne.2 E12)
                first | subst E34 | (replace E34 := beq_eq_false_iff_ne.2 E34)
                first | subst E56 | (replace E56 := beq_eq_false_iff_ne.2 E56)
                go_wp2_with fail
                (with_reducible refine HIn.out.mono ?_); rintro e wz ⟨rfl, rfl⟩
                go_wp2
                go_ret
                exact ⟨rfl, KK.out⟩
              · simp [h0, h2] at E12 E34 E56 hc
                have g0 := beq_eq_false_iff_ne.2 h0
                have g2 := beq_eq_false_iff_ne.2 h2
                first | subst E12 | (replace E12 := beq_eq_false_iff_ne.2 E12)
                first | subst E34 | (replace E34 := beq_eq_false_iff_ne.2 E34)
                first | subst E56 | (replace E56 := beq_eq_false_iff_ne.2 E56)
                go_wp2_with fail
                (with_reducible refine HIn.out.mono ?_); rintro e wz ⟨rfl, rfl⟩
                go_wp2
                go_ret
                exact ⟨rfl, KK.out⟩
            · by_cases h2 : a2 = b2
              · subst h2
                simp [h0, h1] at E12 E34 E56 hc
                have g0 := beq_eq_false_iff_ne.2 h0
                have g1 := beq_eq_false_iff_ne.2 h1
                first | subst E12 | (replace E12 := beq_eq_false_iff_ne.2 E12)
                first | subst E34 | (replace E34 := beq_eq_false_iff_ne.2 E34)
                first | subst E56 | (replace E56 := beq_eq_false_iff_ne.2 E56)
                go_wp2_with fail
                (with_reducible refine HIn.out.mono ?_); rintro e wz ⟨rfl, rfl⟩
                go_wp2
                go_ret
                exact ⟨rfl, KK.out⟩
              · simp [h0, h1, h2] at E12 E34 E56 hc
                have g0 := beq_eq_false_iff_ne.2 h0
                have g1 := beq_eq_false_iff_ne.2 h1
                have g2 := beq_eq_false_iff_ne.2 h2
                first | subst E12 | (replace E12 := beq_eq_false_iff_ne.2 E12)
                first | subst E34 | (replace E34 := beq_eq_false_iff_ne.2 E34)
                first | subst E56 | (replace E56 := beq_eq_false_iff_ne.2 E56)
                go_wp2_with fail
                (with_reducible refine HIn.out.mono ?_); rintro e wz ⟨rfl, rfl⟩
                go_wp2
                go_ret
                exact ⟨rfl, KK.out⟩
end Go.Proofs.YtdjfdobcjakmhaaDoor
end

section
/- The document's Text and List, exact (mk), for TranscriptReads. -/
set_option linter.unusedSimpArgs false
set_option linter.unusedVariables false
namespace Go.Proofs.YtdjfdobcjakmhaaDoor
open Go.RowKit Go.Maps

set_option maxHeartbeats 4000000 in
set_option maxRecDepth 100000 in
theorem textR_mk {w0 : World} {S : Nat → Prop} {w : World} {p : Value} {ds : List Nd} (h : AtR w0 S w p ds) (s : List UInt8) (hs : s.length ≤ 100000) :
    Calls Tryd.prog 22 #[p, .string (strB s)] w (MkPostR w0 S w p (mk ds ⟨2, 0, s, []⟩)) := by
  have HM := Lib.hid (makeAR h (v := .agg #[.int .i64 2, .int .i64 0, .string (strB s), .slice none 0 0]) (d := ⟨2, 0, s, []⟩) ⟨_, rfl, RdI.nil _⟩ ⟨⟨by simp, by simp⟩, ⟨by simp, by simp⟩, by unfold maxLen; simp; omega, fun x hx => by cases hx⟩)
  obtain ⟨F0, hF0, _⟩ := h.ar
  obtain ⟨qb, qm, nv, rfl, _, _, _⟩ := ArG.nodes hF0
  clear h hF0
  generalize strB s = X at HM ⊢
  generalize mk ds ⟨2, 0, s, []⟩ = M at *
  go_enter Tryd.func22, Tryd.ntmps22
  go_wp2_with fail
  (with_reducible refine HM.out.mono ?_); rintro e w2 ⟨rfl, a2, t2⟩
  go_wp2
  go_ret2
  exact ⟨rfl, a2, t2⟩
set_option maxHeartbeats 4000000 in
set_option maxRecDepth 100000 in
theorem listR_mk {w0 : World} {S : Nat → Prop} {w : World} {p v : Value} {ds : List Nd} {l : List Int} (h : AtR w0 S w p ds) (hr : RdI w v l) (hok : ∀ x ∈ l, I64 x) :
    Calls Tryd.prog 25 #[p, v] w (MkPostR w0 S w p (mk ds ⟨3, 0, [], l⟩)) := by
  have HM := Lib.hid (ofR_any h hr (op := 3) (i64_lit (by simp)) hok)
  obtain ⟨va, vc, rfl, _, _, _⟩ := hr.len
  obtain ⟨F0, hF0, _⟩ := h.ar
  obtain ⟨qb, qm, nv, rfl, _, _, _⟩ := ArG.nodes hF0
  clear h hr hF0 hok
  generalize mk ds ⟨3, 0, [], l⟩ = M at *
  go_enter Tryd.func25, Tryd.ntmps25
  go_wp2_with fail
  (with_reducible refine HM.out.mono ?_); rintro e w2 ⟨rfl, a2, t2⟩
  go_wp2
  go_ret2
  exact ⟨rfl, a2, t2⟩
end Go.Proofs.YtdjfdobcjakmhaaDoor
end

section
/- The walk of TranscriptReads. -/
set_option linter.unusedSimpArgs false
set_option linter.unusedVariables false
namespace Go.Proofs.YtdjfdobcjakmhaaDoor
open Go.RowKit Go.Maps

def TM (w : World) (X : Nat → Prop) (p q : Value) (ds es : List Nd) (e : Ending) (W' : World) : Prop := ∃ a b : Int, e = .returned (.tuple #[.int .i64 a, .int .i64 b]) ∧ Ta w X W' p q ds es
theorem Ta.pm {w : World} {X : Nat → Prop} {W : World} {p q : Value} {ds es : List Nd} {M : List Nd × Int × Int} {P : Program} {f : Nat} {args : Array Value} (T : Ta w X W p q ds es)
    (h : ∀ S, At w S W p ds → Calls P f args W (MkPost w S W p M)) : Calls P f args W (fun e W' => TM w X p q M.1 es e W' ∧ ∀ g t xs, X g → Blk W g t xs → Blk W' g t xs) := by
  obtain ⟨S, a, hX, _, back⟩ := T.prog
  refine (h S a).mono ?_
  rintro e W' ⟨he, ha, hk⟩
  exact ⟨⟨_, _, he, back W' _ ha hk⟩, fun g t xs hg b => hk.blk b (hX _ hg)⟩
theorem Ta.rm {w : World} {X : Nat → Prop} {W : World} {p q : Value} {ds es : List Nd} {M : List Nd × Int × Int} {P : Program} {f : Nat} {args : Array Value} (T : Ta w X W p q ds es)
    (h : ∀ S, AtR w S W q es → Calls P f args W (MkPostR w S W q M)) : Calls P f args W (fun e W' => TM w X p q ds M.1 e W' ∧ ∀ g t xs, X g → Blk W g t xs → Blk W' g t xs) := by
  obtain ⟨S, a, hX, _, back⟩ := T.doc
  refine (h S a).mono ?_
  rintro e W' ⟨he, ha, hk⟩
  exact ⟨⟨_, _, he, back W' _ ha hk⟩, fun g t xs hg b => hk.blk b (hX _ hg)⟩
theorem cmp5_self {ds : List Nd} {t : Int} {v : Value} {e : Int} (h : ReadQ ds t v e) : ∃ i n tt c z, v = arr5 i n tt c z := by
  rcases h with ⟨i, n, tt, c, z, _, rfl, _⟩ | ⟨_, rfl, _⟩
  · exact ⟨i, n, tt, c, z, rfl⟩
  · exact ⟨0, 0, 0, 0, 0, rfl⟩
theorem cmp5_same (i n t c z : Int) (w : World) : (Op.equalIn 10000 44 (.agg #[.int .i64 i, .int .i64 n, .int .i64 t, .int .i64 c, .int .i64 z]) (.agg #[.int .i64 i, .int .i64 n, .int .i64 t, .int .i64 c, .int .i64 z])).run Tryd.prog w = .ok true w := by
  have h := cmp5 w i n t c z i n t c z
  simp only [beq_self_eq_true, Bool.and_true] at h
  exact h
set_option maxHeartbeats 16000000 in
set_option maxRecDepth 100000 in
theorem reads12_walk {w : World} (P : ByteArray) (hP : P.size ≤ 9223372036854775807) (Q : ByteArray) (hQ : Q.size ≤ 9223372036854775807) {u : Value} {l : List Int} (hu : RdI w u l) (okl : ∀ x ∈ l, I64 x) {x : Int} (hx : I64 x) (ht : Tabs w) (hte : TabsE w) :
    Calls Tryd.prog 4 #[.string P, .string Q, u, .int .i64 x] w fun e w' => e = .returned (.bool true) ∧ Kept w w' := by
  have HT := Lib.hid ht
  have HTE := Lib.hid hte
  have HU := Lib.hid hu
  obtain ⟨xp, hxp⟩ : ∃ x, P = strB x := ⟨P.data.toList, by cases P; rfl⟩
  obtain ⟨xq, hxq⟩ : ∃ x, Q = strB x := ⟨Q.data.toList, by cases Q; rfl⟩
  have HXP := Shut.mk (And.intro hxp hxq)
  have HI := Shut.mk okl
  obtain ⟨ua, uc, rfl, u1, u2, _⟩ := hu.len
  have l63 : ((l.length : Nat) : Int) ≤ 9223372036854775807 := by unfold maxLen at u2; omega
  have s1 : (P.size : Int) ≤ 9223372036854775807 := by omega
  have s2 : (Q.size : Int) ≤ 9223372036854775807 := by omega
  clear ht hte hu okl u1 u2 hx hP hQ
  by_cases h1 : P.size ≤ 100
  · have d1 : ¬ (100 : Int) < (P.size : Int) := by omega
    by_cases h2 : Q.size ≤ 100
    · have d2 : ¬ (100 : Int) < (Q.size : Int) := by omega
      by_cases h3 : l.length ≤ 20
      · have d3 : ¬ (20 : Int) < (l.length : Int) := by omega
        have HS := Shut.mk (show xp.length ≤ 100 ∧ xq.length ≤ 100 ∧ l.length ≤ 20 from ⟨by rw [hxp, strB_size] at h1; exact h1, by rw [hxq, strB_size] at h2; exact h2, h3⟩)
        clear h1 h2 h3 hxp hxq
        go_enter Tryd.func4, Tryd.ntmps4
        go_wp2_with fail
        (with_reducible refine (live12_any HT.out HTE.out).mono ?_); rintro e w1 ⟨rfl, k1⟩
        have HU1 := Lib.hid (HU.out.kept k1)
        have K1 := Lib.hid k1
        have HT1 := Lib.hid (HT.out.kept k1)
        have HTE1 := Lib.hid (HTE.out.kept k1)
        clear k1 HU HT
        go_wp2_with fail
        (with_reducible refine (two12_any HT1.out).mono ?_); rintro e w3 ⟨p, q, pa, rfl, rfl, hs⟩
        have T0 := Lib.hid (Ta.of HT1.out hs)
        obtain ⟨pb, qb, hp, rfl⟩ := T0.out.ptrs
        rw [hp] at T0
        obtain rfl : pa = ⟨pb, 0, none⟩ := by injection hp with hp; injection hp
        clear hs hp
        generalize (fun _ => False : Nat → Prop) = X at *
        have ks : Kept w3 (w3.alloc (.cells #[.string P, .string Q] 9)) := (Kept.refl w3).alloc _
        have bs := Blk.new w3 [.string P, .string Q] 9
        have T1 := Lib.hid (T0.out.grow ks)
        have XS : Shut ((PlusE X w3 (w3.alloc (.cells #[.string P, .string Q] 9))) w3.heap.size) := Shut.mk (.inr ⟨Nat.le_refl _, bs.lt⟩)
        have BS := Lib.hid bs
        clear T0 ks bs
        go_wp2_with fail
        generalize PlusE X w3 (w3.alloc (.cells #[.string P, .string Q] 9)) = Y at *
        generalize w3.alloc (.cells #[.string P, .string Q] 9) = w4 at *
        generalize w3.heap.size = sb at *
        obtain ⟨D, hD0, hD1, hD2⟩ : ∃ D : Nat → List Nd, D 0 = atomsL 10 ∧ D 1 = (mk (D 0) ⟨2, 0, xp, []⟩).1 ∧ D 2 = (mk (D 1) ⟨2, 0, xq, []⟩).1 := ⟨fun j => if j = 0 then atomsL 10 else if j = 1 then (mk (atomsL 10) ⟨2, 0, xp, []⟩).1 else (mk (mk (atomsL 10) ⟨2, 0, xp, []⟩).1 ⟨2, 0, xq, []⟩).1, rfl, rfl, rfl⟩
        rw [← hD0] at T1
        have HD := Shut.mk (And.intro hD0 (And.intro hD1 hD2))
        clear hD0 hD1 hD2
        go_loopw [44] (fun c wr => ∃ j : Nat, j ≤ 2 ∧ c = .int .i64 j ∧ Ta w1 Y wr (.pointer (some ⟨pb, 0, none⟩)) (.pointer (some ⟨qb, 0, none⟩)) (D j) (D j) ∧ Blk wr sb 9 [.string P, .string Q]) (fun c _ => 2 - (intOf c).toNat)
        case atStart => exact ⟨0, by omega, rfl, T1.out, BS.out⟩
        case round =>
        obtain ⟨j, hj, rfl, hT, hb⟩ := hrel
        obtain rfl | rfl | rfl : j = 0 ∨ j = 1 ∨ j = 2 := by omega
        · rw [show ((0 : Nat) : Int) = 0 from rfl]
          have cc := hb.cell 0
          simp only [List.getElem?_cons_succ, List.getElem?_cons_zero] at cc
          have H := Lib.hid (hT.pm (fun S a => textA a xp (by unfold maxLen; have := HS.out.1; omega)))
          rw [← HXP.out.1] at H
          have HBb := Lib.hid hb
          clear hb hT
          go_wp2_with fail
          (with_reducible refine H.out.mono ?_); rintro e w5 ⟨⟨a5, b5, rfl, T5⟩, back5⟩
          have B5 := Lib.hid (back5 _ _ _ XS.out HBb.out)
          have H2 := Lib.hid (T5.rm (fun S a => textR_mk a xp (by have := HS.out.1; omega)))
          rw [← HXP.out.1] at H2
          clear H T5 back5 HBb
          go_wp2_with fail
          (with_reducible refine H2.out.mono ?_); rintro e w6 ⟨⟨a6, b6, rfl, T6⟩, back6⟩
          have B6 := Lib.hid (back6 _ _ _ XS.out B5.out)
          have T6 := Lib.hid T6
          clear H2 back6 B5
          go_wp2
          go_roundw
          case rel => exact ⟨1, by omega, by go_num, by rw [HD.out.2.1]; exact T6.out, B6.out⟩
          case measure => simp [intOf]
        · rw [show ((1 : Nat) : Int) = 1 from rfl]
          have cc := hb.cell 1
          simp only [List.getElem?_cons_succ, List.getElem?_cons_zero] at cc
          have H := Lib.hid (hT.pm (fun S a => textA a xq (by unfold maxLen; have := HS.out.2.1; omega)))
          rw [← HXP.out.2] at H
          have HBb := Lib.hid hb
          clear hb hT
          go_wp2_with fail
          (with_reducible refine H.out.mono ?_); rintro e w5 ⟨⟨a5, b5, rfl, T5⟩, back5⟩
          have B5 := Lib.hid (back5 _ _ _ XS.out HBb.out)
          have H2 := Lib.hid (T5.rm (fun S a => textR_mk a xq (by have := HS.out.2.1; omega)))
          rw [← HXP.out.2] at H2
          clear H T5 back5 HBb
          go_wp2_with fail
          (with_reducible refine H2.out.mono ?_); rintro e w6 ⟨⟨a6, b6, rfl, T6⟩, back6⟩
          have B6 := Lib.hid (back6 _ _ _ XS.out B5.out)
          have T6 := Lib.hid T6
          clear H2 back6 B5
          go_wp2
          go_roundw
          case rel => exact ⟨2, by omega, by go_num, by rw [HD.out.2.2]; exact T6.out, B6.out⟩
          case measure => simp [intOf]
        · rw [show ((2 : Nat) : Int) = 2 from rfl]
          have T2 := Lib.hid hT
          clear hT hb
          have H := Lib.hid (T2.out.pm (fun S a => listA a (HU1.out.kept T2.out.kept) HI.out))
          go_wp2_with fail
          (with_reducible refine H.out.mono ?_); rintro e w5 ⟨⟨a5, b5, rfl, T5⟩, _⟩
          have H2 := Lib.hid (T5.rm (fun S a => listR_mk a (HU1.out.kept T5.kept) HI.out))
          clear H T5 T2
          go_wp2_with fail
          (with_reducible refine H2.out.mono ?_); rintro e w6 ⟨⟨a6, b6, rfl, T6⟩, _⟩
          clear H2
          generalize (mk (D 2) ⟨3, 0, [], l⟩).1 = d3 at *
          obtain ⟨F, G, hF, hG, _⟩ := T6.ar
          have HL := Lib.hid (lenR hG)
          have T6 := Lib.hid T6
          have hfew := hG.few
          have yl : ((d3.length : Nat) : Int) ≤ 100000 := by omega
          clear hF hG
          go_wp2_with fail
          (with_reducible refine HL.out.mono ?_); rintro e wl ⟨rfl, rfl⟩
          have ks : Kept w6 (w6.alloc (.cells #[.int .i64 x, .int .i64 ((d3.length : Int) - 1)] 3)) := (Kept.refl w6).alloc _
          have BS2 := Lib.hid (Blk.new w6 [.int .i64 x, .int .i64 ((d3.length : Int) - 1)] 3)
          have T7 := Lib.hid (T6.out.step ks)
          clear ks T6 HL
          go_wp2_with fail
          generalize w6.alloc (.cells #[.int .i64 x, .int .i64 ((d3.length : Int) - 1)] 3) = w7 at *
          generalize w6.heap.size = lb at *
          go_loopw [67] (fun c wr => ∃ j : Nat, j ≤ 2 ∧ c = .int .i64 j ∧ Ta w1 Y wr (.pointer (some ⟨pb, 0, none⟩)) (.pointer (some ⟨qb, 0, none⟩)) d3 d3 ∧ Blk wr lb 3 [.int .i64 x, .int .i64 ((d3.length : Int) - 1)]) (fun c _ => 2 - (intOf c).toNat)
          case atStart => exact ⟨0, by omega, rfl, T7.out, BS2.out⟩
          case round =>
          obtain ⟨j, hj, rfl, hT, hb⟩ := hrel
          obtain rfl | rfl | rfl : j = 0 ∨ j = 1 ∨ j = 2 := by omega
          · rw [show ((0 : Nat) : Int) = 0 from rfl]
            have cc := hb.cell 0
            simp only [List.getElem?_cons_succ, List.getElem?_cons_zero] at cc
            obtain ⟨F, G, hF, hG, _⟩ := hT.ar
            have HL := Lib.hid (lenR hG)
            have HR1 := Lib.hid (PRead_any hF (HT1.out.kept hT.kept) (HTE1.out.kept hT.kept) x)
            have HR2 := Lib.hid (fun W (k : Kept wr W) => RRead_any (ArG.kept hG k) x)
            have HL2 := Lib.hid (fun W (k : Kept wr W) => arg_len (ArG.kept hF k))
            have HT9 := Lib.hid hT
            have HB9 := Lib.hid hb
            clear hT hb hF hG
            go_wp2_with fail
            (with_reducible refine HL.out.mono ?_); rintro e wl ⟨rfl, rfl⟩
            go_wp2_with fail
            (with_reducible refine HR1.out.mono ?_); rintro e w5 ⟨v, er, rfl, hq, k5⟩
            obtain ⟨vi, vn, vt, vc, vz, rfl⟩ := cmp5_self hq
            unfold arr5 at hq ⊢
            have k6 := k5.alloc (.cells #[.int .i64 vi, .int .i64 vn, .int .i64 vt, .int .i64 vc, .int .i64 vz] 44)
            have b6 := Blk.new w5 [.int .i64 vi, .int .i64 vn, .int .i64 vt, .int .i64 vc, .int .i64 vz] 44
            have HR6 := Lib.hid (HR2.out _ k6)
            go_wp2_with fail
            generalize w5.alloc (.cells #[.int .i64 vi, .int .i64 vn, .int .i64 vt, .int .i64 vc, .int .i64 vz] 44) = w6 at *
            generalize w5.heap.size = vb at *
            (with_reducible refine HR6.out.mono ?_); rintro e w7 ⟨v', er', rfl, hq', k7⟩
            obtain ⟨rfl, rfl⟩ := ReadQ.one hq' hq
            have b7 := b6.kept k7
            have y0 := b7.cell 0
            have y1 := b7.cell 1
            have y2 := b7.cell 2
            have y3 := b7.cell 3
            have y4 := b7.cell 4
            simp only [List.getElem?_cons_succ, List.getElem?_cons_zero] at y0 y1 y2 y3 y4
            have b8 := b7.kept ((Kept.refl w7).alloc (.cells #[.int .i64 vi, .int .i64 vn, .int .i64 vt, .int .i64 vc, .int .i64 vz] 44))
            have x0 := b8.cell 0
            have x1 := b8.cell 1
            have x2 := b8.cell 2
            have x3 := b8.cell 3
            have x4 := b8.cell 4
            simp only [List.getElem?_cons_succ, List.getElem?_cons_zero] at x0 x1 x2 x3 x4
            have bl7 := b7.lt
            have hc := cmp5_same vi vn vt vc vz
            have hgd := grd5
            have k8 := (k6.trans k7).alloc (.cells #[.int .i64 vi, .int .i64 vn, .int .i64 vt, .int .i64 vc, .int .i64 vz] 44)
            have HL8 := Lib.hid (HL2.out _ k8)
            have HT8 := Lib.hid (HT9.out.step k8)
            have HB8 := Lib.hid (HB9.out.kept k8)
            clear hq hq' b6 k5 k6 k7 HR6 HR2 HR1 HL HL2 HT9 HB9
            go_wp2_with fail
            (with_reducible refine HL8.out.mono ?_); rintro e w9 ⟨rfl, rfl⟩
            go_wp2
            go_roundw
            case rel => exact ⟨1, by omega, by go_num, HT8.out, HB8.out⟩
            case measure => simp [intOf]
          · rw [show ((1 : Nat) : Int) = 1 from rfl]
            have cc := hb.cell 1
            simp only [List.getElem?_cons_succ, List.getElem?_cons_zero] at cc
            obtain ⟨F, G, hF, hG, _⟩ := hT.ar
            have HL := Lib.hid (lenR hG)
            have HR1 := Lib.hid (PRead_any hF (HT1.out.kept hT.kept) (HTE1.out.kept hT.kept) ((d3.length : Int) - 1))
            have HR2 := Lib.hid (fun W (k : Kept wr W) => RRead_any (ArG.kept hG k) ((d3.length : Int) - 1))
            have HL2 := Lib.hid (fun W (k : Kept wr W) => arg_len (ArG.kept hF k))
            have HT9 := Lib.hid hT
            have HB9 := Lib.hid hb
            clear hT hb hF hG
            go_wp2_with fail
            (with_reducible refine HL.out.mono ?_); rintro e wl ⟨rfl, rfl⟩
            go_wp2_with fail
            (with_reducible refine HR1.out.mono ?_); rintro e w5 ⟨v, er, rfl, hq, k5⟩
            obtain ⟨vi, vn, vt, vc, vz, rfl⟩ := cmp5_self hq
            unfold arr5 at hq ⊢
            have k6 := k5.alloc (.cells #[.int .i64 vi, .int .i64 vn, .int .i64 vt, .int .i64 vc, .int .i64 vz] 44)
            have b6 := Blk.new w5 [.int .i64 vi, .int .i64 vn, .int .i64 vt, .int .i64 vc, .int .i64 vz] 44
            have HR6 := Lib.hid (HR2.out _ k6)
            go_wp2_with fail
            generalize w5.alloc (.cells #[.int .i64 vi, .int .i64 vn, .int .i64 vt, .int .i64 vc, .int .i64 vz] 44) = w6 at *
            generalize w5.heap.size = vb at *
            (with_reducible refine HR6.out.mono ?_); rintro e w7 ⟨v', er', rfl, hq', k7⟩
            obtain ⟨rfl, rfl⟩ := ReadQ.one hq' hq
            have b7 := b6.kept k7
            have y0 := b7.cell 0
            have y1 := b7.cell 1
            have y2 := b7.cell 2
            have y3 := b7.cell 3
            have y4 := b7.cell 4
            simp only [List.getElem?_cons_succ, List.getElem?_cons_zero] at y0 y1 y2 y3 y4
            have b8 := b7.kept ((Kept.refl w7).alloc (.cells #[.int .i64 vi, .int .i64 vn, .int .i64 vt, .int .i64 vc, .int .i64 vz] 44))
            have x0 := b8.cell 0
            have x1 := b8.cell 1
            have x2 := b8.cell 2
            have x3 := b8.cell 3
            have x4 := b8.cell 4
            simp only [List.getElem?_cons_succ, List.getElem?_cons_zero] at x0 x1 x2 x3 x4
            have bl7 := b7.lt
            have hc := cmp5_same vi vn vt vc vz
            have hgd := grd5
            have k8 := (k6.trans k7).alloc (.cells #[.int .i64 vi, .int .i64 vn, .int .i64 vt, .int .i64 vc, .int .i64 vz] 44)
            have HL8 := Lib.hid (HL2.out _ k8)
            have HT8 := Lib.hid (HT9.out.step k8)
            have HB8 := Lib.hid (HB9.out.kept k8)
            clear hq hq' b6 k5 k6 k7 HR6 HR2 HR1 HL HL2 HT9 HB9
            go_wp2_with fail
            (with_reducible refine HL8.out.mono ?_); rintro e w9 ⟨rfl, rfl⟩
            go_wp2
            go_roundw
            case rel => exact ⟨2, by omega, by go_num, HT8.out, HB8.out⟩
            case measure => simp [intOf]
          · rw [show ((2 : Nat) : Int) = 2 from rfl]
            have KK := Shut.mk (K1.out.trans hT.kept)
            go_wp2
            go_ret
            exact ⟨rfl, KK.out⟩
      · have d3 : (20 : Int) < (l.length : Int) := by omega
        clear hxp hxq HXP h1 h2 h3
        go_enter Tryd.func4, Tryd.ntmps4
        go_wp2_with fail
        (with_reducible refine (live12_any HT.out HTE.out).mono ?_); rintro e w1 ⟨rfl, k1⟩
        go_wp2
        go_ret
        exact ⟨rfl, k1⟩
    · have d2 : (100 : Int) < (Q.size : Int) := by omega
      clear hxp hxq HXP h1 h2
      go_enter Tryd.func4, Tryd.ntmps4
      go_wp2_with fail
      (with_reducible refine (live12_any HT.out HTE.out).mono ?_); rintro e w1 ⟨rfl, k1⟩
      go_wp2
      go_ret
      exact ⟨rfl, k1⟩
  · have d1 : (100 : Int) < (P.size : Int) := by omega
    clear hxp hxq HXP h1
    go_enter Tryd.func4, Tryd.ntmps4
    go_wp2_with fail
    (with_reducible refine (live12_any HT.out HTE.out).mono ?_); rintro e w1 ⟨rfl, k1⟩
    go_wp2
    go_ret
    exact ⟨rfl, k1⟩
end Go.Proofs.YtdjfdobcjakmhaaDoor
end

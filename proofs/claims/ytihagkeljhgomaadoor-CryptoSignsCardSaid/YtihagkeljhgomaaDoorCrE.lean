/- Walks of package crypto: Open, Unlock, Verify, Check, Unblind. -/
import Derived.Test.YtihagkeljhgomaaDoorCrD
import Derived.ChangeKeysEq
set_option linter.unusedSimpArgs false
set_option linter.unusedVariables false
namespace Go.Proofs.YtihagkeljhgomaaDoor
open Go.RowKit Go.Maps


theorem cmp2 (w : World) (a0 a1 b0 b1 : Int) : (Op.equalIn 10000 62 (.agg #[.int .i64 a0, .int .i64 a1]) (.agg #[.int .i64 b0, .int .i64 b1])).run Tryd.prog w = .ok (a0 == b0 && a1 == b1) w := by
  obtain ⟨i0, hi, _⟩ := info_parts Tryd.infoInt
  have hc : Tryd.prog.cellsOf 3 = 1 := by kernel_rfl
  have hp : Tryd.prog.plainKey 3 = true := by kernel_rfl
  have he : ∀ (x y : Int) (w : World), (Op.equalIn 9999 3 (.int .i64 x) (.int .i64 y)).run Tryd.prog w = .ok (x == y) w := fun x y w => run_equalIn_int (P := Tryd.prog) (w := w) 9998 3 .i64 .i64 x y Tryd.underlying3
  rw [run_equalIn_array (P := Tryd.prog) w 9999 #[.int .i64 a0, .int .i64 a1] #[.int .i64 b0, .int .i64 b1] Tryd.underlying62 hi, hc]
  have hr : List.range 2 = [0, 1] := rfl
  rw [hr]
  have p0 := run_part_plain (P := Tryd.prog) w hp (xs := #[.int .i64 a0, .int .i64 a1]) (off := 0) (v := .int .i64 a0) rfl
  have q0 := run_part_plain (P := Tryd.prog) w hp (xs := #[.int .i64 b0, .int .i64 b1]) (off := 0) (v := .int .i64 b0) rfl
  have p1 := run_part_plain (P := Tryd.prog) w hp (xs := #[.int .i64 a0, .int .i64 a1]) (off := 1) (v := .int .i64 a1) rfl
  have q1 := run_part_plain (P := Tryd.prog) w hp (xs := #[.int .i64 b0, .int .i64 b1]) (off := 1) (v := .int .i64 b1) rfl
  cases h0 : (a0 == b0) <;>
  cases h1 : (a1 == b1) <;>
  simp [Op.eqItems, he, p0, q0, h0, p1, q1, h1]
theorem grd2 (w : World) (op : BinOp) (x y : Operand) (xs ys : Array Value) : (eqGuard op 62 x y (.agg xs) (.agg ys)).run Tryd.prog w = .ok () w := run_eqGuard_agg (P := Tryd.prog) (w := w) op 62 x y xs ys (by kernel_rfl)
set_option maxHeartbeats 4000000 in
set_option maxRecDepth 100000 in
theorem openA {w0 : World} {S : Nat → Prop} {w : World} {p : Value} {ds : List Nd} (h : At w0 S w p ds) (a b x : Int) :
    Calls Tryd.prog 16 #[p, .int .i64 a, .int .i64 b, .int .i64 x] w fun e w' => e = .returned (.tuple #[.int .i64 (openM ds a b x).1, .int .i64 (openM ds a b x).2]) ∧ Kept w w' := by
  have k0 : Kept w (w.alloc (.cells #[.int .i64 a, .int .i64 b, .int .i64 x] 3)) := (Kept.refl w).alloc _
  have hr : RdI (w.alloc (.cells #[.int .i64 a, .int .i64 b, .int .i64 x] 3)) (.slice (some ⟨w.heap.size, 0, none⟩) 3 3) [a, b, x] := RdI.lit w [a, b, x] (by simp)
  have h0 := termsA (h.step k0) hr
  have h1 := fun W (k : Kept w W) => partsA (h.step k) 8 x
  have h2 := fun W (k : Kept w W) => partsA (h.step k) 7 ((partsL ds 8 x).getD 0 0)
  simp only [arr4] at h1 h2
  have hM : openM ds a b x = if termsB ds [a, b, x] then (if partsB ds 8 x = true ∧ partsB ds 7 ((partsL ds 8 x).getD 0 0) = true ∧ (partsL ds 7 ((partsL ds 8 x).getD 0 0)).getD 0 0 = a ∧ (partsL ds 8 x).getD 1 0 = b then ((partsL ds 8 x).getD 2 0, 0) else (0, 40)) else (0, 1) := rfl
  generalize openM ds a b x = m at hM ⊢
  generalize (partsL ds 8 x).getD 0 0 = l0 at hM h1 h2
  generalize (partsL ds 8 x).getD 1 0 = l1 at hM h1 h2
  generalize (partsL ds 8 x).getD 2 0 = l2 at hM h1 h2
  generalize (partsL ds 8 x).getD 3 0 = l3 at hM h1 h2
  generalize partsB ds 8 x = b1 at hM h1
  generalize (partsL ds 7 l0).getD 0 0 = q0 at hM h2
  generalize (partsL ds 7 l0).getD 1 0 = q1 at hM h2
  generalize (partsL ds 7 l0).getD 2 0 = q2 at hM h2
  generalize (partsL ds 7 l0).getD 3 0 = q3 at hM h2
  generalize partsB ds 7 l0 = b2 at hM h2
  generalize termsB ds [a, b, x] = b0 at h0 hM
  obtain ⟨m1, m2⟩ := m
  have HX := Shut.mk hM
  clear hM hr h
  have hst := store4
  have hst2 := store4'
  have hcm := cmp2
  have hgd := grd2
  go_enter Tryd.func16, Tryd.ntmps16
  go_wp2_with fail
  refine h0.mono ?_
  rintro e w1 ⟨rfl, k1⟩
  have k01 := k0.trans k1
  cases b0 with
  | false =>
    have HM := Shut.mk (show (m1, m2) = (0, 1) from HX.out)
    go_wp2
    go_ret2
    exact ⟨by simp only [Prod.mk.injEq] at HM; rw [HM.out.1, HM.out.2]; rfl, k01⟩
  | true =>
    go_wp2_with fail
    refine (h1 w1 k01).mono ?_
    rintro e w2 ⟨rfl, k2⟩
    have k02 := k01.trans k2
    have k3 : Kept w2 (w2.alloc (.cells #[.int .i64 l0, .int .i64 l1, .int .i64 l2, .int .i64 l3] 58)) := (Kept.refl w2).alloc _
    have n3 := Blk.new w2 [.int .i64 l0, .int .i64 l1, .int .i64 l2, .int .i64 l3] 58
    have k03 := k02.trans k3
    have z0 := n3.cell 0
    have z1 := n3.cell 1
    have z2 := n3.cell 2
    simp only [List.getElem?_cons_succ, List.getElem?_cons_zero] at z0 z1 z2
    go_wp2_with fail
    generalize w2.alloc (.cells #[.int .i64 l0, .int .i64 l1, .int .i64 l2, .int .i64 l3] 58) = w3 at k3 k03 n3 z0 z1 z2 ⊢
    refine (h2 w3 k03).mono ?_
    rintro e w4 ⟨rfl, k4⟩
    have k04 := k03.trans k4
    have k5 : Kept w4 (w4.alloc (.cells #[.int .i64 q0, .int .i64 q1, .int .i64 q2, .int .i64 q3] 58)) := (Kept.refl w4).alloc _
    have n5 := Blk.new w4 [.int .i64 q0, .int .i64 q1, .int .i64 q2, .int .i64 q3] 58
    have k05 := k04.trans k5
    have n3' := (n3.kept k4).kept k5
    have y1 := n3'.cell 1
    have y2 := n3'.cell 2
    have y0 := n5.cell 0
    simp only [List.getElem?_cons_succ, List.getElem?_cons_zero] at y0 y1 y2
    clear z0 z1 z2 n3 h1 h2
    cases b1 with
    | false =>
      have HM := Shut.mk (show (m1, m2) = (0, 40) by rw [HX.out]; simp)
      go_wp2
      go_ret2
      exact ⟨by simp only [Prod.mk.injEq] at HM; rw [HM.out.1, HM.out.2]; rfl, k05⟩
    | true =>
      cases b2 with
      | false =>
        have HM := Shut.mk (show (m1, m2) = (0, 40) by rw [HX.out]; simp)
        go_wp2
        go_ret2
        exact ⟨by simp only [Prod.mk.injEq] at HM; rw [HM.out.1, HM.out.2]; rfl, k05⟩
      | true =>
        by_cases e1 : q0 = a
        · subst e1
          by_cases e2 : l1 = b
          · subst e2
            have HM := Shut.mk (show (m1, m2) = (l2, 0) by rw [HX.out]; simp)
            go_wp2
            go_ret2
            exact ⟨by simp only [Prod.mk.injEq] at HM; rw [HM.out.1, HM.out.2]; rfl, k05⟩
          · have HM := Shut.mk (show (m1, m2) = (0, 40) by rw [HX.out]; simp [e2])
            have d2 : (l1 == b) = false := by simpa using e2
            clear e2
            go_wp2
            go_ret2
            exact ⟨by simp only [Prod.mk.injEq] at HM; rw [HM.out.1, HM.out.2]; rfl, k05⟩
        · have HM := Shut.mk (show (m1, m2) = (0, 40) by rw [HX.out]; simp [e1])
          have d1 : (q0 == a) = false := by simpa using e1
          clear e1
          go_wp2
          go_ret2
          exact ⟨by simp only [Prod.mk.injEq] at HM; rw [HM.out.1, HM.out.2]; rfl, k05⟩
end Go.Proofs.YtihagkeljhgomaaDoor

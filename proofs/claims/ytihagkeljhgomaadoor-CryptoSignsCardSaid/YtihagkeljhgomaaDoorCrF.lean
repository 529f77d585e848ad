/- Walks of package crypto: Unlock, Verify, Check, Unblind. -/
import Derived.Test.YtihagkeljhgomaaDoorCrE
set_option linter.unusedSimpArgs false
set_option linter.unusedVariables false
namespace Go.Proofs.YtihagkeljhgomaaDoor
open Go.RowKit Go.Maps


theorem cmp3 (w : World) (a0 a1 a2 b0 b1 b2 : Int) : (Op.equalIn 10000 63 (.agg #[.int .i64 a0, .int .i64 a1, .int .i64 a2]) (.agg #[.int .i64 b0, .int .i64 b1, .int .i64 b2])).run Tryd.prog w = .ok (a0 == b0 && a1 == b1 && a2 == b2) w := by
  obtain ⟨i0, hi, _⟩ := info_parts Tryd.infoInt
  have hc : Tryd.prog.cellsOf 3 = 1 := by kernel_rfl
  have hp : Tryd.prog.plainKey 3 = true := by kernel_rfl
  have he : ∀ (x y : Int) (w : World), (Op.equalIn 9999 3 (.int .i64 x) (.int .i64 y)).run Tryd.prog w = .ok (x == y) w := fun x y w => run_equalIn_int (P := Tryd.prog) (w := w) 9998 3 .i64 .i64 x y Tryd.underlying3
  rw [run_equalIn_array (P := Tryd.prog) w 9999 #[.int .i64 a0, .int .i64 a1, .int .i64 a2] #[.int .i64 b0, .int .i64 b1, .int .i64 b2] Tryd.underlying63 hi, hc]
  have hr : List.range 3 = [0, 1, 2] := rfl
  rw [hr]
  have p0 := run_part_plain (P := Tryd.prog) w hp (xs := #[.int .i64 a0, .int .i64 a1, .int .i64 a2]) (off := 0) (v := .int .i64 a0) rfl
  have q0 := run_part_plain (P := Tryd.prog) w hp (xs := #[.int .i64 b0, .int .i64 b1, .int .i64 b2]) (off := 0) (v := .int .i64 b0) rfl
  have p1 := run_part_plain (P := Tryd.prog) w hp (xs := #[.int .i64 a0, .int .i64 a1, .int .i64 a2]) (off := 1) (v := .int .i64 a1) rfl
  have q1 := run_part_plain (P := Tryd.prog) w hp (xs := #[.int .i64 b0, .int .i64 b1, .int .i64 b2]) (off := 1) (v := .int .i64 b1) rfl
  have p2 := run_part_plain (P := Tryd.prog) w hp (xs := #[.int .i64 a0, .int .i64 a1, .int .i64 a2]) (off := 2) (v := .int .i64 a2) rfl
  have q2 := run_part_plain (P := Tryd.prog) w hp (xs := #[.int .i64 b0, .int .i64 b1, .int .i64 b2]) (off := 2) (v := .int .i64 b2) rfl
  cases h0 : (a0 == b0) <;>
  cases h1 : (a1 == b1) <;>
  cases h2 : (a2 == b2) <;>
  simp [Op.eqItems, he, p0, q0, h0, p1, q1, h1, p2, q2, h2]
theorem grd3 (w : World) (op : BinOp) (x y : Operand) (xs ys : Array Value) : (eqGuard op 63 x y (.agg xs) (.agg ys)).run Tryd.prog w = .ok () w := run_eqGuard_agg (P := Tryd.prog) (w := w) op 63 x y xs ys (by kernel_rfl)
set_option maxHeartbeats 4000000 in
set_option maxRecDepth 100000 in
theorem unlockA {w0 : World} {S : Nat → Prop} {w : World} {p : Value} {ds : List Nd} (h : At w0 S w p ds) (a b c x : Int) :
    Calls Tryd.prog 17 #[p, .int .i64 a, .int .i64 b, .int .i64 c, .int .i64 x] w fun e w' => e = .returned (.tuple #[.int .i64 (unlockM ds a b c x).1, .int .i64 (unlockM ds a b c x).2]) ∧ Kept w w' := by
  have k0 : Kept w (w.alloc (.cells #[.int .i64 a, .int .i64 b, .int .i64 c, .int .i64 x] 3)) := (Kept.refl w).alloc _
  have hr : RdI (w.alloc (.cells #[.int .i64 a, .int .i64 b, .int .i64 c, .int .i64 x] 3)) (.slice (some ⟨w.heap.size, 0, none⟩) 4 4) [a, b, c, x] := RdI.lit w [a, b, c, x] (by simp)
  have h0 := termsA (h.step k0) hr
  have h1 := fun W (k : Kept w W) => partsA (h.step k) 9 x
  simp only [arr4] at h1
  have hM : unlockM ds a b c x = if termsB ds [a, b, c, x] then (if partsB ds 9 x = true ∧ (partsL ds 9 x).getD 0 0 = a ∧ (partsL ds 9 x).getD 1 0 = b ∧ (partsL ds 9 x).getD 2 0 = c then ((partsL ds 9 x).getD 3 0, 0) else (0, 40)) else (0, 1) := rfl
  generalize unlockM ds a b c x = m at hM ⊢
  generalize (partsL ds 9 x).getD 0 0 = l0 at hM h1
  generalize (partsL ds 9 x).getD 1 0 = l1 at hM h1
  generalize (partsL ds 9 x).getD 2 0 = l2 at hM h1
  generalize (partsL ds 9 x).getD 3 0 = l3 at hM h1
  generalize partsB ds 9 x = b1 at hM h1
  generalize termsB ds [a, b, c, x] = b0 at h0 hM
  obtain ⟨m1, m2⟩ := m
  have HX := Shut.mk hM
  clear hM hr h
  have hst := store4
  have hst2 := store4'
  have hcm := cmp3
  have hgd := grd3
  go_enter Tryd.func17, Tryd.ntmps17
  go_wp2_with fail
  refine h0.mono ?_
  rintro e w1 ⟨rfl, k1⟩
  have k01 := k0.trans k1
  cases b0 with
  | false =>
    have HM := Shut.mk (show (m1, m2) = (0, 1) from HX.out)
    go_wp2
    go_ret2
    exact ⟨by simp only [Prod.mk.injEq] at HM; rw [HM.out.1, HM.out.2]; rfl, k01⟩
  | true =>
    go_wp2_with fail
    refine (h1 w1 k01).mono ?_
    rintro e w2 ⟨rfl, k2⟩
    have k02 := k01.trans k2
    have k3 : Kept w2 (w2.alloc (.cells #[.int .i64 l0, .int .i64 l1, .int .i64 l2, .int .i64 l3] 58)) := (Kept.refl w2).alloc _
    have n3 := Blk.new w2 [.int .i64 l0, .int .i64 l1, .int .i64 l2, .int .i64 l3] 58
    have k03 := k02.trans k3
    have z0 := n3.cell 0
    have z1 := n3.cell 1
    have z2 := n3.cell 2
    have z3 := n3.cell 3
    simp only [List.getElem?_cons_succ, List.getElem?_cons_zero] at z0 z1 z2 z3
    cases b1 with
    | false =>
      have HM := Shut.mk (show (m1, m2) = (0, 40) by rw [HX.out]; simp)
      go_wp2
      go_ret2
      exact ⟨by simp only [Prod.mk.injEq] at HM; rw [HM.out.1, HM.out.2]; rfl, k03⟩
    | true =>
      by_cases e1 : l0 = a
      · subst e1
        by_cases e2 : l1 = b
        · subst e2
          by_cases e3 : l2 = c
          · subst e3
            have HM := Shut.mk (show (m1, m2) = (l3, 0) by rw [HX.out]; simp)
            go_wp2
            go_ret2
            exact ⟨by simp only [Prod.mk.injEq] at HM; rw [HM.out.1, HM.out.2]; rfl, k03⟩
          · have HM := Shut.mk (show (m1, m2) = (0, 40) by rw [HX.out]; simp [e3])
            have d2 : (l2 == c) = false := by simpa using e3
            clear e3
            go_wp2
            go_ret2
            exact ⟨by simp only [Prod.mk.injEq] at HM; rw [HM.out.1, HM.out.2]; rfl, k03⟩
        · have HM := Shut.mk (show (m1, m2) = (0, 40) by rw [HX.out]; simp [e2])
          have d2 : (l1 == b) = false := by simpa using e2
          clear e2
          go_wp2
          go_ret2
          exact ⟨by simp only [Prod.mk.injEq] at HM; rw [HM.out.1, HM.out.2]; rfl, k03⟩
      · have HM := Shut.mk (show (m1, m2) = (0, 40) by rw [HX.out]; simp [e1])
        have d1 : (l0 == a) = false := by simpa using e1
        clear e1
        go_wp2
        go_ret2
        exact ⟨by simp only [Prod.mk.injEq] at HM; rw [HM.out.1, HM.out.2]; rfl, k03⟩

set_option maxHeartbeats 4000000 in
set_option maxRecDepth 100000 in
theorem checkA {w0 : World} {S : Nat → Prop} {w : World} {p : Value} {ds : List Nd} (h : At w0 S w p ds) (a b x : Int) :
    Calls Tryd.prog 23 #[p, .int .i64 a, .int .i64 b, .int .i64 x] w fun e w' => e = .returned (.bool (checkM ds a b x)) ∧ Kept w w' := by
  have h1 := partsA h 11 x
  simp only [arr4] at h1
  have hM : checkM ds a b x = (partsB ds 11 x && decide ((partsL ds 11 x).getD 0 0 = a) && decide ((partsL ds 11 x).getD 1 0 = b)) := rfl
  generalize checkM ds a b x = m at hM ⊢
  generalize (partsL ds 11 x).getD 0 0 = l0 at hM h1
  generalize (partsL ds 11 x).getD 1 0 = l1 at hM h1
  generalize (partsL ds 11 x).getD 2 0 = l2 at h1
  generalize (partsL ds 11 x).getD 3 0 = l3 at h1
  generalize partsB ds 11 x = b1 at hM h1
  have HX := Shut.mk hM
  clear hM h
  have hst := store4
  have hst2 := store4'
  have hcm := cmp2
  have hgd := grd2
  go_enter Tryd.func23, Tryd.ntmps23
  go_wp2_with fail
  refine h1.mono ?_
  rintro e w2 ⟨rfl, k2⟩
  have k3 : Kept w2 (w2.alloc (.cells #[.int .i64 l0, .int .i64 l1, .int .i64 l2, .int .i64 l3] 58)) := (Kept.refl w2).alloc _
  have n3 := Blk.new w2 [.int .i64 l0, .int .i64 l1, .int .i64 l2, .int .i64 l3] 58
  have k03 := k2.trans k3
  have z0 := n3.cell 0
  have z1 := n3.cell 1
  simp only [List.getElem?_cons_succ, List.getElem?_cons_zero] at z0 z1
  cases b1 with
  | false =>
    have HM := Shut.mk (show m = false by rw [HX.out]; simp)
    go_wp2
    go_ret
    exact ⟨by rw [HM.out]; rfl, k03⟩
  | true =>
    by_cases e1 : l0 = a
    · subst e1
      by_cases e2 : l1 = b
      · subst e2
        have HM := Shut.mk (show m = true by rw [HX.out]; simp)
        go_wp2
        go_ret
        exact ⟨by rw [HM.out]; rfl, k03⟩
      · have HM := Shut.mk (show m = false by rw [HX.out]; simp [e2])
        have d2 : (l1 == b) = false := by simpa using e2
        clear e2
        go_wp2
        go_ret
        exact ⟨by rw [HM.out]; rfl, k03⟩
    · have HM := Shut.mk (show m = false by rw [HX.out]; simp [e1])
      have d1 : (l0 == a) = false := by simpa using e1
      clear e1
      go_wp2
      go_ret
      exact ⟨by rw [HM.out]; rfl, k03⟩

set_option maxHeartbeats 4000000 in
set_option maxRecDepth 100000 in
theorem verifyA {w0 : World} {S : Nat → Prop} {w : World} {p : Value} {ds : List Nd} (h : At w0 S w p ds) (a b x : Int) :
    Calls Tryd.prog 22 #[p, .int .i64 a, .int .i64 b, .int .i64 x] w fun e w' => e = .returned (.bool (verifyM ds a b x)) ∧ Kept w w' := by
  have h1 := partsA h 10 x
  have h2 := fun W (k : Kept w W) => partsA (h.step k) 7 a
  simp only [arr4] at h1 h2
  have hM : verifyM ds a b x = (partsB ds 10 x && partsB ds 7 a && decide ((partsL ds 10 x).getD 0 0 = (partsL ds 7 a).getD 0 0) && decide ((partsL ds 10 x).getD 1 0 = b)) := rfl
  generalize verifyM ds a b x = m at hM ⊢
  generalize (partsL ds 10 x).getD 0 0 = l0 at hM h1
  generalize (partsL ds 10 x).getD 1 0 = l1 at hM h1
  generalize (partsL ds 10 x).getD 2 0 = l2 at h1
  generalize (partsL ds 10 x).getD 3 0 = l3 at h1
  generalize partsB ds 10 x = b1 at hM h1
  generalize (partsL ds 7 a).getD 0 0 = q0 at hM h2
  generalize (partsL ds 7 a).getD 1 0 = q1 at h2
  generalize (partsL ds 7 a).getD 2 0 = q2 at h2
  generalize (partsL ds 7 a).getD 3 0 = q3 at h2
  generalize partsB ds 7 a = b2 at hM h2
  have HX := Shut.mk hM
  clear hM h
  have hst := store4
  have hst2 := store4'
  have hcm := cmp2
  have hgd := grd2
  go_enter Tryd.func22, Tryd.ntmps22
  go_wp2_with fail
  refine h1.mono ?_
  rintro e w2 ⟨rfl, k2⟩
  have k3 : Kept w2 (w2.alloc (.cells #[.int .i64 l0, .int .i64 l1, .int .i64 l2, .int .i64 l3] 58)) := (Kept.refl w2).alloc _
  have n3 := Blk.new w2 [.int .i64 l0, .int .i64 l1, .int .i64 l2, .int .i64 l3] 58
  have k03 := k2.trans k3
  go_wp2_with fail
  generalize w2.alloc (.cells #[.int .i64 l0, .int .i64 l1, .int .i64 l2, .int .i64 l3] 58) = w3 at k3 k03 n3 ⊢
  refine (h2 w3 k03).mono ?_
  rintro e w4 ⟨rfl, k4⟩
  have k04 := k03.trans k4
  have k5 : Kept w4 (w4.alloc (.cells #[.int .i64 q0, .int .i64 q1, .int .i64 q2, .int .i64 q3] 58)) := (Kept.refl w4).alloc _
  have n5 := Blk.new w4 [.int .i64 q0, .int .i64 q1, .int .i64 q2, .int .i64 q3] 58
  have k05 := k04.trans k5
  have n3' := (n3.kept k4).kept k5
  have y0 := n3'.cell 0
  have y1 := n3'.cell 1
  have y2 := n5.cell 0
  simp only [List.getElem?_cons_succ, List.getElem?_cons_zero] at y0 y1 y2
  clear n3 h1 h2
  cases b1 with
  | false =>
    have HM := Shut.mk (show m = false by rw [HX.out]; simp)
    go_wp2
    go_ret
    exact ⟨by rw [HM.out]; rfl, k05⟩
  | true =>
    cases b2 with
    | false =>
      have HM := Shut.mk (show m = false by rw [HX.out]; simp)
      go_wp2
      go_ret
      exact ⟨by rw [HM.out]; rfl, k05⟩
    | true =>
      by_cases e1 : l0 = q0
      · subst e1
        by_cases e2 : l1 = b
        · subst e2
          have HM := Shut.mk (show m = true by rw [HX.out]; simp)
          go_wp2
          go_ret
          exact ⟨by rw [HM.out]; rfl, k05⟩
        · have HM := Shut.mk (show m = false by rw [HX.out]; simp [e2])
          have d2 : (l1 == b) = false := by simpa using e2
          clear e2
          go_wp2
          go_ret
          exact ⟨by rw [HM.out]; rfl, k05⟩
      · have HM := Shut.mk (show m = false by rw [HX.out]; simp [e1])
        have d1 : (l0 == q0) = false := by simpa using e1
        clear e1
        go_wp2
        go_ret
        exact ⟨by rw [HM.out]; rfl, k05⟩

theorem partsL_64 {ds : List Nd} (hg : Good ds) (hf : ds.length ≤ 100000) (op t : Int) (i : Nat) : I64 ((partsL ds op t).getD i 0) := by
  have h0 : I64 0 := i64_lit (by simp)
  have hz : ∀ l : List Int, (∀ x ∈ l, I64 x) → I64 (l.getD i 0) := fun l hl => by
    by_cases c : i < l.length
    · exact hl _ (by rw [List.getD_eq_getElem?_getD, List.getElem?_eq_getElem c]; exact List.getElem_mem c)
    · rw [List.getD_eq_getElem?_getD, List.getElem?_eq_none (by omega)]; exact h0
  unfold partsL
  split
  · rename_i hb
    refine hz _ fun x hx => ?_
    rcases List.mem_append.1 (List.mem_of_mem_take hx) with c | c
    · have hT : IsT ds t := by
        unfold partsB at hb
        rw [Bool.and_eq_true] at hb
        exact of_decide_eq_true hb.1
      unfold ndAt at c
      rw [if_pos (show 0 ≤ t ∧ t < (ds.length : Int) from hT)] at c
      have h1 := hT.1
      have h2 := hT.2
      have := (hg.may' (i := t.toNat) (by omega)).all x c
      exact ⟨by omega, by omega⟩
    · have : x = 0 := by simpa using c
      rw [this]; exact h0
  · refine hz _ fun x hx => ?_
    have : x = 0 := by simpa using hx
    rw [this]; exact h0

set_option maxHeartbeats 4000000 in
set_option maxRecDepth 100000 in
theorem unblindA {w0 : World} {S : Nat → Prop} {w : World} {p : Value} {ds : List Nd} (h : At w0 S w p ds) (a b : Int) :
    Calls Tryd.prog 21 #[p, .int .i64 a, .int .i64 b] w (MkPost w0 S w p (unblindM ds a b)) := by
  have k0 : Kept w (w.alloc (.cells #[.int .i64 a, .int .i64 b] 3)) := (Kept.refl w).alloc _
  have hr : RdI (w.alloc (.cells #[.int .i64 a, .int .i64 b] 3)) (.slice (some ⟨w.heap.size, 0, none⟩) 2 2) [a, b] := RdI.lit w [a, b] (by simp)
  have h0 := termsA (h.step k0) hr
  have h1 := fun W (k : Kept w W) => partsA (h.step k) 10 a
  have h2 := fun W (k : Kept w W) => partsA (h.step k) 12 ((partsL ds 10 a).getD 1 0)
  simp only [arr4] at h1 h2
  have i1 := partsL_64 h.good h.few 10 a 0
  have i2 := partsL_64 h.good h.few 12 ((partsL ds 10 a).getD 1 0) 0
  have hM : unblindM ds a b = if termsB ds [a, b] then (if partsB ds 10 a = true ∧ partsB ds 12 ((partsL ds 10 a).getD 1 0) = true ∧ (partsL ds 12 ((partsL ds 10 a).getD 1 0)).getD 1 0 = b then made ds 10 [(partsL ds 10 a).getD 0 0, (partsL ds 12 ((partsL ds 10 a).getD 1 0)).getD 0 0] else (ds, 0, 40)) else (ds, 0, 1) := rfl
  generalize unblindM ds a b = m at hM ⊢
  generalize (partsL ds 10 a).getD 1 0 = l1 at hM h1 h2 i2
  generalize (partsL ds 10 a).getD 0 0 = l0 at hM h1 i1
  generalize (partsL ds 10 a).getD 2 0 = l2 at h1
  generalize (partsL ds 10 a).getD 3 0 = l3 at h1
  generalize partsB ds 10 a = b1 at hM h1
  generalize (partsL ds 12 l1).getD 0 0 = q0 at hM h2 i2
  generalize (partsL ds 12 l1).getD 1 0 = q1 at hM h2
  generalize (partsL ds 12 l1).getD 2 0 = q2 at h2
  generalize (partsL ds 12 l1).getD 3 0 = q3 at h2
  generalize partsB ds 12 l1 = b2 at hM h2
  generalize termsB ds [a, b] = b0 at h0 hM
  have h3 : ∀ (W : World) (k : Kept w W) (v : Value) (hv : RdI W v [l0, q0]), Calls Tryd.prog 30 #[p, .int .i64 10, v] W (MkPost w0 S W p (made ds 10 [l0, q0])) := fun W hW v hv => madeA (h.step hW) hv (i64_lit (by simp)) (fun y hy => by
    simp only [List.mem_cons, List.not_mem_nil, or_false] at hy
    rcases hy with rfl | rfl <;> assumption)
  generalize made ds 10 [l0, q0] = m3 at h3 hM
  have HX := Shut.mk hM
  have HH := Shut.mk h
  clear hM hr h i1 i2
  have hst := store4
  have hst2 := store4'
  go_enter Tryd.func21, Tryd.ntmps21
  go_wp2_with fail
  refine h0.mono ?_
  rintro e w1 ⟨rfl, k1⟩
  have k01 := k0.trans k1
  cases b0 with
  | false =>
    have HM := Shut.mk (show m = (ds, 0, 1) from HX.out)
    go_wp2
    go_ret2
    exact ⟨by rw [HM.out]; rfl, by rw [HM.out]; exact HH.out.step k01, k01.keep S⟩
  | true =>
    go_wp2_with fail
    refine (h1 w1 k01).mono ?_
    rintro e w2 ⟨rfl, k2⟩
    have k02 := k01.trans k2
    have k3 : Kept w2 (w2.alloc (.cells #[.int .i64 l0, .int .i64 l1, .int .i64 l2, .int .i64 l3] 58)) := (Kept.refl w2).alloc _
    have n3 := Blk.new w2 [.int .i64 l0, .int .i64 l1, .int .i64 l2, .int .i64 l3] 58
    have k03 := k02.trans k3
    have z1 := n3.cell 1
    simp only [List.getElem?_cons_succ, List.getElem?_cons_zero] at z1
    go_wp2_with fail
    generalize w2.alloc (.cells #[.int .i64 l0, .int .i64 l1, .int .i64 l2, .int .i64 l3] 58) = w3 at k3 k03 n3 z1 ⊢
    refine (h2 w3 k03).mono ?_
    rintro e w4 ⟨rfl, k4⟩
    have k04 := k03.trans k4
    have k5 : Kept w4 (w4.alloc (.cells #[.int .i64 q0, .int .i64 q1, .int .i64 q2, .int .i64 q3] 58)) := (Kept.refl w4).alloc _
    have n5 := Blk.new w4 [.int .i64 q0, .int .i64 q1, .int .i64 q2, .int .i64 q3] 58
    have k05 := k04.trans k5
    have n3' := (n3.kept k4).kept k5
    have y0 := n3'.cell 0
    have y1 := n5.cell 0
    have y2 := n5.cell 1
    simp only [List.getElem?_cons_succ, List.getElem?_cons_zero] at y0 y1 y2
    clear z1 n3 h1 h2
    cases b1 with
    | false =>
      have HM := Shut.mk (show m = (ds, 0, 40) by rw [HX.out]; simp)
      go_wp2
      go_ret2
      exact ⟨by rw [HM.out]; rfl, by rw [HM.out]; exact HH.out.step k05, k05.keep S⟩
    | true =>
      cases b2 with
      | false =>
        have HM := Shut.mk (show m = (ds, 0, 40) by rw [HX.out]; simp)
        go_wp2
        go_ret2
        exact ⟨by rw [HM.out]; rfl, by rw [HM.out]; exact HH.out.step k05, k05.keep S⟩
      | true =>
        by_cases e1 : q1 = b
        · subst e1
          have HM := Shut.mk (show m = m3 by rw [HX.out]; simp)
          have hd : (q1 != q1) = false := by simp
          have k6 := (Kept.refl (w4.alloc (.cells #[.int .i64 q0, .int .i64 q1, .int .i64 q2, .int .i64 q3] 58))).alloc (.cells #[.int .i64 l0, .int .i64 q0] 3)
          have hr3 := RdI.lit (w4.alloc (.cells #[.int .i64 q0, .int .i64 q1, .int .i64 q2, .int .i64 q3] 58)) [l0, q0] (by simp)
          rw [alloc_size] at hr3
          have h3' := h3 _ (k05.trans k6) _ hr3
          clear hr3 h3
          go_wp2_with fail
          refine h3'.mono ?_
          rintro e w7 ⟨rfl, a7, k7⟩
          go_wp2
          go_ret2
          exact ⟨by rw [HM.out]; rfl, by rw [HM.out]; exact a7, ((k05.trans k6).keep S).trans k7⟩
        · have HM := Shut.mk (show m = (ds, 0, 40) by rw [HX.out]; simp [e1])
          have d1 : (q1 != b) = true := by simpa using e1
          clear e1
          go_wp2
          go_ret2
          exact ⟨by rw [HM.out]; rfl, by rw [HM.out]; exact HH.out.step k05, k05.keep S⟩
end Go.Proofs.YtihagkeljhgomaaDoor

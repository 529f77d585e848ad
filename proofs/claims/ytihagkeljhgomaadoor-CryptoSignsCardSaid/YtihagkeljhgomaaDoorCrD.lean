/- Walks of package crypto: Derive, Seal, Open, Unlock. -/
import Derived.Test.YtihagkeljhgomaaDoorCrC
import Derived.Deep.WholeRow
set_option linter.unusedSimpArgs false
set_option linter.unusedVariables false
namespace Go.Proofs.YtihagkeljhgomaaDoor
open Go.RowKit Go.Maps

theorem store4 (W : World) (a b c d : Int) : (Instr.storeAt 58 (.pointer (some ⟨W.heap.size, 0, none⟩)) (.agg #[.int .i64 a, .int .i64 b, .int .i64 c, .int .i64 d])).run Tryd.prog (W.alloc (.cells #[.int .i64 0, .int .i64 0, .int .i64 0, .int .i64 0] 58)) = .ok () (W.alloc (.cells #[.int .i64 a, .int .i64 b, .int .i64 c, .int .i64 d] 58)) :=
  run_storeAt_new W _ _ _ (by kernel_rfl) rfl (ones4 _ _ _ _)
theorem store4' (W : World) (a b c d : Int) : (storeCells ⟨W.heap.size, 0, none⟩ [.int .i64 a, .int .i64 b, .int .i64 c, .int .i64 d] 0).run Tryd.prog (W.alloc (.cells #[.int .i64 0, .int .i64 0, .int .i64 0, .int .i64 0] 58)) = .ok () (W.alloc (.cells #[.int .i64 a, .int .i64 b, .int .i64 c, .int .i64 d] 58)) :=
  run_storeCells_new W 58 #[.int .i64 0, .int .i64 0, .int .i64 0, .int .i64 0] #[.int .i64 a, .int .i64 b, .int .i64 c, .int .i64 d] (by kernel_rfl) rfl (ones4 _ _ _ _)

set_option maxHeartbeats 4000000 in
set_option maxRecDepth 100000 in
theorem deriveA {w0 : World} {S : Nat → Prop} {w : World} {p : Value} {ds : List Nd} (h : At w0 S w p ds) {s : Int} {x : List UInt8} (hs : I64 s) (hx : x.length ≤ maxLen) :
    Calls Tryd.prog 35 #[p, .int .i64 s, .string (strB x)] w (MkPost w0 S w p (deriveM ds s x)) := by
  have k0 : Kept w (w.alloc (.cells #[.int .i64 s] 3)) := (Kept.refl w).alloc _
  have hr : RdI (w.alloc (.cells #[.int .i64 s] 3)) (.slice (some ⟨w.heap.size, 0, none⟩) 1 1) [s] := RdI.lit w [s] (by simp)
  have h1 := termsA (h.step k0) hr
  have h2 := fun W (k : Kept w W) => listA (h.step k) (RdI.nil W) (fun y hy => by cases hy)
  have h3 : ∀ (W : World) (_ : At w0 S W p (mk ds ⟨3, 0, [], []⟩).1), Calls Tryd.prog 33 #[p, .string (strB x)] W (MkPost w0 S W p (mk (mk ds ⟨3, 0, [], []⟩).1 ⟨2, 0, x, []⟩)) := fun W hW => textA hW x hx
  have h4 : ∀ (W : World) (_ : At w0 S W p (mk ds ⟨3, 0, [], []⟩).1), Calls Tryd.prog 24 #[p, .int .i64 s, .string (strB x), .int .i64 (mk ds ⟨3, 0, [], []⟩).2.1] W (MkPost w0 S W p (expandM (mk ds ⟨3, 0, [], []⟩).1 s x (mk ds ⟨3, 0, [], []⟩).2.1)) := fun W hW => expandA hW hs (mk_t64' ds _ h.few) hx
  have hM : deriveM ds s x = if termsB ds [s] then if (mk ds ⟨3, 0, [], []⟩).2.2 = 0 then expandM (mk ds ⟨3, 0, [], []⟩).1 s x (mk ds ⟨3, 0, [], []⟩).2.1 else ((mk ds ⟨3, 0, [], []⟩).1, 0, (mk ds ⟨3, 0, [], []⟩).2.2) else ((mk (mk ds ⟨3, 0, [], []⟩).1 ⟨2, 0, x, []⟩).1, 0, 1) := rfl
  generalize deriveM ds s x = m at hM ⊢
  generalize mk ds ⟨3, 0, [], []⟩ = t at h2 h3 h4 hM
  obtain ⟨ds1, t1, e1⟩ := t
  simp only at h2 h3 h4 hM
  generalize mk ds1 ⟨2, 0, x, []⟩ = m2 at h3 hM
  generalize expandM ds1 s x t1 = m3 at h4 hM
  obtain ⟨ds2, t2, e2⟩ := m2
  simp only at h3 hM
  generalize termsB ds [s] = b at h1 hM
  generalize strB x = X at h3 h4 ⊢
  have HX := Shut.mk hM
  clear hM hr hx
  go_enter Tryd.func35, Tryd.ntmps35
  go_wp2_with fail
  refine h1.mono ?_
  rintro e w1 ⟨rfl, k1⟩
  go_wp2_with fail
  refine (h2 w1 (k0.trans k1)).mono ?_
  rintro e w2 ⟨rfl, a2, k2⟩
  have kk2 : Keep S w w2 := ((k0.trans k1).keep S).trans k2
  cases b with
  | false =>
    have HM := Shut.mk (show m = (ds2, 0, 1) from HX.out)
    go_wp2_with fail
    refine (h3 w2 a2).mono ?_
    rintro e w3 ⟨rfl, a3, k3⟩
    go_wp2
    go_ret2
    exact ⟨by rw [HM.out]; rfl, by rw [HM.out]; exact a3, kk2.trans k3⟩
  | true =>
    by_cases he : e1 = 0
    · subst he
      have HM := Shut.mk (show m = m3 from HX.out)
      go_wp2_with fail
      refine (h4 w2 a2).mono ?_
      rintro e w3 ⟨rfl, a3, k3⟩
      go_wp2
      go_ret2
      exact ⟨by rw [HM.out]; rfl, by rw [HM.out]; exact a3, kk2.trans k3⟩
    · have HM := Shut.mk (show m = (ds1, 0, e1) by rw [HX.out, if_pos rfl, if_neg he])
      have hd : (e1 != 0) = true := by simpa using he
      clear he
      go_wp2
      go_ret2
      exact ⟨by rw [HM.out]; rfl, by rw [HM.out]; exact a2, kk2⟩

set_option maxHeartbeats 4000000 in
set_option maxRecDepth 100000 in
theorem sealA {w0 : World} {S : Nat → Prop} {w : World} {p : Value} {ds : List Nd} (h : At w0 S w p ds) {a b c d : Int} (ha : I64 a) (hb : I64 b) (hc : I64 c) (hd : I64 d) :
    Calls Tryd.prog 14 #[p, .int .i64 a, .int .i64 b, .int .i64 c, .int .i64 d] w (MkPost w0 S w p (sealM ds a b c d)) := by
  have h1 := partsA h 7 a
  simp only [arr4] at h1
  have h2 : ∀ (W : World) (k : Kept w W) (v : Value) (hv : RdI W v [a, b, c, d]), Calls Tryd.prog 30 #[p, .int .i64 8, v] W (MkPost w0 S W p (made ds 8 [a, b, c, d])) := fun W hW v hv => madeA (h.step hW) hv (i64_lit (by simp)) (fun y hy => by
    simp only [List.mem_cons, List.not_mem_nil, or_false] at hy
    rcases hy with rfl | rfl | rfl | rfl <;> assumption)
  have hM : sealM ds a b c d = if partsB ds 7 a then made ds 8 [a, b, c, d] else (ds, 0, 1) := rfl
  generalize sealM ds a b c d = m at hM ⊢
  generalize made ds 8 [a, b, c, d] = m2 at h2 hM
  generalize partsB ds 7 a = bb at h1 hM
  generalize (partsL ds 7 a).getD 0 0 = l0 at h1
  generalize (partsL ds 7 a).getD 1 0 = l1 at h1
  generalize (partsL ds 7 a).getD 2 0 = l2 at h1
  generalize (partsL ds 7 a).getD 3 0 = l3 at h1
  have HX := Shut.mk hM
  have HH := Shut.mk h
  clear hM h
  go_enter Tryd.func14, Tryd.ntmps14
  go_wp2_with fail
  refine h1.mono ?_
  rintro e w1 ⟨rfl, k1⟩
  have hst := store4
  have hst2 := store4'
  have kA : Kept w1 (w1.alloc (.cells #[.int .i64 l0, .int .i64 l1, .int .i64 l2, .int .i64 l3] 58)) := (Kept.refl w1).alloc _
  cases bb with
  | false =>
    have HM := Shut.mk (show m = (ds, 0, 1) from HX.out)
    go_wp2
    go_ret2
    exact ⟨by rw [HM.out]; rfl, by rw [HM.out]; exact HH.out.step (k1.trans kA), (k1.trans kA).keep S⟩
  | true =>
    have HM := Shut.mk (show m = m2 from HX.out)
    have k3 := (Kept.refl (w1.alloc (.cells #[.int .i64 l0, .int .i64 l1, .int .i64 l2, .int .i64 l3] 58))).alloc (.cells #[.int .i64 a, .int .i64 b, .int .i64 c, .int .i64 d] 3)
    have hr3 := RdI.lit (w1.alloc (.cells #[.int .i64 l0, .int .i64 l1, .int .i64 l2, .int .i64 l3] 58)) [a, b, c, d] (by simp)
    rw [alloc_size] at hr3
    have h2' := h2 _ ((k1.trans kA).trans k3) _ hr3
    clear hr3 h2
    go_wp2_with fail
    refine h2'.mono ?_
    rintro e w4 ⟨rfl, a4, k4⟩
    go_wp2
    go_ret2
    exact ⟨by rw [HM.out]; rfl, by rw [HM.out]; exact a4, (((k1.trans kA).trans k3).keep S).trans k4⟩
end Go.Proofs.YtihagkeljhgomaaDoor

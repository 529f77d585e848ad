/- What comes in: lists of operations. -/
import Derived.Test.YtihagkeljhgomaaDoorOpenB
import Derived.Test.YtihagkeljhgomaaDoorCrO
import Derived.Deep.Slices
import Derived.Deep.Fields
set_option linter.unusedSimpArgs false
set_option linter.unusedVariables false
set_option maxRecDepth 100000
namespace Go.Proofs.YtihagkeljhgomaaDoor
open Go.RowKit Go.ChangeShapes Go.WideShapes Go.ChangeAt

theorem Tryd.opStruct : ∃ fs : Array Field, Tryd.prog.underlying 46 = some (.struct fs) ∧ (fs[0]?.map fun f => (f.type, f.offset)) = some (3, 0) ∧ (fs[1]?.map fun f => (f.type, f.offset)) = some (3, 1) ∧
    (fs[2]?.map fun f => (f.type, f.offset)) = some (3, 2) ∧ (fs[3]?.map fun f => (f.type, f.offset)) = some (3, 3) ∧ (fs[4]?.map fun f => (f.type, f.offset)) = some (3, 4) ∧ (fs[5]?.map fun f => (f.type, f.offset)) = some (9, 5) := ⟨_, Tryd.underlying46, rfl, rfl, rfl, rfl, rfl, rfl⟩
theorem Tryd.opCells : Tryd.prog.cellsOf 46 = 6 := by kernel_rfl

/-- One operation's cells. -/
theorem cells_of_op {H : Type} {enc : TypeId × Value → H} {W : World} {base : Nat} {sp : Nat → Bool} {held : Bool} {fuel : Nat} {cs : List Value} {x : DataW H × List MemPlace} (h : DataW.trod enc Tryd.prog W base sp held fuel 46 cs = some x) :
    ∃ (o : Opn), cs = opCells o ∧ OpnOk o := by
  obtain ⟨fs, hst, f0, f1, f2, f3, f4, f5⟩ := Tryd.opStruct
  obtain ⟨ys, m, rfl, hy, hl, hyl, hall⟩ := DataW.trod_struct hst h
  rw [Tryd.opCells] at hl
  obtain ⟨v0, v1, v2, v3, v4, v5, rfl⟩ : ∃ v0 v1 v2 v3 v4 v5, cs = [v0, v1, v2, v3, v4, v5] := by
    match cs, hl with
    | [a, b, c, d, e, f], _ => exact ⟨a, b, c, d, e, f, rfl⟩
  obtain ⟨g0, hg0, e0⟩ := Option.map_eq_some_iff.1 f0
  obtain ⟨g1, hg1, e1⟩ := Option.map_eq_some_iff.1 f1
  obtain ⟨g2, hg2, e2⟩ := Option.map_eq_some_iff.1 f2
  obtain ⟨g3, hg3, e3⟩ := Option.map_eq_some_iff.1 f3
  obtain ⟨g4, hg4, e4⟩ := Option.map_eq_some_iff.1 f4
  obtain ⟨g5, hg5, e5⟩ := Option.map_eq_some_iff.1 f5
  simp only [Prod.mk.injEq] at e0 e1 e2 e3 e4 e5
  have hsz : ∀ (j : Nat) (g : Field), fs[j]? = some g → ∃ y, ys[j]? = some y := fun j g hg => ⟨ys[j]'(by rw [hyl]; exact (Array.getElem?_eq_some_iff.1 hg).1), List.getElem?_eq_getElem _⟩
  obtain ⟨y0, hy0⟩ := hsz 0 g0 hg0
  obtain ⟨y1, hy1⟩ := hsz 1 g1 hg1
  obtain ⟨y2, hy2⟩ := hsz 2 g2 hg2
  obtain ⟨y3, hy3⟩ := hsz 3 g3 hg3
  obtain ⟨y4, hy4⟩ := hsz 4 g4 hg4
  obtain ⟨y5, hy5⟩ := hsz 5 g5 hg5
  have c1 : Tryd.prog.cellsOf 3 = 1 := by kernel_rfl
  have c2 : Tryd.prog.cellsOf 9 = 1 := by kernel_rfl
  have a0 := (hall 0 g0 hg0).trans hy0
  have a1 := (hall 1 g1 hg1).trans hy1
  have a2 := (hall 2 g2 hg2).trans hy2
  have a3 := (hall 3 g3 hg3).trans hy3
  have a4 := (hall 4 g4 hg4).trans hy4
  have a5 := (hall 5 g5 hg5).trans hy5
  rw [e0.1, e0.2, c1] at a0
  rw [e1.1, e1.2, c1] at a1
  rw [e2.1, e2.2, c1] at a2
  rw [e3.1, e3.2, c1] at a3
  rw [e4.1, e4.2, c1] at a4
  rw [e5.1, e5.2, c2] at a5
  simp only [List.drop_zero, List.drop_succ_cons, List.take_succ_cons, List.take_zero] at a0 a1 a2 a3 a4 a5
  obtain ⟨n0, q0, _, w0⟩ := DataW.trod_int Tryd.underlying3 a0
  obtain ⟨n1, q1, _, w1⟩ := DataW.trod_int Tryd.underlying3 a1
  obtain ⟨n2, q2, _, w2⟩ := DataW.trod_int Tryd.underlying3 a2
  obtain ⟨n3, q3, _, w3⟩ := DataW.trod_int Tryd.underlying3 a3
  obtain ⟨n4, q4, _, w4⟩ := DataW.trod_int Tryd.underlying3 a4
  obtain ⟨s, q5, _, w5⟩ := DataW.trod_string Tryd.underlying9 a5
  simp only [List.cons.injEq, and_true] at q0 q1 q2 q3 q4 q5
  subst q0 q1 q2 q3 q4 q5
  refine ⟨⟨n0, n1, n2, n3, n4, s.data.toList⟩, ?_, ⟨bounds_i64 w0, bounds_i64 w1, bounds_i64 w2, bounds_i64 w3, bounds_i64 w4, ?_⟩⟩
  · cases s; rfl
  · show s.data.toList.length ≤ maxLen
    have e : s.data.toList.length = s.size := Array.length_toList
    rw [e]; exact w5

/-- A slice of operations that comes in. -/
theorem open_ops {H : Type} {enc : TypeId × Value → H} {W : World} {base : Nat} {v : Value} {d : DataW H} {p : List MemPlace} (hv : Value.okWide Tryd.prog W .any base 22 v)
    (h : DataW.Trod enc Tryd.prog W 0 (fun _ => true) true 22 v d p) : ∃ ls : List Opn, RdOs W v ls ∧ ∀ d ∈ ls, OpnOk d := by
  obtain ⟨a0, len0, cap0, rfl⟩ := okWide_slice Tryd.underlying22 hv
  obtain ⟨fuel, hf⟩ := h
  rcases Deep.open_slice Tryd.underlying22 hf with ⟨hcs, _⟩ | ⟨a, len, cap, m, n, D, Pl, hcs, _, hl, hm, hmm, _, hi⟩
  · simp [Value.cells] at hcs
    obtain ⟨rfl, rfl, rfl⟩ := hcs
    exact ⟨[], ⟨none, 0, rfl, rfl, Nat.le_refl _, Nat.zero_le _, fun _ => rfl, fun _ h => by cases h⟩, fun d hd => by cases hd⟩
  · simp [Value.cells] at hcs
    obtain ⟨rfl, rfl, rfl⟩ := hcs
    have hlm : len0 ≤ m := by rw [hmm]; split <;> omega
    have hel : ∀ i, ∃ (o : Opn), i < len0 → (∀ j u, (opCells o)[j]? = some u → W.cell? (a.add (i * 6 + j)) = some u) ∧ OpnOk o := by
      intro i
      by_cases c : i < len0
      · obtain ⟨cs', hc, ht⟩ := hi i (by omega)
        rw [Tryd.opCells] at hc
        obtain ⟨_, hcl, hat⟩ := World.cells?_some hc
        obtain ⟨o, rfl, ok⟩ := cells_of_op ht
        refine ⟨o, fun _ => ⟨fun j u hj => ?_, ok⟩⟩
        have hj6 : j < 6 := by
          have := (List.getElem?_eq_some_iff.1 hj).1
          simpa [Go.Proofs.YtihagkeljhgomaaDoor.opCells] using this
        rw [← Go.Deep.add_add, hat j hj6, hj]
      · exact ⟨op0, fun h => absurd h c⟩
    obtain ⟨dd, hdl⟩ : ∃ (dd : Nat → Opn), ∀ i, i < len0 → (∀ j u, (opCells (dd i))[j]? = some u → W.cell? (a.add (i * 6 + j)) = some u) ∧ OpnOk (dd i) :=
      ⟨fun i => Classical.choose (hel i), fun i => Classical.choose_spec (hel i)⟩
    have gd : ∀ i, i < len0 → ((List.range len0).map dd).getD i op0 = dd i := fun i hi => by simp [List.getD, List.getElem?_range hi]
    refine ⟨(List.range len0).map dd, ?_, fun d hd => ?_⟩
    · have el : ((List.range len0).map dd).length = len0 := by simp
      unfold RdOs
      rw [el]
      refine ⟨some a, cap0, rfl, by rw [flatO_length, el], hl, hm, (fun h => by cases h), fun ad had q u hq => ?_⟩
      cases had
      have hql : q < len0 * 6 := by
        have := (List.getElem?_eq_some_iff.1 hq).1
        rwa [flatO_length, el] at this
      have hq2 : q = q / 6 * 6 + q % 6 := by omega
      have hi4 : q / 6 < len0 := by omega
      rw [hq2, flatO_at _ (q / 6) (q % 6) (by rw [el]; exact hi4) (by omega), gd _ hi4] at hq
      rw [hq2]
      exact (hdl (q / 6) hi4).1 _ _ hq
    · obtain ⟨i, hi, rfl⟩ := List.mem_map.1 hd
      exact (hdl i (List.mem_range.1 hi)).2
end Go.Proofs.YtihagkeljhgomaaDoor

/- What comes in: numbers, nodes. -/
import Derived.Test.YtdhdgbihalfgeaaDoorOpenB
import Derived.Test.YtdhdgbihalfgeaaDoorTermA
import Derived.Deep.Slices
import Derived.Deep.Fields
set_option linter.unusedSimpArgs false
set_option linter.unusedVariables false
set_option maxRecDepth 100000
namespace Go.Proofs.YtdhdgbihalfgeaaDoor
open Go.RowKit Go.ChangeShapes Go.WideShapes Go.ChangeAt

theorem cells_of_ints {H : Type} {enc : TypeId × Value → H} {W : World} {base : Nat} {sp : Nat → Bool} {held : Bool} {fuel : Nat} {v : Value} {x : DataW H × List MemPlace} (h : DataW.trod enc Tryd.prog W base sp held fuel 29 [v] = some x) :
    ∃ zs : List Int, RdI W v zs ∧ ∀ z ∈ zs, I64 z := by
  rcases open_ints Tryd.underlying29 Tryd.underlying3 (by kernel_rfl) h with ⟨hcs, _⟩ | ⟨a, len, cap, zs, hcs, _, hl, hm, hz, _, hcell, hw⟩
  · simp only [List.cons.injEq, and_true] at hcs
    subst hcs
    exact ⟨[], RdI.nil W, fun z hz => by cases hz⟩
  · simp only [List.cons.injEq, and_true] at hcs
    subst hcs
    have hlz : len ≤ zs.length := by rw [hz]; split <;> omega
    have e : (zs.take len).length = len := by rw [List.length_take]; omega
    refine ⟨zs.take len, ?_, fun z hz' => bounds_i64 (hw z (List.mem_of_mem_take hz'))⟩
    unfold RdI
    rw [e]
    refine ⟨some a, cap, rfl, by simp [e]; omega, hl, hm, (fun h => by cases h), fun ad had j u hj => ?_⟩
    cases had
    have hjl : j < len := by
      have := (List.getElem?_eq_some_iff.1 hj).1
      simp at this; omega
    rw [hcell j (by omega), ← hj]
    simp [List.getElem?_take, hjl, List.getD, List.getElem?_eq_getElem (show j < zs.length by omega)]

theorem open_numbers {H : Type} {enc : TypeId × Value → H} {W : World} {base : Nat} {v : Value} {d : DataW H} {p : List MemPlace} (hv : Value.okWide Tryd.prog W .any base 29 v)
    (h : DataW.Trod enc Tryd.prog W 0 (fun _ => true) true 29 v d p) : ∃ zs : List Int, RdI W v zs ∧ ∀ z ∈ zs, I64 z := by
  obtain ⟨a, len, cap, rfl⟩ := okWide_slice Tryd.underlying29 hv
  obtain ⟨fuel, hf⟩ := h
  exact cells_of_ints hf

theorem Tryd.nodeStruct : ∃ fs : Array Field, Tryd.prog.underlying 31 = some (.struct fs) ∧ (fs[0]?.map fun f => (f.type, f.offset)) = some (3, 0) ∧ (fs[1]?.map fun f => (f.type, f.offset)) = some (3, 1) ∧
    (fs[2]?.map fun f => (f.type, f.offset)) = some (9, 2) ∧ (fs[3]?.map fun f => (f.type, f.offset)) = some (29, 3) := ⟨_, Tryd.underlying31, rfl, rfl, rfl, rfl⟩
theorem Tryd.nodeCells : Tryd.prog.cellsOf 31 = 4 := by kernel_rfl

/-- One node's cells. -/
theorem cells_of_node {H : Type} {enc : TypeId × Value → H} {W : World} {base : Nat} {sp : Nat → Bool} {held : Bool} {fuel : Nat} {cs : List Value} {x : DataW H × List MemPlace} (h : DataW.trod enc Tryd.prog W base sp held fuel 31 cs = some x) :
    ∃ (d : Nd) (lv : Value), cs = ndCells d lv ∧ RdI W lv d.l ∧ NdOk d := by
  obtain ⟨fs, hst, f0, f1, f2, f3⟩ := Tryd.nodeStruct
  obtain ⟨ys, m, rfl, hy, hl, hyl, hall⟩ := DataW.trod_struct hst h
  rw [Tryd.nodeCells] at hl
  obtain ⟨v0, v1, v2, v3, rfl⟩ : ∃ v0 v1 v2 v3, cs = [v0, v1, v2, v3] := by
    match cs, hl with
    | [a, b, c, d], _ => exact ⟨a, b, c, d, rfl⟩
  obtain ⟨g0, hg0, e0⟩ := Option.map_eq_some_iff.1 f0
  obtain ⟨g1, hg1, e1⟩ := Option.map_eq_some_iff.1 f1
  obtain ⟨g2, hg2, e2⟩ := Option.map_eq_some_iff.1 f2
  obtain ⟨g3, hg3, e3⟩ := Option.map_eq_some_iff.1 f3
  simp only [Prod.mk.injEq] at e0 e1 e2 e3
  have hsz : ∀ (j : Nat) (g : Field), fs[j]? = some g → ∃ y, ys[j]? = some y := fun j g hg => ⟨ys[j]'(by rw [hyl]; exact (Array.getElem?_eq_some_iff.1 hg).1), List.getElem?_eq_getElem _⟩
  obtain ⟨y0, hy0⟩ := hsz 0 g0 hg0
  obtain ⟨y1, hy1⟩ := hsz 1 g1 hg1
  obtain ⟨y2, hy2⟩ := hsz 2 g2 hg2
  obtain ⟨y3, hy3⟩ := hsz 3 g3 hg3
  have c1 : Tryd.prog.cellsOf 3 = 1 := by kernel_rfl
  have c2 : Tryd.prog.cellsOf 9 = 1 := by kernel_rfl
  have c3 : Tryd.prog.cellsOf 29 = 1 := by kernel_rfl
  have a0 := (hall 0 g0 hg0).trans hy0
  have a1 := (hall 1 g1 hg1).trans hy1
  have a2 := (hall 2 g2 hg2).trans hy2
  have a3 := (hall 3 g3 hg3).trans hy3
  rw [e0.1, e0.2, c1] at a0
  rw [e1.1, e1.2, c1] at a1
  rw [e2.1, e2.2, c2] at a2
  rw [e3.1, e3.2, c3] at a3
  simp only [List.drop_zero, List.drop_succ_cons, List.take_succ_cons, List.take_zero] at a0 a1 a2 a3
  obtain ⟨n0, q0, _, w0⟩ := DataW.trod_int Tryd.underlying3 a0
  obtain ⟨n1, q1, _, w1⟩ := DataW.trod_int Tryd.underlying3 a1
  obtain ⟨s, q2, _, w2⟩ := DataW.trod_string Tryd.underlying9 a2
  obtain ⟨zs, rd, h64⟩ := cells_of_ints a3
  simp only [List.cons.injEq, and_true] at q0 q1 q2
  subst q0 q1 q2
  refine ⟨⟨n0, n1, s.data.toList, zs⟩, v3, ?_, rd, ⟨bounds_i64 w0, bounds_i64 w1, ?_, h64⟩⟩
  · cases s; rfl
  · show s.data.toList.length ≤ maxLen
    have e : s.data.toList.length = s.size := Array.length_toList
    rw [e]; exact w2

/-- A slice of nodes that comes in. -/
theorem open_nodes {H : Type} {enc : TypeId × Value → H} {W : World} {base : Nat} {v : Value} {d : DataW H} {p : List MemPlace} (hv : Value.okWide Tryd.prog W .any base 22 v)
    (h : DataW.Trod enc Tryd.prog W 0 (fun _ => true) true 22 v d p) : ∃ ls : List Nd, RdNs W v ls ∧ ∀ d ∈ ls, NdOk d := by
  obtain ⟨a0, len0, cap0, rfl⟩ := okWide_slice Tryd.underlying22 hv
  obtain ⟨fuel, hf⟩ := h
  rcases Deep.open_slice Tryd.underlying22 hf with ⟨hcs, _⟩ | ⟨a, len, cap, m, n, D, Pl, hcs, _, hl, hm, hmm, _, hi⟩
  · simp [Value.cells] at hcs
    obtain ⟨rfl, rfl, rfl⟩ := hcs
    exact ⟨[], ⟨[], rfl, ⟨none, 0, rfl, rfl, Nat.le_refl _, Nat.zero_le _, fun _ => rfl, fun _ h => by cases h⟩, fun i hi => by simp at hi⟩, fun d hd => by cases hd⟩
  · simp [Value.cells] at hcs
    obtain ⟨rfl, rfl, rfl⟩ := hcs
    have hlm : len0 ≤ m := by rw [hmm]; split <;> omega
    have hel : ∀ i, ∃ (d : Nd) (lv : Value), i < len0 → (∀ j u, (ndCells d lv)[j]? = some u → W.cell? (a.add (i * 4 + j)) = some u) ∧ RdI W lv d.l ∧ NdOk d := by
      intro i
      by_cases c : i < len0
      · obtain ⟨cs', hc, ht⟩ := hi i (by omega)
        rw [Tryd.nodeCells] at hc
        obtain ⟨_, hcl, hat⟩ := World.cells?_some hc
        obtain ⟨d, lv, rfl, rd, ok⟩ := cells_of_node ht
        refine ⟨d, lv, fun _ => ⟨fun j u hj => ?_, rd, ok⟩⟩
        have hj4 : j < 4 := by
          have := (List.getElem?_eq_some_iff.1 hj).1
          simpa [ndCells] using this
        rw [← Go.Deep.add_add, hat j hj4, hj]
      · exact ⟨nd0, undef, fun h => absurd h c⟩
    obtain ⟨dd, ll, hdl⟩ : ∃ (dd : Nat → Nd) (ll : Nat → Value), ∀ i, i < len0 → (∀ j u, (ndCells (dd i) (ll i))[j]? = some u → W.cell? (a.add (i * 4 + j)) = some u) ∧ RdI W (ll i) (dd i).l ∧ NdOk (dd i) :=
      ⟨fun i => Classical.choose (hel i), fun i => Classical.choose (Classical.choose_spec (hel i)), fun i => Classical.choose_spec (Classical.choose_spec (hel i))⟩
    have gd : ∀ i, i < len0 → ((List.range len0).map dd).getD i nd0 = dd i := fun i hi => by simp [List.getD, List.getElem?_range hi]
    have gl : ∀ i, i < len0 → ((List.range len0).map ll).getD i undef = ll i := fun i hi => by simp [List.getD, List.getElem?_range hi]
    refine ⟨(List.range len0).map dd, ⟨(List.range len0).map ll, by simp, ?_, fun i hi => ?_⟩, fun d hd => ?_⟩
    · have el : ((List.range len0).map dd).length = len0 := by simp
      rw [el]
      refine ⟨some a, cap0, rfl, by rw [flat_length, el], hl, hm, (fun h => by cases h), fun ad had q u hq => ?_⟩
      cases had
      have hql : q < len0 * 4 := by
        have := (List.getElem?_eq_some_iff.1 hq).1
        rwa [flat_length, el] at this
      have hq2 : q = q / 4 * 4 + q % 4 := by omega
      have hi4 : q / 4 < len0 := by omega
      rw [hq2, flat_at _ _ (q / 4) (q % 4) (by rw [el]; exact hi4) (by omega), gd _ hi4, gl _ hi4] at hq
      rw [hq2]
      exact (hdl (q / 4) hi4).1 _ _ hq
    · have hi' : i < len0 := by simpa using hi
      rw [gd i hi', gl i hi']
      exact (hdl i hi').2.1
    · obtain ⟨i, hi, rfl⟩ := List.mem_map.1 hd
      exact (hdl i (List.mem_range.1 hi)).2.2
end Go.Proofs.YtdhdgbihalfgeaaDoor

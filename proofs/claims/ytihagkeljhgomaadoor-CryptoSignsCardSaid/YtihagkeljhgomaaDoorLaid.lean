/- The tables that the rows list: what they hold when the call begins; a world that holds them. -/
import Derived.Test.YtihagkeljhgomaaDoorTie
import Derived.Test.YtihagkeljhgomaaDoorCards
import Derived.Test.YtihagkeljhgomaaDoorTermB
import Derived.Lay
import Derived.LaidLaws
import Derived.Handed
import Derived.Lib.LaidU8
import Derived.Lib.LaidTab
set_option linter.unusedSimpArgs false
set_option linter.unusedVariables false
namespace Go.Proofs.YtihagkeljhgomaaDoor
open Go.RowKit Go.ChangeShapes Go.WideShapes

/-- What the rows list. -/
def laidAll : List (String × DataW Unit) := Rows.cryptoKeysRow.laid

theorem Tryd.kindStruct : ∃ fs : Array Field, Tryd.prog.underlying 75 = some (.struct fs) ∧ (fs[0]?.map fun f => (f.type, f.offset)) = some (9, 0) ∧ (fs[1]?.map fun f => (f.type, f.offset)) = some (3, 1) ∧ (fs[2]?.map fun f => (f.type, f.offset)) = some (3, 2) := ⟨_, Tryd.underlying75, rfl, rfl, rfl⟩
theorem Tryd.kindCells : Tryd.prog.cellsOf 75 = 3 := by kernel_rfl
theorem Tryd.kindsCells : Tryd.prog.cellsOf 76 = 39 := by kernel_rfl
theorem Tryd.strCells : Tryd.prog.cellsOf 9 = 1 := by kernel_rfl
theorem Tryd.intCells : Tryd.prog.cellsOf 3 = 1 := by kernel_rfl
theorem kinds_data : (Rows.laid_cassock_term_kinds : DataW Unit) = .agg (kTab.map fun x => .agg [.lit (.string x.1), .lit (.int .i64 x.2.1), .lit (.int .i64 x.2.2)]) := rfl

theorem kinds_cells {W : World} (h : Lib.VarReads Tryd.prog W "cassock/term.kinds" Rows.laid_cassock_term_kinds) :
    ∀ o : Nat, o < 13 → W.cell? ⟨0, o * 3, none⟩ = some (.string (strB (kName o))) ∧ W.cell? ⟨0, o * 3 + 1, none⟩ = some (.int .i64 (kLeast o)) ∧ W.cell? ⟨0, o * 3 + 2, none⟩ = some (.int .i64 (kMost o)) := by
  obtain ⟨g, t, cs, fuel, p, h1, h2, h3, h4⟩ := h
  have hg : Tryd.prog.globalNamed "cassock/term.kinds" = some 0 := by kernel_rfl
  have hty : (Tryd.prog.globals[(0 : Nat)]?).map (·.type) = some 76 := by kernel_rfl
  obtain rfl := Option.some.inj (hg.symm.trans h1)
  obtain rfl := Option.some.inj (hty.symm.trans h2)
  have hcell : ∀ i v, cs.toList[i]? = some v → W.cell? ⟨0, i, none⟩ = some v := fun i v hv => by
    rw [World.var?_cell hg h3 i]; simpa using hv
  rw [kinds_data] at h4
  obtain ⟨fs, hst, f0, f1, f2⟩ := Tryd.kindStruct
  cases fuel with
  | zero => simp [DataW.trod] at h4
  | succ fuel =>
    simp only [DataW.trod, Tryd.underlying76, Tryd.kindCells, Tryd.kindsCells] at h4
    split at h4
    · obtain ⟨xs, hm, hx⟩ := Option.map_eq_some_iff.1 h4
      have hxs : xs.map (·.1) = kTab.map fun x => (.agg [.lit (.string x.1), .lit (.int .i64 x.2.1), .lit (.int .i64 x.2.2)] : DataW Unit) := by
        have := congrArg Prod.fst hx
        simpa using this
      intro o ho
      obtain ⟨b, hb, hf⟩ := Lib.mapM_at hm o o (by simp [ho])
      have hd : b.1 = .agg [.lit (.string (kName o)), .lit (.int .i64 (kLeast o)), .lit (.int .i64 (kMost o))] := by
        have h5 : (xs.map (·.1))[o]? = some b.1 := by simp [hb]
        rw [hxs, List.getElem?_map] at h5
        have hk : kTab[o]? = some (kTab.getD o ([], 0, 0)) := by
          rw [List.getD_eq_getElem?_getD, List.getElem?_eq_getElem (by simpa [kTab] using ho)]; rfl
        rw [hk] at h5
        simp only [Option.map_some, Option.some.injEq] at h5
        rw [← h5]
        rfl
      obtain ⟨ys, m, rfl, hy, hl, hyl, hall⟩ := DataW.trod_struct hst hf
      have hys : ys.map (·.1) = [.lit (.string (kName o)), .lit (.int .i64 (kLeast o)), .lit (.int .i64 (kMost o))] := by
        have := congrArg Prod.fst hy
        rw [hd] at this
        simpa using this.symm
      have hget : ∀ j v, ((cs.toList.drop (o * 3)).take 3)[j]? = some v → W.cell? ⟨0, o * 3 + j, none⟩ = some v := fun j v hv => by
        refine hcell _ _ ?_
        rw [List.getElem?_take] at hv
        split at hv
        · rw [List.getElem?_drop] at hv; exact hv
        · cases hv
      obtain ⟨g0, hg0, e0⟩ := Option.map_eq_some_iff.1 f0
      obtain ⟨g1, hg1, e1⟩ := Option.map_eq_some_iff.1 f1
      obtain ⟨g2, hg2, e2⟩ := Option.map_eq_some_iff.1 f2
      simp only [Prod.mk.injEq] at e0 e1 e2
      have a0 := hall 0 g0 hg0
      have a1 := hall 1 g1 hg1
      have a2 := hall 2 g2 hg2
      rw [e0.1, e0.2, Tryd.strCells] at a0
      rw [e1.1, e1.2, Tryd.intCells] at a1
      rw [e2.1, e2.2, Tryd.intCells] at a2
      have hl3 : ys.length = 3 := by simpa using congrArg List.length hys
      obtain ⟨y0, y1, y2, rfl⟩ : ∃ y0 y1 y2, ys = [y0, y1, y2] := by
        match ys, hl3 with
        | [a, b, c], _ => exact ⟨a, b, c, rfl⟩
      simp only [List.map_cons, List.map_nil, List.cons.injEq, and_true] at hys
      obtain ⟨q0, q1, q2⟩ := hys
      simp only [List.getElem?_cons_zero, List.getElem?_cons_succ] at a0 a1 a2
      obtain ⟨s, c0, r0, _⟩ := DataW.trod_string Tryd.underlying9 a0
      obtain ⟨n1, c1, r1, _⟩ := DataW.trod_int Tryd.underlying3 a1
      obtain ⟨n2, c2, r2, _⟩ := DataW.trod_int Tryd.underlying3 a2
      rw [r0] at q0
      rw [r1] at q1
      rw [r2] at q2
      simp only [DataW.lit.injEq, Lit.string.injEq, Lit.int.injEq, true_and] at q0 q1 q2
      have hs : s = strB (kName o) := by
        cases s with
        | mk data => unfold strB; rw [← q0]
      subst hs q1 q2
      generalize (cs.toList.drop (o * 3)).take 3 = es at hget c0 c1 c2
      refine ⟨?_, ?_, ?_⟩
      · have := hget 0 (.string (strB (kName o))) (by have := congrArg (·[0]?) c0; simpa [List.getElem?_take, List.getElem?_drop] using this)
        exact this
      · exact hget 1 _ (by have := congrArg (·[0]?) c1; simpa [List.getElem?_take, List.getElem?_drop] using this)
      · exact hget 2 _ (by have := congrArg (·[0]?) c2; simpa [List.getElem?_take, List.getElem?_drop] using this)
    · cases h4

theorem pow_data : (Rows.laid_internal_strconv_uint64pow10 : DataW Unit) = Lib.tabData .u64 Lib.pow10Tab := rfl
theorem pow_tab {W : World} (h : Lib.VarReads Tryd.prog W "internal/strconv.uint64pow10" Rows.laid_internal_strconv_uint64pow10) : Lib.TabIs Tryd.prog W "internal/strconv.uint64pow10" .u64 Lib.pow10Tab := by
  obtain ⟨g, t, cs, fuel, p, h1, h2, h3, h4⟩ := h
  have hg : Tryd.prog.globalNamed "internal/strconv.uint64pow10" = some 1 := by kernel_rfl
  have hty : (Tryd.prog.globals[(1 : Nat)]?).map (·.type) = some 93 := by kernel_rfl
  obtain rfl := Option.some.inj (hg.symm.trans h1)
  obtain rfl := Option.some.inj (hty.symm.trans h2)
  rw [pow_data] at h4
  unfold Lib.TabIs
  rw [h3, ← Lib.cells_of_tab Tryd.underlying93 Tryd.underlying82 (by kernel_rfl) (by kernel_rfl) h4]

theorem tabs_of_laid {W : World} (h : laidMetH Tryd.prog laidAll W) : Tabs W := by
  have h' : laidMet Tryd.prog laidAll W := h
  exact ⟨pow_tab (Lib.laidMet.reads h' (by simp [laidAll, Rows.cryptoKeysRow])), kinds_cells (Lib.laidMet.reads h' (by simp [laidAll, Rows.cryptoKeysRow]))⟩

/-- A world that holds the tables. -/
noncomputable def laidWorld (os : Os) : World := World.laidAll Tryd.prog os laidAll
theorem laidWorld_met (os : Os) (args : Array Value) : laidMetH Tryd.prog laidAll ((laidWorld os).forCall (fun _ _ => 0) ⟨#[], args, []⟩).memory :=
  laidMet_laidAll args (by kernel_rfl) (by kernel_rfl)
theorem laidWorld_shaped (os : Os) (args : Array Value) : ((laidWorld os).forCall (fun _ _ => 0) ⟨#[], args, []⟩).Shaped Tryd.prog :=
  World.shaped_of_ZipB (by kernel_rfl) (by kernel_rfl)
end Go.Proofs.YtihagkeljhgomaaDoor

/- The tables that the rows list: what they hold when the call begins; a world that holds them. -/
import Derived.Test.YtlohedmpcjpaeaaDoorRows
import Derived.Test.YtlohedmpcjpaeaaDoorTie
import Derived.Test.YtlohedmpcjpaeaaDoorCards
import Derived.Test.YtlohedmpcjpaeaaDoorMthB
import Derived.Deep.Matrix
import Derived.JoinedCond
import Derived.SizedLaws
import Derived.ChangeOld
import Derived.Lay
import Derived.LaidLaws
import Derived.Handed
import Derived.Lib.LaidTab
set_option linter.unusedSimpArgs false
set_option linter.unusedVariables false
namespace Go.Proofs.YtlohedmpcjpaeaaDoor
open Go.RowKit Go.ChangeShapes Go.WideShapes

theorem Done.own : ownKnob Tryd.prog.godebug = none := by kernel_rfl
theorem Done.laidOut : laidOutB Tryd.prog = true := by kernel_rfl
/-- What the rows list. -/
def laidAll : List (String × DataW Unit) := Rows.mathNodesRow.laid
def dbInts : List Int := dbTab.map fun n : Nat => (n : Int)
theorem db_data : (Rows.laid_math_bits_deBruijn64tab : DataW Unit) = Lib.tabData .u8 dbInts := rfl
theorem tabs_of_laid {W : World} (h : laidMetH Tryd.prog laidAll W) : Tabs W := by
  have h' : laidMet Tryd.prog laidAll W := h
  obtain ⟨ps, ⟨g0, t0, cs0, f0, p0, q0, a0, b0, c0, d0, e0, r0⟩, s0⟩ := h'
  obtain ⟨g, t, cs, fuel, p, q, h1, h2, h3, h4, h5, _⟩ := e0
  have hg : Tryd.prog.globalNamed "math/bits.deBruijn64tab" = some 1 := by kernel_rfl
  have hty : (Tryd.prog.globals[(1 : Nat)]?).map (·.type) = some 57 := by kernel_rfl
  obtain rfl := Option.some.inj (hg.symm.trans h1)
  obtain rfl := Option.some.inj (hty.symm.trans h2)
  rw [db_data] at h4
  have ht : Lib.TabIs Tryd.prog W "math/bits.deBruijn64tab" .u8 dbInts := by
    unfold Lib.TabIs
    rw [h3, ← Lib.cells_of_tab Tryd.underlying57 Tryd.underlying5 (by kernel_rfl) (by kernel_rfl) h4]
  refine ⟨fun j hj => ?_⟩
  have := ht.cell hg j (by simpa [dbInts, dbTab] using hj)
  rw [this]
  have hd : dbInts.getD j 0 = ((dbTab.getD j 0 : Nat) : Int) := by
    unfold dbInts
    rw [List.getD_eq_getElem?_getD, List.getD_eq_getElem?_getD, List.getElem?_map]
    cases dbTab[j]? <;> rfl
  rw [hd]

/-- A world that holds the tables. -/
noncomputable def laidWorld (os : Os) : World := World.laidAll Tryd.prog os laidAll
theorem laidWorld_met (os : Os) (args : Array Value) : laidMetH Tryd.prog laidAll ((laidWorld os).forCall (fun _ _ => 0) ⟨#[], args, []⟩).memory :=
  laidMet_laidAll args (by kernel_rfl) (by kernel_rfl)
theorem laidWorld_shaped (os : Os) (args : Array Value) : ((laidWorld os).forCall (fun _ _ => 0) ⟨#[], args, []⟩).Shaped Tryd.prog :=
  World.shaped_of_ZipB (by kernel_rfl) (by kernel_rfl)
end Go.Proofs.YtlohedmpcjpaeaaDoor

/- Lists of operations in memory. -/
import Derived.Test.YtihagkeljhgomaaDoorTermA
set_option linter.unusedSimpArgs false
set_option linter.unusedVariables false
namespace Go.Proofs.YtihagkeljhgomaaDoor
open Go.RowKit Go.Maps

/-- An operation. -/
structure Opn where
  k : Int
  a : Int
  b : Int
  c : Int
  d : Int
  s : List UInt8
def op0 : Opn := ⟨0, 0, 0, 0, 0, []⟩
structure OpnOk (o : Opn) : Prop where
  k : I64 o.k
  a : I64 o.a
  b : I64 o.b
  c : I64 o.c
  d : I64 o.d
  s : o.s.length ≤ maxLen
def opCells (o : Opn) : List Value := [.int .i64 o.k, .int .i64 o.a, .int .i64 o.b, .int .i64 o.c, .int .i64 o.d, .string (strB o.s)]
def flatO : List Opn → List Value
  | [] => []
  | o :: ls => opCells o ++ flatO ls
theorem flatO_length (ls : List Opn) : (flatO ls).length = ls.length * 6 := by
  induction ls with
  | nil => rfl
  | cons d ds ih => simp [flatO, opCells, ih]; omega
theorem flatO_at (ls : List Opn) (i j : Nat) (hi : i < ls.length) (hj : j < 6) : (flatO ls)[i * 6 + j]? = (opCells (ls.getD i op0))[j]? := by
  induction ls generalizing i with
  | nil => simp at hi
  | cons d ds ih =>
    cases i with
    | zero =>
      simp only [flatO, Nat.zero_mul, Nat.zero_add]
      rw [List.getElem?_append_left (by simp [opCells]; omega)]
      rfl
    | succ i =>
      simp only [flatO]
      rw [List.getElem?_append_right (by simp [opCells]; omega)]
      have e : (i + 1) * 6 + j - (opCells d).length = i * 6 + j := by simp [opCells]; omega
      rw [e, ih i (by simpa using hi)]
      rfl
def RdOs (w : World) (v : Value) (ls : List Opn) : Prop := Rdv 6 w v ls.length (flatO ls)
theorem RdOs.kept {w w' : World} {v : Value} {ls : List Opn} (h : RdOs w v ls) (k : Kept w w') : RdOs w' v ls := Rdv.kept h k
theorem RdOs.len {w : World} {v : Value} {ls : List Opn} (h : RdOs w v ls) : ∃ a cap, v = .slice a ls.length cap ∧ ls.length ≤ cap ∧ cap ≤ maxLen ∧ (a = none → cap = 0) := by
  obtain ⟨a, cap, rfl, _, h2, h3, h4, _⟩ := h
  exact ⟨a, cap, rfl, h2, h3, h4⟩
/-- The operation at a place of a list that came in. -/
theorem RdOs.at {w : World} {v : Value} {ls : List Opn} (h : RdOs w v ls) {k : Nat} (hk : k < ls.length) : ∃ nb noff ncap, v = .slice (some ⟨nb, noff, none⟩) ls.length ncap ∧ nb < w.heap.size ∧
    (∀ wr, Kept w wr → wr.cell? ⟨nb, noff + k * 6, none⟩ = some (.int .i64 (ls.getD k op0).k) ∧ wr.cell? ⟨nb, noff + k * 6 + 1, none⟩ = some (.int .i64 (ls.getD k op0).a) ∧ wr.cell? ⟨nb, noff + k * 6 + 2, none⟩ = some (.int .i64 (ls.getD k op0).b) ∧
      wr.cell? ⟨nb, noff + k * 6 + 3, none⟩ = some (.int .i64 (ls.getD k op0).c) ∧ wr.cell? ⟨nb, noff + k * 6 + 4, none⟩ = some (.int .i64 (ls.getD k op0).d) ∧ wr.cell? ⟨nb, noff + k * 6 + 5, none⟩ = some (.string (strB (ls.getD k op0).s))) := by
  obtain ⟨ao, cap, rfl, hl, hc, hm, hno, hcell⟩ := h
  cases ao with
  | none => have := hno rfl; omega
  | some ad =>
    obtain ⟨b, off, spot⟩ := ad
    have h0 := hcell _ rfl 0 (.int .i64 (ls.getD 0 op0).k) (by have := flatO_at ls 0 0 (by omega) (by omega); simpa [opCells] using this)
    obtain rfl : spot = none := by simpa [Addr.add] using World.cell?_spot h0
    have hb := World.block_lt_of_cell? _ _ h0
    have hg : ∀ j u, j < 6 → (opCells (ls.getD k op0))[j]? = some u → ∀ wr, Kept w wr → wr.cell? ⟨b, off + k * 6 + j, none⟩ = some u := by
      intro j u hj hu wr hw
      have := hcell _ rfl (k * 6 + j) u ((flatO_at ls k j hk hj).trans hu)
      rw [Addr.add_lit] at this
      rw [Nat.add_assoc]
      exact (hw.cell (p := ⟨b, off + (k * 6 + j), none⟩) hb).trans this
    exact ⟨b, off, cap, rfl, hb, fun wr hw => ⟨hg 0 _ (by omega) rfl wr hw, hg 1 _ (by omega) rfl wr hw, hg 2 _ (by omega) rfl wr hw, hg 3 _ (by omega) rfl wr hw, hg 4 _ (by omega) rfl wr hw, hg 5 _ (by omega) rfl wr hw⟩⟩
end Go.Proofs.YtihagkeljhgomaaDoor

/- Texts of one proof, put together: Bools, PairK. -/
import Derived.Test.YtekieioffaafaaaDoorMg01
import Derived.Laws.OwnMore
import Derived.OwnWalk
import Derived.ChangeBears
import Derived.DeepKeys4
section
/- Rows of truth values. -/
set_option linter.unusedSimpArgs false
set_option linter.unusedVariables false
namespace Go.Proofs.YtekieioffaafaaaDoor
open Go.RowKit Go.Maps

def OwnB (B : Nat) (w : World) (v : Value) (bs : List Bool) : Prop := Ownv B 4 1 w v bs.length (bs.map Value.bool)
theorem Tryd.infoBool : (Tryd.prog.info? 4).map (fun i => (i.zero, i.size, i.bytes)) = some (some (.bool false), 1, 1) := by kernel_rfl
theorem OwnB.set {B : Nat} {w : World} {g n c : Nat} {bs : List Bool} (h : OwnB B w (.slice (some ⟨g, 0, none⟩) n c) bs) (hn : bs.length = n) (j : Nat) (b : Bool) :
    OwnB B (w.setCell ⟨g, j, none⟩ (.bool b)) (.slice (some ⟨g, 0, none⟩) n c) (bs.set j b) := by
  subst hn
  have := (World.ownsRow.stored h j (.bool b)).1
  unfold OwnB Ownv
  rw [List.length_set, List.map_set]
  exact this
theorem OwnB.cell {B : Nat} {w : World} {g n c : Nat} {bs : List Bool} (h : OwnB B w (.slice (some ⟨g, 0, none⟩) n c) bs) (hn : bs.length = n) {j : Nat} (hj : j < n) : w.cell? ⟨g, j, none⟩ = some (.bool (bs.getD j false)) := by
  subst hn
  have := World.ownsRow.cells h rfl j (.bool (bs.getD j false)) (by simp [List.getD, List.getElem?_eq_getElem hj])
  rwa [Addr.add_lit, Nat.zero_add] at this
theorem OwnB.frozen {B : Nat} {w : World} {g n c : Nat} {bs : List Bool} (h : OwnB B w (.slice (some ⟨g, 0, none⟩) n c) bs) (hn : bs.length = n) (j : Nat) : w.frozen? ⟨g, j, none⟩ = false := by
  subst hn
  exact World.ownsRow.frozenAt h j
theorem go_mkbool {w : World} {ops : Array Oper} {rest : List Oper} {a : Act} {Q : Exit → Act → World → Prop} {d : Option Tmp} {ty : TypeId} {ps : String} {af : Array Edge} {l c : Operand}
    (n : Nat) (L : Int) (hl : a.eval l = .int .i64 L) (hc : a.eval c = .int .i64 L) (hL : L = (n : Int)) (h1 : n ≤ 140737488355328)
    (hK : ∀ w', OwnB w.heap.size w' (.slice (some ⟨w.heap.size, 0, none⟩) n n) (List.replicate n false) → Kept w w' → w'.heap.size = w'.heap.size → wpList Tryd.prog ops Q rest (a.put d (.slice (some ⟨w.heap.size, 0, none⟩) n n)) w') :
    wpList Tryd.prog ops Q (⟨d, .makeSlice 112 l c, ty, ps, af, none⟩ :: rest) a w := by
  obtain ⟨i0, hi, hz0, hz1, hz2⟩ := info_parts Tryd.infoBool
  refine wpList_make_full w rfl l c 112 rfl w.heap.size 4 i0 (.bool false) 1 Tryd.underlying112 hi hz0 hz1 .i64 .i64 L L n hl hc hL hL (by rw [hz2]; omega) (by unfold maxLen; omega) (Nat.le_refl _) ?_
  intro w' ho hg
  refine hK w' ?_ ((Below.refl w.heap.size w).grown hg (Nat.le_refl _) fun k hk => by cases hk) rfl
  unfold OwnB Ownv
  rw [List.length_replicate, List.map_replicate]
  simpa [toList_madeCells_one, Value.cells] using ho

end Go.Proofs.YtekieioffaafaaaDoor
end

section
/- Pairs of numbers as keys of maps. -/
set_option linter.unusedSimpArgs false
set_option linter.unusedVariables false
set_option maxRecDepth 100000
namespace Go.Proofs.YtekieioffaafaaaDoor
open Go.RowKit Go.Maps

theorem Tryd.pairWide : (match Tryd.prog.underlying 73 with | some (.array _ _) | some (.struct _) => true | _ => false) = true := by kernel_rfl
theorem Tryd.pairLaw : WideMaps.KeyLaw Tryd.prog 73 := deep_law_laid (show laidOutB Tryd.prog = true by kernel_rfl) (m := 2) (by omega) (of_decide_eq_true (by kernel_rfl)) (by kernel_rfl) Tryd.pairWide
theorem pair_keyed : Keyed Tryd.prog 73 := Keyed.of_law Tryd.pairLaw
def k2 (a b : Int) : List UInt8 := keyBytes [.int .i64 a, .int .i64 b]
theorem keyPair {a b : Int} (ha : I64 a) (hb : I64 b) : keyOf Tryd.prog 73 (.agg #[.int .i64 a, .int .i64 b]) = some (.string (k2 a b)) := by
  have h1 : (Lit.int .i64 a).wf = true := WalkArith.wf_i64 ha
  have h2 : (Lit.int .i64 b).wf = true := WalkArith.wf_i64 hb
  have hu := Tryd.underlying73
  have hi := Tryd.underlying3
  have c1 : Tryd.prog.cellsOf 73 = 2 := by kernel_rfl
  have c2 : Tryd.prog.cellsOf 3 = 1 := by kernel_rfl
  have hk : Tryd.prog.keyType 73 = true := by kernel_rfl
  have hz : (Tryd.prog.types.size == 0) = false := by kernel_rfl
  obtain ⟨m, hm⟩ : ∃ m, Tryd.prog.types.size = m + 1 := ⟨Tryd.prog.types.size - 1, by have := beq_eq_false_iff_ne.1 hz; omega⟩
  have one : ∀ c : Int, (Lit.int .i64 c).wf = true → Tryd.prog.keyLits (m + 1) 3 [.int .i64 c] = some [.int .i64 c] := fun c hc => by
    unfold Program.keyLits
    rw [hi]
    simp [hc]
  have hcs : (Value.agg #[.int .i64 a, .int .i64 b]).cells = #[.int .i64 a, .int .i64 b] := rfl
  have two : Tryd.prog.keyLits (m + 1 + 1) 73 [.int .i64 a, .int .i64 b] = some [.int .i64 a, .int .i64 b] := by
    unfold Program.keyLits
    rw [hu]
    simp only [List.length_cons, List.length_nil, c1, if_true, c2]
    simp [List.range_succ, one a h1, one b h2]
  unfold keyOf
  rw [hm, hu]
  simp [hk, Value.formed, hu, c1, hcs, two, k2]
theorem k2_inj {a b c d : Int} (ha : I64 a) (hb : I64 b) (hc : I64 c) (hd : I64 d) (h : k2 a b = k2 c d) : a = c ∧ b = d := by
  have h1 := keyPair ha hb
  have h2 := keyPair hc hd
  rw [h] at h1
  have := pair_keyed.inj h1 h2
  simpa using this
end Go.Proofs.YtekieioffaafaaaDoor
end

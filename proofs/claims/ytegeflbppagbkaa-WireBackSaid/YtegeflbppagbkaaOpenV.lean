/- What comes in as an argument, as the walks want it. -/
import Derived.Test.YtegeflbppagbkaaRows
import Derived.Test.YtegeflbppagbkaaBackV
import Derived.Deep.Matrix
import Derived.JoinedCond
import Derived.SizedLaws
import Derived.ChangeOld
set_option linter.unusedSimpArgs false
set_option linter.unusedVariables false
namespace Go.Proofs.Ytegeflbppagbkaa
open Go.RowKit Go.ChangeShapes Go.WideShapes Go.ChangeAt

theorem Done.own : ownKnob Try.prog.godebug = none := by kernel_rfl
theorem Done.laidOut : laidOutB Try.prog = true := by kernel_rfl
theorem Try.bytes5 : Try.prog.bytesOf 5 = 1 := by kernel_rfl

theorem wf_by {zs : List Int} (h : ∀ n ∈ zs, (Lit.int .u8 n).wf = true) : By zs := fun z hz => bounds_u8 (h z hz)

theorem bulk_lits {H : Type} (k : IntKind) (zs : List Int) : Rows.uptoBulkAll (lits (H := H) k zs) = zs.length := by
  induction zs with
  | nil => rfl
  | cons a r ih =>
    have e : lits (H := H) k (a :: r) = .lit (.int k a) :: lits k r := rfl
    rw [e]
    simp only [Rows.uptoBulkAll, ih, List.length_cons]
    have : Rows.uptoBulk (DataW.lit (H := H) (.int k a)) = 1 := rfl
    omega

theorem addr_add (ad : Addr) (j : Nat) : ad.add j = ad.add j := rfl

theorem rd_of_cells {w : World} {a : Addr} {len cap : Nat} {zs : List Int} (hl : len ≤ cap) (hm : cap ≤ maxLen) (hz : zs.length = cap) (hcell : ∀ i, i < zs.length → w.cell? (a.add i) = some (.int .u8 (zs.getD i 0))) :
    Rd w (.slice (some a) len cap) (zs.take len) := by
  have e : (zs.take len).length = len := by rw [List.length_take]; omega
  unfold Rd
  rw [e]
  refine ⟨some a, cap, rfl, by simp [e]; omega, hl, hm, (fun h => by cases h), fun ad had j u hj => ?_⟩
  cases had
  have hjl : j < len := by
    have := (List.getElem?_eq_some_iff.1 hj).1
    simp at this; omega
  rw [hcell j (by omega), ← hj]
  simp [List.getElem?_take, hjl, List.getD, List.getElem?_eq_getElem (show j < zs.length by omega)]

/-- A slice of bytes that comes in. -/
theorem open_bytes {H : Type} {enc : TypeId × Value → H} {W : World} {base : Nat} {v : Value} {d : DataW H} {p : List MemPlace} (hv : Value.okWide Try.prog W .any base 23 v)
    (h : DataW.Trod enc Try.prog W 0 (fun _ => true) true 23 v d p) :
    ∃ zs : List Int, Rd W v zs ∧ By zs ∧ zs.length + 1 ≤ Rows.uptoBulk d ∧
      ∀ (ts : List TypeId) (ds : List (DataW H)) (j : Nat), (DataW.weightsEach Try.prog ts ds).all (· ≤ reachBytes) = true → ts[j]? = some 23 → ds[j]? = some d → zs.length ≤ 140737488351232 := by
  obtain ⟨a, len, cap, rfl⟩ := okWide_slice Try.underlying23 hv
  obtain ⟨fuel, hf⟩ := h
  rcases open_ints Try.underlying23 Try.underlying5 (by kernel_rfl) hf with ⟨hcs, hx⟩ | ⟨x, l, c, zs, hcs, _, hl, hm, hz, hx, hcell, hwz⟩
  · simp [Value.cells] at hcs
    obtain ⟨rfl, rfl, rfl⟩ := hcs
    simp only [Prod.mk.injEq] at hx
    obtain ⟨rfl, rfl⟩ := hx
    exact ⟨[], Rd.nil W, (fun z hz => by cases hz), by simp [Rows.uptoBulk], fun _ _ _ _ _ _ => by simp⟩
  · simp [Value.cells] at hcs
    obtain ⟨rfl, rfl, rfl⟩ := hcs
    simp only [Prod.mk.injEq] at hx
    obtain ⟨rfl, rfl⟩ := hx
    simp only [if_true] at hz
    refine ⟨zs.take len, rd_of_cells hl hm hz hcell, wf_by fun n hn => hwz n (List.mem_of_mem_take hn), ?_, ?_⟩
    · simp only [Rows.uptoBulk, bulk_lits]
      omega
    · intro ts ds j hsz ht hd
      have := sized_slice hsz ht hd Try.underlying23
      rw [Try.bytes5] at this
      simp only [lits, List.length_map, List.length_take, List.length_drop, reachBytes] at this
      rw [List.length_take]
      omega

theorem bulk_row {H : Type} (A : Option Addr) (L C : Nat) (Z : List Int) (h1 : L ≤ C) (h2 : Z.length = C) (h3 : A = none → C = 0) : bigN (Z.take L) ≤ Rows.uptoBulk (Deep.intRow (H := H) .u8 A L Z) := by
  unfold bigN
  cases A with
  | none =>
    have := h3 rfl
    simp [Deep.intRow, Rows.uptoBulk]
    omega
  | some a =>
    simp only [Deep.intRow, Rows.uptoBulk, bulk_lits, List.length_take, List.length_drop]
    omega

theorem bulk_rows {H : Type} (A : Nat → Option Addr) (L C : Nat → Nat) (Z : Nat → List Int) (l : List Nat) (h : ∀ r ∈ l, L r ≤ C r ∧ (Z r).length = C r ∧ (A r = none → C r = 0)) :
    lsum bigN (l.map fun r => (Z r).take (L r)) ≤ Rows.uptoBulkAll (l.map fun r => Deep.intRow (H := H) .u8 (A r) (L r) (Z r)) := by
  induction l with
  | nil => simp [lsum]
  | cons x r ih =>
    simp only [List.map_cons, lsum, Rows.uptoBulkAll]
    obtain ⟨h1, h2, h3⟩ := h x List.mem_cons_self
    have := bulk_row (H := H) (A x) (L x) (C x) (Z x) h1 h2 h3
    have := ih fun y hy => h y (List.mem_cons_of_mem _ hy)
    omega

theorem weightsAll_mem {H : Type} {P : Program} {e : TypeId} {d : DataW H} {n : Nat} : ∀ {l : List (DataW H)}, d ∈ l → n ∈ d.weights P e → n ∈ DataW.weightsAll P e l
  | [], h, _ => by cases h
  | x :: r, h, hn => by
    simp only [DataW.weightsAll, List.mem_append]
    rcases List.mem_cons.1 h with rfl | h
    · exact .inl hn
    · exact .inr (weightsAll_mem h hn)

/-- A slice of slices of bytes that comes in. -/
theorem open_lists {H : Type} {enc : TypeId × Value → H} {W : World} {base : Nat} {v : Value} {d : DataW H} {p : List MemPlace} (hv : Value.okWide Try.prog W .any base 22 v)
    (h : DataW.Trod enc Try.prog W 0 (fun _ => true) true 22 v d p) :
    ∃ xss : List (List Int), Rds W v xss ∧ (∀ i, i < xss.length → By (xss.getD i [])) ∧ lsum bigN xss + 1 ≤ Rows.uptoBulk d ∧
      ∀ (ts : List TypeId) (ds : List (DataW H)) (j : Nat), (DataW.weightsEach Try.prog ts ds).all (· ≤ reachBytes) = true → ts[j]? = some 22 → ds[j]? = some d → ∀ i, i < xss.length → ((xss.getD i []).length : Int) ≤ 140737488355328 := by
  obtain ⟨a, len, cap, rfl⟩ := okWide_slice Try.underlying22 hv
  obtain ⟨fuel, hf⟩ := h
  rcases Deep.open_int_rows Try.underlying22 Try.underlying23 Try.underlying5 (by kernel_rfl) (by kernel_rfl) hf with ⟨hcs, hx⟩ | ⟨x, l, c, A, L, C, Z, hcs, _, hl, hm, hx, hrow⟩
  · simp [Value.cells] at hcs
    obtain ⟨rfl, rfl, rfl⟩ := hcs
    simp only [Prod.mk.injEq] at hx
    obtain ⟨rfl, rfl⟩ := hx
    exact ⟨[], Rds.nil W, (fun i hi => by simp at hi), by simp [Rows.uptoBulk, lsum], fun _ _ _ _ _ _ i hi => by simp at hi⟩
  · simp [Value.cells] at hcs
    obtain ⟨rfl, rfl, rfl⟩ := hcs
    simp only [Prod.mk.injEq] at hx
    obtain ⟨rfl, rfl⟩ := hx
    have hxl : ((List.range len).map fun r => (Z r).take (L r)).length = len := by simp
    have hg : ∀ i, i < len → ((List.range len).map fun r => (Z r).take (L r)).getD i [] = (Z i).take (L i) := by
      intro i hi; simp [List.getD, List.getElem?_range hi]
    refine ⟨(List.range len).map fun r => (Z r).take (L r), ?_, ?_, ?_, ?_⟩
    · refine ⟨(List.range len).map fun r => .slice (A r) (L r) (C r), by simp, ?_, ?_⟩
      · rw [hxl]
        refine ⟨some x, cap, rfl, by simp, hl, hm, (fun h => by cases h), fun ad had j u hj => ?_⟩
        cases had
        have hjl : j < len := by
          have := (List.getElem?_eq_some_iff.1 hj).1
          simpa using this
        rw [(hrow j (by omega)).1, ← hj]
        simp [List.getElem?_range hjl]
      · intro i hi
        rw [hxl] at hi
        rw [hg i hi]
        have e : ((List.range len).map fun r => Value.slice (A r) (L r) (C r)).getD i undef = .slice (A i) (L i) (C i) := by simp [List.getD, List.getElem?_range hi]
        rw [e]
        obtain ⟨q1, q2, q3, q4, q5, q6, q7⟩ := hrow i (by omega)
        cases hA : A i with
        | none =>
          have hC := q6 hA
          have hL : L i = 0 := by omega
          have hZ : Z i = [] := List.eq_nil_of_length_eq_zero (by omega)
          rw [hL, hC, hZ]
          exact Rd.nil W
        | some a' => exact rd_of_cells q2 q3 q4 (fun c hc => (q7 a' hA).2 c (by omega))
    · intro i hi
      rw [hxl] at hi
      rw [hg i hi]
      obtain ⟨q1, q2, q3, q4, q5, q6, q7⟩ := hrow i (by omega)
      exact wf_by fun n hn => q5 n (List.mem_of_mem_take hn)
    · have hb := bulk_rows (H := H) A L C Z (List.range len) (fun r hr => by
        obtain ⟨q1, q2, q3, q4, q5, q6, q7⟩ := hrow r (by have := List.mem_range.1 hr; omega)
        exact ⟨q2, q4, q6⟩)
      simp only [Rows.uptoBulk]
      omega
    · intro ts ds j hsz ht hd i hi
      rw [hxl] at hi
      rw [hg i hi]
      obtain ⟨q1, q2, q3, q4, q5, q6, q7⟩ := hrow i (by omega)
      cases hA : A i with
      | none =>
        have := q6 hA
        rw [List.length_take]; omega
      | some a' =>
        have hm : ((lits (H := H) .u8 ((Z i).take (L i))).length + (lits (H := H) .u8 ((Z i).drop (L i))).length) * Try.prog.bytesOf 5 ∈ (Deep.intRow (H := H) .u8 (A i) (L i) (Z i)).weights Try.prog 23 := by
          rw [hA]
          simp [Deep.intRow, DataW.weights, Try.underlying23]
        have := List.all_eq_true.1 hsz _ (DataW.weights_mem_each ht hd _ (show _ ∈ DataW.weights Try.prog 22 _ from by
          simp only [DataW.weights, Try.underlying22, List.mem_cons, List.mem_append]
          exact .inr (.inl (weightsAll_mem (List.mem_map.2 ⟨i, List.mem_range.2 hi, rfl⟩) hm))))
        rw [Try.bytes5] at this
        simp only [lits, List.length_map, List.length_take, List.length_drop, reachBytes, decide_eq_true_eq] at this
        rw [List.length_take]
        omega
end Go.Proofs.Ytegeflbppagbkaa

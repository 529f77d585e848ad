/- What comes in as an argument, as the walks want it. -/
import Derived.Test.YtihagkeljhgomaaDoorRows
import Derived.Test.YtihagkeljhgomaaDoorCore
import Derived.Deep.Matrix
import Derived.JoinedCond
import Derived.SizedLaws
import Derived.ChangeOld
set_option linter.unusedSimpArgs false
set_option linter.unusedVariables false
set_option maxRecDepth 100000
namespace Go.Proofs.YtihagkeljhgomaaDoor
open Go.RowKit Go.ChangeShapes Go.WideShapes Go.ChangeAt

theorem Done.own : ownKnob Tryd.prog.godebug = none := by kernel_rfl
theorem Done.laidOut : laidOutB Tryd.prog = true := by kernel_rfl
theorem Tryd.bytes5 : Tryd.prog.bytesOf 5 = 1 := by kernel_rfl

theorem wf_by {zs : List Int} (h : ∀ n ∈ zs, (Lit.int .u8 n).wf = true) : By zs := fun z hz => bounds_u8 (h z hz)

theorem bulk_lits {H : Type} (k : IntKind) (zs : List Int) : Rows.uptoBulkAll (lits (H := H) k zs) = zs.length := by
  induction zs with
  | nil => rfl
  | cons a r ih =>
    have e : lits (H := H) k (a :: r) = .lit (.int k a) :: lits k r := rfl
    rw [e]
    simp only [Rows.uptoBulkAll, ih, List.length_cons]
    have : Rows.uptoBulk (DataW.lit (H := H) (.int k a)) = 1 := rfl
    omega

theorem addr_add (ad : Addr) (j : Nat) : ad.add j = ad.add j := rfl

theorem rd_of_cells {w : World} {a : Addr} {len cap : Nat} {zs : List Int} (hl : len ≤ cap) (hm : cap ≤ maxLen) (hz : zs.length = cap) (hcell : ∀ i, i < zs.length → w.cell? (a.add i) = some (.int .u8 (zs.getD i 0))) :
    Rd w (.slice (some a) len cap) (zs.take len) := by
  have e : (zs.take len).length = len := by rw [List.length_take]; omega
  unfold Rd
  rw [e]
  refine ⟨some a, cap, rfl, by simp [e]; omega, hl, hm, (fun h => by cases h), fun ad had j u hj => ?_⟩
  cases had
  have hjl : j < len := by
    have := (List.getElem?_eq_some_iff.1 hj).1
    simp at this; omega
  rw [hcell j (by omega), ← hj]
  simp [List.getElem?_take, hjl, List.getD, List.getElem?_eq_getElem (show j < zs.length by omega)]

/-- A slice of bytes that comes in. -/
theorem open_bytes {H : Type} {enc : TypeId × Value → H} {W : World} {base : Nat} {v : Value} {d : DataW H} {p : List MemPlace} (hv : Value.okWide Tryd.prog W .any base 78 v)
    (h : DataW.Trod enc Tryd.prog W 0 (fun _ => true) true 78 v d p) :
    ∃ zs : List Int, Rd W v zs ∧ By zs ∧ zs.length + 1 ≤ Rows.uptoBulk d ∧
      ∀ (ts : List TypeId) (ds : List (DataW H)) (j : Nat), (DataW.weightsEach Tryd.prog ts ds).all (· ≤ reachBytes) = true → ts[j]? = some 78 → ds[j]? = some d → zs.length ≤ 140737488351232 := by
  obtain ⟨a, len, cap, rfl⟩ := okWide_slice Tryd.underlying78 hv
  obtain ⟨fuel, hf⟩ := h
  rcases open_ints Tryd.underlying78 Tryd.underlying5 (by kernel_rfl) hf with ⟨hcs, hx⟩ | ⟨x, l, c, zs, hcs, _, hl, hm, hz, hx, hcell, hwz⟩
  · simp [Value.cells] at hcs
    obtain ⟨rfl, rfl, rfl⟩ := hcs
    simp only [Prod.mk.injEq] at hx
    obtain ⟨rfl, rfl⟩ := hx
    exact ⟨[], Rd.nil W, (fun z hz => by cases hz), by simp [Rows.uptoBulk], fun _ _ _ _ _ _ => by simp⟩
  · simp [Value.cells] at hcs
    obtain ⟨rfl, rfl, rfl⟩ := hcs
    simp only [Prod.mk.injEq] at hx
    obtain ⟨rfl, rfl⟩ := hx
    simp only [if_true] at hz
    refine ⟨zs.take len, rd_of_cells hl hm hz hcell, wf_by fun n hn => hwz n (List.mem_of_mem_take hn), ?_, ?_⟩
    · simp only [Rows.uptoBulk, bulk_lits]
      omega
    · intro ts ds j hsz ht hd
      have := sized_slice hsz ht hd Tryd.underlying78
      rw [Tryd.bytes5] at this
      simp only [lits, List.length_map, List.length_take, List.length_drop, reachBytes] at this
      rw [List.length_take]
      omega

theorem weightsAll_mem {H : Type} {P : Program} {e : TypeId} {d : DataW H} {n : Nat} : ∀ {l : List (DataW H)}, d ∈ l → n ∈ d.weights P e → n ∈ DataW.weightsAll P e l
  | [], h, _ => by cases h
  | x :: r, h, hn => by
    simp only [DataW.weightsAll, List.mem_append]
    rcases List.mem_cons.1 h with rfl | h
    · exact .inl hn
    · exact .inr (weightsAll_mem h hn)

end Go.Proofs.YtihagkeljhgomaaDoor

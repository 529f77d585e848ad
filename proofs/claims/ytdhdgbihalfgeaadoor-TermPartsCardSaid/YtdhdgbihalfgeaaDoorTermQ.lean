/- Size and Atoms as functions of the terms; what follows of them. -/
import Derived.Test.YtdhdgbihalfgeaaDoorTermL
set_option linter.unusedSimpArgs false
set_option linter.unusedVariables false
namespace Go.Proofs.YtdhdgbihalfgeaaDoor
open Go.RowKit Go.Maps

open Classical in
/-- All that t is made of. -/
noncomputable def partsT (ds : List Nd) (t : Int) : List Int := ((List.range (t.toNat + 1)).map fun i : Nat => (i : Int)).filter fun x => decide (Reach ds t x)
noncomputable def sizeT (ds : List Nd) (t : Int) : Nat := (partsT ds t).length
theorem partsT_ok {ds : List Nd} (hg : Good ds) (t : Int) : Parts ds t (partsT ds t) := by
  refine ⟨?_, fun x => ?_⟩
  · refine List.Pairwise.filter _ ?_
    have : (List.range (t.toNat + 1)).Nodup := List.nodup_range
    exact (List.pairwise_map.2 (this.imp fun h => by omega))
  · unfold partsT
    rw [List.mem_filter]
    refine ⟨fun ⟨_, h⟩ => by simpa using h, fun h => ⟨?_, by simpa using h⟩⟩
    have := h.bound hg
    exact List.mem_map.2 ⟨x.toNat, List.mem_range.2 (by omega), by omega⟩
theorem sizeT_eq {ds : List Nd} (hg : Good ds) {t : Int} {ks : List Int} (h : Parts ds t ks) : ks.length = sizeT ds t := h.length (partsT_ok hg t)
theorem sizeT_pos {ds : List Nd} (hg : Good ds) {t : Int} (h0 : 0 ≤ t) (h1 : t < ds.length) : 1 ≤ sizeT ds t := List.length_pos_of_mem ((partsT_ok hg t).2 t |>.2 (.refl h0 h1))
theorem sizeT_le {ds : List Nd} (hg : Good ds) {t : Int} (h0 : 0 ≤ t) : (sizeT ds t : Int) ≤ t + 1 := by
  have := nodup_le (t.toNat + 1) (partsT ds t) (partsT_ok hg t).1 (fun x hx => by have := ((partsT_ok hg t).2 x).1 hx |>.bound hg; omega)
  unfold sizeT
  omega
theorem sizeT_part {ds : List Nd} (hg : Good ds) {t x : Int} (h0 : 0 ≤ t) (h1 : t < ds.length) (hx : x ∈ (ds.getD t.toNat nd0).l) : sizeT ds x < sizeT ds t := by
  have hb := hg.lesser (i := t.toNat) (by omega) x hx
  have hn : t ∉ partsT ds x := fun h => by have := ((partsT_ok hg x).2 t).1 h |>.bound hg; omega
  have := nodup_sub (t :: partsT ds x) (partsT ds t) (List.nodup_cons.2 ⟨hn, (partsT_ok hg x).1⟩) (fun y hy => by
    rcases List.mem_cons.1 hy with c | c
    · rw [c]; exact ((partsT_ok hg t).2 t).2 (.refl h0 h1)
    · exact ((partsT_ok hg t).2 y).2 (.trans (.step (.refl h0 h1) hx) (((partsT_ok hg x).2 y).1 c)))
  simp at this
  unfold sizeT
  omega
theorem reach_more {ds : List Nd} (hg : Good ds) (r : List Nd) (hg2 : Good (ds ++ r)) {t : Int} (h1 : t < ds.length) (x : Int) : Reach (ds ++ r) t x ↔ Reach ds t x := by
  constructor
  · intro h
    induction h with
    | refl h0 _ => exact .refl h0 h1
    | step h2 h3 ih =>
      have := ih.bound hg
      rw [getD_app' (by omega)] at h3
      exact .step ih h3
  · intro h
    induction h with
    | refl h0 _ => exact .refl h0 (by rw [List.length_append]; omega)
    | step h2 h3 ih =>
      have := h2.bound hg
      rw [← getD_app' (r := r) (by omega)] at h3
      exact .step ih h3
where getD_app' {ds r : List Nd} {i : Nat} (h : i < ds.length) : (ds ++ r).getD i nd0 = ds.getD i nd0 := by
        simp only [List.getD_eq_getElem?_getD]
        rw [List.getElem?_append_left h]
theorem sizeT_more {ds : List Nd} (hg : Good ds) (r : List Nd) (hg2 : Good (ds ++ r)) {t : Int} (h1 : t < ds.length) : sizeT (ds ++ r) t = sizeT ds t :=
  ((sizeT_eq hg (ks := partsT (ds ++ r) t) ⟨(partsT_ok hg2 t).1, fun x => ((partsT_ok hg2 t).2 x).trans (reach_more hg r hg2 h1 x)⟩))

theorem size_fn {F : Nat → Prop} {w : World} {p : Value} {ds : List Nd} (h : Ar F w p ds) {t : Int} (ht : I64 t) :
    Calls Tryd.prog 22 #[p, .int .i64 t] w fun e w' => e = .returned (.int .i64 (sizeT ds t)) ∧ Kept w w' :=
  (size_any h ht).mono fun e w' ⟨ks, a, b, c⟩ => ⟨by rw [a, sizeT_eq h.good b], c⟩
end Go.Proofs.YtdhdgbihalfgeaaDoor

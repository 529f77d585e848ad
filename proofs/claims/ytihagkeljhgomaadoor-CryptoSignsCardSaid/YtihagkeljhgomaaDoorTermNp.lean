/- What Make does to terms, again and again: plain facts. -/
import Derived.Test.YtihagkeljhgomaaDoorTermS
set_option linter.unusedSimpArgs false
set_option linter.unusedVariables false
namespace Go.Proofs.YtihagkeljhgomaaDoor
open Go

/-! ## terms that are made -/
theorem mk_ext (ds : List Nd) (d : Nd) : ∃ r, (mk ds d).1 = ds ++ r := by
  by_cases hm : May ds d
  · cases hf : find ds d with
    | some i => rw [mk_old hm hf]; exact ⟨[], by simp⟩
    | none =>
      by_cases hl : 100000 ≤ ds.length
      · rw [mk_full hm hf hl]; exact ⟨[], by simp⟩
      · rw [mk_new hm hf hl]; exact ⟨[d], rfl⟩
  · rw [mk_bad hm]; exact ⟨[], by simp⟩
theorem getD_app {ds r : List Nd} {i : Nat} (h : i < ds.length) : (ds ++ r).getD i nd0 = ds.getD i nd0 := by
  simp only [List.getD_eq_getElem?_getD]
  rw [List.getElem?_append_left h]
/-- A term that Make told is there. -/
theorem mk_at {ds : List Nd} {d : Nd} (h : (mk ds d).2.2 = 0) : 0 ≤ (mk ds d).2.1 ∧ (mk ds d).2.1 < (mk ds d).1.length ∧ (mk ds d).1.getD (mk ds d).2.1.toNat nd0 = d := by
  by_cases hm : May ds d
  · cases hf : find ds d with
    | some i =>
      rw [mk_old hm hf]
      obtain ⟨h1, h2⟩ := find_some hf
      exact ⟨by simp, by simpa using h1, by simpa using h2⟩
    | none =>
      by_cases hl : 100000 ≤ ds.length
      · rw [mk_full hm hf hl] at h; simp at h
      · rw [mk_new hm hf hl]
        exact ⟨by simp, by simp; omega, by
          simp only [Int.toNat_natCast]
          rw [getD_snoc, if_neg (by omega), if_pos rfl]⟩
  · rw [mk_bad hm] at h; simp at h
/-- A node that is there is told again. -/
theorem mk_again {ds : List Nd} (hg : Good ds) {d : Nd} {i : Nat} (hi : i < ds.length) (h : ds.getD i nd0 = d) : mk ds d = (ds, (i : Int), 0) :=
  mk_old (h ▸ hg.may' hi) (hg.findAt hi h)
theorem mk_e (ds : List Nd) (d : Nd) : (mk ds d).2.2 = 0 ∨ (mk ds d).2.2 = 1 ∨ (mk ds d).2.2 = 2 := by
  by_cases hm : May ds d
  · cases hf : find ds d with
    | some i => rw [mk_old hm hf]; simp
    | none =>
      by_cases hl : 100000 ≤ ds.length
      · rw [mk_full hm hf hl]; simp
      · rw [mk_new hm hf hl]; simp
  · rw [mk_bad hm]; simp
theorem mk_t64 (ds : List Nd) (d : Nd) (hl : ds.length ≤ 100000) : 0 ≤ (mk ds d).2.1 ∧ (mk ds d).2.1 ≤ 200000 := by
  by_cases hm : May ds d
  · cases hf : find ds d with
    | some i =>
      have := (find_some hf).1
      rw [mk_old hm hf]
      exact ⟨by simp, by simp; omega⟩
    | none =>
      by_cases hl : 100000 ≤ ds.length
      · rw [mk_full hm hf hl]; simp
      · rw [mk_new hm hf hl]; exact ⟨by simp, by simp; omega⟩
  · rw [mk_bad hm]; simp


/-- The node of a term, or none. -/
def ndAt (ds : List Nd) (t : Int) : Nd := if 0 ≤ t ∧ t < ds.length then ds.getD t.toNat nd0 else nd0
def ndE (ds : List Nd) (t : Int) : Int := if 0 ≤ t ∧ t < ds.length then 0 else 4
end Go.Proofs.YtihagkeljhgomaaDoor

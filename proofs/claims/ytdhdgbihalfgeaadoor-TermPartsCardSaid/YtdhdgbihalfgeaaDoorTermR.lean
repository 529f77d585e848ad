/- What a term is made of: plain facts. Nothing here names a program. -/
import Derived.Test.YtdhdgbihalfgeaaDoorTermT
set_option linter.unusedSimpArgs false
set_option linter.unusedVariables false
namespace Go.Proofs.YtdhdgbihalfgeaaDoor
open Go

/-- x is in t. -/
inductive Reach (ds : List Nd) (t : Int) : Int → Prop
  | refl : 0 ≤ t → t < ds.length → Reach ds t t
  | step {x y : Int} : Reach ds t x → y ∈ (ds.getD x.toNat nd0).l → Reach ds t y

theorem Reach.bound {ds : List Nd} (hg : Good ds) {t x : Int} (h : Reach ds t x) : 0 ≤ x ∧ x ≤ t ∧ t < ds.length ∧ 0 ≤ t := by
  induction h with
  | refl h0 h1 => exact ⟨h0, Int.le_refl _, h1, h0⟩
  | step h1 h2 ih =>
    obtain ⟨a, b, c, d⟩ := ih
    have := hg.lesser (i := _) (by omega) _ h2
    omega
theorem Reach.trans {ds : List Nd} {t x y : Int} (h : Reach ds t x) (k : Reach ds x y) : Reach ds t y := by
  induction k with
  | refl _ _ => exact h
  | step _ h2 ih => exact .step ih h2

/-- The numbers of a list are all that t is made of, each once. -/
def Parts (ds : List Nd) (t : Int) (ks : List Int) : Prop := ks.Nodup ∧ ∀ x, x ∈ ks ↔ Reach ds t x
theorem Parts.length {ds : List Nd} {t : Int} {ks ls : List Int} (h : Parts ds t ks) (k : Parts ds t ls) : ks.length = ls.length :=
  ((List.perm_ext_iff_of_nodup h.1 k.1).2 fun x => (h.2 x).trans (k.2 x).symm).length_eq

theorem mem_getD {l : List Int} {k : Nat} (h : k < l.length) : l.getD k 0 ∈ l := by
  rw [List.getD_eq_getElem?_getD, List.getElem?_eq_getElem h]
  exact List.getElem_mem _
/-- What the search has: what is still to be gone through, and what was met. -/
structure Dfs (ds : List Nd) (t : Int) (zs ks : List Int) : Prop where
  met : ∀ z ∈ zs, z ∈ ks
  in' : ∀ x ∈ ks, Reach ds t x
  all : ∀ x ∈ ks, x ∉ zs → ∀ y ∈ (ds.getD x.toNat nd0).l, y ∈ ks
  top : t ∈ ks
  once : ks.Nodup
theorem Dfs.start {ds : List Nd} {t : Int} (h0 : 0 ≤ t) (h1 : t < ds.length) : Dfs ds t [t] [t] :=
  ⟨fun z hz => hz, fun x hx => by rw [List.mem_singleton.1 hx]; exact .refl h0 h1, fun x hx hn => absurd hx hn, by simp, by simp⟩
theorem Dfs.done {ds : List Nd} {t : Int} {ks : List Int} (h : Dfs ds t [] ks) : Parts ds t ks := by
  refine ⟨h.once, fun x => ⟨h.in' x, fun hr => ?_⟩⟩
  induction hr with
  | refl _ _ => exact h.top
  | step h1 h2 ih => exact h.all _ ih (by simp) _ h2
/-- .. while the parts of x are gone through: so many of them. -/
structure Dfs2 (ds : List Nd) (t x : Int) (k : Nat) (zs ks : List Int) : Prop where
  met : ∀ z ∈ zs, z ∈ ks
  in' : ∀ x ∈ ks, Reach ds t x
  all : ∀ u ∈ ks, u ∉ zs → u ≠ x → ∀ y ∈ (ds.getD u.toNat nd0).l, y ∈ ks
  own : ∀ i, i < k → (ds.getD x.toNat nd0).l.getD i 0 ∈ ks
  top : t ∈ ks
  x : x ∈ ks
  once : ks.Nodup
theorem Dfs.pop {ds : List Nd} {t : Int} {zs ks : List Int} (h : Dfs ds t zs ks) (hp : 0 < zs.length) : Dfs2 ds t (zs.getD (zs.length - 1) 0) 0 (zs.take (zs.length - 1)) ks := by
  have hx : zs.getD (zs.length - 1) 0 ∈ zs := by
    rw [List.getD_eq_getElem?_getD, List.getElem?_eq_getElem (show zs.length - 1 < zs.length by omega)]
    exact List.getElem_mem _
  refine ⟨fun z hz => h.met z (List.mem_of_mem_take hz), h.in', fun u hu hn hne y hy => h.all u hu (fun hz => ?_) y hy, fun i hi => absurd hi (Nat.not_lt_zero _), h.top, h.met _ hx, h.once⟩
  have e : zs = zs.take (zs.length - 1) ++ [zs.getD (zs.length - 1) 0] := by
    rw [List.getD_eq_getElem?_getD, List.getElem?_eq_getElem (show zs.length - 1 < zs.length by omega), Option.getD_some]
    have := List.take_succ_eq_append_getElem (l := zs) (i := zs.length - 1) (by omega)
    rw [← this, Nat.sub_add_cancel hp, List.take_length]
  rw [e] at hz
  rcases List.mem_append.1 hz with c | c
  · exact hn c
  · exact hne (List.mem_singleton.1 c)
theorem Dfs2.old {ds : List Nd} {t x : Int} {k : Nat} {zs ks : List Int} (h : Dfs2 ds t x k zs ks) (hm : (ds.getD x.toNat nd0).l.getD k 0 ∈ ks) : Dfs2 ds t x (k + 1) zs ks :=
  ⟨h.met, h.in', h.all, fun i hi => by
    by_cases c : i < k
    · exact h.own i c
    · obtain rfl : i = k := by omega
      exact hm, h.top, h.x, h.once⟩
theorem Dfs2.new {ds : List Nd} {t x : Int} {k : Nat} {zs ks : List Int} (h : Dfs2 ds t x k zs ks) (hk : k < (ds.getD x.toNat nd0).l.length) (hm : (ds.getD x.toNat nd0).l.getD k 0 ∉ ks) :
    Dfs2 ds t x (k + 1) (zs ++ [(ds.getD x.toNat nd0).l.getD k 0]) ((ds.getD x.toNat nd0).l.getD k 0 :: ks) := by
  have hmem : (ds.getD x.toNat nd0).l.getD k 0 ∈ (ds.getD x.toNat nd0).l := mem_getD hk
  refine ⟨fun z hz => ?_, fun u hu => ?_, fun u hu hn hne y hy => ?_, fun i hi => ?_, List.mem_cons_of_mem _ h.top, List.mem_cons_of_mem _ h.x, List.nodup_cons.2 ⟨hm, h.once⟩⟩
  · rcases List.mem_append.1 hz with c | c
    · exact List.mem_cons_of_mem _ (h.met z c)
    · rw [List.mem_singleton.1 c]; exact List.mem_cons_self
  · rcases List.mem_cons.1 hu with c | c
    · rw [c]; exact .step (h.in' x h.x) hmem
    · exact h.in' u c
  · rcases List.mem_cons.1 hu with c | c
    · exact absurd (List.mem_append.2 (.inr (List.mem_singleton.2 c))) hn
    · exact List.mem_cons_of_mem _ (h.all u c (fun hz => hn (List.mem_append.2 (.inl hz))) hne y hy)
  · by_cases c : i < k
    · exact List.mem_cons_of_mem _ (h.own i c)
    · obtain rfl : i = k := by omega
      exact List.mem_cons_self
theorem Dfs2.done {ds : List Nd} {t x : Int} {zs ks : List Int} (h : Dfs2 ds t x (ds.getD x.toNat nd0).l.length zs ks) : Dfs ds t zs ks :=
  ⟨h.met, h.in', fun u hu hn y hy => by
    by_cases c : u = x
    · subst c
      obtain ⟨i, hi, e⟩ := List.mem_iff_getElem.1 hy
      have := h.own i hi
      rwa [List.getD_eq_getElem?_getD, List.getElem?_eq_getElem hi, Option.getD_some, e] at this
    · exact h.all u hu hn c y hy, h.top, h.once⟩

theorem nodup_le (n : Nat) : ∀ ks : List Int, ks.Nodup → (∀ x ∈ ks, 0 ≤ x ∧ x < n) → ks.length ≤ n := by
  induction n with
  | zero =>
    intro ks _ hb
    cases ks with
    | nil => simp
    | cons x ks => have := hb x List.mem_cons_self; omega
  | succ n ih =>
    intro ks h hb
    have h1 := ih (ks.erase (n : Int)) (h.erase _) (fun x hx => by
      obtain ⟨a, b⟩ := (List.Nodup.mem_erase_iff h).1 hx
      have := hb x b
      omega)
    by_cases c : (n : Int) ∈ ks
    · rw [List.length_erase_of_mem c] at h1; omega
    · rw [List.erase_of_not_mem c] at h1; omega

/-! ## atoms -/
/-- The numbers of all atoms in t, rising. -/
def Atoms (ds : List Nd) (t : Int) (l : List Int) : Prop := l.Pairwise (· < ·) ∧ ∀ n, n ∈ l ↔ ∃ x, Reach ds t x ∧ (ds.getD x.toNat nd0).op = 1 ∧ (ds.getD x.toNat nd0).n = n
theorem sorted_unique {l m : List Int} (hl : l.Pairwise (· < ·)) (hm : m.Pairwise (· < ·)) (h : ∀ x, x ∈ l ↔ x ∈ m) : l = m := by
  induction l generalizing m with
  | nil =>
    cases m with
    | nil => rfl
    | cons y m => exact absurd ((h y).2 List.mem_cons_self) (by simp)
  | cons x l ih =>
    cases m with
    | nil => exact absurd ((h x).1 List.mem_cons_self) (by simp)
    | cons y m =>
      obtain ⟨hl1, hl2⟩ := List.pairwise_cons.1 hl
      obtain ⟨hm1, hm2⟩ := List.pairwise_cons.1 hm
      have e : x = y := by
        rcases List.mem_cons.1 ((h x).1 List.mem_cons_self) with c | c
        · exact c
        · rcases List.mem_cons.1 ((h y).2 List.mem_cons_self) with c' | c'
          · exact c'.symm
          · have := hm1 x c; have := hl1 y c'; omega
      subst e
      rw [ih hl2 hm2 fun z => ⟨fun hz => ?_, fun hz => ?_⟩]
      · rcases List.mem_cons.1 ((h z).1 (List.mem_cons_of_mem _ hz)) with c | c
        · subst c; have := hl1 z hz; omega
        · exact c
      · rcases List.mem_cons.1 ((h z).2 (List.mem_cons_of_mem _ hz)) with c | c
        · subst c; have := hm1 z hz; omega
        · exact c
theorem Atoms.unique {ds : List Nd} {t : Int} {l m : List Int} (h : Atoms ds t l) (k : Atoms ds t m) : l = m :=
  sorted_unique h.1 k.1 fun x => (h.2 x).trans (k.2 x).symm
end Go.Proofs.YtdhdgbihalfgeaaDoor

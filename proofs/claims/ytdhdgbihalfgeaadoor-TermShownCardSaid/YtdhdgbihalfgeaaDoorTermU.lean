/- A term's text tells the term. Nothing here names a program. -/
import Derived.Test.YtdhdgbihalfgeaaDoorTermT
set_option linter.unusedSimpArgs false
set_option linter.unusedVariables false
namespace Go.Proofs.YtdhdgbihalfgeaaDoor
open Go

theorem esc_cons (c : UInt8) (s : List UInt8) : esc (c :: s) = (if c = 34 ∨ c = 92 then [92, c] else [c]) ++ esc s := by simp [esc]
theorem esc_sep {a b u v : List UInt8} (h : esc a ++ 34 :: u = esc b ++ 34 :: v) : a = b ∧ u = v := by
  induction a generalizing b with
  | nil =>
    cases b with
    | nil => simpa [esc] using h
    | cons c b =>
      rw [esc_cons] at h
      by_cases k : c = 34 ∨ c = 92
      · rw [if_pos k] at h
        simp [esc] at h
      · rw [if_neg k] at h
        simp [esc] at h
        exact absurd (.inl h.1.symm) k
  | cons c a ih =>
    cases b with
    | nil =>
      rw [esc_cons] at h
      by_cases k : c = 34 ∨ c = 92
      · rw [if_pos k] at h
        simp [esc] at h
      · rw [if_neg k] at h
        simp [esc] at h
        exact absurd (.inl h.1) k
    | cons e b =>
      rw [esc_cons, esc_cons] at h
      by_cases k : c = 34 ∨ c = 92 <;> by_cases q : e = 34 ∨ e = 92
      · rw [if_pos k, if_pos q] at h
        simp only [List.cons_append, List.nil_append, List.append_assoc, List.cons.injEq, true_and] at h
        obtain ⟨h1, h2⟩ := ih h.2
        exact ⟨by rw [h.1, h1], h2⟩
      · rw [if_pos k, if_neg q] at h
        simp only [List.cons_append, List.nil_append, List.append_assoc, List.cons.injEq] at h
        exact absurd (.inr h.1.symm) q
      · rw [if_neg k, if_pos q] at h
        simp only [List.cons_append, List.nil_append, List.append_assoc, List.cons.injEq] at h
        exact absurd (.inr h.1) k
      · rw [if_neg k, if_neg q] at h
        simp only [List.cons_append, List.nil_append, List.append_assoc, List.cons.injEq] at h
        obtain ⟨h1, h2⟩ := ih h.2
        exact ⟨by rw [h.1, h1], h2⟩

def restC (f : Int → List UInt8) (l : List Int) : List UInt8 := l.flatMap fun x => 44 :: f x
theorem joinC_rest (f : Int → List UInt8) (x : Int) (l : List Int) : joinC ((x :: l).map f) = f x ++ restC f l := by
  induction l generalizing x with
  | nil => simp [joinC, restC]
  | cons y l ih =>
    have := ih y
    simp only [List.map_cons, joinC] at this ⊢
    rw [this]
    simp [restC]
theorem noDig_rest (f : Int → List UInt8) (l : List Int) (u : List UInt8) : NoDig (restC f l ++ 41 :: u) := by
  cases l with
  | nil => exact noDig_cons _ (by decide)
  | cons x l => simp only [restC, List.flatMap_cons, List.cons_append]; exact noDig_cons _ (by decide)

def Sep (f : Int → List UInt8) (x : Int) (P : Int → Prop) : Prop := ∀ y, P y → ∀ u v, NoDig u → NoDig v → f x ++ u = f y ++ v → x = y ∧ u = v
def Head (f : Int → List UInt8) (x : Int) : Prop := ∃ c r, f x = c :: r ∧ c ≠ 41
theorem rest_sep {f : Int → List UInt8} {P : Int → Prop} {l m : List Int} {u v : List UInt8} (hl : ∀ x ∈ l, Sep f x P) (hm : ∀ y ∈ m, P y) (h : restC f l ++ 41 :: u = restC f m ++ 41 :: v) : l = m ∧ u = v := by
  induction l generalizing m with
  | nil =>
    cases m with
    | nil => simpa [restC] using h
    | cons y m => simp [restC] at h
  | cons x l ih =>
    cases m with
    | nil => simp [restC] at h
    | cons y m =>
      have e : ∀ (z : Int) (q : List Int) (t : List UInt8), restC f (z :: q) ++ 41 :: t = 44 :: (f z ++ (restC f q ++ 41 :: t)) := fun z q t => by simp [restC]
      rw [e, e] at h
      simp only [List.cons.injEq, true_and] at h
      obtain ⟨h1, h2⟩ := hl x List.mem_cons_self y (hm y List.mem_cons_self) _ _ (noDig_rest f l u) (noDig_rest f m v) h
      obtain ⟨h3, h4⟩ := ih (fun z hz => hl z (List.mem_cons_of_mem _ hz)) (fun z hz => hm z (List.mem_cons_of_mem _ hz)) h2
      exact ⟨by rw [h1, h3], h4⟩
theorem join_sep {f : Int → List UInt8} {P : Int → Prop} {l m : List Int} {u v : List UInt8} (hl : ∀ x ∈ l, Sep f x P ∧ Head f x) (hm : ∀ y ∈ m, P y ∧ Head f y) (h : joinC (l.map f) ++ 41 :: u = joinC (m.map f) ++ 41 :: v) : l = m ∧ u = v := by
  cases l with
  | nil =>
    cases m with
    | nil => simpa [joinC] using h
    | cons y m =>
      obtain ⟨c, r, hc, hne⟩ := (hm y List.mem_cons_self).2
      rw [joinC_rest, hc] at h
      simp [joinC] at h
      exact absurd h.1.symm hne
  | cons x l =>
    cases m with
    | nil =>
      obtain ⟨c, r, hc, hne⟩ := (hl x List.mem_cons_self).2
      rw [joinC_rest, hc] at h
      simp [joinC] at h
      exact absurd h.1 hne
    | cons y m =>
      rw [joinC_rest, joinC_rest, List.append_assoc, List.append_assoc] at h
      obtain ⟨h1, h2⟩ := (hl x List.mem_cons_self).1 y (hm y List.mem_cons_self).1 _ _ (noDig_rest f l u) (noDig_rest f m v) h
      obtain ⟨h3, h4⟩ := rest_sep (fun z hz => (hl z (List.mem_cons_of_mem _ hz)).1) (fun z hz => (hm z (List.mem_cons_of_mem _ hz)).1) h2
      exact ⟨by rw [h1, h3], h4⟩

theorem kName_no40 (o : Int) : ∀ c ∈ kName o, c ≠ 40 := by
  have : ∀ e ∈ kTab, ∀ c ∈ e.1, c ≠ 40 := by decide
  unfold kName
  by_cases h : o.toNat < kTab.length
  · rw [List.getD_eq_getElem?_getD, List.getElem?_eq_getElem h]
    exact this _ (List.getElem_mem _)
  · rw [List.getD_eq_getElem?_getD, List.getElem?_eq_none (by omega)]
    intro c hc; cases hc
theorem split40 {a b u v : List UInt8} (ha : ∀ c ∈ a, c ≠ 40) (hb : ∀ c ∈ b, c ≠ 40) (h : a ++ 40 :: u = b ++ 40 :: v) : a = b ∧ u = v := by
  induction a generalizing b with
  | nil =>
    cases b with
    | nil => simpa using h
    | cons c b =>
      simp at h
      exact absurd h.1.symm (hb c List.mem_cons_self)
  | cons c a ih =>
    cases b with
    | nil =>
      simp at h
      exact absurd h.1 (ha c List.mem_cons_self)
    | cons e b =>
      simp only [List.cons_append, List.cons.injEq] at h
      obtain ⟨h1, h2⟩ := ih (fun z hz => ha z (List.mem_cons_of_mem _ hz)) (fun z hz => hb z (List.mem_cons_of_mem _ hz)) h.2
      exact ⟨by rw [h.1, h1], h2⟩
theorem kName_inj {a b : Int} (a1 : 3 ≤ a) (a2 : a ≤ 12) (b1 : 3 ≤ b) (b2 : b ≤ 12) (h : kName a = kName b) : a = b := by
  have key : ∀ i : Fin 13, ∀ j : Fin 13, 3 ≤ i.val → 3 ≤ j.val → (kTab.getD i.val ([], 0, 0)).1 = (kTab.getD j.val ([], 0, 0)).1 → i = j := by decide
  have := key ⟨a.toNat, by omega⟩ ⟨b.toNat, by omega⟩ (by show 3 ≤ a.toNat; omega) (by show 3 ≤ b.toNat; omega) h
  have := congrArg Fin.val this
  simp only at this
  omega
theorem kName_head {a : Int} (a1 : 3 ≤ a) (a2 : a ≤ 12) : ∃ c r, kName a = c :: r ∧ c ≠ 34 ∧ c ≠ 35 ∧ c ≠ 41 := by
  have key : ∀ i : Fin 13, 3 ≤ i.val → ∃ c r, (kTab.getD i.val ([], 0, 0)).1 = c :: r ∧ c ≠ 34 ∧ c ≠ 35 ∧ c ≠ 41 := by
    intro i hi
    have h2 := i.isLt
    have : i.val = 3 ∨ i.val = 4 ∨ i.val = 5 ∨ i.val = 6 ∨ i.val = 7 ∨ i.val = 8 ∨ i.val = 9 ∨ i.val = 10 ∨ i.val = 11 ∨ i.val = 12 := by omega
    rcases this with e | e | e | e | e | e | e | e | e | e <;> rw [e] <;> exact ⟨_, _, rfl, by decide, by decide, by decide⟩
  exact key ⟨a.toNat, by omega⟩ (by show 3 ≤ a.toNat; omega)

theorem one_head (f : Int → List UInt8) {ds : List Nd} {d : Nd} (h : May ds d) : ∃ c r, one f d = c :: r ∧ c ≠ 41 ∧ (c = 35 ↔ d.op = 1) ∧ (c = 34 ↔ d.op = 2) := by
  unfold one
  by_cases c1 : d.op = 1
  · rw [if_pos c1]
    exact ⟨_, _, rfl, by decide, ⟨fun _ => c1, fun _ => rfl⟩, ⟨fun e => absurd e (by decide), fun e => by omega⟩⟩
  · rw [if_neg c1]
    by_cases c2 : d.op = 2
    · rw [if_pos c2]
      exact ⟨_, _, rfl, by decide, ⟨fun e => absurd e (by decide), fun e => by omega⟩, ⟨fun _ => c2, fun _ => rfl⟩⟩
    · rw [if_neg c2]
      have := h.op1
      obtain ⟨c, r, e, n1, n2, n3⟩ := kName_head (a := d.op) (by omega) h.op12
      rw [e]
      exact ⟨c, _, rfl, n3, ⟨fun x => absurd x n2, fun x => absurd x c1⟩, ⟨fun x => absurd x n1, fun x => absurd x c2⟩⟩

theorem one_sep {f : Int → List UInt8} {P : Int → Prop} {ds es : List Nd} {d e : Nd} (hd : May ds d) (he : May es e) (hl : ∀ x ∈ d.l, Sep f x P ∧ Head f x) (hm : ∀ y ∈ e.l, P y ∧ Head f y) {u v : List UInt8} (hu : NoDig u) (hv : NoDig v)
    (h : one f d ++ u = one f e ++ v) : d = e ∧ u = v := by
  obtain ⟨c, r, e1, _, c35, c34⟩ := one_head f hd
  obtain ⟨c', r', e2, _, b35, b34⟩ := one_head f he
  have hcc : c = c' := by
    rw [e1, e2] at h
    simp only [List.cons_append, List.cons.injEq] at h
    exact h.1
  rw [← hcc] at b35 b34
  unfold one at h
  have n0 := hd.n1; have n1 := he.n1; have s0 := hd.s1; have s1 := he.s1
  by_cases c1 : d.op = 1
  · have d1 : e.op = 1 := b35.1 (c35.2 c1)
    rw [if_pos c1, if_pos d1] at h
    simp only [List.cons_append, List.cons.injEq, true_and] at h
    obtain ⟨h1, h2⟩ := itoa_sep hd.n0 he.n0 hu hv h
    exact ⟨nd_ext (by omega) h1 ((s0.resolve_right (by omega)).trans (s1.resolve_right (by omega)).symm) ((hd.nol (.inl c1)).trans (he.nol (.inl d1)).symm), h2⟩
  · have d1 : ¬ e.op = 1 := fun x => c1 (c35.1 (b35.2 x))
    rw [if_neg c1, if_neg d1] at h
    have hn : d.n = e.n := (n0.resolve_right c1).trans (n1.resolve_right d1).symm
    by_cases c2 : d.op = 2
    · have d2 : e.op = 2 := b34.1 (c34.2 c2)
      rw [if_pos c2, if_pos d2] at h
      simp only [List.cons_append, List.append_assoc, List.cons.injEq, true_and, List.nil_append] at h
      obtain ⟨h1, h2⟩ := esc_sep h
      exact ⟨nd_ext (by omega) hn h1 ((hd.nol (.inr c2)).trans (he.nol (.inr d2)).symm), h2⟩
    · have d2 : ¬ e.op = 2 := fun x => c2 (c34.1 (b34.2 x))
      rw [if_neg c2, if_neg d2] at h
      simp only [List.append_assoc, List.cons_append, List.nil_append] at h
      obtain ⟨h1, h2⟩ := split40 (kName_no40 _) (kName_no40 _) h
      have o1 := hd.op1; have o2 := he.op1
      have ho := kName_inj (by omega) hd.op12 (by omega) he.op12 h1
      obtain ⟨h3, h4⟩ := join_sep hl hm h2
      exact ⟨nd_ext ho hn ((s0.resolve_right c2).trans (s1.resolve_right d2).symm) h3, h4⟩

/-- Is a term. -/
def In (ds : List Nd) (y : Int) : Prop := 0 ≤ y ∧ y < ds.length
theorem shw_head {ds : List Nd} (hg : Good ds) {t : Int} (h : In ds t) : Head (shw ds) t := by
  have hm := hg.may' (i := t.toNat) (by have := h.1; have := h.2; omega)
  obtain ⟨c, r, e, n, _⟩ := one_head (shw ds) hm
  exact ⟨c, r, by rw [shw_eq hg h.1 h.2, e], n⟩
theorem shw_sep {ds : List Nd} (hg : Good ds) : ∀ (n : Nat) (x : Int), x.toNat = n → In ds x → Sep (shw ds) x (In ds) := by
  intro n
  induction n using Nat.strongRecOn with
  | ind n ih =>
    intro x hx hin y hy u v hu hv h
    obtain ⟨x0, x1⟩ := hin
    obtain ⟨y0, y1⟩ := hy
    rw [shw_eq hg x0 x1, shw_eq hg y0 y1] at h
    have lx : ∀ z ∈ (ds.getD x.toNat nd0).l, 0 ≤ z ∧ z < (x.toNat : Int) := fun z hz => hg.lesser (by omega) z hz
    have ly : ∀ z ∈ (ds.getD y.toNat nd0).l, 0 ≤ z ∧ z < (y.toNat : Int) := fun z hz => hg.lesser (by omega) z hz
    obtain ⟨h1, h2⟩ := one_sep (hg.may' (i := x.toNat) (by omega)) (hg.may' (i := y.toNat) (by omega)) (fun z hz => by
      have hz' : In ds z := ⟨(lx z hz).1, by have := (lx z hz).2; omega⟩
      exact ⟨ih z.toNat (by have := lx z hz; omega) z rfl hz', shw_head hg hz'⟩) (fun z hz => by
      have hz' : In ds z := ⟨(ly z hz).1, by have := (ly z hz).2; omega⟩
      exact ⟨hz', shw_head hg hz'⟩) hu hv h
    have := hg.once x.toNat y.toNat (by omega) (by omega) h1
    exact ⟨by omega, h2⟩
theorem shw_inj {ds : List Nd} (hg : Good ds) {x y : Int} (hx : In ds x) (hy : In ds y) (h : shw ds x = shw ds y) : x = y :=
  (shw_sep hg _ x rfl hx y hy [] [] noDig_nil noDig_nil (by rw [h])).1

theorem joinC_part (f : Int → List UInt8) {l : List Int} {p : Int} (h : p ∈ l) : (f p).length ≤ (joinC (l.map f)).length := by
  cases l with
  | nil => cases h
  | cons x l =>
    rw [joinC_rest, List.length_append]
    rcases List.mem_cons.1 h with e | e
    · rw [e]; omega
    · have : (f p).length ≤ (restC f l).length := by
        clear h
        induction l with
        | nil => cases e
        | cons y l ih =>
          simp only [restC, List.flatMap_cons, List.length_append, List.length_cons] at ih ⊢
          rcases List.mem_cons.1 e with c | c
          · rw [c]; omega
          · have := ih c
            omega
      omega
theorem shw_made {ds : List Nd} (hg : Good ds) {t : Int} (h : In ds t) (o1 : (ds.getD t.toNat nd0).op ≠ 1) (o2 : (ds.getD t.toNat nd0).op ≠ 2) :
    shw ds t = kName (ds.getD t.toNat nd0).op ++ 40 :: (joinC ((ds.getD t.toNat nd0).l.map (shw ds)) ++ [41]) := by
  rw [shw_eq hg h.1 h.2]
  unfold one
  rw [if_neg o1, if_neg o2]
theorem shw_op {ds : List Nd} (hg : Good ds) {t : Int} (h : In ds t) : 1 ≤ (ds.getD t.toNat nd0).op ∧ (ds.getD t.toNat nd0).op ≤ 12 := by
  have hm := hg.may' (i := t.toNat) (by have := h.1; have := h.2; omega)
  exact ⟨hm.op1, hm.op12⟩
theorem shw_parts {ds : List Nd} (hg : Good ds) {t : Int} (h : In ds t) : ∀ p ∈ (ds.getD t.toNat nd0).l, In ds p := fun p hp => by
  have := hg.lesser (i := t.toNat) (by have := h.1; have := h.2; omega) p hp
  exact ⟨this.1, by have := h.2; omega⟩
end Go.Proofs.YtdhdgbihalfgeaaDoor

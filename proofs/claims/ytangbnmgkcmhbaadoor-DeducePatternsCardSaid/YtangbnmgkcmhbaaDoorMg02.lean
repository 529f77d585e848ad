/- Texts of one proof, put together: TermNp, CrS, DedS, DedP, PcS, Bools, IntRow, DedA, TermT, TermR. -/
import Derived.Test.YtangbnmgkcmhbaaDoorMg01
import Derived.Laws.OwnMore
import Derived.OwnWalk
import Derived.Deep.RegionHeld3
import Derived.StillTailTactics
section
/- What Make does to terms, again and again: plain facts. -/
set_option linter.unusedSimpArgs false
set_option linter.unusedVariables false
namespace Go.Proofs.YtangbnmgkcmhbaaDoor
open Go

/-! ## terms that are made -/
theorem mk_ext (ds : List Nd) (d : Nd) : ∃ r, (mk ds d).1 = ds ++ r := by
  by_cases hm : May ds d
  · cases hf : find ds d with
    | some i => rw [mk_old hm hf]; exact ⟨[], by simp⟩
    | none =>
      by_cases hl : 100000 ≤ ds.length
      · rw [mk_full hm hf hl]; exact ⟨[], by simp⟩
      · rw [mk_new hm hf hl]; exact ⟨[d], rfl⟩
  · rw [mk_bad hm]; exact ⟨[], by simp⟩
theorem getD_app {ds r : List Nd} {i : Nat} (h : i < ds.length) : (ds ++ r).getD i nd0 = ds.getD i nd0 := by
  simp only [List.getD_eq_getElem?_getD]
  rw [List.getElem?_append_left h]
/-- A term that Make told is there. -/
theorem mk_at {ds : List Nd} {d : Nd} (h : (mk ds d).2.2 = 0) : 0 ≤ (mk ds d).2.1 ∧ (mk ds d).2.1 < (mk ds d).1.length ∧ (mk ds d).1.getD (mk ds d).2.1.toNat nd0 = d := by
  by_cases hm : May ds d
  · cases hf : find ds d with
    | some i =>
      rw [mk_old hm hf]
      obtain ⟨h1, h2⟩ := find_some hf
      exact ⟨by simp, by simpa using h1, by simpa using h2⟩
    | none =>
      by_cases hl : 100000 ≤ ds.length
      · rw [mk_full hm hf hl] at h; simp at h
      · rw [mk_new hm hf hl]
        exact ⟨by simp, by simp; omega, by
          simp only [Int.toNat_natCast]
          rw [getD_snoc, if_neg (by omega), if_pos rfl]⟩
  · rw [mk_bad hm] at h; simp at h
/-- A node that is there is told again. -/
theorem mk_again {ds : List Nd} (hg : Good ds) {d : Nd} {i : Nat} (hi : i < ds.length) (h : ds.getD i nd0 = d) : mk ds d = (ds, (i : Int), 0) :=
  mk_old (h ▸ hg.may' hi) (hg.findAt hi h)
theorem mk_e (ds : List Nd) (d : Nd) : (mk ds d).2.2 = 0 ∨ (mk ds d).2.2 = 1 ∨ (mk ds d).2.2 = 2 := by
  by_cases hm : May ds d
  · cases hf : find ds d with
    | some i => rw [mk_old hm hf]; simp
    | none =>
      by_cases hl : 100000 ≤ ds.length
      · rw [mk_full hm hf hl]; simp
      · rw [mk_new hm hf hl]; simp
  · rw [mk_bad hm]; simp
theorem mk_t64 (ds : List Nd) (d : Nd) (hl : ds.length ≤ 100000) : 0 ≤ (mk ds d).2.1 ∧ (mk ds d).2.1 ≤ 200000 := by
  by_cases hm : May ds d
  · cases hf : find ds d with
    | some i =>
      have := (find_some hf).1
      rw [mk_old hm hf]
      exact ⟨by simp, by simp; omega⟩
    | none =>
      by_cases hl : 100000 ≤ ds.length
      · rw [mk_full hm hf hl]; simp
      · rw [mk_new hm hf hl]; exact ⟨by simp, by simp; omega⟩
  · rw [mk_bad hm]; simp


/-- The node of a term, or none. -/
def ndAt (ds : List Nd) (t : Int) : Nd := if 0 ≤ t ∧ t < ds.length then ds.getD t.toNat nd0 else nd0
def ndE (ds : List Nd) (t : Int) : Int := if 0 ≤ t ∧ t < ds.length then 0 else 4
end Go.Proofs.YtangbnmgkcmhbaaDoor
end

section
/- Secrets: what is made of terms, and what opens; plain facts. Nothing here names a program. -/
set_option linter.unusedSimpArgs false
set_option linter.unusedVariables false
namespace Go.Proofs.YtangbnmgkcmhbaaDoor
open Go

/-- t is a term. -/
def IsT (ds : List Nd) (t : Int) : Prop := 0 ≤ t ∧ t < ds.length
instance (ds : List Nd) (t : Int) : Decidable (IsT ds t) := by unfold IsT; infer_instance
/-- t is the term of the node d. -/
structure Is (ds : List Nd) (t : Int) (d : Nd) : Prop where
  lo : 0 ≤ t
  hi : t < ds.length
  eq : ds.getD t.toNat nd0 = d
theorem Is.isT {ds : List Nd} {t : Int} {d : Nd} (h : Is ds t d) : IsT ds t := ⟨h.lo, h.hi⟩
theorem IsT.more {ds : List Nd} {t : Int} (h : IsT ds t) (r : List Nd) : IsT (ds ++ r) t := ⟨h.1, by have := h.2; rw [List.length_append]; omega⟩
theorem Is.more {ds : List Nd} {t : Int} {d : Nd} (h : Is ds t d) (r : List Nd) : Is (ds ++ r) t d :=
  ⟨h.lo, by have := h.hi; rw [List.length_append]; omega, by rw [getD_app (by have := h.hi; have := h.lo; omega)]; exact h.eq⟩
theorem Is.at {ds : List Nd} {t : Int} {d : Nd} (h : Is ds t d) : ndAt ds t = d := by unfold ndAt; rw [if_pos ⟨h.lo, h.hi⟩]; exact h.eq
theorem Is.e {ds : List Nd} {t : Int} {d : Nd} (h : Is ds t d) : ndE ds t = 0 := by unfold ndE; rw [if_pos ⟨h.lo, h.hi⟩]
theorem Is.node {ds : List Nd} {t : Int} {c d : Nd} (h : Is ds t c) (k : Is ds t d) : c = d := h.eq.symm.trans k.eq
theorem Is.same {ds : List Nd} (hg : Good ds) {t u : Int} {d : Nd} (h : Is ds t d) (k : Is ds u d) : t = u := by
  have := hg.once t.toNat u.toNat (by have := h.hi; have := h.lo; omega) (by have := k.hi; have := k.lo; omega) (h.eq.trans k.eq.symm)
  have := h.lo
  have := k.lo
  omega
theorem Is.iff {ds : List Nd} (hg : Good ds) {t u : Int} {c d : Nd} (h : Is ds t c) (k : Is ds u d) : t = u ↔ c = d :=
  ⟨fun e => by subst e; exact h.node k, fun e => by subst e; exact h.same hg k⟩
/-- What a term is made of is less. -/
theorem Is.less {ds : List Nd} (hg : Good ds) {t : Int} {d : Nd} (h : Is ds t d) : ∀ x ∈ d.l, x < t := fun x hx => by
  have := hg.lesser (i := t.toNat) (by have := h.hi; have := h.lo; omega) x (by rw [h.eq]; exact hx)
  have := h.lo
  omega

/-- Make, of a node that may be. -/
theorem mk_is {ds : List Nd} {d : Nd} (hm : May ds d) (hl : ds.length < 100000) : ∃ r t, mk ds d = (ds ++ r, t, 0) ∧ r.length ≤ 1 ∧ Is (ds ++ r) t d := by
  cases hf : find ds d with
  | some i =>
    obtain ⟨h1, h2⟩ := find_some hf
    exact ⟨[], (i : Int), by rw [mk_old hm hf]; simp, by simp, ⟨by omega, by simpa using h1, by simpa using h2⟩⟩
  | none =>
    refine ⟨[d], (ds.length : Int), mk_new hm hf (by omega), by simp, ⟨by omega, by simp; omega, ?_⟩⟩
    rw [Int.toNat_natCast, getD_snoc, if_neg (by omega), if_pos rfl]

theorem mk_ext1 (ds : List Nd) (d : Nd) : ∃ r, (mk ds d).1 = ds ++ r ∧ r.length ≤ 1 := by
  obtain ⟨r, hr⟩ := mk_ext ds d
  have := (mk_le ds d).2
  rw [hr, List.length_append] at this
  exact ⟨r, hr, by omega⟩

/-! ## nodes that may be -/
theorem may_atom (ds : List Nd) {n : Int} (h : 0 ≤ n) : May ds ⟨1, n, [], []⟩ :=
  ⟨by simp, by simp, h, .inr rfl, by simp, .inl rfl, by simp [kLeast, kTab], by simp [kMost, kTab], (fun x hx => by cases hx), (fun e => by simp at e)⟩
theorem may_text (ds : List Nd) {s : List UInt8} (h : s.length ≤ 200) : May ds ⟨2, 0, s, []⟩ :=
  ⟨by simp, by simp, by simp, .inl rfl, h, .inr rfl, by simp [kLeast, kTab], by simp [kMost, kTab], (fun x hx => by cases hx), (fun e => by simp at e)⟩
theorem may_list (ds : List Nd) {l : List Int} (hl : l.length ≤ 64) (h : ∀ x ∈ l, IsT ds x) : May ds ⟨3, 0, [], l⟩ :=
  ⟨by simp, by simp, by simp, .inl rfl, by simp, .inl rfl, by simp [kLeast, kTab], by simp [kMost, kTab]; omega, h, (fun e => by simp at e)⟩
theorem may_key {ds : List Nd} {s t c : Int} {x : List UInt8} (hs : IsT ds s) (ht : Is ds t ⟨2, 0, x, []⟩) (hc : IsT ds c) : May ds ⟨6, 0, [], [s, t, c]⟩ :=
  ⟨by simp, by simp, by simp, .inl rfl, by simp, .inl rfl, by simp [kLeast, kTab], by simp [kMost, kTab], (fun y hy => by
    simp only [List.mem_cons, List.not_mem_nil, or_false] at hy
    rcases hy with rfl | rfl | rfl
    · exact hs
    · exact ht.isT
    · exact hc), (fun _ => by
    show (ds.getD (([s, t, c] : List Int).getD 1 0).toNat nd0).op = 2
    rw [show ([s, t, c] : List Int).getD 1 0 = t from rfl, ht.eq])⟩
theorem may1 {ds : List Nd} {op a : Int} (ho : op = 4 ∨ op = 7) (ha : IsT ds a) : May ds ⟨op, 0, [], [a]⟩ := by
  have hall : ∀ x ∈ [a], 0 ≤ x ∧ x < (ds.length : Int) := fun x hx => by
    rw [List.mem_singleton.1 hx]; exact ha
  rcases ho with rfl | rfl <;>
  exact ⟨by simp, by simp, by simp, .inl rfl, by simp, .inl rfl, by simp [kLeast, kTab], by simp [kMost, kTab], hall, (fun e => by simp at e)⟩
theorem may2 {ds : List Nd} {op a b : Int} (ho : op = 5 ∨ op = 10 ∨ op = 11 ∨ op = 12) (ha : IsT ds a) (hb : IsT ds b) : May ds ⟨op, 0, [], [a, b]⟩ := by
  have hall : ∀ x ∈ [a, b], 0 ≤ x ∧ x < (ds.length : Int) := fun x hx => by
    simp only [List.mem_cons, List.not_mem_nil, or_false] at hx
    rcases hx with rfl | rfl
    · exact ha
    · exact hb
  rcases ho with rfl | rfl | rfl | rfl <;>
  exact ⟨by simp, by simp, by simp, .inl rfl, by simp, .inl rfl, by simp [kLeast, kTab], by simp [kMost, kTab], hall, (fun e => by simp at e)⟩
theorem may4 {ds : List Nd} {op a b c d : Int} (ho : op = 8 ∨ op = 9) (ha : IsT ds a) (hb : IsT ds b) (hc : IsT ds c) (hd : IsT ds d) : May ds ⟨op, 0, [], [a, b, c, d]⟩ := by
  have hall : ∀ x ∈ [a, b, c, d], 0 ≤ x ∧ x < (ds.length : Int) := fun x hx => by
    simp only [List.mem_cons, List.not_mem_nil, or_false] at hx
    rcases hx with rfl | rfl | rfl | rfl
    · exact ha
    · exact hb
    · exact hc
    · exact hd
  rcases ho with rfl | rfl <;>
  exact ⟨by simp, by simp, by simp, .inl rfl, by simp, .inl rfl, by simp [kLeast, kTab], by simp [kMost, kTab], hall, (fun e => by simp at e)⟩

/-! ## what the layer's calls answer -/
/-- The parts of a term of that kind, and whether it is one. -/
def partsB (ds : List Nd) (op t : Int) : Bool := decide (IsT ds t) && decide ((ndAt ds t).op = op)
def partsL (ds : List Nd) (op t : Int) : List Int := if partsB ds op t then ((ndAt ds t).l ++ [0, 0, 0, 0]).take 4 else [0, 0, 0, 0]
/-- All of them are terms. -/
def termsB (ds : List Nd) (l : List Int) : Bool := l.all fun t => decide (IsT ds t)

noncomputable def made (ds : List Nd) (op : Int) (l : List Int) : List Nd × Int × Int := mk ds ⟨op, 0, [], l⟩
noncomputable def expandM (ds : List Nd) (s : Int) (x : List UInt8) (c : Int) : List Nd × Int × Int :=
  let m := mk ds ⟨2, 0, x, []⟩
  if termsB ds [s, c] then if m.2.2 = 0 then made m.1 6 [s, m.2.1, c] else (m.1, 0, m.2.2) else (m.1, 0, 1)
noncomputable def deriveM (ds : List Nd) (s : Int) (x : List UInt8) : List Nd × Int × Int :=
  let m := mk ds ⟨3, 0, [], []⟩
  if termsB ds [s] then if m.2.2 = 0 then expandM m.1 s x m.2.1 else (m.1, 0, m.2.2) else ((mk m.1 ⟨2, 0, x, []⟩).1, 0, 1)
noncomputable def sealM (ds : List Nd) (pk aad plain draw : Int) : List Nd × Int × Int :=
  if partsB ds 7 pk then made ds 8 [pk, aad, plain, draw] else (ds, 0, 1)
def openM (ds : List Nd) (sk aad x : Int) : Int × Int :=
  if termsB ds [sk, aad, x] then
    if partsB ds 8 x = true ∧ partsB ds 7 ((partsL ds 8 x).getD 0 0) = true ∧ (partsL ds 7 ((partsL ds 8 x).getD 0 0)).getD 0 0 = sk ∧ (partsL ds 8 x).getD 1 0 = aad then ((partsL ds 8 x).getD 2 0, 0) else (0, 40)
  else (0, 1)
def unlockM (ds : List Nd) (key nonce aad x : Int) : Int × Int :=
  if termsB ds [key, nonce, aad, x] then
    if partsB ds 9 x = true ∧ (partsL ds 9 x).getD 0 0 = key ∧ (partsL ds 9 x).getD 1 0 = nonce ∧ (partsL ds 9 x).getD 2 0 = aad then ((partsL ds 9 x).getD 3 0, 0) else (0, 40)
  else (0, 1)
def verifyM (ds : List Nd) (pk m sig : Int) : Bool :=
  partsB ds 10 sig && partsB ds 7 pk && decide ((partsL ds 10 sig).getD 0 0 = (partsL ds 7 pk).getD 0 0) && decide ((partsL ds 10 sig).getD 1 0 = m)
def checkM (ds : List Nd) (k m tag : Int) : Bool :=
  partsB ds 11 tag && decide ((partsL ds 11 tag).getD 0 0 = k) && decide ((partsL ds 11 tag).getD 1 0 = m)
noncomputable def unblindM (ds : List Nd) (sig draw : Int) : List Nd × Int × Int :=
  if termsB ds [sig, draw] then
    if partsB ds 10 sig = true ∧ partsB ds 12 ((partsL ds 10 sig).getD 1 0) = true ∧ (partsL ds 12 ((partsL ds 10 sig).getD 1 0)).getD 1 0 = draw then
      made ds 10 [(partsL ds 10 sig).getD 0 0, (partsL ds 12 ((partsL ds 10 sig).getD 1 0)).getD 0 0] else (ds, 0, 40)
  else (ds, 0, 1)

/-! ## no more than three terms at a time -/
def Ext (ds : List Nd) (n : Nat) (es : List Nd) : Prop := ∃ r, es = ds ++ r ∧ r.length ≤ n
theorem Ext.refl (ds : List Nd) (n : Nat) : Ext ds n ds := ⟨[], by simp, by simp⟩
theorem Ext.trans {a b c : List Nd} {m n k : Nat} (h : Ext a m b) (h2 : Ext b n c) (hk : m + n ≤ k) : Ext a k c := by
  obtain ⟨r, rfl, hr⟩ := h
  obtain ⟨s, rfl, hs⟩ := h2
  exact ⟨r ++ s, by simp, by rw [List.length_append]; omega⟩
theorem Ext.mono {a b : List Nd} {m n : Nat} (h : Ext a m b) (hk : m ≤ n) : Ext a n b := by
  obtain ⟨r, rfl, hr⟩ := h
  exact ⟨r, rfl, by omega⟩
theorem ext_mk (ds : List Nd) (d : Nd) : Ext ds 1 (mk ds d).1 := mk_ext1 ds d
theorem ext_expand (ds : List Nd) (s : Int) (x : List UInt8) (c : Int) : Ext ds 2 (expandM ds s x c).1 := by
  unfold expandM
  simp only
  split
  · split
    · exact (ext_mk ds _).trans (ext_mk _ _) (by omega)
    · exact (ext_mk ds _).mono (by omega)
  · exact (ext_mk ds _).mono (by omega)
theorem ext_derive (ds : List Nd) (s : Int) (x : List UInt8) : Ext ds 3 (deriveM ds s x).1 := by
  unfold deriveM
  simp only
  split
  · split
    · exact (ext_mk ds _).trans (ext_expand _ _ _ _) (by omega)
    · exact (ext_mk ds _).mono (by omega)
  · exact (ext_mk ds _).trans (ext_mk _ _) (by omega)
theorem ext_seal (ds : List Nd) (pk aad plain draw : Int) : Ext ds 1 (sealM ds pk aad plain draw).1 := by
  unfold sealM
  split
  · exact ext_mk ds _
  · exact Ext.refl _ _
theorem ext_unblind (ds : List Nd) (sig draw : Int) : Ext ds 1 (unblindM ds sig draw).1 := by
  unfold unblindM
  split
  · split
    · exact ext_mk ds _
    · exact Ext.refl _ _
  · exact Ext.refl _ _

/-! ## what they answer about terms that are known -/
theorem parts_is {ds : List Nd} {t : Int} {d : Nd} (h : Is ds t d) (op : Int) : partsB ds op t = decide (d.op = op) := by
  unfold partsB
  rw [h.at, decide_eq_true h.isT, Bool.true_and]
theorem partsL_is {ds : List Nd} {t : Int} {d : Nd} (h : Is ds t d) : partsL ds d.op t = (d.l ++ [0, 0, 0, 0]).take 4 := by
  unfold partsL
  rw [parts_is h, if_pos (by simp), h.at]
theorem terms_of {ds : List Nd} {l : List Int} (h : ∀ x ∈ l, IsT ds x) : termsB ds l = true := by
  unfold termsB
  rw [List.all_eq_true]
  exact fun x hx => decide_eq_true (h x hx)
theorem terms2 {ds : List Nd} {a b : Int} (ha : IsT ds a) (hb : IsT ds b) : termsB ds [a, b] = true :=
  terms_of fun x hx => by
    simp only [List.mem_cons, List.not_mem_nil, or_false] at hx
    rcases hx with rfl | rfl <;> assumption
theorem terms3 {ds : List Nd} {a b c : Int} (ha : IsT ds a) (hb : IsT ds b) (hc : IsT ds c) : termsB ds [a, b, c] = true :=
  terms_of fun x hx => by
    simp only [List.mem_cons, List.not_mem_nil, or_false] at hx
    rcases hx with rfl | rfl | rfl <;> assumption
theorem terms4 {ds : List Nd} {a b c d : Int} (ha : IsT ds a) (hb : IsT ds b) (hc : IsT ds c) (hd : IsT ds d) : termsB ds [a, b, c, d] = true :=
  terms_of fun x hx => by
    simp only [List.mem_cons, List.not_mem_nil, or_false] at hx
    rcases hx with rfl | rfl | rfl | rfl <;> assumption

theorem open_is {ds : List Nd} {x pk sk aad plain draw a b : Int} (hx : Is ds x ⟨8, 0, [], [pk, aad, plain, draw]⟩) (hp : Is ds pk ⟨7, 0, [], [sk]⟩) (ha : IsT ds a) (hb : IsT ds b) :
    openM ds a b x = if a = sk ∧ b = aad then (plain, 0) else (0, 40) := by
  have e1 := partsL_is hx
  have e2 := partsL_is hp
  simp only at e1 e2
  unfold openM
  rw [terms3 ha hb hx.isT, if_pos rfl, parts_is hx, e1]
  simp only [List.cons_append, List.nil_append, List.take_succ_cons, List.take_zero, List.getD_cons_zero, List.getD_cons_succ]
  rw [parts_is hp, e2]
  simp only [List.cons_append, List.nil_append, List.take_succ_cons, List.take_zero, List.getD_cons_zero, List.getD_cons_succ, decide_true, true_and]
  by_cases h : a = sk ∧ b = aad
  · rw [if_pos h, if_pos ⟨h.1.symm, h.2.symm⟩]
  · rw [if_neg h, if_neg (fun e => h ⟨e.1.symm, e.2.symm⟩)]
theorem unlock_is {ds : List Nd} {x key nonce aad plain a b c : Int} (hx : Is ds x ⟨9, 0, [], [key, nonce, aad, plain]⟩) (ha : IsT ds a) (hb : IsT ds b) (hc : IsT ds c) :
    unlockM ds a b c x = if a = key ∧ b = nonce ∧ c = aad then (plain, 0) else (0, 40) := by
  have e1 := partsL_is hx
  simp only at e1
  unfold unlockM
  rw [terms4 ha hb hc hx.isT, if_pos rfl, parts_is hx, e1]
  simp only [List.cons_append, List.nil_append, List.take_succ_cons, List.take_zero, List.getD_cons_zero, List.getD_cons_succ, decide_true, true_and]
  by_cases h : a = key ∧ b = nonce ∧ c = aad
  · rw [if_pos h, if_pos ⟨h.1.symm, h.2.1.symm, h.2.2.symm⟩]
  · rw [if_neg h, if_neg (fun e => h ⟨e.1.symm, e.2.1.symm, e.2.2.symm⟩)]
theorem verify_is {ds : List Nd} {x pk sk s m n : Int} (hx : Is ds x ⟨10, 0, [], [s, m]⟩) (hp : Is ds pk ⟨7, 0, [], [sk]⟩) : verifyM ds pk n x = decide (s = sk ∧ m = n) := by
  have e1 := partsL_is hx
  have e2 := partsL_is hp
  simp only at e1 e2
  unfold verifyM
  rw [parts_is hx, parts_is hp, e1, e2]
  simp [Bool.decide_and]
theorem check_is {ds : List Nd} {x k m a n : Int} (hx : Is ds x ⟨11, 0, [], [k, m]⟩) : checkM ds a n x = decide (k = a ∧ m = n) := by
  have e1 := partsL_is hx
  simp only at e1
  unfold checkM
  rw [parts_is hx, e1]
  simp [Bool.decide_and]
theorem unblind_is {ds : List Nd} {x b s m draw d : Int} (hx : Is ds x ⟨10, 0, [], [s, b]⟩) (hb : Is ds b ⟨12, 0, [], [m, draw]⟩) (hd : IsT ds d) :
    unblindM ds x d = if d = draw then made ds 10 [s, m] else (ds, 0, 40) := by
  have e1 := partsL_is hx
  have e2 := partsL_is hb
  simp only at e1 e2
  unfold unblindM
  rw [terms2 hx.isT hd, if_pos rfl, parts_is hx, e1]
  simp only [List.cons_append, List.nil_append, List.take_succ_cons, List.take_zero, List.getD_cons_zero, List.getD_cons_succ]
  rw [parts_is hb, e2]
  simp only [List.cons_append, List.nil_append, List.take_succ_cons, List.take_zero, List.getD_cons_zero, List.getD_cons_succ, decide_true, true_and]
  by_cases h : d = draw
  · rw [if_pos h, if_pos h.symm]
  · rw [if_neg h, if_neg (fun e => h e.symm)]
theorem seal_is {ds : List Nd} {pk sk aad plain draw : Int} (hp : Is ds pk ⟨7, 0, [], [sk]⟩) : sealM ds pk aad plain draw = made ds 8 [pk, aad, plain, draw] := by
  unfold sealM
  rw [parts_is hp, if_pos (by simp)]
/-- Expand, of terms, and a label that is short. -/
theorem expand_is {ds : List Nd} {s c : Int} {x : List UInt8} (hs : IsT ds s) (hc : IsT ds c) (hx : x.length ≤ 200) (hl : ds.length < 99998) :
    ∃ r y t, expandM ds s x c = (ds ++ r, y, 0) ∧ r.length ≤ 2 ∧ Is (ds ++ r) t ⟨2, 0, x, []⟩ ∧ Is (ds ++ r) y ⟨6, 0, [], [s, t, c]⟩ := by
  obtain ⟨r1, t, h1, h2, h3⟩ := mk_is (may_text ds hx) (by omega)
  obtain ⟨r2, y, h4, h5, h6⟩ := mk_is (may_key (hs.more r1) h3 (hc.more r1)) (by rw [List.length_append]; omega)
  refine ⟨r1 ++ r2, y, t, ?_, by rw [List.length_append]; omega, ?_, ?_⟩
  · unfold expandM made
    simp only [h1, terms2 hs hc, if_true, h4, List.append_assoc]
  · rw [← List.append_assoc]; exact h3.more r2
  · rw [← List.append_assoc]; exact h6
end Go.Proofs.YtangbnmgkcmhbaaDoor
end

section
/- What can be derived: the rules, the least that has them; how what is to be gone through comes to it. Plain facts; nothing here names a program. -/
set_option linter.unusedSimpArgs false
set_option linter.unusedVariables false
namespace Go.Proofs.YtangbnmgkcmhbaaDoor
open Go

/-- The node of a term. -/
def nd (ds : List Nd) (t : Int) : Nd := ds.getD t.toNat nd0
/-- A rule: once all of src can be derived, all of to can. -/
structure Rl where
  src : List Int
  to : List Int
def rl0 : Rl := ⟨[], []⟩

/-- The secret key of a Seal of a Pub. -/
def sealedTo (ds : List Nd) (d : Nd) : Option Int := if d.op = 8 then (if (nd ds (d.l.getD 0 0)).op = 7 then some ((nd ds (d.l.getD 0 0)).l.getD 0 0) else none) else none
/-- The Sig of a key and a message, if there is one. -/
def sigAt (ds : List Nd) (k m : Int) : Option Int := (find ds ⟨10, 0, [], [k, m]⟩).map Int.ofNat

def openRules (ds : List Nd) (t : Int) (d : Nd) : List Rl :=
  if d.op = 3 then [⟨[t], d.l⟩]
  else if d.op = 8 then (match sealedTo ds d with | some sk => [⟨[t, sk], (d.l.drop 1).take 2⟩] | none => [])
  else if d.op = 9 then [⟨[t, d.l.getD 0 0], d.l.drop 1⟩]
  else if d.op = 12 then [⟨[t, d.l.getD 1 0], d.l.take 1⟩]
  else if d.op = 10 then ⟨[t], d.l.drop 1⟩ :: (if (nd ds (d.l.getD 1 0)).op = 12 then (match sigAt ds (d.l.getD 0 0) ((nd ds (d.l.getD 1 0)).l.getD 0 0) with | some s => [⟨[t, (nd ds (d.l.getD 1 0)).l.getD 1 0], [s]⟩] | none => []) else [])
  else []
def rulesAt (ds : List Nd) (t : Nat) : List Rl :=
  (if (ds.getD t nd0).op = 1 then [] else [⟨(ds.getD t nd0).l, [(t : Int)]⟩]) ++ openRules ds t (ds.getD t nd0)
def rules (ds : List Nd) : List Rl := (List.range ds.length).flatMap (rulesAt ds)

/-- What can be derived of l. -/
inductive Der (ds : List Nd) (l : List Int) : Int → Prop
  | base {t : Int} : t ∈ l → Der ds l t
  | step {t : Int} (r : Rl) : r ∈ rules ds → (∀ x ∈ r.src, Der ds l x) → t ∈ r.to → Der ds l t

theorem Der.mono {ds : List Nd} {l m : List Int} (h : ∀ x ∈ l, Der ds m x) {t : Int} (k : Der ds l t) : Der ds m t := by
  induction k with
  | base h1 => exact h _ h1
  | step r h1 _ h3 ih => exact .step r h1 ih h3

/-! ## what the parts of terms are -/
theorem nd_of {ds : List Nd} {t : Nat} : nd ds (t : Int) = ds.getD t nd0 := by simp [nd]
theorem isT_nat {ds : List Nd} {t : Int} (h : IsT ds t) : ∃ n : Nat, t = n ∧ n < ds.length := ⟨t.toNat, by have := h.1; omega, by have := h.1; have := h.2; omega⟩
theorem Good.mayT {ds : List Nd} (hg : Good ds) {t : Int} (h : IsT ds t) : May ds (nd ds t) := by
  obtain ⟨n, rfl, hn⟩ := isT_nat h
  rw [nd_of]; exact hg.may' hn
theorem Good.lessT {ds : List Nd} (hg : Good ds) {t : Int} (h : IsT ds t) : ∀ x ∈ (nd ds t).l, 0 ≤ x ∧ x < t := by
  obtain ⟨n, rfl, hn⟩ := isT_nat h
  rw [nd_of]
  exact fun x hx => by have := hg.lesser hn x hx; omega
theorem Good.partT {ds : List Nd} (hg : Good ds) {t : Int} (h : IsT ds t) : ∀ x ∈ (nd ds t).l, IsT ds x := fun x hx => by
  have h1 := hg.lessT h x hx
  exact ⟨h1.1, by have := h.2; omega⟩
theorem May.lenOf {ds : List Nd} {d : Nd} (h : May ds d) {o n : Int} (ho : d.op = o) (h1 : kLeast o = n) (h2 : kMost o = n) : (d.l.length : Int) = n := by
  have a := h.least
  have b := h.most
  rw [ho] at a b
  omega
theorem getD_mem {l : List Int} {i : Nat} (h : i < l.length) : l.getD i 0 ∈ l := by
  rw [List.getD_eq_getElem?_getD, List.getElem?_eq_getElem h]; exact List.getElem_mem h
theorem May.p1 {ds : List Nd} {d : Nd} (h : May ds d) (ho : d.op = 7 ∨ d.op = 4) : d.l.length = 1 := by
  rcases ho with ho | ho
  · have := h.lenOf (n := 1) ho (by decide) (by decide); omega
  · have := h.lenOf (n := 1) ho (by decide) (by decide); omega
theorem May.p2 {ds : List Nd} {d : Nd} (h : May ds d) (ho : d.op = 10 ∨ d.op = 12) : d.l.length = 2 := by
  rcases ho with ho | ho
  · have := h.lenOf (n := 2) ho (by decide) (by decide); omega
  · have := h.lenOf (n := 2) ho (by decide) (by decide); omega
theorem May.p4 {ds : List Nd} {d : Nd} (h : May ds d) (ho : d.op = 8 ∨ d.op = 9) : d.l.length = 4 := by
  rcases ho with ho | ho
  · have := h.lenOf (n := 4) ho (by decide) (by decide); omega
  · have := h.lenOf (n := 4) ho (by decide) (by decide); omega
theorem sealed_some {ds : List Nd} {d : Nd} {sk : Int} (h : sealedTo ds d = some sk) : d.op = 8 ∧ (nd ds (d.l.getD 0 0)).op = 7 ∧ sk = (nd ds (d.l.getD 0 0)).l.getD 0 0 := by
  unfold sealedTo at h
  split at h
  · split at h
    · exact ⟨by assumption, by assumption, (Option.some.inj h).symm⟩
    · cases h
  · cases h
theorem sig_some {ds : List Nd} {k m s : Int} (h : sigAt ds k m = some s) : IsT ds s ∧ nd ds s = ⟨10, 0, [], [k, m]⟩ := by
  unfold sigAt at h
  obtain ⟨i, hi, rfl⟩ := Option.map_eq_some_iff.1 h
  obtain ⟨h1, h2⟩ := find_some hi
  refine ⟨⟨by simp, by simpa using h1⟩, ?_⟩
  rw [show Int.ofNat i = (i : Int) from rfl, nd_of]; exact h2
/-- A Sig is its key and its message. -/
theorem Good.sigEq {ds : List Nd} (hg : Good ds) {t : Int} (h : IsT ds t) (ho : (nd ds t).op = 10) : nd ds t = ⟨10, 0, [], [(nd ds t).l.getD 0 0, (nd ds t).l.getD 1 0]⟩ := by
  have m := hg.mayT h
  have hl := m.p2 (.inl ho)
  refine nd_ext ho (m.n1.resolve_right (by omega)) (m.s1.resolve_right (by omega)) ?_
  generalize (nd ds t).l = l at hl
  match l, hl with
  | [a, b], _ => rfl
theorem Good.sigAt_eq {ds : List Nd} (hg : Good ds) {t : Int} (h : IsT ds t) (ho : (nd ds t).op = 10) : sigAt ds ((nd ds t).l.getD 0 0) ((nd ds t).l.getD 1 0) = some t := by
  have e := hg.sigEq h ho
  obtain ⟨n, rfl, hn⟩ := isT_nat h
  unfold sigAt
  rw [← e, hg.findAt hn nd_of.symm]; rfl

/-- What the rules of a term say are terms. -/
theorem openRules_terms {ds : List Nd} (hg : Good ds) {t : Int} (h : IsT ds t) : ∀ r ∈ openRules ds t (nd ds t), (∀ x ∈ r.src, IsT ds x) ∧ (∀ x ∈ r.to, IsT ds x) ∧ r.src ≠ [] := by
  have hp := hg.partT h
  have m := hg.mayT h
  intro r hr
  unfold openRules at hr
  split at hr
  · obtain rfl := List.mem_singleton.1 hr
    exact ⟨fun x hx => by rw [List.mem_singleton.1 hx]; exact h, hp, by simp⟩
  split at hr
  · split at hr
    · rename_i ho _ sk hs
      obtain ⟨h1, h2, h3⟩ := sealed_some hs
      obtain rfl := List.mem_singleton.1 hr
      have l4 := m.p4 (.inl ho)
      have hk : IsT ds ((nd ds t).l.getD 0 0) := hp _ (getD_mem (by omega))
      have mk := hg.mayT hk
      have hks : IsT ds sk := by rw [h3]; exact hg.partT hk _ (getD_mem (by have := mk.p1 (.inl h2); omega))
      refine ⟨fun x hx => ?_, fun x hx => hp x (List.mem_of_mem_drop (List.mem_of_mem_take hx)), by simp⟩
      simp only [List.mem_cons, List.not_mem_nil, or_false] at hx
      rcases hx with rfl | rfl
      · exact h
      · exact hks
    · cases hr
  split at hr
  · rename_i ho
    obtain rfl := List.mem_singleton.1 hr
    have l4 := m.p4 (.inr ho)
    refine ⟨fun x hx => ?_, fun x hx => hp x (List.mem_of_mem_drop hx), by simp⟩
    simp only [List.mem_cons, List.not_mem_nil, or_false] at hx
    rcases hx with rfl | rfl
    · exact h
    · exact hp _ (getD_mem (by omega))
  split at hr
  · rename_i ho
    obtain rfl := List.mem_singleton.1 hr
    have l2 := m.p2 (.inr ho)
    refine ⟨fun x hx => ?_, fun x hx => hp x (List.mem_of_mem_take hx), by simp⟩
    simp only [List.mem_cons, List.not_mem_nil, or_false] at hx
    rcases hx with rfl | rfl
    · exact h
    · exact hp _ (getD_mem (by omega))
  split at hr
  · rename_i ho
    have l2 := m.p2 (.inl ho)
    rcases List.mem_cons.1 hr with rfl | hr
    · exact ⟨fun x hx => by rw [List.mem_singleton.1 hx]; exact h, fun x hx => hp x (List.mem_of_mem_drop hx), by simp⟩
    · split at hr
      · rename_i hb
        split at hr
        · rename_i s hs
          obtain rfl := List.mem_singleton.1 hr
          have hm : IsT ds ((nd ds t).l.getD 1 0) := hp _ (getD_mem (by omega))
          have mm := hg.mayT hm
          refine ⟨fun x hx => ?_, fun x hx => by rw [List.mem_singleton.1 hx]; exact (sig_some hs).1, by simp⟩
          simp only [List.mem_cons, List.not_mem_nil, or_false] at hx
          rcases hx with rfl | rfl
          · exact h
          · exact hg.partT hm _ (getD_mem (by have := mm.p2 (.inr hb); omega))
        · cases hr
      · cases hr
  · cases hr
theorem rulesAt_terms {ds : List Nd} (hg : Good ds) {t : Nat} (h : t < ds.length) : ∀ r ∈ rulesAt ds t, (∀ x ∈ r.src, IsT ds x) ∧ (∀ x ∈ r.to, IsT ds x) := by
  have hT : IsT ds (t : Int) := ⟨by omega, by omega⟩
  intro r hr
  unfold rulesAt at hr
  rcases List.mem_append.1 hr with hr | hr
  · split at hr
    · cases hr
    · obtain rfl := List.mem_singleton.1 hr
      exact ⟨by rw [← nd_of]; exact hg.partT hT, fun x hx => by rw [List.mem_singleton.1 hx]; exact hT⟩
  · rw [← nd_of] at hr
    obtain ⟨a, b, _⟩ := openRules_terms hg hT r hr
    exact ⟨a, b⟩
theorem rules_mem {ds : List Nd} {r : Rl} : r ∈ rules ds ↔ ∃ t, t < ds.length ∧ r ∈ rulesAt ds t := by
  unfold rules
  simp only [List.mem_flatMap, List.mem_range]
theorem rules_terms {ds : List Nd} (hg : Good ds) {r : Rl} (hr : r ∈ rules ds) : (∀ x ∈ r.src, IsT ds x) ∧ (∀ x ∈ r.to, IsT ds x) := by
  obtain ⟨t, ht, h⟩ := rules_mem.1 hr
  exact rulesAt_terms hg ht r h
theorem Der.isT {ds : List Nd} (hg : Good ds) {l : List Int} (hl : ∀ x ∈ l, IsT ds x) {t : Int} (h : Der ds l t) : IsT ds t := by
  cases h with
  | base h => exact hl _ h
  | step r h1 h2 h3 => exact (rules_terms hg h1).2 _ h3

/-! ## what can be derived is closed -/
theorem Der.made {ds : List Nd} {l : List Int} {t : Int} (ht : IsT ds t) (ho : (nd ds t).op ≠ 1) (h : ∀ x ∈ (nd ds t).l, Der ds l x) : Der ds l t := by
  obtain ⟨n, rfl, hn⟩ := isT_nat ht
  refine .step ⟨(nd ds (n : Int)).l, [(n : Int)]⟩ (rules_mem.2 ⟨n, hn, ?_⟩) h (by simp)
  unfold rulesAt
  rw [nd_of] at ho ⊢
  rw [if_neg ho]
  simp
theorem Der.opened {ds : List Nd} {l : List Int} {t x : Int} (ht : IsT ds t) {r : Rl} (hr : r ∈ openRules ds t (nd ds t)) (h : ∀ x ∈ r.src, Der ds l x) (hx : x ∈ r.to) : Der ds l x := by
  obtain ⟨n, rfl, hn⟩ := isT_nat ht
  refine .step r (rules_mem.2 ⟨n, hn, ?_⟩) h hx
  unfold rulesAt
  rw [nd_of] at hr
  exact List.mem_append_right _ hr

/-! ## what is still to be gone through -/
def know1 (s : List Bool × List Int) (t : Int) : List Bool × List Int := if s.1.getD t.toNat false = true then s else (s.1.set t.toNat true, s.2 ++ [t])
def know (s : List Bool × List Int) (l : List Int) : List Bool × List Int := l.foldl know1 s
theorem know_take (s : List Bool × List Int) (l : List Int) (k : Nat) (h : k < l.length) : know s (l.take (k + 1)) = know1 (know s (l.take k)) (l.getD k 0) := by
  unfold know
  rw [List.take_succ_eq_append_getElem h, List.foldl_append, List.getD_eq_getElem?_getD, List.getElem?_eq_getElem h]
  rfl

/-- P was gone through, E is being, td is to be; these, and no others, are known, and all are good. -/
structure WL (n : Nat) (G : Int → Prop) (P E : List Int) (s : List Bool × List Int) : Prop where
  len : s.1.length = n
  mem : ∀ x : Int, 0 ≤ x → x < n → (s.1.getD x.toNat false = true ↔ x ∈ P ++ E ++ s.2)
  rng : ∀ x ∈ P ++ E ++ s.2, 0 ≤ x ∧ x < n
  nodup : (P ++ E ++ s.2).Nodup
  good : ∀ x ∈ P ++ E ++ s.2, G x

theorem getD_set_b (l : List Bool) (i j : Nat) (b : Bool) : (l.set i b).getD j false = if i = j ∧ i < l.length then b else l.getD j false := by
  simp only [List.getD_eq_getElem?_getD, List.getElem?_set]
  by_cases h : i = j
  · subst h
    by_cases h2 : i < l.length
    · simp [h2]
    · simp [h2]
  · simp [h]

theorem WL.know1 {n : Nat} {G : Int → Prop} {P E : List Int} {s : List Bool × List Int} (h : WL n G P E s) {t : Int} (h0 : 0 ≤ t) (h1 : t < n) (hg : G t) :
    WL n G P E (know1 s t) ∧ t ∈ P ++ E ++ (YtangbnmgkcmhbaaDoor.know1 s t).2 ∧ ∀ x, x ∈ P ++ E ++ s.2 → x ∈ P ++ E ++ (YtangbnmgkcmhbaaDoor.know1 s t).2 := by
  unfold YtangbnmgkcmhbaaDoor.know1
  by_cases c : s.1.getD t.toNat false = true
  · rw [if_pos c]
    exact ⟨h, (h.mem t h0 h1).1 c, fun x hx => hx⟩
  · rw [if_neg c]
    have hn : t ∉ P ++ E ++ s.2 := fun hm => c ((h.mem t h0 h1).2 hm)
    have e : P ++ E ++ (s.2 ++ [t]) = (P ++ E ++ s.2) ++ [t] := by simp
    refine ⟨⟨by simp [h.len], fun x hx0 hx1 => ?_, fun x hx => ?_, ?_, fun x hx => ?_⟩, by simp, fun x hx => by simp only at hx ⊢; rw [e]; exact List.mem_append_left _ hx⟩
    · rw [getD_set_b, e, List.mem_append, List.mem_singleton]
      by_cases ct : x = t
      · subst ct
        rw [if_pos ⟨rfl, by rw [h.len]; omega⟩]
        simp
      · rw [if_neg (by omega)]
        rw [h.mem x hx0 hx1]
        simp [ct]
    · simp only at hx
      rw [e, List.mem_append, List.mem_singleton] at hx
      rcases hx with hx | rfl
      · exact h.rng x hx
      · exact ⟨h0, h1⟩
    · show (P ++ E ++ (s.2 ++ [t])).Nodup
      rw [e, List.nodup_append]
      exact ⟨h.nodup, by simp, fun x hx y hy => by rw [List.mem_singleton.1 hy]; exact fun e => hn (e ▸ hx)⟩
    · simp only at hx
      rw [e, List.mem_append, List.mem_singleton] at hx
      rcases hx with hx | rfl
      · exact h.good x hx
      · exact hg
theorem WL.know {n : Nat} {G : Int → Prop} {P E : List Int} {s : List Bool × List Int} (h : WL n G P E s) (l : List Int) (hl : ∀ x ∈ l, (0 ≤ x ∧ x < (n : Int)) ∧ G x) :
    WL n G P E (know s l) ∧ (∀ x ∈ l, x ∈ P ++ E ++ (YtangbnmgkcmhbaaDoor.know s l).2) ∧ ∀ x, x ∈ P ++ E ++ s.2 → x ∈ P ++ E ++ (YtangbnmgkcmhbaaDoor.know s l).2 := by
  induction l generalizing s with
  | nil => exact ⟨h, (fun x hx => by cases hx), fun x hx => hx⟩
  | cons a l ih =>
    have ha := hl a List.mem_cons_self
    obtain ⟨h1, h2, h3⟩ := h.know1 ha.1.1 ha.1.2 ha.2
    obtain ⟨i1, i2, i3⟩ := ih h1 (fun x hx => hl x (List.mem_cons_of_mem _ hx))
    refine ⟨i1, fun x hx => ?_, fun x hx => i3 x (h3 x hx)⟩
    rcases List.mem_cons.1 hx with rfl | hx
    · exact i3 _ h2
    · exact i2 x hx
theorem nodup_leN {l m : List Nat} (h : l.Nodup) (hs : ∀ x ∈ l, x ∈ m) : l.length ≤ m.length := by
  induction l generalizing m with
  | nil => simp
  | cons a l ih =>
    have h1 := List.nodup_cons.1 h
    have hm := hs a List.mem_cons_self
    have := ih h1.2 (m := m.erase a) (fun x hx => by
      refine (List.mem_erase_of_ne (fun (e : x = a) => h1.1 (e ▸ hx))).2 (hs x (List.mem_cons_of_mem _ hx)))
    rw [List.length_erase_of_mem hm] at this
    have := List.length_pos_of_mem hm
    simp only [List.length_cons]
    omega
theorem WL.lenle {n : Nat} {G : Int → Prop} {P E : List Int} {s : List Bool × List Int} (h : WL n G P E s) : (P ++ E ++ s.2).length ≤ n := by
  have h1 : ((P ++ E ++ s.2).map Int.toNat).Nodup := by
    refine List.nodup_iff_pairwise_ne.2 ?_
    rw [List.pairwise_map]
    refine List.Pairwise.imp_of_mem (R := fun a b => a ≠ b) ?_ (List.nodup_iff_pairwise_ne.1 h.nodup)
    intro a b ha hb hne e
    have := (h.rng a ha).1; have := (h.rng b hb).1
    omega
  have h2 : (P ++ E ++ s.2).map Int.toNat ⊆ List.range n := fun x hx => by
    obtain ⟨y, hy, rfl⟩ := List.mem_map.1 hx
    have := h.rng y hy
    rw [List.mem_range]; omega
  have := nodup_leN h1 h2
  simpa using this

/-- Which rules wait for each term. -/
structure Waits (n : Nat) (rs : List Rl) (ws : List (List Int)) : Prop where
  len : ws.length = n
  rng : ∀ x, x < n → ∀ i ∈ ws.getD x [], 0 ≤ i ∧ i < rs.length
  cnt : ∀ x, x < n → ∀ i, i < rs.length → (ws.getD x []).count (i : Int) = (rs.getD i rl0).src.count (x : Int)
  few : ∀ x, x < n → (ws.getD x []).length ≤ (rs.map fun r => r.src.length).sum

/-- What is missing of each rule's, behind P and some of those (w) that wait for what is gone through. -/
structure Miss (rs : List Rl) (ms : List Int) (P w : List Int) (K : Int → Prop) : Prop where
  len : ms.length = rs.length
  cnt : ∀ i, i < rs.length → ms.getD i 0 + (w.count (i : Int) : Int) = ((rs.getD i rl0).src.countP (fun x => !P.contains x) : Int)
  done : ∀ i, i < rs.length → ms.getD i 0 = 0 → ∀ y ∈ (rs.getD i rl0).to, K y

theorem countP_snoc (l P : List Int) (t : Int) (h : t ∉ P) : l.countP (fun x => !P.contains x) = l.countP (fun x => !(P ++ [t]).contains x) + l.count t := by
  induction l with
  | nil => simp
  | cons a l ih =>
    rw [List.countP_cons, List.countP_cons, List.count_cons, ih]
    by_cases c : a = t
    · subst c
      simp [h]
      omega
    · by_cases d : a ∈ P
      · simp [c, d]
      · simp [c, d]; omega
theorem countP_zero {l P : List Int} (h : l.countP (fun x => !P.contains x) = 0) : ∀ x ∈ l, x ∈ P := fun x hx => by
  have := List.countP_eq_zero.1 h x hx
  simpa using this
theorem getD_set_i (l : List Int) (i j : Nat) (b : Int) : (l.set i b).getD j 0 = if i = j ∧ i < l.length then b else l.getD j 0 := by
  simp only [List.getD_eq_getElem?_getD, List.getElem?_set]
  by_cases h : i = j
  · subst h
    by_cases h2 : i < l.length
    · simp [h2]
    · simp [h2]
  · simp [h]

/-- Ahead of all. -/
theorem Miss.start {rs : List Rl} {ms : List Int} {K : Int → Prop} (hl : ms.length = rs.length) (hm : ∀ i, i < rs.length → ms.getD i 0 = ((rs.getD i rl0).src.length : Int)) (hs : ∀ r ∈ rs, r.src ≠ []) : Miss rs ms [] [] K := by
  refine ⟨hl, fun i hi => ?_, fun i hi h => ?_⟩
  · rw [hm i hi]
    have : (rs.getD i rl0).src.countP (fun x => !([] : List Int).contains x) = (rs.getD i rl0).src.length := by
      rw [List.countP_eq_length]; simp
    rw [this]; simp
  · rw [hm i hi] at h
    have hr : rs.getD i rl0 ∈ rs := by rw [List.getD_eq_getElem?_getD, List.getElem?_eq_getElem hi]; exact List.getElem_mem hi
    have := hs _ hr
    cases hc : (rs.getD i rl0).src with
    | nil => exact absurd hc this
    | cons a b => rw [hc] at h; simp at h; omega
theorem Miss.mono {rs : List Rl} {ms P w : List Int} {K L : Int → Prop} (h : Miss rs ms P w K) (hk : ∀ x, K x → L x) : Miss rs ms P w L := ⟨h.len, h.cnt, fun i hi h0 y hy => hk y (h.done i hi h0 y hy)⟩
/-- One that waits hears of it. -/
theorem Miss.hear {rs : List Rl} {ms P w : List Int} {K L : Int → Prop} (h : Miss rs ms P w K) {i : Nat} (hi : i < rs.length) (hk : ∀ x, K x → L x) (hd : ms.getD i 0 - 1 = 0 → ∀ y ∈ (rs.getD i rl0).to, L y) :
    Miss rs (ms.set i (ms.getD i 0 - 1)) P (w ++ [(i : Int)]) L := by
  refine ⟨by simp [h.len], fun j hj => ?_, fun j hj => ?_⟩
  · rw [getD_set_i, List.count_append, List.count_singleton]
    have := h.cnt j hj
    by_cases c : i = j
    · subst c
      rw [if_pos ⟨rfl, by rw [h.len]; exact hi⟩, if_pos (by simp)]
      omega
    · rw [if_neg (fun e => c e.1)]
      have : ((i : Int) == (j : Int)) = false := by rw [beq_eq_false_iff_ne]; omega
      rw [this]
      simpa using h.cnt j hj
  · rw [getD_set_i]
    by_cases c : i = j
    · subst c
      rw [if_pos ⟨rfl, by rw [h.len]; exact hi⟩]
      exact hd
    · rw [if_neg (fun e => c e.1)]
      exact fun h0 y hy => hk y (h.done j hj h0 y hy)
/-- All that wait for t have heard of it. -/
theorem Miss.over {n : Nat} {rs : List Rl} {ms P : List Int} {K : Int → Prop} {ws : List (List Int)} {t : Nat} (hw : Waits n rs ws) (ht : t < n) (h : Miss rs ms P (ws.getD t []) K) (hn : (t : Int) ∉ P) : Miss rs ms (P ++ [(t : Int)]) [] K := by
  refine ⟨h.len, fun i hi => ?_, h.done⟩
  have h1 := h.cnt i hi
  rw [hw.cnt t ht i hi, countP_snoc _ P t hn] at h1
  simp
  simp at h1
  omega
/-- Who hears of the last that was missing has all. -/
theorem Miss.all {n : Nat} {rs : List Rl} {ms P : List Int} {K : Int → Prop} {ws : List (List Int)} {t k : Nat} (hw : Waits n rs ws) (ht : t < n) (hn : (t : Int) ∉ P) (hk : k < (ws.getD t []).length) (h : Miss rs ms P ((ws.getD t []).take k) K) {i : Nat} (hi : i < rs.length) (he : (ws.getD t []).getD k 0 = (i : Int)) (h0 : ms.getD i 0 - 1 = 0) : ∀ x ∈ (rs.getD i rl0).src, x ∈ P ++ [(t : Int)] := by
  have h1 := h.cnt i hi
  have h2 : (((ws.getD t []).take (k + 1)).count (i : Int)) ≤ (ws.getD t []).count (i : Int) := by
    exact (List.take_sublist _ _).count_le _
  rw [List.take_succ_eq_append_getElem hk, List.count_append, List.count_singleton] at h2
  have he' : (ws.getD t [])[k] = (i : Int) := by
    rw [List.getD_eq_getElem?_getD, List.getElem?_eq_getElem hk, Option.getD_some] at he
    exact he
  rw [he'] at h2
  simp only [beq_self_eq_true, if_true] at h2
  rw [hw.cnt t ht i hi, ] at h2
  rw [countP_snoc _ P t hn] at h1
  refine countP_zero ?_
  omega

/-- At the end: what is known is what can be derived. -/
theorem derived_all {ds : List Nd} {l : List Int} {rs : List Rl} {ms P : List Int} {s : List Bool × List Int} (hg : Good ds) (hl : ∀ x ∈ l, IsT ds x)
    (h : WL ds.length (Der ds l) P [] s) (he : s.2 = []) (hm : Miss rs ms P [] (fun x => x ∈ P ++ [] ++ s.2)) (hb : ∀ x ∈ l, x ∈ P ++ [] ++ s.2)
    (hr : ∀ r ∈ rules ds, (r.src = [] ∧ ∀ x ∈ r.to, x ∈ P ++ [] ++ s.2) ∨ r ∈ rs) : ∀ t : Nat, t < ds.length → (s.1.getD t false = true ↔ Der ds l (t : Int)) := by
  have key : ∀ x, Der ds l x → x ∈ P ++ [] ++ s.2 := by
   intro x hd
   induction hd with
   | base h1 => exact hb _ h1
   | step r h1 _ h3 ih =>
     rcases hr r h1 with ⟨_, h4⟩ | h4
     · exact h4 _ h3
     · obtain ⟨i, hi, rfl⟩ := List.getElem_of_mem h4
       have e : rs.getD i rl0 = rs[i] := by rw [List.getD_eq_getElem?_getD, List.getElem?_eq_getElem hi]; rfl
       rw [← e] at h3 ih
       refine hm.done i hi ?_ _ h3
       have hc := hm.cnt i hi
       have hz : (rs.getD i rl0).src.countP (fun x => !P.contains x) = 0 := by
         rw [List.countP_eq_zero]
         intro x hx
         have := ih x hx
         rw [he] at this
         simpa using this
       rw [hz] at hc
       simpa using hc
  intro t ht
  have hmem := h.mem (t : Int) (by omega) (by omega)
  rw [Int.toNat_natCast] at hmem
  rw [hmem]
  exact ⟨fun hx => h.good _ hx, key _⟩
end Go.Proofs.YtangbnmgkcmhbaaDoor
end

section
/- What terms look like: patterns. Plain facts; nothing here names a program. -/
set_option linter.unusedSimpArgs false
set_option linter.unusedVariables false
namespace Go.Proofs.YtangbnmgkcmhbaaDoor
open Go

def pName (op : Int) : List UInt8 := if op = 1 then [97, 116, 111, 109] else kName op
/-- A term's number among those that have one, or that it gets. -/
def numAt (a : List Int) (t : Int) : Nat := a.idxOf t
def addN (a : List Int) (t : Int) : List Int := if t ∈ a then a else a ++ [t]

abbrev PO := List Int → Int → List UInt8 × List Int
def pts (one : PO) : Bool → List Int → List Int → List UInt8 × List Int
  | _, a, [] => ([], a)
  | first, a, x :: l => ((if first then [] else [44]) ++ ((one a x).1 ++ (pts one false (one a x).2 l).1), (pts one false (one a x).2 l).2)
def br (h : List UInt8) (r : List UInt8 × List Int) : List UInt8 × List Int := (h ++ 40 :: (r.1 ++ [41]), r.2)
def compound (kn : Int → Bool) (d : Nd) : Bool := d.op == 3 || (d.op != 1 && d.l.all kn)
def shownOf (ds : List Nd) (kn : Int → Bool) (d : Nd) : Option (List Int) :=
  if d.op = 10 then some (d.l.drop 1) else match sealedTo ds d with
    | some sk => if kn sk = true then some ((d.l.drop 1).take 2) else none
    | none => none
def headOf (a : List Int) (d : Nd) (t : Int) : List UInt8 := pName d.op ++ 35 :: Lib.itoa (numAt a t)
def pstep (ds : List Nd) (kn : Int → Bool) (one : PO) (a : List Int) (t : Int) : List UInt8 × List Int :=
  if (nd ds t).op = 2 then (34 :: ((nd ds t).s ++ [34]), a)
  else if compound kn (nd ds t) = true then br (pName (nd ds t).op) (pts one true a (nd ds t).l)
  else match shownOf ds kn (nd ds t) with
    | some l => br (headOf a (nd ds t) t) (pts one true (addN a t) l)
    | none => (headOf a (nd ds t) t, addN a t)
def pt (ds : List Nd) (kn : Int → Bool) : Nat → PO
  | 0, a, _ => ([], a)
  | f + 1, a, t => pstep ds kn (pt ds kn f) a t
/-- A term's pattern, and the terms that then have numbers. -/
def pat (ds : List Nd) (kn : Int → Bool) : PO := fun a t => pt ds kn (t.toNat + 1) a t

theorem pts_congr {one two : PO} {l : List Int} (h : ∀ a, ∀ x ∈ l, one a x = two a x) (f : Bool) (a : List Int) : pts one f a l = pts two f a l := by
  induction l generalizing f a with
  | nil => rfl
  | cons x l ih =>
    have h1 := h a x List.mem_cons_self
    simp only [pts]
    rw [h1, ih (fun a y hy => h a y (List.mem_cons_of_mem _ hy))]
theorem shown_sub {ds : List Nd} {kn : Int → Bool} {d : Nd} {l : List Int} (h : shownOf ds kn d = some l) : ∀ x ∈ l, x ∈ d.l := by
  unfold shownOf at h
  split at h
  · obtain rfl := Option.some.inj h
    exact fun x hx => List.mem_of_mem_drop hx
  · split at h
    · split at h
      · obtain rfl := Option.some.inj h
        exact fun x hx => List.mem_of_mem_drop (List.mem_of_mem_take hx)
      · cases h
    · cases h
theorem pstep_congr {ds : List Nd} {kn : Int → Bool} {one two : PO} {t : Int} (h : ∀ a, ∀ x ∈ (nd ds t).l, one a x = two a x) (a : List Int) : pstep ds kn one a t = pstep ds kn two a t := by
  unfold pstep
  split
  · rfl
  split
  · rw [pts_congr h]
  · split
    · rename_i l hl
      rw [pts_congr (fun a x hx => h a x (shown_sub hl x hx))]
    · rfl
theorem pt_fuel {ds : List Nd} (hg : Good ds) (kn : Int → Bool) : ∀ (f : Nat) (t : Int), IsT ds t → t.toNat < f → ∀ a, pt ds kn f a t = pat ds kn a t := by
  have key : ∀ (n f g : Nat) (t : Int), IsT ds t → t.toNat < n → t.toNat < f → t.toNat < g → ∀ a, pt ds kn f a t = pt ds kn g a t := by
    intro n
    induction n with
    | zero => intro f g t _ h; omega
    | succ n ih =>
      intro f g t ht hn hf hgg a
      obtain ⟨f, rfl⟩ : ∃ k, f = k + 1 := ⟨f - 1, by omega⟩
      obtain ⟨g, rfl⟩ : ∃ k, g = k + 1 := ⟨g - 1, by omega⟩
      refine pstep_congr (fun a x hx => ?_) a
      have hl := hg.lessT ht x hx
      have := ht.1
      exact ih f g x (hg.partT ht x hx) (by omega) (by omega) (by omega) a
  intro f t ht hf a
  exact key (t.toNat + 1) f (t.toNat + 1) t ht (by omega) hf (by omega) a
theorem pat_eq {ds : List Nd} (hg : Good ds) (kn : Int → Bool) {t : Int} (ht : IsT ds t) (a : List Int) : pat ds kn a t = pstep ds kn (pat ds kn) a t := by
  show pstep ds kn (pt ds kn t.toNat) a t = _
  refine pstep_congr (fun a x hx => ?_) a
  have hl := hg.lessT ht x hx
  exact pt_fuel hg kn _ x (hg.partT ht x hx) (by omega) a

/-! ## numbers are only added -/
def ExtN (a c : List Int) : Prop := ∃ b, c = a ++ b
theorem ExtN.refl (a : List Int) : ExtN a a := ⟨[], by simp⟩
theorem ExtN.trans {a b c : List Int} (h : ExtN a b) (k : ExtN b c) : ExtN a c := by
  obtain ⟨x, rfl⟩ := h
  obtain ⟨y, rfl⟩ := k
  exact ⟨x ++ y, by simp⟩
theorem addN_ext (a : List Int) (t : Int) : ExtN a (addN a t) := by
  unfold addN
  split
  · exact ExtN.refl _
  · exact ⟨[t], rfl⟩
theorem addN_mem (a : List Int) (t : Int) : t ∈ addN a t := by
  unfold addN
  split
  · assumption
  · simp
theorem numAt_ext {a c : List Int} {t : Int} (h : ExtN a c) (ht : t ∈ a) : numAt c t = numAt a t := by
  obtain ⟨b, rfl⟩ := h
  unfold numAt
  rw [List.idxOf_append, if_pos ht]
theorem numAt_add (a : List Int) (t : Int) : numAt (addN a t) t = numAt a t := by
  unfold addN
  split
  · rfl
  · rename_i h
    unfold numAt
    rw [List.idxOf_append, if_neg h, List.idxOf_eq_length h]
    simp
theorem pts_ext {one : PO} {l : List Int} (h : ∀ a, ∀ x ∈ l, ExtN a (one a x).2) (f : Bool) (a : List Int) : ExtN a (pts one f a l).2 := by
  induction l generalizing f a with
  | nil => exact ExtN.refl _
  | cons x l ih => exact (h a x List.mem_cons_self).trans (ih (fun a y hy => h a y (List.mem_cons_of_mem _ hy)) false _)
theorem pt_ext (ds : List Nd) (kn : Int → Bool) (f : Nat) (a : List Int) (t : Int) : ExtN a (pt ds kn f a t).2 := by
  induction f generalizing a t with
  | zero => exact ExtN.refl _
  | succ f ih =>
    show ExtN a (pstep ds kn (pt ds kn f) a t).2
    unfold pstep
    split
    · exact ExtN.refl _
    split
    · exact pts_ext (fun a x _ => ih a x) true a
    split
    · exact (addN_ext a t).trans (pts_ext (fun a x _ => ih a x) true _)
    · exact addN_ext a t
theorem pat_ext (ds : List Nd) (kn : Int → Bool) (a : List Int) (t : Int) : ExtN a (pat ds kn a t).2 := pt_ext ds kn _ a t

theorem pts_stable {one : PO} {l : List Int} (h : ∀ a, ∀ x ∈ l, ExtN a (one a x).2) (hs : ∀ a c, ∀ x ∈ l, ExtN (one a x).2 c → one c x = ((one a x).1, c)) (f : Bool) (a c : List Int) (he : ExtN (pts one f a l).2 c) :
    pts one f c l = ((pts one f a l).1, c) := by
  induction l generalizing f a with
  | nil => rfl
  | cons x l ih =>
    have h' : ∀ a, ∀ y ∈ l, ExtN a (one a y).2 := fun a y hy => h a y (List.mem_cons_of_mem _ hy)
    have h1 := hs a c x List.mem_cons_self ((pts_ext h' false _).trans he)
    have h2 := ih h' (fun a c y hy => hs a c y (List.mem_cons_of_mem _ hy)) false (one a x).2 he
    simp only [pts]
    rw [h1]
    simp only
    rw [h2]
/-- What was met looks the same when it is met again. -/
theorem pat_stable {ds : List Nd} (hg : Good ds) (kn : Int → Bool) : ∀ (n : Nat) (t : Int), t.toNat < n → IsT ds t → ∀ a c, ExtN (pat ds kn a t).2 c → pat ds kn c t = ((pat ds kn a t).1, c) := by
  intro n
  induction n with
  | zero => intro t h; omega
  | succ n ih =>
    intro t hn ht a c he
    have hh : ∀ l : List Int, (∀ x ∈ l, x ∈ (nd ds t).l) → ∀ a c, ∀ x ∈ l, ExtN (pat ds kn a x).2 c → pat ds kn c x = ((pat ds kn a x).1, c) := by
      intro l hl a c x hx
      have hle := hg.lessT ht x (hl x hx)
      have := ht.1
      exact ih x (by omega) (hg.partT ht x (hl x hx)) a c
    rw [pat_eq hg kn ht] at he ⊢
    rw [pat_eq hg kn ht]
    unfold pstep at he ⊢
    split
    · rfl
    rename_i h2
    rw [if_neg h2] at he
    split
    · rename_i hc
      rw [if_pos hc] at he
      have := pts_stable (fun a x _ => pat_ext ds kn a x) (hh _ (fun x hx => hx)) true a c he
      unfold br
      rw [this]
    · rename_i hc
      rw [if_neg hc] at he
      have hm : ∀ {b}, ExtN (addN a t) b → headOf b (nd ds t) t = headOf a (nd ds t) t := fun hb => by
        unfold headOf
        rw [numAt_ext hb (addN_mem a t), numAt_add]
      have hca : ∀ {b}, ExtN (addN a t) b → addN b t = b := fun hb => by
        obtain ⟨x, rfl⟩ := hb
        have hm' : t ∈ addN a t ++ x := List.mem_append_left _ (addN_mem a t)
        generalize addN a t ++ x = y at hm' ⊢
        unfold addN
        rw [if_pos hm']
      cases hs : shownOf ds kn (nd ds t) with
      | none =>
        rw [hs] at he
        simp only at he ⊢
        rw [hm he, hca he]
      | some l =>
        rw [hs] at he
        simp only [br] at he ⊢
        have hx : ExtN (addN a t) c := (pts_ext (fun a x _ => pat_ext ds kn a x) true _).trans he
        have := pts_stable (fun a x _ => pat_ext ds kn a x) (hh _ (shown_sub hs)) true (addN a t) c he
        rw [hm hx, hca hx, this]
theorem pat_again {ds : List Nd} (hg : Good ds) (kn : Int → Bool) {t : Int} (ht : IsT ds t) {a c : List Int} (he : ExtN (pat ds kn a t).2 c) : pat ds kn c t = ((pat ds kn a t).1, c) :=
  pat_stable hg kn _ t (Nat.lt_succ_self _) ht a c he

/-! ## whose numbers -/
structure Nums (ds : List Nd) (a : List Int) : Prop where
  nodup : a.Nodup
  isT : ∀ x ∈ a, IsT ds x
theorem Nums.nil (ds : List Nd) : Nums ds [] := ⟨List.nodup_nil, fun x hx => by cases hx⟩
theorem Nums.add {ds : List Nd} {a : List Int} (h : Nums ds a) {t : Int} (ht : IsT ds t) : Nums ds (addN a t) := by
  unfold addN
  split
  · exact h
  · rename_i hn
    refine ⟨?_, fun x hx => ?_⟩
    · rw [List.nodup_append]
      exact ⟨h.nodup, by simp, fun x hx y hy e => hn (by rw [List.mem_singleton.1 hy] at e; exact e ▸ hx)⟩
    · rcases List.mem_append.1 hx with hx | hx
      · exact h.isT x hx
      · rw [List.mem_singleton.1 hx]; exact ht
theorem Nums.len {ds : List Nd} {a : List Int} (h : Nums ds a) : a.length ≤ ds.length := by
  have h1 : (a.map Int.toNat).Nodup := by
    refine List.nodup_iff_pairwise_ne.2 ?_
    rw [List.pairwise_map]
    refine List.Pairwise.imp_of_mem (R := fun a b => a ≠ b) ?_ (List.nodup_iff_pairwise_ne.1 h.nodup)
    intro a b ha hb hne e
    have := (h.isT a ha).1; have := (h.isT b hb).1
    omega
  have := nodup_leN h1 (m := List.range ds.length) (fun x hx => by
    obtain ⟨y, hy, rfl⟩ := List.mem_map.1 hx
    obtain ⟨h2, h3⟩ := h.isT y hy
    rw [List.mem_range]; omega)
  simpa using this
theorem numAt_le (a : List Int) (t : Int) : numAt a t ≤ a.length := List.idxOf_le_length
theorem pts_nums {ds : List Nd} {one : PO} {l : List Int} (h : ∀ a, Nums ds a → ∀ x ∈ l, Nums ds (one a x).2) (f : Bool) {a : List Int} (ha : Nums ds a) : Nums ds (pts one f a l).2 := by
  induction l generalizing f a with
  | nil => exact ha
  | cons x l ih => exact ih (fun a ha y hy => h a ha y (List.mem_cons_of_mem _ hy)) false (h a ha x List.mem_cons_self)
theorem pat_nums {ds : List Nd} (hg : Good ds) (kn : Int → Bool) : ∀ (n : Nat) (t : Int), t.toNat < n → IsT ds t → ∀ a, Nums ds a → Nums ds (pat ds kn a t).2 := by
  intro n
  induction n with
  | zero => intro t h; omega
  | succ n ih =>
    intro t hn ht a ha
    have hh : ∀ l : List Int, (∀ x ∈ l, x ∈ (nd ds t).l) → ∀ a, Nums ds a → ∀ x ∈ l, Nums ds (pat ds kn a x).2 := by
      intro l hl a ha x hx
      have hle := hg.lessT ht x (hl x hx)
      have := ht.1
      exact ih x (by omega) (hg.partT ht x (hl x hx)) a ha
    rw [pat_eq hg kn ht]
    unfold pstep
    split
    · exact ha
    split
    · exact pts_nums (hh _ fun x hx => hx) true ha
    · cases hs : shownOf ds kn (nd ds t) with
      | none => exact ha.add ht
      | some l => exact pts_nums (hh _ (shown_sub hs)) true (ha.add ht)

/-! ## several -/
def patL (one : PO) : List Int → List Int → List (List UInt8) × List Int
  | a, [] => ([], a)
  | a, x :: l => ((one a x).1 :: (patL one (one a x).2 l).1, (patL one (one a x).2 l).2)
theorem patL_snoc (one : PO) (a l : List Int) (x : Int) : patL one a (l ++ [x]) = ((patL one a l).1 ++ [(one (patL one a l).2 x).1], (one (patL one a l).2 x).2) := by
  induction l generalizing a with
  | nil => rfl
  | cons y l ih => simp only [List.cons_append, patL, ih]
theorem patL_len (one : PO) (a l : List Int) : (patL one a l).1.length = l.length := by
  induction l generalizing a with
  | nil => rfl
  | cons y l ih => simp only [patL, List.length_cons, ih]
theorem patL_append (one : PO) (a l m : List Int) : patL one a (l ++ m) = ((patL one a l).1 ++ (patL one (patL one a l).2 m).1, (patL one (patL one a l).2 m).2) := by
  induction l generalizing a with
  | nil => rfl
  | cons y l ih => simp only [List.cons_append, patL, ih]
theorem pts_snoc (one : PO) (f : Bool) (a l : List Int) (x : Int) : pts one f a (l ++ [x]) = ((pts one f a l).1 ++ ((if f = true ∧ l = [] then [] else [44]) ++ (one (pts one f a l).2 x).1), (one (pts one f a l).2 x).2) := by
  induction l generalizing a f with
  | nil => cases f <;> simp [pts]
  | cons y l ih =>
    simp only [List.cons_append, pts, ih]
    simp
end Go.Proofs.YtangbnmgkcmhbaaDoor
end

section
/- Pieces: texts by what they are put together of. Plain facts; nothing here names a program. -/
set_option linter.unusedSimpArgs false
set_option linter.unusedVariables false
namespace Go.Proofs.YtangbnmgkcmhbaaDoor
open Go

/-- A piece: a word, or pieces, one behind the other. -/
structure Pc where
  w : List UInt8
  l : List Int
  size : Int
def pc0 : Pc := ⟨[], [], 0⟩
abbrev Txs := List (List UInt8)
def cat (tx : Txs) (l : List Int) : List UInt8 := (l.map fun x => tx.getD x.toNat []).flatten
def txOf (tx : Txs) (p : Pc) : List UInt8 := if p.l = [] then p.w else cat tx p.l
/-- The texts of pieces. -/
def txs (ps : List Pc) : Txs := ps.foldl (fun tx p => tx ++ [txOf tx p]) []
def tx (ps : List Pc) (x : Int) : List UInt8 := (txs ps).getD x.toNat []
def pkey (p : Pc) : List UInt8 := if p.l = [] then 39 :: p.w else partsKey p.l

theorem txs_snoc (ps : List Pc) (p : Pc) : txs (ps ++ [p]) = txs ps ++ [txOf (txs ps) p] := by simp [txs]
theorem txs_pre (ps qs : List Pc) : ∃ t, txs (ps ++ qs) = txs ps ++ t := by
  induction qs generalizing ps with
  | nil => exact ⟨[], by simp⟩
  | cons q qs ih =>
    obtain ⟨t, ht⟩ := ih (ps ++ [q])
    refine ⟨txOf (txs ps) q :: t, ?_⟩
    rw [List.append_assoc, List.singleton_append] at ht
    rw [ht, txs_snoc]
    simp
theorem txs_len (ps : List Pc) : (txs ps).length = ps.length := by
  have key : ∀ (n : Nat) (ps : List Pc), ps.length = n → (txs ps).length = n := by
    intro n
    induction n with
    | zero => intro ps h; obtain rfl := List.eq_nil_of_length_eq_zero h; rfl
    | succ n ih =>
      intro ps h
      have hne : ps ≠ [] := by intro e; rw [e] at h; simp at h
      rw [← List.dropLast_concat_getLast hne, txs_snoc, List.length_append, ih _ (by simp; omega)]
      rfl
  exact key _ ps rfl

/-- ps', begun with ps. -/
def PExt (ps ps' : List Pc) : Prop := ∃ qs, ps' = ps ++ qs
theorem PExt.refl (ps : List Pc) : PExt ps ps := ⟨[], by simp⟩
theorem PExt.trans {a b c : List Pc} (h : PExt a b) (k : PExt b c) : PExt a c := by
  obtain ⟨x, rfl⟩ := h
  obtain ⟨y, rfl⟩ := k
  exact ⟨x ++ y, by simp⟩
theorem PExt.snoc (ps : List Pc) (p : Pc) : PExt ps (ps ++ [p]) := ⟨[p], rfl⟩
theorem PExt.len {ps ps' : List Pc} (h : PExt ps ps') : ps.length ≤ ps'.length := by
  obtain ⟨x, rfl⟩ := h
  simp
theorem tx_ext {ps ps' : List Pc} (h : PExt ps ps') {x : Int} (hx : x.toNat < ps.length) : tx ps' x = tx ps x := by
  obtain ⟨qs, rfl⟩ := h
  obtain ⟨t, ht⟩ := txs_pre ps qs
  unfold tx
  rw [ht, List.getD_eq_getElem?_getD, List.getElem?_append_left (by rw [txs_len]; exact hx), ← List.getD_eq_getElem?_getD]
/-- x is one of n pieces. -/
def IsP (n : Nat) (x : Int) : Prop := 0 ≤ x ∧ x < (n : Int)
theorem IsP.mono {n m : Nat} {x : Int} (h : IsP n x) (k : n ≤ m) : IsP m x := ⟨h.1, by have := h.2; omega⟩
theorem tx_ext' {ps ps' : List Pc} (h : PExt ps ps') {x : Int} (hx : IsP ps.length x) : tx ps' x = tx ps x := tx_ext h (by have := hx.1; have := hx.2; omega)
theorem cat_ext {ps ps' : List Pc} (h : PExt ps ps') {l : List Int} (hl : ∀ x ∈ l, IsP ps.length x) : cat (txs ps') l = cat (txs ps) l := by
  unfold cat
  congr 1
  exact List.map_congr_left fun x hx => tx_ext' h (hl x hx)
theorem cat_snoc (t : Txs) (l : List Int) (x : Int) : cat t (l ++ [x]) = cat t l ++ t.getD x.toNat [] := by simp [cat]
theorem cat_append (t : Txs) (l m : List Int) : cat t (l ++ m) = cat t l ++ cat t m := by simp [cat]
theorem cat_cons (t : Txs) (x : Int) (l : List Int) : cat t (x :: l) = t.getD x.toNat [] ++ cat t l := by simp [cat]

/-- How long a text is told to be. -/
def cap31 (n : Nat) : Int := if n ≤ 2147483648 then n else 2147483648
theorem cap31_le (n : Nat) : 0 ≤ cap31 n ∧ cap31 n ≤ 2147483648 := by unfold cap31; split <;> omega
theorem cap31_add (a b : Nat) : (if cap31 a + cap31 b ≤ 2147483648 then cap31 a + cap31 b else 2147483648) = cap31 (a + b) := by
  unfold cap31
  split <;> split <;> split <;> (try split) <;> omega
theorem cap31_eq {n : Nat} (h : n ≤ 2147483647) : cap31 n = n := by unfold cap31; rw [if_pos (by omega)]

structure PcOk (ps : List Pc) (p : Pc) : Prop where
  shape : (p.l = [] ∧ p.w ≠ []) ∨ (p.w = [] ∧ p.l ≠ [])
  parts : ∀ x ∈ p.l, IsP ps.length x
  size : p.size = cap31 (txOf (txs ps) p).length
  few : p.w.length ≤ 1000 ∧ p.l.length ≤ 1000
def PsOk (ps : List Pc) : Prop := ∀ n, n < ps.length → PcOk (ps.take n) (ps.getD n pc0)
theorem PsOk.nil : PsOk [] := fun n h => absurd h (Nat.not_lt_zero _)
theorem getD_pc (ps : List Pc) (p : Pc) (i : Nat) : (ps ++ [p]).getD i pc0 = if i < ps.length then ps.getD i pc0 else if i = ps.length then p else pc0 := by
  simp only [List.getD_eq_getElem?_getD]
  by_cases h : i < ps.length
  · rw [if_pos h, List.getElem?_append_left h]
  · rw [if_neg h, List.getElem?_append_right (by omega)]
    by_cases h2 : i = ps.length
    · simp [h2]
    · rw [if_neg h2, List.getElem?_eq_none (by simp; omega)]; rfl
theorem PsOk.snoc {ps : List Pc} (h : PsOk ps) {p : Pc} (hp : PcOk ps p) : PsOk (ps ++ [p]) := by
  intro n hn
  rw [List.length_append, List.length_singleton] at hn
  rw [getD_pc]
  by_cases c : n < ps.length
  · rw [if_pos c, List.take_append_of_le_length (Nat.le_of_lt c)]
    exact h n c
  · obtain rfl : n = ps.length := by omega
    rw [if_neg c, if_pos rfl, List.take_append_of_le_length (Nat.le_refl _), List.take_length]
    exact hp
theorem PExt.take (ps : List Pc) (n : Nat) : PExt (ps.take n) ps := ⟨ps.drop n, by simp⟩
theorem take_succ_pc (ps : List Pc) {n : Nat} (hn : n < ps.length) : ps.take (n + 1) = ps.take n ++ [ps.getD n pc0] := by
  rw [List.take_succ_eq_append_getElem hn, List.getD_eq_getElem?_getD, List.getElem?_eq_getElem hn]
  rfl
/-- What a piece's text is. -/
theorem tx_at {ps : List Pc} (h : PsOk ps) {n : Nat} (hn : n < ps.length) : tx ps (n : Int) = txOf (txs ps) (ps.getD n pc0) := by
  have h1 : tx ps (n : Int) = tx (ps.take (n + 1)) (n : Int) := tx_ext (PExt.take ps (n + 1)) (by rw [List.length_take]; omega)
  have hok := h n hn
  rw [h1, take_succ_pc ps hn]
  unfold tx
  have hl : (txs (ps.take n)).length = n := by rw [txs_len, List.length_take]; omega
  have e : (txs (ps.take n ++ [ps.getD n pc0])).getD (n : Int).toNat [] = txOf (txs (ps.take n)) (ps.getD n pc0) := by
    rw [txs_snoc, Int.toNat_natCast, List.getD_eq_getElem?_getD, List.getElem?_append_right (by omega), hl, Nat.sub_self]
    rfl
  rw [e]
  unfold txOf
  split
  · rfl
  · exact (cat_ext (PExt.take ps n) hok.parts).symm
theorem tx_new (ps : List Pc) (p : Pc) : tx (ps ++ [p]) (ps.length : Int) = txOf (txs ps) p := by
  unfold tx
  rw [txs_snoc, Int.toNat_natCast, List.getD_eq_getElem?_getD, List.getElem?_append_right (by rw [txs_len]; omega), txs_len, Nat.sub_self]
  rfl
theorem PsOk.size {ps : List Pc} (h : PsOk ps) {n : Nat} (hn : n < ps.length) : (ps.getD n pc0).size = cap31 (tx ps (n : Int)).length := by
  have hok := h n hn
  rw [hok.size, tx_at h hn]
  unfold txOf
  split
  · rfl
  · rw [cat_ext (PExt.take ps n) hok.parts]
theorem PsOk.parts {ps : List Pc} (h : PsOk ps) {n : Nat} (hn : n < ps.length) : ∀ x ∈ (ps.getD n pc0).l, IsP n x := fun x hx => by
  have := (h n hn).parts x hx
  rw [List.length_take, Nat.min_eq_left (Nat.le_of_lt hn)] at this
  exact this
theorem tx_ne {ps : List Pc} (h : PsOk ps) : ∀ n, n < ps.length → tx ps (n : Int) ≠ [] := by
  have key : ∀ k n, n < k → n < ps.length → tx ps (n : Int) ≠ [] := by
    intro k
    induction k with
    | zero => intro n h; omega
    | succ k ih =>
      intro n hk hn
      rw [tx_at h hn]
      have hok := h n hn
      rcases hok.shape with ⟨h1, h2⟩ | ⟨h1, h2⟩
      · unfold txOf
        rw [if_pos h1]
        exact h2
      · unfold txOf
        rw [if_neg h2]
        intro e
        cases hl : (ps.getD n pc0).l with
        | nil => exact h2 hl
        | cons x l =>
          have hx := h.parts hn x (by rw [hl]; exact List.mem_cons_self)
          rw [hl, cat_cons] at e
          have e1 := (List.append_eq_nil_iff.1 e).1
          have hxt : x = (x.toNat : Int) := by have := hx.1; omega
          refine ih x.toNat (by have := hx.1; have := hx.2; omega) (by have := hx.1; have := hx.2; omega) ?_
          unfold tx
          rw [Int.toNat_natCast]
          exact e1
  exact fun n hn => key (n + 1) n (Nat.lt_succ_self _) hn

/-! ## keys -/
theorem itoa_head (n : Nat) : ∃ c s, Lib.itoa (n : Int) = c :: s ∧ c ≠ 39 := by
  rw [itoa_of_nonneg (by omega), Int.toNat_natCast]
  cases h : Lib.decDigits n with
  | nil => have := dd_pos n; rw [h] at this; simp at this
  | cons c s =>
    refine ⟨c, s, rfl, fun e => ?_⟩
    have := dd_dig n c (by rw [h]; exact List.mem_cons_self)
    rw [e] at this
    exact absurd this (by decide)
theorem pkey_inj {p q : Pc} (hp : ∀ x ∈ p.l, 0 ≤ x) (hq : ∀ x ∈ q.l, 0 ≤ x) (hpw : (p.l = [] ∧ p.w ≠ []) ∨ (p.w = [] ∧ p.l ≠ [])) (hqw : (q.l = [] ∧ q.w ≠ []) ∨ (q.w = [] ∧ q.l ≠ [])) (h : pkey p = pkey q) : p.w = q.w ∧ p.l = q.l := by
  have hno : ∀ (a : List UInt8) (l : List Int), l ≠ [] → (∀ x ∈ l, 0 ≤ x) → 39 :: a = partsKey l → False := by
    intro a l hne hl e
    cases l with
    | nil => exact hne rfl
    | cons x l =>
      rw [partsKey_cons] at e
      obtain ⟨n, rfl⟩ := Int.eq_ofNat_of_zero_le (hl x List.mem_cons_self)
      obtain ⟨c, s, hi, hc⟩ := itoa_head n
      have e' : 39 :: a = Lib.itoa (n : Int) ++ 44 :: partsKey l := e
      rw [hi] at e'
      simp only [List.cons_append, List.cons.injEq] at e'
      exact hc e'.1.symm
  unfold pkey at h
  rcases hpw with ⟨h1, h2⟩ | ⟨h1, h2⟩ <;> rcases hqw with ⟨h3, h4⟩ | ⟨h3, h4⟩
  · rw [if_pos h1, if_pos h3] at h
    exact ⟨by simpa using h, by rw [h1, h3]⟩
  · rw [if_pos h1, if_neg h4] at h
    exact absurd h (hno _ _ h4 hq)
  · rw [if_neg h2, if_pos h3] at h
    exact absurd h.symm (hno _ _ h2 hp)
  · rw [if_neg h2, if_neg h4] at h
    exact ⟨by rw [h1, h3], partsKey_inj hp hq h⟩
end Go.Proofs.YtangbnmgkcmhbaaDoor
end

section
/- Rows of truth values. -/
set_option linter.unusedSimpArgs false
set_option linter.unusedVariables false
namespace Go.Proofs.YtangbnmgkcmhbaaDoor
open Go.RowKit Go.Maps

def OwnB (B : Nat) (w : World) (v : Value) (bs : List Bool) : Prop := Ownv B 4 1 w v bs.length (bs.map Value.bool)
theorem Tryd.infoBool : (Tryd.prog.info? 4).map (fun i => (i.zero, i.size, i.bytes)) = some (some (.bool false), 1, 1) := by kernel_rfl
theorem OwnB.set {B : Nat} {w : World} {g n c : Nat} {bs : List Bool} (h : OwnB B w (.slice (some ⟨g, 0, none⟩) n c) bs) (hn : bs.length = n) (j : Nat) (b : Bool) :
    OwnB B (w.setCell ⟨g, j, none⟩ (.bool b)) (.slice (some ⟨g, 0, none⟩) n c) (bs.set j b) := by
  subst hn
  have := (World.ownsRow.stored h j (.bool b)).1
  unfold OwnB Ownv
  rw [List.length_set, List.map_set]
  exact this
theorem OwnB.cell {B : Nat} {w : World} {g n c : Nat} {bs : List Bool} (h : OwnB B w (.slice (some ⟨g, 0, none⟩) n c) bs) (hn : bs.length = n) {j : Nat} (hj : j < n) : w.cell? ⟨g, j, none⟩ = some (.bool (bs.getD j false)) := by
  subst hn
  have := World.ownsRow.cells h rfl j (.bool (bs.getD j false)) (by simp [List.getD, List.getElem?_eq_getElem hj])
  rwa [Addr.add_lit, Nat.zero_add] at this
theorem OwnB.frozen {B : Nat} {w : World} {g n c : Nat} {bs : List Bool} (h : OwnB B w (.slice (some ⟨g, 0, none⟩) n c) bs) (hn : bs.length = n) (j : Nat) : w.frozen? ⟨g, j, none⟩ = false := by
  subst hn
  exact World.ownsRow.frozenAt h j
theorem go_mkbool {w : World} {ops : Array Oper} {rest : List Oper} {a : Act} {Q : Exit → Act → World → Prop} {d : Option Tmp} {ty : TypeId} {ps : String} {af : Array Edge} {l c : Operand}
    (n : Nat) (L : Int) (hl : a.eval l = .int .i64 L) (hc : a.eval c = .int .i64 L) (hL : L = (n : Int)) (h1 : n ≤ 140737488355328)
    (hK : ∀ w', OwnB w.heap.size w' (.slice (some ⟨w.heap.size, 0, none⟩) n n) (List.replicate n false) → Kept w w' → w'.heap.size = w'.heap.size → wpList Tryd.prog ops Q rest (a.put d (.slice (some ⟨w.heap.size, 0, none⟩) n n)) w') :
    wpList Tryd.prog ops Q (⟨d, .makeSlice 60 l c, ty, ps, af, none⟩ :: rest) a w := by
  obtain ⟨i0, hi, hz0, hz1, hz2⟩ := info_parts Tryd.infoBool
  refine wpList_make_full w rfl l c 60 rfl w.heap.size 4 i0 (.bool false) 1 Tryd.underlying60 hi hz0 hz1 .i64 .i64 L L n hl hc hL hL (by rw [hz2]; omega) (by unfold maxLen; omega) (Nat.le_refl _) ?_
  intro w' ho hg
  refine hK w' ?_ ((Below.refl w.heap.size w).grown hg (Nat.le_refl _) fun k hk => by cases hk) rfl
  unfold OwnB Ownv
  rw [List.length_replicate, List.map_replicate]
  simpa [toList_madeCells_one, Value.cells] using ho

end Go.Proofs.YtangbnmgkcmhbaaDoor
end

section
/- Rows of numbers, numbers as keys. -/
set_option linter.unusedSimpArgs false
set_option linter.unusedVariables false
namespace Go.Proofs.YtangbnmgkcmhbaaDoor
open Go.RowKit Go.Maps

theorem i64_wf {x : Int} (h : I64 x) : (Lit.int .i64 x).wf = true := WalkArith.wf_i64 h
theorem keyInt {x : Int} (h : I64 x) : keyOf Tryd.prog 3 (.int .i64 x) = some (.int .i64 x) := keyOf_int_mk Tryd.underlying3 (i64_wf h)
theorem isKeyInt {x : Int} (h : I64 x) : WideAt.IsKeyLit (.int .i64 x) := by first | trivial | exact i64_wf h | simpa [WideAt.IsKeyLit] using i64_wf h
theorem OwnI.lit1 (w : World) (z : Int) : OwnI w.heap.size (w.alloc (.cells #[.int .i64 z] 3)) (.slice (some ⟨w.heap.size, 0, none⟩) 1 1) [z] :=
  Ownv.lit (B := w.heap.size) 3 (w := w) [.int .i64 z] (Nat.le_refl _) (by unfold maxLen; simp)
/-- The first k of a row are a row. -/
theorem OwnI.take {B : Nat} {w : World} {g cap : Nat} {zs : List Int} {n : Nat} (h : OwnI B w (.slice (some ⟨g, 0, none⟩) n cap) zs) (k : Nat) (hk : k ≤ zs.length) : OwnI B w (.slice (some ⟨g, 0, none⟩) k cap) (zs.take k) := by
  obtain ⟨h1, h2⟩ := h
  have hl : (zs.take k).length = k := by rw [List.length_take]; omega
  rcases h2 with ⟨e, _⟩ | ⟨g', cap', cur, hv, hb, hg, hn, hm, hs, ht⟩
  · cases e
  · simp only [Value.slice.injEq, Option.some.injEq, Addr.mk.injEq] at hv
    obtain ⟨⟨rfl, _, _⟩, hn', rfl⟩ := hv
    unfold OwnI Ownv
    rw [hl]
    refine ⟨by rw [List.length_map, hl, Nat.mul_one], .inr ⟨g, cap, cur, rfl, hb, hg, by omega, hm, hs, ?_⟩⟩
    rw [Nat.mul_one] at ht ⊢
    have := congrArg (List.take k) ht
    rw [List.take_take, Nat.min_eq_left (by omega)] at this
    rw [this, List.map_take]

end Go.Proofs.YtangbnmgkcmhbaaDoor
end

section
/- Rows of the call's own that are written; truth values in slices; what is known and what is to be gone through, in memory. -/
set_option linter.unusedSimpArgs false
set_option linter.unusedVariables false
namespace Go.Proofs.YtangbnmgkcmhbaaDoor
open Go.RowKit Go.Maps

/-- The block that a slice lies in, if it is not empty. -/
def VB (v : Value) (b : Nat) : Prop := ∃ off sp n cap, 0 < n ∧ v = .slice (some ⟨b, off, sp⟩) n cap
theorem VB.of {b off n cap c : Nat} (h : VB (.slice (some ⟨b, off, none⟩) n cap) c) : c = b := by
  obtain ⟨o, s, n', c', _, h⟩ := h
  simp only [Value.slice.injEq, Option.some.injEq, Addr.mk.injEq] at h
  exact h.1.1.symm
/-- What a slice reads as hangs on its block alone. -/
theorem Rdv.same {size : Nat} {w w' : World} {v : Value} {n : Nat} {xs : List Value} (h : Rdv size w v n xs) (k : ∀ b, VB v b → w'.heap[b]? = w.heap[b]?) : Rdv size w' v n xs := by
  obtain ⟨a, cap, rfl, h1, h2, h3, h4, h5⟩ := h
  refine ⟨a, cap, rfl, h1, h2, h3, h4, fun ad had j u hj => ?_⟩
  subst had
  have hb : w'.heap[(ad.add j).block]? = w.heap[(ad.add j).block]? := k _ ⟨ad.off, ad.spot, n, cap, (by
    have := (List.getElem?_eq_some_iff.1 hj).1
    rw [h1] at this
    rcases Nat.eq_zero_or_pos n with c | c
    · subst c; simp at this
    · exact c), by unfold Addr.add; split <;> rfl⟩
  exact (World.cell?_of_block hb).trans (h5 ad rfl j u hj)
theorem Rdv.lt {size : Nat} {w : World} {v : Value} {n : Nat} {xs : List Value} (h : Rdv size w v n xs) (hp : 0 < n * size) {b : Nat} (hb : VB v b) : b < w.heap.size := by
  obtain ⟨a, cap, rfl, h1, h2, h3, h4, h5⟩ := h
  obtain ⟨off, sp, n', c', _, e⟩ := hb
  simp only [Value.slice.injEq] at e
  obtain ⟨rfl, _, _⟩ := e
  have hx : 0 < xs.length := by rw [h1]; exact hp
  have := World.block_lt_of_cell? _ _ (h5 _ rfl 0 xs[0] (List.getElem?_eq_getElem hx))
  simpa [Addr.add] using this
theorem RdI.same {w w' : World} {v : Value} {zs : List Int} (h : RdI w v zs) (k : ∀ b, VB v b → w'.heap[b]? = w.heap[b]?) : RdI w' v zs := Rdv.same h k
theorem RdI.turn {F : Nat → Prop} {w w' : World} {v : Value} {zs : List Int} (h : RdI w v zs) (k : Turn F w w') (hF : ∀ b, VB v b → ¬ F b) : RdI w' v zs := by
  by_cases hp : 0 < zs.length
  · exact h.same fun b hb => k.block b (Rdv.lt h (by omega) hb) (hF b hb)
  · have : zs = [] := List.eq_nil_of_length_eq_zero (by omega)
    subst this
    obtain ⟨a, cap, rfl, h1, h2, h3, h4, h5⟩ := h
    exact ⟨a, cap, rfl, h1, h2, h3, h4, fun ad had j u hj => by simp at hj⟩

/-! ## rows that are written -/
theorem Ownv.put {B : Nat} {e : TypeId} {size : Nat} {w : World} {g n cap : Nat} {xs : List Value} (h : Ownv B e size w (.slice (some ⟨g, 0, none⟩) n cap) n xs) (i : Nat) (hi : i < n * size) (u : Value) :
    Ownv B e size (w.setCell ⟨g, i, none⟩ u) (.slice (some ⟨g, 0, none⟩) n cap) n (xs.set i u) := by
  refine ⟨by rw [List.length_set]; exact h.1, ?_⟩
  rcases h.2 with ⟨hh, _⟩ | ⟨g', cap', cur, hv, hb, hg, hn, hm, hs, ht⟩
  · cases hh
  · simp only [Value.slice.injEq, Option.some.injEq, Addr.mk.injEq] at hv
    obtain ⟨⟨rfl, _⟩, _, rfl⟩ := hv
    have hc : i < cur.size := by
      rw [hs]
      exact Nat.lt_of_lt_of_le hi (Nat.mul_le_mul_right _ hn)
    refine .inr ⟨g, cap, cur.setIfInBounds i u, rfl, hb, ?_, hn, hm, by simp [hs], ?_⟩
    · simp [World.setCell, Array.getElem?_modify, hg]
    · rw [← ht]
      simp [List.take_set]
theorem Ownv.row {B : Nat} {e : TypeId} {size : Nat} {w : World} {v : Value} {n : Nat} {xs : List Value} (h : Ownv B e size w v n xs) (hp : 0 < n) :
    ∃ g cap, v = .slice (some ⟨g, 0, none⟩) n cap ∧ n ≤ cap ∧ cap ≤ maxLen ∧ B ≤ g ∧ g < w.heap.size ∧ (∀ i, i < n * size → w.cell? ⟨g, i, none⟩ = some (xs.getD i undef)) ∧ ∀ i, w.frozen? ⟨g, i, none⟩ = false := by
  rcases h.2 with ⟨hh, h0⟩ | ⟨g, cap, cur, hv, hb, hg, hn, hm, hs, ht⟩
  · omega
  · refine ⟨g, cap, hv, hn, hm, hb, (Array.getElem?_eq_some_iff.1 hg).1, fun i hi => ?_, fun i => by simp [World.frozen?, hg]⟩
    have hx : i < xs.length := by rw [h.1]; exact hi
    have hc : i < cur.size := by rw [hs]; exact Nat.lt_of_lt_of_le hi (Nat.mul_le_mul_right _ hn)
    have e1 : xs.getD i undef = cur[i] := by
      rw [List.getD_eq_getElem?_getD, ← ht, List.getElem?_take, if_pos hi]
      simp [hc]
    rw [e1]
    simp [World.cell?, hg, hc]
theorem Ownv.cut {B : Nat} {e : TypeId} {size : Nat} {w : World} {g n m cap : Nat} {xs : List Value} (h : Ownv B e size w (.slice (some ⟨g, 0, none⟩) n cap) n xs) (hm : m ≤ n) :
    Ownv B e size w (.slice (some ⟨g, 0, none⟩) m cap) m (xs.take (m * size)) := by
  have hms : m * size ≤ n * size := Nat.mul_le_mul_right _ hm
  refine ⟨by rw [List.length_take, h.1]; omega, ?_⟩
  rcases h.2 with ⟨hh, _⟩ | ⟨g', cap', cur, hv, hb, hg, hn, hm', hs, ht⟩
  · cases hh
  · simp only [Value.slice.injEq, Option.some.injEq, Addr.mk.injEq] at hv
    obtain ⟨⟨rfl, _⟩, _, rfl⟩ := hv
    refine .inr ⟨g, cap, cur, rfl, hb, hg, Nat.le_trans hm hn, hm', hs, ?_⟩
    rw [← ht, List.take_take, Nat.min_eq_left hms]
/-- A cell written elsewhere. -/
theorem Ownv.puts {B : Nat} {e : TypeId} {size : Nat} {w : World} {v : Value} {n : Nat} {xs : List Value} (h : Ownv B e size w v n xs) (g i : Nat) (u : Value) (hn : ¬ Blks v g) : Ownv B e size (w.setCell ⟨g, i, none⟩ u) v n xs :=
  Ownv.setCell h hn u

/-! ## truth values -/
def RdB (w : World) (v : Value) (bs : List Bool) : Prop := Rdv 1 w v bs.length (bs.map Value.bool)
theorem getD_map_bool (bs : List Bool) (i : Nat) (h : i < bs.length) : (bs.map Value.bool).getD i undef = .bool (bs.getD i false) := by
  simp [List.getD, List.getElem?_eq_getElem h]
theorem getD_map_int (zs : List Int) (i : Nat) (h : i < zs.length) : (zs.map (Value.int .i64)).getD i undef = .int .i64 (zs.getD i 0) := by
  simp [List.getD, List.getElem?_eq_getElem h]
theorem OwnB.row {B : Nat} {w : World} {v : Value} {bs : List Bool} (h : OwnB B w v bs) (hp : 0 < bs.length) :
    ∃ g cap, v = .slice (some ⟨g, 0, none⟩) bs.length cap ∧ bs.length ≤ cap ∧ cap ≤ maxLen ∧ B ≤ g ∧ g < w.heap.size ∧ (∀ i, i < bs.length → w.cell? ⟨g, i, none⟩ = some (.bool (bs.getD i false))) ∧ ∀ i, w.frozen? ⟨g, i, none⟩ = false := by
  obtain ⟨g, cap, hv, h1, h2, h3, h4, h5, h6⟩ := Ownv.row h hp
  exact ⟨g, cap, hv, h1, h2, h3, h4, fun i hi => by rw [h5 i (by omega), getD_map_bool bs i hi], h6⟩
theorem OwnB.put {B : Nat} {w : World} {g cap : Nat} {bs : List Bool} {n : Nat} (hn : n = bs.length) (h : OwnB B w (.slice (some ⟨g, 0, none⟩) n cap) bs) (i : Nat) (hi : i < bs.length) (b : Bool) :
    OwnB B (w.setCell ⟨g, i, none⟩ (.bool b)) (.slice (some ⟨g, 0, none⟩) n cap) (bs.set i b) := by
  subst hn
  have := Ownv.put h i (by omega) (.bool b)
  unfold OwnB
  rw [List.length_set, List.map_set]
  exact this
theorem OwnI.row {B : Nat} {w : World} {v : Value} {zs : List Int} (h : OwnI B w v zs) (hp : 0 < zs.length) :
    ∃ g cap, v = .slice (some ⟨g, 0, none⟩) zs.length cap ∧ zs.length ≤ cap ∧ cap ≤ maxLen ∧ B ≤ g ∧ g < w.heap.size ∧ (∀ i, i < zs.length → w.cell? ⟨g, i, none⟩ = some (.int .i64 (zs.getD i 0))) ∧ ∀ i, w.frozen? ⟨g, i, none⟩ = false := by
  obtain ⟨g, cap, hv, h1, h2, h3, h4, h5, h6⟩ := Ownv.row h hp
  exact ⟨g, cap, hv, h1, h2, h3, h4, fun i hi => by rw [h5 i (by omega), getD_map_int zs i hi], h6⟩

/-! ## what is known, what is to be gone through -/
structure KnS (F : Nat → Prop) (kb tb : Nat) (w : World) (s : List Bool × List Int) : Prop where
  rep : ∃ kv tv, Blk w kb 60 [kv] ∧ OwnB 0 w kv s.1 ∧ Blk w tb 23 [tv] ∧ OwnI 0 w tv s.2 ∧ F kb ∧ F tb ∧ (∀ b, Blks kv b → F b) ∧ (∀ b, Blks tv b → F b)
  lt : ∀ b, F b → b < w.heap.size
theorem KnS.same {F : Nat → Prop} {kb tb : Nat} {w w' : World} {s : List Bool × List Int} (h : KnS F kb tb w s) (k : Same F w w') (hl : w.heap.size ≤ w'.heap.size) : KnS F kb tb w' s := by
  obtain ⟨kv, tv, h1, h2, h3, h4, h5, h6, h7, h8⟩ := h.rep
  exact ⟨⟨kv, tv, h1.same (k.mono fun b e => by rw [e]; exact h5), Ownv.same h2 (k.mono h7), h3.same (k.mono fun b e => by rw [e]; exact h6), Ownv.same h4 (k.mono h8), h5, h6, h7, h8⟩, fun b hb => Nat.lt_of_lt_of_le (h.lt b hb) hl⟩
theorem KnS.turn {F G : Nat → Prop} {kb tb : Nat} {w w' : World} {s : List Bool × List Int} (h : KnS F kb tb w s) (k : Turn G w w') (hd : ∀ b, F b → ¬ G b) : KnS F kb tb w' s := h.same (k.same h.lt hd) k.size
theorem KnS.kept {F : Nat → Prop} {kb tb : Nat} {w w' : World} {s : List Bool × List Int} (h : KnS F kb tb w s) (k : Kept w w') : KnS F kb tb w' s := h.same (k.same h.lt) k.size
theorem lit1 (w : World) (t : Int) : OwnI 0 (w.alloc (.cells #[.int .i64 t] 3)) (.slice (some ⟨w.heap.size, 0, none⟩) 1 1) [t] :=
  Ownv.lit (B := 0) 3 (w := w) [.int .i64 t] (Nat.zero_le _) (by unfold maxLen; simp)

theorem Blk.ne {w : World} {g g' : Nat} {e e' : TypeId} {xs ys : List Value} (h : Blk w g e xs) (k : Blk w g' e' ys) (hne : e ≠ e') : g ≠ g' := fun hh => by
  subst hh
  unfold Blk at h k
  rw [h] at k
  simp only [Option.some.injEq, Obj.cells.injEq] at k
  exact hne k.2.1
/-- What derived's know leaves. -/
def KnowPost (F : Nat → Prop) (kb tb : Nat) (w : World) (s : List Bool × List Int) (e : Ending) (w' : World) : Prop :=
  e = .returned (.tuple #[]) ∧ ∃ F', KnS F' kb tb w' s ∧ Turn F w w' ∧ ∀ b, F' b → F b ∨ w.heap.size ≤ b
theorem know_len (s : List Bool × List Int) (l : List Int) : (know s l).1.length = s.1.length := by
  induction l generalizing s with
  | nil => rfl
  | cons a l ih =>
    show (know (know1 s a) l).1.length = _
    rw [ih]
    unfold know1
    split <;> simp
theorem know_td (s : List Bool × List Int) (l : List Int) : (know s l).2.length ≤ s.2.length + l.length := by
  induction l generalizing s with
  | nil => simp [know]
  | cons a l ih =>
    have := ih (know1 s a)
    show (know (know1 s a) l).2.length ≤ _
    have h2 : (know1 s a).2.length ≤ s.2.length + 1 := by
      unfold know1
      split <;> simp
    simp only [List.length_cons]
    omega

set_option maxHeartbeats 4000000 in
set_option maxRecDepth 100000 in
theorem know_any {F : Nat → Prop} {kb tb : Nat} {w : World} {s : List Bool × List Int} (h : KnS F kb tb w s) {v : Value} {l : List Int} (hd : RdI w v l) (hv : ∀ b, VB v b → ¬ F b) (hl : ∀ x ∈ l, 0 ≤ x ∧ x < (s.1.length : Int)) (hs : s.2.length + l.length ≤ 1000000000) :
    Calls Tryd.prog 69 #[v, .pointer (some ⟨kb, 0, none⟩), .pointer (some ⟨tb, 0, none⟩)] w (KnowPost F kb tb w (know s l)) := by
  obtain ⟨la, lc, rfl, l1, l2, l3⟩ := hd.len
  have l63 : ((l.length : Nat) : Int) ≤ 9223372036854775807 := by unfold maxLen at l2; omega
  go_enter Tryd.func69, Tryd.ntmps69
  go_wp2
  go_loopw [8] (fun i wr => ∃ k : Nat, k ≤ l.length ∧ i = .int .i64 k ∧ Turn F w wr ∧ ∃ F', KnS F' kb tb wr (know s (l.take k)) ∧ ∀ b, F' b → F b ∨ w.heap.size ≤ b) (fun i _ => l.length - (intOf i).toNat)
  case atStart => exact ⟨0, Nat.zero_le _, rfl, Turn.refl _ _, F, h, fun b hb => .inl hb⟩
  case round =>
    obtain ⟨k, hk0, rfl, ht, F', hk, hF⟩ := hrel
    have HF := Shut.mk hF
    clear hF
    by_cases hlt : k < l.length
    · have hxr := hl _ (getD_mem hlt)
      obtain ⟨rb, ro, rc, hrv, _, _, hrb, hcl⟩ := hd.addr (by omega)
      simp only [Value.slice.injEq] at hrv
      obtain ⟨rfl, _, rfl⟩ := hrv
      have hnb : ¬ F rb := hv rb ⟨ro, none, _, _, by omega, rfl⟩
      have x1 : wr.cell? ⟨rb, ro + k, none⟩ = some (.int .i64 (l.getD k 0)) := (World.cell?_of_block (ht.block rb hrb hnb)).trans (hcl k hlt)
      clear hcl
      have htk := know_take s l k hlt
      have hkl := know_len s (l.take k)
      have hkt := know_td s (l.take k)
      rw [List.length_take] at hkt
      generalize hst : know s (l.take k) = st at hk htk hkl hkt
      generalize hx : l.getD k 0 = x at x1 hxr htk
      obtain ⟨x0, x63⟩ := hxr
      obtain ⟨n, rfl⟩ := Int.eq_ofNat_of_zero_le x0
      have hnl : n < st.1.length := by omega
      obtain ⟨kv, tv, q1, q2, q3, q4, q5, q6, q7, q8⟩ := hk.rep
      obtain ⟨kg, kc, rfl, k1, k2, k3, k4, k5, k6⟩ := q2.row (by omega)
      have c1 := q1.cell 0
      have c3 := q3.cell 0
      have f3 := q3.frozen 0
      simp only [List.getElem?_cons_zero] at c1 c3
      have cn := k5 n hnl
      have fn := k6 n
      have HTK := Shut.mk htk
      have HST := Shut.mk hst
      have HX := Shut.mk hx
      have HKL := Shut.mk hkl
      have HKT := Shut.mk hkt
      clear htk hst hx hkl hkt k5 k6
      have hq := hk
      cases hb : st.1.getD n false with
      | true =>
        rw [hb] at cn
        have HB := Shut.mk hb
        clear hb
        go_wp2
        go_roundw
        case rel => exact ⟨k + 1, hlt, rfl, ht, F', by rw [HTK.out]; unfold know1; rw [Int.toNat_natCast, if_pos HB.out]; exact hq, HF.out⟩
        case measure => simp [intOf]; omega
      | false =>
        rw [hb] at cn
        have HB := Shut.mk hb
        clear hb
        have o1 := q2.put rfl n hnl true
        have t1 := turn_setCell wr ⟨kg, n, none⟩ (.bool true)
        have nkt : ¬ Blks tv kg := fun hh => Ownv.apart q2 q4 (by decide) rfl hh
        have o2 : OwnI 0 (wr.setCell ⟨kg, n, none⟩ (.bool true)) tv st.2 := Ownv.turn q4 t1 (fun b hb e => nkt (by rw [← show b = kg from e]; exact hb))
        have nk1 : kb ≠ kg := fun e => Ownv.notBlk q2 q1 (by decide) (e ▸ rfl)
        have nk3 : tb ≠ kg := fun e => Ownv.notBlk q2 q3 (by decide) (e ▸ rfl)
        have b1 := q1.turn t1 nk1
        have b3 := q3.turn t1 nk3
        have s1 := size_setCell wr ⟨kg, n, none⟩ (.bool true)
        have hl1 : ∀ b, F' b → b < (wr.setCell ⟨kg, n, none⟩ (.bool true)).heap.size := fun b hb => by rw [s1]; exact hk.lt b hb
        have c3b := b3.cell 0
        simp only [List.getElem?_cons_zero] at c3b
        generalize hW1 : wr.setCell ⟨kg, n, none⟩ (.bool true) = w1 at o1 t1 o2 b1 b3 s1 hl1 c3b
        have S1 := Shut.mk s1
        clear s1
        have k12 : Kept w1 (w1.alloc (.cells #[.int .i64 (n : Int)] 3)) := (Kept.refl w1).alloc _
        go_wp2_with (at_builtin; refine go_appi 0 tv st.2 rfl (Ownv.kept o2 k12) _ [(n : Int)] rfl (OwnI.rd (lit1 w1 n)) (by have := HKT.out; simp; omega) (Nat.zero_le _) ?_; intro v6 w6 o6 t6 l6; obtain ⟨a6, p6, hv6, _, _, _⟩ := (OwnI.rd o6).len; simp only [List.length_append, List.length_cons, List.length_nil, Nat.zero_add] at hv6; subst hv6; have b6 := (b3.kept k12).turn t6 (fun hb => Ownv.notBlk (Ownv.kept o2 k12) (b3.kept k12) (by decide) hb); have c6 := b6.cell 0; have f6 := b6.frozen 0; simp only [List.getElem?_cons_zero] at c6)
        go_roundw
        case rel =>
          have hT : Turn F w (w6.setCell ⟨tb, 0, none⟩ (.slice a6 (st.2.length + 1) p6)) := (((ht.trans t1 (fun b hb => HF.out b (by rw [show b = kg from hb]; exact q7 kg rfl))).kept k12).trans t6 (fun b hb => HF.out b (q8 b hb))).trans (turn_setCell w6 ⟨tb, 0, none⟩ _) (fun b hb => HF.out b (by rw [show b = tb from hb]; exact q6))
          have hs1 : w.heap.size ≤ w1.heap.size := by rw [S1.out]; exact ht.size
          have tS := turn_setCell w6 ⟨tb, 0, none⟩ (.slice a6 (st.2.length + 1) p6)
          have e1 := ((b1.kept k12).turn t6 (fun hb => Ownv.notBlk (Ownv.kept o2 k12) (b1.kept k12) (by decide) hb)).turn tS (Blk.ne q1 q3 (by decide))
          have e2 : OwnB 0 _ _ _ := Ownv.turn (Ownv.turn (Ownv.kept o1 k12) t6 (fun b hb hc => Ownv.apart (Ownv.kept o1 k12) (Ownv.kept o2 k12) (by decide) hb hc)) tS (fun b hb hc => nk3 (by rw [show b = tb from hc] at hb; exact (Option.some.inj hb).symm))
          have e3 := b6.set 0 (.slice a6 (st.2.length + 1) p6)
          have e4 : OwnI 0 _ _ _ := Ownv.setCell o6 (ad := ⟨tb, 0, none⟩) (Ownv.notBlk o6 b6 (by decide)) (.slice a6 (st.2.length + 1) p6)
          refine ⟨k + 1, hlt, rfl, hT, fun b => F' b ∨ (w.heap.size ≤ b ∧ b < (w6.setCell ⟨tb, 0, none⟩ (.slice a6 (st.2.length + 1) p6)).heap.size), ?_, fun b hb => hb.elim (HF.out b) (fun c => .inr c.1)⟩
          rw [HTK.out, know1, Int.toNat_natCast, if_neg (by rw [HB.out]; simp)]
          refine ⟨⟨_, _, e1, e2, e3, e4, .inl q5, .inl q6, fun b hb => .inl (q7 b hb), fun b hb => ?_⟩, fun b hb => hb.elim (fun c => ?_) (fun c => c.2)⟩
          · rcases l6 b hb with c | c
            · exact .inl (q8 b c)
            · exact .inr ⟨by have := k12.size; omega, (Ownv.lt e4 hb).1⟩
          · have h1 := hk.lt b c
            have h2 := S1.out
            have h3 := k12.size
            have h4 := t6.size
            rw [size_setCell]; omega
        case measure => simp [intOf]; omega
    · obtain rfl : k = l.length := by omega
      rw [List.take_length] at hk
      go_wp2
      go_end0
      exact ⟨rfl, F', hk, ht, HF.out⟩
end Go.Proofs.YtangbnmgkcmhbaaDoor
end

section
/- A term's text: what Show is to write. Nothing here names a program. -/
set_option linter.unusedSimpArgs false
set_option linter.unusedVariables false
namespace Go.Proofs.YtangbnmgkcmhbaaDoor
open Go

def esc (s : List UInt8) : List UInt8 := s.flatMap fun c => if c = 34 ∨ c = 92 then [92, c] else [c]
def joinC : List (List UInt8) → List UInt8
  | [] => []
  | [x] => x
  | x :: y :: r => x ++ 44 :: joinC (y :: r)
/-- A node's text, where f tells its parts'. -/
def one (f : Int → List UInt8) (d : Nd) : List UInt8 :=
  if d.op = 1 then 35 :: Lib.itoa d.n else if d.op = 2 then 34 :: (esc d.s ++ [34]) else kName d.op ++ 40 :: (joinC (d.l.map f) ++ [41])
def stepS (acc : List (List UInt8)) (d : Nd) : List (List UInt8) := acc ++ [one (fun x => acc.getD x.toNat []) d]
/-- All terms' texts. -/
def shws (ds : List Nd) : List (List UInt8) := ds.foldl stepS []
/-- The text of a term. -/
def shw (ds : List Nd) (t : Int) : List UInt8 := (shws ds).getD t.toNat []

theorem shws_pre (ds : List Nd) : ∀ acc : List (List UInt8), ∃ r, ds.foldl stepS acc = acc ++ r ∧ r.length = ds.length := by
  induction ds with
  | nil => exact fun acc => ⟨[], by simp, rfl⟩
  | cons d ds ih =>
    intro acc
    obtain ⟨r, h1, h2⟩ := ih (stepS acc d)
    refine ⟨one (fun x => acc.getD x.toNat []) d :: r, ?_, by simp [h2]⟩
    rw [List.foldl_cons, h1]
    simp [stepS]
theorem shws_append (a b : List Nd) : ∃ r, shws (a ++ b) = shws a ++ r ∧ r.length = b.length := by
  unfold shws
  rw [List.foldl_append]
  exact shws_pre b _
theorem shws_length (ds : List Nd) : (shws ds).length = ds.length := by
  obtain ⟨r, h1, h2⟩ := shws_pre ds []
  unfold shws
  rw [h1]
  simpa using h2
theorem shw_more {ds : List Nd} (es : List Nd) {t : Int} (h : t.toNat < ds.length) : shw (ds ++ es) t = shw ds t := by
  obtain ⟨r, h1, _⟩ := shws_append ds es
  unfold shw
  rw [h1]
  simp only [List.getD_eq_getElem?_getD]
  rw [List.getElem?_append_left (by rw [shws_length]; exact h)]
theorem one_congr {f g : Int → List UInt8} {d : Nd} (h : ∀ x ∈ d.l, f x = g x) : one f d = one g d := by
  unfold one
  rw [List.map_congr_left h]
/-- What a term's text is. -/
theorem shw_eq {ds : List Nd} (hg : Good ds) {t : Int} (h0 : 0 ≤ t) (h1 : t < ds.length) : shw ds t = one (shw ds) (ds.getD t.toNat nd0) := by
  obtain ⟨i, rfl⟩ := Int.eq_ofNat_of_zero_le h0
  have hi : i < ds.length := by omega
  simp only [Int.toNat_natCast]
  have hsplit : ds = ds.take i ++ (ds.getD i nd0 :: ds.drop (i + 1)) := by
    rw [List.getD_eq_getElem?_getD, List.getElem?_eq_getElem hi, Option.getD_some, List.getElem_cons_drop hi, List.take_append_drop]
  have htl : (ds.take i).length = i := by rw [List.length_take]; omega
  have key1 : shw ds (i : Int) = one (fun x => (shws (ds.take i)).getD x.toNat []) (ds.getD i nd0) := by
    have e : shws ds = (ds.drop (i + 1)).foldl stepS (stepS (shws (ds.take i)) (ds.getD i nd0)) := by
      conv => lhs; rw [hsplit]
      unfold shws
      rw [List.foldl_append, List.foldl_cons]
    obtain ⟨r, h2, _⟩ := shws_pre (ds.drop (i + 1)) (stepS (shws (ds.take i)) (ds.getD i nd0))
    unfold shw
    rw [e, h2]
    simp only [Int.toNat_natCast, stepS, List.append_assoc, List.getD_eq_getElem?_getD]
    rw [List.getElem?_append_right (by rw [shws_length, htl]; omega), shws_length, htl]
    simp
  rw [key1]
  refine one_congr fun x hx => ?_
  obtain ⟨x0, x1⟩ := hg.lesser hi x hx
  have : shw (ds.take i ++ ds.drop i) x = shw (ds.take i) x := shw_more _ (by rw [htl]; omega)
  rw [List.take_append_drop] at this
  rw [this]
  rfl

theorem joinC_snoc (l : List (List UInt8)) (x : List UInt8) : joinC (l ++ [x]) = if l = [] then x else joinC l ++ 44 :: x := by
  induction l with
  | nil => rfl
  | cons a l ih =>
    cases l with
    | nil => rfl
    | cons b l =>
      simp only [List.cons_append, joinC] at ih ⊢
      rw [ih]
      simp
theorem joinC_take_le (l : List (List UInt8)) (k : Nat) : (joinC (l.take k)).length ≤ (joinC l).length := by
  induction l generalizing k with
  | nil => simp [joinC]
  | cons a l ih =>
    cases k with
    | zero => simp [joinC]
    | succ k =>
      cases l with
      | nil => simp [joinC]
      | cons b l =>
        cases k with
        | zero => simp [joinC]
        | succ k =>
          have := ih (k + 1)
          simp only [List.take_succ_cons, joinC, List.length_append, List.length_cons] at this ⊢
          omega
theorem joinC_step (l : List Int) (f : Int → List UInt8) {k : Nat} (h : k < l.length) :
    joinC ((l.take (k + 1)).map f) = joinC ((l.take k).map f) ++ ((if k = 0 then [] else [44]) ++ f (l.getD k 0)) := by
  rw [List.take_succ_eq_append_getElem h, List.map_append, List.map_cons, List.map_nil, joinC_snoc, List.getD_eq_getElem?_getD, List.getElem?_eq_getElem h]
  by_cases c : k = 0
  · subst c
    simp [joinC]
  · have : ¬ (l.take k).map f = [] := by
      intro e
      have := congrArg List.length e
      rw [List.length_map, List.length_take, List.length_nil] at this
      omega
    rw [if_neg this, if_neg c]
    simp

/-- What is written behind old: all of x, or more than may be shown, where all of x is more, too. -/
def Out (old x new : List UInt8) : Prop := new = old ++ x ∨ (4000 < new.length ∧ 4000 < old.length + x.length)
theorem esc_snoc (s : List UInt8) (c : UInt8) : esc (s ++ [c]) = esc s ++ (if c = 34 ∨ c = 92 then [92, c] else [c]) := by simp [esc]
theorem esc_len (s : List UInt8) : (esc s).length ≤ 2 * s.length := by
  induction s with
  | nil => simp [esc]
  | cons c s ih =>
    have e : esc (c :: s) = (if c = 34 ∨ c = 92 then [92, c] else [c]) ++ esc s := by simp [esc]
    rw [e, List.length_append]
    have : (if c = 34 ∨ c = 92 then [92, c] else [c]).length ≤ 2 := by split <;> simp
    simp
    omega
theorem kName_len (o : Int) : (kName o).length ≤ 5 := by
  unfold kName
  rcases Nat.lt_or_ge o.toNat 13 with h | h
  · generalize o.toNat = n at h
    have : n = 0 ∨ n = 1 ∨ n = 2 ∨ n = 3 ∨ n = 4 ∨ n = 5 ∨ n = 6 ∨ n = 7 ∨ n = 8 ∨ n = 9 ∨ n = 10 ∨ n = 11 ∨ n = 12 := by omega
    rcases this with e | e | e | e | e | e | e | e | e | e | e | e | e <;> subst e <;> simp [kTab]
  · rw [List.getD_eq_getElem?_getD, List.getElem?_eq_none (by simp [kTab]; omega)]
    simp
end Go.Proofs.YtangbnmgkcmhbaaDoor
end

section
/- What a term is made of: plain facts. Nothing here names a program. -/
set_option linter.unusedSimpArgs false
set_option linter.unusedVariables false
namespace Go.Proofs.YtangbnmgkcmhbaaDoor
open Go

/-- x is in t. -/
inductive Reach (ds : List Nd) (t : Int) : Int → Prop
  | refl : 0 ≤ t → t < ds.length → Reach ds t t
  | step {x y : Int} : Reach ds t x → y ∈ (ds.getD x.toNat nd0).l → Reach ds t y

theorem Reach.bound {ds : List Nd} (hg : Good ds) {t x : Int} (h : Reach ds t x) : 0 ≤ x ∧ x ≤ t ∧ t < ds.length ∧ 0 ≤ t := by
  induction h with
  | refl h0 h1 => exact ⟨h0, Int.le_refl _, h1, h0⟩
  | step h1 h2 ih =>
    obtain ⟨a, b, c, d⟩ := ih
    have := hg.lesser (i := _) (by omega) _ h2
    omega
theorem Reach.trans {ds : List Nd} {t x y : Int} (h : Reach ds t x) (k : Reach ds x y) : Reach ds t y := by
  induction k with
  | refl _ _ => exact h
  | step _ h2 ih => exact .step ih h2

/-- The numbers of a list are all that t is made of, each once. -/
def Parts (ds : List Nd) (t : Int) (ks : List Int) : Prop := ks.Nodup ∧ ∀ x, x ∈ ks ↔ Reach ds t x
theorem Parts.length {ds : List Nd} {t : Int} {ks ls : List Int} (h : Parts ds t ks) (k : Parts ds t ls) : ks.length = ls.length :=
  ((List.perm_ext_iff_of_nodup h.1 k.1).2 fun x => (h.2 x).trans (k.2 x).symm).length_eq

theorem mem_getD {l : List Int} {k : Nat} (h : k < l.length) : l.getD k 0 ∈ l := by
  rw [List.getD_eq_getElem?_getD, List.getElem?_eq_getElem h]
  exact List.getElem_mem _
/-- What the search has: what is still to be gone through, and what was met. -/
structure Dfs (ds : List Nd) (t : Int) (zs ks : List Int) : Prop where
  met : ∀ z ∈ zs, z ∈ ks
  in' : ∀ x ∈ ks, Reach ds t x
  all : ∀ x ∈ ks, x ∉ zs → ∀ y ∈ (ds.getD x.toNat nd0).l, y ∈ ks
  top : t ∈ ks
  once : ks.Nodup
theorem Dfs.start {ds : List Nd} {t : Int} (h0 : 0 ≤ t) (h1 : t < ds.length) : Dfs ds t [t] [t] :=
  ⟨fun z hz => hz, fun x hx => by rw [List.mem_singleton.1 hx]; exact .refl h0 h1, fun x hx hn => absurd hx hn, by simp, by simp⟩
theorem Dfs.done {ds : List Nd} {t : Int} {ks : List Int} (h : Dfs ds t [] ks) : Parts ds t ks := by
  refine ⟨h.once, fun x => ⟨h.in' x, fun hr => ?_⟩⟩
  induction hr with
  | refl _ _ => exact h.top
  | step h1 h2 ih => exact h.all _ ih (by simp) _ h2
/-- .. while the parts of x are gone through: so many of them. -/
structure Dfs2 (ds : List Nd) (t x : Int) (k : Nat) (zs ks : List Int) : Prop where
  met : ∀ z ∈ zs, z ∈ ks
  in' : ∀ x ∈ ks, Reach ds t x
  all : ∀ u ∈ ks, u ∉ zs → u ≠ x → ∀ y ∈ (ds.getD u.toNat nd0).l, y ∈ ks
  own : ∀ i, i < k → (ds.getD x.toNat nd0).l.getD i 0 ∈ ks
  top : t ∈ ks
  x : x ∈ ks
  once : ks.Nodup
theorem Dfs.pop {ds : List Nd} {t : Int} {zs ks : List Int} (h : Dfs ds t zs ks) (hp : 0 < zs.length) : Dfs2 ds t (zs.getD (zs.length - 1) 0) 0 (zs.take (zs.length - 1)) ks := by
  have hx : zs.getD (zs.length - 1) 0 ∈ zs := by
    rw [List.getD_eq_getElem?_getD, List.getElem?_eq_getElem (show zs.length - 1 < zs.length by omega)]
    exact List.getElem_mem _
  refine ⟨fun z hz => h.met z (List.mem_of_mem_take hz), h.in', fun u hu hn hne y hy => h.all u hu (fun hz => ?_) y hy, fun i hi => absurd hi (Nat.not_lt_zero _), h.top, h.met _ hx, h.once⟩
  have e : zs = zs.take (zs.length - 1) ++ [zs.getD (zs.length - 1) 0] := by
    rw [List.getD_eq_getElem?_getD, List.getElem?_eq_getElem (show zs.length - 1 < zs.length by omega), Option.getD_some]
    have := List.take_succ_eq_append_getElem (l := zs) (i := zs.length - 1) (by omega)
    rw [← this, Nat.sub_add_cancel hp, List.take_length]
  rw [e] at hz
  rcases List.mem_append.1 hz with c | c
  · exact hn c
  · exact hne (List.mem_singleton.1 c)
theorem Dfs2.old {ds : List Nd} {t x : Int} {k : Nat} {zs ks : List Int} (h : Dfs2 ds t x k zs ks) (hm : (ds.getD x.toNat nd0).l.getD k 0 ∈ ks) : Dfs2 ds t x (k + 1) zs ks :=
  ⟨h.met, h.in', h.all, fun i hi => by
    by_cases c : i < k
    · exact h.own i c
    · obtain rfl : i = k := by omega
      exact hm, h.top, h.x, h.once⟩
theorem Dfs2.new {ds : List Nd} {t x : Int} {k : Nat} {zs ks : List Int} (h : Dfs2 ds t x k zs ks) (hk : k < (ds.getD x.toNat nd0).l.length) (hm : (ds.getD x.toNat nd0).l.getD k 0 ∉ ks) :
    Dfs2 ds t x (k + 1) (zs ++ [(ds.getD x.toNat nd0).l.getD k 0]) ((ds.getD x.toNat nd0).l.getD k 0 :: ks) := by
  have hmem : (ds.getD x.toNat nd0).l.getD k 0 ∈ (ds.getD x.toNat nd0).l := mem_getD hk
  refine ⟨fun z hz => ?_, fun u hu => ?_, fun u hu hn hne y hy => ?_, fun i hi => ?_, List.mem_cons_of_mem _ h.top, List.mem_cons_of_mem _ h.x, List.nodup_cons.2 ⟨hm, h.once⟩⟩
  · rcases List.mem_append.1 hz with c | c
    · exact List.mem_cons_of_mem _ (h.met z c)
    · rw [List.mem_singleton.1 c]; exact List.mem_cons_self
  · rcases List.mem_cons.1 hu with c | c
    · rw [c]; exact .step (h.in' x h.x) hmem
    · exact h.in' u c
  · rcases List.mem_cons.1 hu with c | c
    · exact absurd (List.mem_append.2 (.inr (List.mem_singleton.2 c))) hn
    · exact List.mem_cons_of_mem _ (h.all u c (fun hz => hn (List.mem_append.2 (.inl hz))) hne y hy)
  · by_cases c : i < k
    · exact List.mem_cons_of_mem _ (h.own i c)
    · obtain rfl : i = k := by omega
      exact List.mem_cons_self
theorem Dfs2.done {ds : List Nd} {t x : Int} {zs ks : List Int} (h : Dfs2 ds t x (ds.getD x.toNat nd0).l.length zs ks) : Dfs ds t zs ks :=
  ⟨h.met, h.in', fun u hu hn y hy => by
    by_cases c : u = x
    · subst c
      obtain ⟨i, hi, e⟩ := List.mem_iff_getElem.1 hy
      have := h.own i hi
      rwa [List.getD_eq_getElem?_getD, List.getElem?_eq_getElem hi, Option.getD_some, e] at this
    · exact h.all u hu hn c y hy, h.top, h.once⟩

theorem nodup_le (n : Nat) : ∀ ks : List Int, ks.Nodup → (∀ x ∈ ks, 0 ≤ x ∧ x < n) → ks.length ≤ n := by
  induction n with
  | zero =>
    intro ks _ hb
    cases ks with
    | nil => simp
    | cons x ks => have := hb x List.mem_cons_self; omega
  | succ n ih =>
    intro ks h hb
    have h1 := ih (ks.erase (n : Int)) (h.erase _) (fun x hx => by
      obtain ⟨a, b⟩ := (List.Nodup.mem_erase_iff h).1 hx
      have := hb x b
      omega)
    by_cases c : (n : Int) ∈ ks
    · rw [List.length_erase_of_mem c] at h1; omega
    · rw [List.erase_of_not_mem c] at h1; omega

/-! ## atoms -/
/-- The numbers of all atoms in t, rising. -/
def Atoms (ds : List Nd) (t : Int) (l : List Int) : Prop := l.Pairwise (· < ·) ∧ ∀ n, n ∈ l ↔ ∃ x, Reach ds t x ∧ (ds.getD x.toNat nd0).op = 1 ∧ (ds.getD x.toNat nd0).n = n
theorem sorted_unique {l m : List Int} (hl : l.Pairwise (· < ·)) (hm : m.Pairwise (· < ·)) (h : ∀ x, x ∈ l ↔ x ∈ m) : l = m := by
  induction l generalizing m with
  | nil =>
    cases m with
    | nil => rfl
    | cons y m => exact absurd ((h y).2 List.mem_cons_self) (by simp)
  | cons x l ih =>
    cases m with
    | nil => exact absurd ((h x).1 List.mem_cons_self) (by simp)
    | cons y m =>
      obtain ⟨hl1, hl2⟩ := List.pairwise_cons.1 hl
      obtain ⟨hm1, hm2⟩ := List.pairwise_cons.1 hm
      have e : x = y := by
        rcases List.mem_cons.1 ((h x).1 List.mem_cons_self) with c | c
        · exact c
        · rcases List.mem_cons.1 ((h y).2 List.mem_cons_self) with c' | c'
          · exact c'.symm
          · have := hm1 x c; have := hl1 y c'; omega
      subst e
      rw [ih hl2 hm2 fun z => ⟨fun hz => ?_, fun hz => ?_⟩]
      · rcases List.mem_cons.1 ((h z).1 (List.mem_cons_of_mem _ hz)) with c | c
        · subst c; have := hl1 z hz; omega
        · exact c
      · rcases List.mem_cons.1 ((h z).2 (List.mem_cons_of_mem _ hz)) with c | c
        · subst c; have := hm1 z hz; omega
        · exact c
theorem Atoms.unique {ds : List Nd} {t : Int} {l m : List Int} (h : Atoms ds t l) (k : Atoms ds t m) : l = m :=
  sorted_unique h.1 k.1 fun x => (h.2 x).trans (k.2 x).symm
end Go.Proofs.YtangbnmgkcmhbaaDoor
end

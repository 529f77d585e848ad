/- Secrets: what is made of terms, and what opens; plain facts. Nothing here names a program. -/
import Derived.Test.YtihagkeljhgomaaDoorTermNp
set_option linter.unusedSimpArgs false
set_option linter.unusedVariables false
namespace Go.Proofs.YtihagkeljhgomaaDoor
open Go

/-- t is a term. -/
def IsT (ds : List Nd) (t : Int) : Prop := 0 ≤ t ∧ t < ds.length
instance (ds : List Nd) (t : Int) : Decidable (IsT ds t) := by unfold IsT; infer_instance
/-- t is the term of the node d. -/
structure Is (ds : List Nd) (t : Int) (d : Nd) : Prop where
  lo : 0 ≤ t
  hi : t < ds.length
  eq : ds.getD t.toNat nd0 = d
theorem Is.isT {ds : List Nd} {t : Int} {d : Nd} (h : Is ds t d) : IsT ds t := ⟨h.lo, h.hi⟩
theorem IsT.more {ds : List Nd} {t : Int} (h : IsT ds t) (r : List Nd) : IsT (ds ++ r) t := ⟨h.1, by have := h.2; rw [List.length_append]; omega⟩
theorem Is.more {ds : List Nd} {t : Int} {d : Nd} (h : Is ds t d) (r : List Nd) : Is (ds ++ r) t d :=
  ⟨h.lo, by have := h.hi; rw [List.length_append]; omega, by rw [getD_app (by have := h.hi; have := h.lo; omega)]; exact h.eq⟩
theorem Is.at {ds : List Nd} {t : Int} {d : Nd} (h : Is ds t d) : ndAt ds t = d := by unfold ndAt; rw [if_pos ⟨h.lo, h.hi⟩]; exact h.eq
theorem Is.e {ds : List Nd} {t : Int} {d : Nd} (h : Is ds t d) : ndE ds t = 0 := by unfold ndE; rw [if_pos ⟨h.lo, h.hi⟩]
theorem Is.node {ds : List Nd} {t : Int} {c d : Nd} (h : Is ds t c) (k : Is ds t d) : c = d := h.eq.symm.trans k.eq
theorem Is.same {ds : List Nd} (hg : Good ds) {t u : Int} {d : Nd} (h : Is ds t d) (k : Is ds u d) : t = u := by
  have := hg.once t.toNat u.toNat (by have := h.hi; have := h.lo; omega) (by have := k.hi; have := k.lo; omega) (h.eq.trans k.eq.symm)
  have := h.lo
  have := k.lo
  omega
theorem Is.iff {ds : List Nd} (hg : Good ds) {t u : Int} {c d : Nd} (h : Is ds t c) (k : Is ds u d) : t = u ↔ c = d :=
  ⟨fun e => by subst e; exact h.node k, fun e => by subst e; exact h.same hg k⟩
/-- What a term is made of is less. -/
theorem Is.less {ds : List Nd} (hg : Good ds) {t : Int} {d : Nd} (h : Is ds t d) : ∀ x ∈ d.l, x < t := fun x hx => by
  have := hg.lesser (i := t.toNat) (by have := h.hi; have := h.lo; omega) x (by rw [h.eq]; exact hx)
  have := h.lo
  omega

/-- Make, of a node that may be. -/
theorem mk_is {ds : List Nd} {d : Nd} (hm : May ds d) (hl : ds.length < 100000) : ∃ r t, mk ds d = (ds ++ r, t, 0) ∧ r.length ≤ 1 ∧ Is (ds ++ r) t d := by
  cases hf : find ds d with
  | some i =>
    obtain ⟨h1, h2⟩ := find_some hf
    exact ⟨[], (i : Int), by rw [mk_old hm hf]; simp, by simp, ⟨by omega, by simpa using h1, by simpa using h2⟩⟩
  | none =>
    refine ⟨[d], (ds.length : Int), mk_new hm hf (by omega), by simp, ⟨by omega, by simp; omega, ?_⟩⟩
    rw [Int.toNat_natCast, getD_snoc, if_neg (by omega), if_pos rfl]

theorem mk_ext1 (ds : List Nd) (d : Nd) : ∃ r, (mk ds d).1 = ds ++ r ∧ r.length ≤ 1 := by
  obtain ⟨r, hr⟩ := mk_ext ds d
  have := (mk_le ds d).2
  rw [hr, List.length_append] at this
  exact ⟨r, hr, by omega⟩

/-! ## nodes that may be -/
theorem may_atom (ds : List Nd) {n : Int} (h : 0 ≤ n) : May ds ⟨1, n, [], []⟩ :=
  ⟨by simp, by simp, h, .inr rfl, by simp, .inl rfl, by simp [kLeast, kTab], by simp [kMost, kTab], (fun x hx => by cases hx), (fun e => by simp at e)⟩
theorem may_text (ds : List Nd) {s : List UInt8} (h : s.length ≤ 200) : May ds ⟨2, 0, s, []⟩ :=
  ⟨by simp, by simp, by simp, .inl rfl, h, .inr rfl, by simp [kLeast, kTab], by simp [kMost, kTab], (fun x hx => by cases hx), (fun e => by simp at e)⟩
theorem may_list (ds : List Nd) {l : List Int} (hl : l.length ≤ 64) (h : ∀ x ∈ l, IsT ds x) : May ds ⟨3, 0, [], l⟩ :=
  ⟨by simp, by simp, by simp, .inl rfl, by simp, .inl rfl, by simp [kLeast, kTab], by simp [kMost, kTab]; omega, h, (fun e => by simp at e)⟩
theorem may_key {ds : List Nd} {s t c : Int} {x : List UInt8} (hs : IsT ds s) (ht : Is ds t ⟨2, 0, x, []⟩) (hc : IsT ds c) : May ds ⟨6, 0, [], [s, t, c]⟩ :=
  ⟨by simp, by simp, by simp, .inl rfl, by simp, .inl rfl, by simp [kLeast, kTab], by simp [kMost, kTab], (fun y hy => by
    simp only [List.mem_cons, List.not_mem_nil, or_false] at hy
    rcases hy with rfl | rfl | rfl
    · exact hs
    · exact ht.isT
    · exact hc), (fun _ => by
    show (ds.getD (([s, t, c] : List Int).getD 1 0).toNat nd0).op = 2
    rw [show ([s, t, c] : List Int).getD 1 0 = t from rfl, ht.eq])⟩
theorem may1 {ds : List Nd} {op a : Int} (ho : op = 4 ∨ op = 7) (ha : IsT ds a) : May ds ⟨op, 0, [], [a]⟩ := by
  have hall : ∀ x ∈ [a], 0 ≤ x ∧ x < (ds.length : Int) := fun x hx => by
    rw [List.mem_singleton.1 hx]; exact ha
  rcases ho with rfl | rfl <;>
  exact ⟨by simp, by simp, by simp, .inl rfl, by simp, .inl rfl, by simp [kLeast, kTab], by simp [kMost, kTab], hall, (fun e => by simp at e)⟩
theorem may2 {ds : List Nd} {op a b : Int} (ho : op = 5 ∨ op = 10 ∨ op = 11 ∨ op = 12) (ha : IsT ds a) (hb : IsT ds b) : May ds ⟨op, 0, [], [a, b]⟩ := by
  have hall : ∀ x ∈ [a, b], 0 ≤ x ∧ x < (ds.length : Int) := fun x hx => by
    simp only [List.mem_cons, List.not_mem_nil, or_false] at hx
    rcases hx with rfl | rfl
    · exact ha
    · exact hb
  rcases ho with rfl | rfl | rfl | rfl <;>
  exact ⟨by simp, by simp, by simp, .inl rfl, by simp, .inl rfl, by simp [kLeast, kTab], by simp [kMost, kTab], hall, (fun e => by simp at e)⟩
theorem may4 {ds : List Nd} {op a b c d : Int} (ho : op = 8 ∨ op = 9) (ha : IsT ds a) (hb : IsT ds b) (hc : IsT ds c) (hd : IsT ds d) : May ds ⟨op, 0, [], [a, b, c, d]⟩ := by
  have hall : ∀ x ∈ [a, b, c, d], 0 ≤ x ∧ x < (ds.length : Int) := fun x hx => by
    simp only [List.mem_cons, List.not_mem_nil, or_false] at hx
    rcases hx with rfl | rfl | rfl | rfl
    · exact ha
    · exact hb
    · exact hc
    · exact hd
  rcases ho with rfl | rfl <;>
  exact ⟨by simp, by simp, by simp, .inl rfl, by simp, .inl rfl, by simp [kLeast, kTab], by simp [kMost, kTab], hall, (fun e => by simp at e)⟩

/-! ## what the layer's calls answer -/
/-- The parts of a term of that kind, and whether it is one. -/
def partsB (ds : List Nd) (op t : Int) : Bool := decide (IsT ds t) && decide ((ndAt ds t).op = op)
def partsL (ds : List Nd) (op t : Int) : List Int := if partsB ds op t then ((ndAt ds t).l ++ [0, 0, 0, 0]).take 4 else [0, 0, 0, 0]
/-- All of them are terms. -/
def termsB (ds : List Nd) (l : List Int) : Bool := l.all fun t => decide (IsT ds t)

noncomputable def made (ds : List Nd) (op : Int) (l : List Int) : List Nd × Int × Int := mk ds ⟨op, 0, [], l⟩
noncomputable def expandM (ds : List Nd) (s : Int) (x : List UInt8) (c : Int) : List Nd × Int × Int :=
  let m := mk ds ⟨2, 0, x, []⟩
  if termsB ds [s, c] then if m.2.2 = 0 then made m.1 6 [s, m.2.1, c] else (m.1, 0, m.2.2) else (m.1, 0, 1)
noncomputable def deriveM (ds : List Nd) (s : Int) (x : List UInt8) : List Nd × Int × Int :=
  let m := mk ds ⟨3, 0, [], []⟩
  if termsB ds [s] then if m.2.2 = 0 then expandM m.1 s x m.2.1 else (m.1, 0, m.2.2) else ((mk m.1 ⟨2, 0, x, []⟩).1, 0, 1)
noncomputable def sealM (ds : List Nd) (pk aad plain draw : Int) : List Nd × Int × Int :=
  if partsB ds 7 pk then made ds 8 [pk, aad, plain, draw] else (ds, 0, 1)
def openM (ds : List Nd) (sk aad x : Int) : Int × Int :=
  if termsB ds [sk, aad, x] then
    if partsB ds 8 x = true ∧ partsB ds 7 ((partsL ds 8 x).getD 0 0) = true ∧ (partsL ds 7 ((partsL ds 8 x).getD 0 0)).getD 0 0 = sk ∧ (partsL ds 8 x).getD 1 0 = aad then ((partsL ds 8 x).getD 2 0, 0) else (0, 40)
  else (0, 1)
def unlockM (ds : List Nd) (key nonce aad x : Int) : Int × Int :=
  if termsB ds [key, nonce, aad, x] then
    if partsB ds 9 x = true ∧ (partsL ds 9 x).getD 0 0 = key ∧ (partsL ds 9 x).getD 1 0 = nonce ∧ (partsL ds 9 x).getD 2 0 = aad then ((partsL ds 9 x).getD 3 0, 0) else (0, 40)
  else (0, 1)
def verifyM (ds : List Nd) (pk m sig : Int) : Bool :=
  partsB ds 10 sig && partsB ds 7 pk && decide ((partsL ds 10 sig).getD 0 0 = (partsL ds 7 pk).getD 0 0) && decide ((partsL ds 10 sig).getD 1 0 = m)
def checkM (ds : List Nd) (k m tag : Int) : Bool :=
  partsB ds 11 tag && decide ((partsL ds 11 tag).getD 0 0 = k) && decide ((partsL ds 11 tag).getD 1 0 = m)
noncomputable def unblindM (ds : List Nd) (sig draw : Int) : List Nd × Int × Int :=
  if termsB ds [sig, draw] then
    if partsB ds 10 sig = true ∧ partsB ds 12 ((partsL ds 10 sig).getD 1 0) = true ∧ (partsL ds 12 ((partsL ds 10 sig).getD 1 0)).getD 1 0 = draw then
      made ds 10 [(partsL ds 10 sig).getD 0 0, (partsL ds 12 ((partsL ds 10 sig).getD 1 0)).getD 0 0] else (ds, 0, 40)
  else (ds, 0, 1)

/-! ## no more than three terms at a time -/
def Ext (ds : List Nd) (n : Nat) (es : List Nd) : Prop := ∃ r, es = ds ++ r ∧ r.length ≤ n
theorem Ext.refl (ds : List Nd) (n : Nat) : Ext ds n ds := ⟨[], by simp, by simp⟩
theorem Ext.trans {a b c : List Nd} {m n k : Nat} (h : Ext a m b) (h2 : Ext b n c) (hk : m + n ≤ k) : Ext a k c := by
  obtain ⟨r, rfl, hr⟩ := h
  obtain ⟨s, rfl, hs⟩ := h2
  exact ⟨r ++ s, by simp, by rw [List.length_append]; omega⟩
theorem Ext.mono {a b : List Nd} {m n : Nat} (h : Ext a m b) (hk : m ≤ n) : Ext a n b := by
  obtain ⟨r, rfl, hr⟩ := h
  exact ⟨r, rfl, by omega⟩
theorem ext_mk (ds : List Nd) (d : Nd) : Ext ds 1 (mk ds d).1 := mk_ext1 ds d
theorem ext_expand (ds : List Nd) (s : Int) (x : List UInt8) (c : Int) : Ext ds 2 (expandM ds s x c).1 := by
  unfold expandM
  simp only
  split
  · split
    · exact (ext_mk ds _).trans (ext_mk _ _) (by omega)
    · exact (ext_mk ds _).mono (by omega)
  · exact (ext_mk ds _).mono (by omega)
theorem ext_derive (ds : List Nd) (s : Int) (x : List UInt8) : Ext ds 3 (deriveM ds s x).1 := by
  unfold deriveM
  simp only
  split
  · split
    · exact (ext_mk ds _).trans (ext_expand _ _ _ _) (by omega)
    · exact (ext_mk ds _).mono (by omega)
  · exact (ext_mk ds _).trans (ext_mk _ _) (by omega)
theorem ext_seal (ds : List Nd) (pk aad plain draw : Int) : Ext ds 1 (sealM ds pk aad plain draw).1 := by
  unfold sealM
  split
  · exact ext_mk ds _
  · exact Ext.refl _ _
theorem ext_unblind (ds : List Nd) (sig draw : Int) : Ext ds 1 (unblindM ds sig draw).1 := by
  unfold unblindM
  split
  · split
    · exact ext_mk ds _
    · exact Ext.refl _ _
  · exact Ext.refl _ _

/-! ## what they answer about terms that are known -/
theorem parts_is {ds : List Nd} {t : Int} {d : Nd} (h : Is ds t d) (op : Int) : partsB ds op t = decide (d.op = op) := by
  unfold partsB
  rw [h.at, decide_eq_true h.isT, Bool.true_and]
theorem partsL_is {ds : List Nd} {t : Int} {d : Nd} (h : Is ds t d) : partsL ds d.op t = (d.l ++ [0, 0, 0, 0]).take 4 := by
  unfold partsL
  rw [parts_is h, if_pos (by simp), h.at]
theorem terms_of {ds : List Nd} {l : List Int} (h : ∀ x ∈ l, IsT ds x) : termsB ds l = true := by
  unfold termsB
  rw [List.all_eq_true]
  exact fun x hx => decide_eq_true (h x hx)
theorem terms2 {ds : List Nd} {a b : Int} (ha : IsT ds a) (hb : IsT ds b) : termsB ds [a, b] = true :=
  terms_of fun x hx => by
    simp only [List.mem_cons, List.not_mem_nil, or_false] at hx
    rcases hx with rfl | rfl <;> assumption
theorem terms3 {ds : List Nd} {a b c : Int} (ha : IsT ds a) (hb : IsT ds b) (hc : IsT ds c) : termsB ds [a, b, c] = true :=
  terms_of fun x hx => by
    simp only [List.mem_cons, List.not_mem_nil, or_false] at hx
    rcases hx with rfl | rfl | rfl <;> assumption
theorem terms4 {ds : List Nd} {a b c d : Int} (ha : IsT ds a) (hb : IsT ds b) (hc : IsT ds c) (hd : IsT ds d) : termsB ds [a, b, c, d] = true :=
  terms_of fun x hx => by
    simp only [List.mem_cons, List.not_mem_nil, or_false] at hx
    rcases hx with rfl | rfl | rfl | rfl <;> assumption

theorem open_is {ds : List Nd} {x pk sk aad plain draw a b : Int} (hx : Is ds x ⟨8, 0, [], [pk, aad, plain, draw]⟩) (hp : Is ds pk ⟨7, 0, [], [sk]⟩) (ha : IsT ds a) (hb : IsT ds b) :
    openM ds a b x = if a = sk ∧ b = aad then (plain, 0) else (0, 40) := by
  have e1 := partsL_is hx
  have e2 := partsL_is hp
  simp only at e1 e2
  unfold openM
  rw [terms3 ha hb hx.isT, if_pos rfl, parts_is hx, e1]
  simp only [List.cons_append, List.nil_append, List.take_succ_cons, List.take_zero, List.getD_cons_zero, List.getD_cons_succ]
  rw [parts_is hp, e2]
  simp only [List.cons_append, List.nil_append, List.take_succ_cons, List.take_zero, List.getD_cons_zero, List.getD_cons_succ, decide_true, true_and]
  by_cases h : a = sk ∧ b = aad
  · rw [if_pos h, if_pos ⟨h.1.symm, h.2.symm⟩]
  · rw [if_neg h, if_neg (fun e => h ⟨e.1.symm, e.2.symm⟩)]
theorem unlock_is {ds : List Nd} {x key nonce aad plain a b c : Int} (hx : Is ds x ⟨9, 0, [], [key, nonce, aad, plain]⟩) (ha : IsT ds a) (hb : IsT ds b) (hc : IsT ds c) :
    unlockM ds a b c x = if a = key ∧ b = nonce ∧ c = aad then (plain, 0) else (0, 40) := by
  have e1 := partsL_is hx
  simp only at e1
  unfold unlockM
  rw [terms4 ha hb hc hx.isT, if_pos rfl, parts_is hx, e1]
  simp only [List.cons_append, List.nil_append, List.take_succ_cons, List.take_zero, List.getD_cons_zero, List.getD_cons_succ, decide_true, true_and]
  by_cases h : a = key ∧ b = nonce ∧ c = aad
  · rw [if_pos h, if_pos ⟨h.1.symm, h.2.1.symm, h.2.2.symm⟩]
  · rw [if_neg h, if_neg (fun e => h ⟨e.1.symm, e.2.1.symm, e.2.2.symm⟩)]
theorem verify_is {ds : List Nd} {x pk sk s m n : Int} (hx : Is ds x ⟨10, 0, [], [s, m]⟩) (hp : Is ds pk ⟨7, 0, [], [sk]⟩) : verifyM ds pk n x = decide (s = sk ∧ m = n) := by
  have e1 := partsL_is hx
  have e2 := partsL_is hp
  simp only at e1 e2
  unfold verifyM
  rw [parts_is hx, parts_is hp, e1, e2]
  simp [Bool.decide_and]
theorem check_is {ds : List Nd} {x k m a n : Int} (hx : Is ds x ⟨11, 0, [], [k, m]⟩) : checkM ds a n x = decide (k = a ∧ m = n) := by
  have e1 := partsL_is hx
  simp only at e1
  unfold checkM
  rw [parts_is hx, e1]
  simp [Bool.decide_and]
theorem unblind_is {ds : List Nd} {x b s m draw d : Int} (hx : Is ds x ⟨10, 0, [], [s, b]⟩) (hb : Is ds b ⟨12, 0, [], [m, draw]⟩) (hd : IsT ds d) :
    unblindM ds x d = if d = draw then made ds 10 [s, m] else (ds, 0, 40) := by
  have e1 := partsL_is hx
  have e2 := partsL_is hb
  simp only at e1 e2
  unfold unblindM
  rw [terms2 hx.isT hd, if_pos rfl, parts_is hx, e1]
  simp only [List.cons_append, List.nil_append, List.take_succ_cons, List.take_zero, List.getD_cons_zero, List.getD_cons_succ]
  rw [parts_is hb, e2]
  simp only [List.cons_append, List.nil_append, List.take_succ_cons, List.take_zero, List.getD_cons_zero, List.getD_cons_succ, decide_true, true_and]
  by_cases h : d = draw
  · rw [if_pos h, if_pos h.symm]
  · rw [if_neg h, if_neg (fun e => h e.symm)]
theorem seal_is {ds : List Nd} {pk sk aad plain draw : Int} (hp : Is ds pk ⟨7, 0, [], [sk]⟩) : sealM ds pk aad plain draw = made ds 8 [pk, aad, plain, draw] := by
  unfold sealM
  rw [parts_is hp, if_pos (by simp)]
/-- Expand, of terms, and a label that is short. -/
theorem expand_is {ds : List Nd} {s c : Int} {x : List UInt8} (hs : IsT ds s) (hc : IsT ds c) (hx : x.length ≤ 200) (hl : ds.length < 99998) :
    ∃ r y t, expandM ds s x c = (ds ++ r, y, 0) ∧ r.length ≤ 2 ∧ Is (ds ++ r) t ⟨2, 0, x, []⟩ ∧ Is (ds ++ r) y ⟨6, 0, [], [s, t, c]⟩ := by
  obtain ⟨r1, t, h1, h2, h3⟩ := mk_is (may_text ds hx) (by omega)
  obtain ⟨r2, y, h4, h5, h6⟩ := mk_is (may_key (hs.more r1) h3 (hc.more r1)) (by rw [List.length_append]; omega)
  refine ⟨r1 ++ r2, y, t, ?_, by rw [List.length_append]; omega, ?_, ?_⟩
  · unfold expandM made
    simp only [h1, terms2 hs hc, if_true, h4, List.append_assoc]
  · rw [← List.append_assoc]; exact h3.more r2
  · rw [← List.append_assoc]; exact h6
end Go.Proofs.YtihagkeljhgomaaDoor

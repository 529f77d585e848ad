/- Texts of one proof, put together: CrS, AtA, TermGl, AtL, HhM, HhA, TermH, TermT, TermI, TermJ, HhB, HhC. -/
import Derived.Test.YtnmaiokhndbicaaGreatDoorMg04
import Derived.Deep.RegionLaw
import Derived.Test.YtnmaiokhndbicaaGreatDoorMg03
import Derived.Lib.Builder
import Derived.Lib.UnsafeStr
import Derived.Laws.Externs
import Derived.StillTailTactics
import Derived.Lib.ConvBytes
import Derived.Laws.Pointers
import Derived.Test.YtnmaiokhndbicaaGreatDoorMg02
import Derived.Deep.WholeRow
import Derived.Deep.Cut
section
/- Secrets: what is made of terms, and what opens; plain facts. Nothing here names a program. -/
set_option linter.unusedSimpArgs false
set_option linter.unusedVariables false
namespace Go.Proofs.YtnmaiokhndbicaaGreatDoor
open Go

/-- t is a term. -/
def IsT (ds : List Nd) (t : Int) : Prop := 0 ≤ t ∧ t < ds.length
instance (ds : List Nd) (t : Int) : Decidable (IsT ds t) := by unfold IsT; infer_instance
/-- t is the term of the node d. -/
structure Is (ds : List Nd) (t : Int) (d : Nd) : Prop where
  lo : 0 ≤ t
  hi : t < ds.length
  eq : ds.getD t.toNat nd0 = d
theorem Is.isT {ds : List Nd} {t : Int} {d : Nd} (h : Is ds t d) : IsT ds t := ⟨h.lo, h.hi⟩
theorem IsT.more {ds : List Nd} {t : Int} (h : IsT ds t) (r : List Nd) : IsT (ds ++ r) t := ⟨h.1, by have := h.2; rw [List.length_append]; omega⟩
theorem Is.more {ds : List Nd} {t : Int} {d : Nd} (h : Is ds t d) (r : List Nd) : Is (ds ++ r) t d :=
  ⟨h.lo, by have := h.hi; rw [List.length_append]; omega, by rw [getD_app (by have := h.hi; have := h.lo; omega)]; exact h.eq⟩
theorem Is.at {ds : List Nd} {t : Int} {d : Nd} (h : Is ds t d) : ndAt ds t = d := by unfold ndAt; rw [if_pos ⟨h.lo, h.hi⟩]; exact h.eq
theorem Is.e {ds : List Nd} {t : Int} {d : Nd} (h : Is ds t d) : ndE ds t = 0 := by unfold ndE; rw [if_pos ⟨h.lo, h.hi⟩]
theorem Is.node {ds : List Nd} {t : Int} {c d : Nd} (h : Is ds t c) (k : Is ds t d) : c = d := h.eq.symm.trans k.eq
theorem Is.same {ds : List Nd} (hg : Good ds) {t u : Int} {d : Nd} (h : Is ds t d) (k : Is ds u d) : t = u := by
  have := hg.once t.toNat u.toNat (by have := h.hi; have := h.lo; omega) (by have := k.hi; have := k.lo; omega) (h.eq.trans k.eq.symm)
  have := h.lo
  have := k.lo
  omega
theorem Is.iff {ds : List Nd} (hg : Good ds) {t u : Int} {c d : Nd} (h : Is ds t c) (k : Is ds u d) : t = u ↔ c = d :=
  ⟨fun e => by subst e; exact h.node k, fun e => by subst e; exact h.same hg k⟩
/-- What a term is made of is less. -/
theorem Is.less {ds : List Nd} (hg : Good ds) {t : Int} {d : Nd} (h : Is ds t d) : ∀ x ∈ d.l, x < t := fun x hx => by
  have := hg.lesser (i := t.toNat) (by have := h.hi; have := h.lo; omega) x (by rw [h.eq]; exact hx)
  have := h.lo
  omega

/-- Make, of a node that may be. -/
theorem mk_is {ds : List Nd} {d : Nd} (hm : May ds d) (hl : ds.length < 100000) : ∃ r t, mk ds d = (ds ++ r, t, 0) ∧ r.length ≤ 1 ∧ Is (ds ++ r) t d := by
  cases hf : find ds d with
  | some i =>
    obtain ⟨h1, h2⟩ := find_some hf
    exact ⟨[], (i : Int), by rw [mk_old hm hf]; simp, by simp, ⟨by omega, by simpa using h1, by simpa using h2⟩⟩
  | none =>
    refine ⟨[d], (ds.length : Int), mk_new hm hf (by omega), by simp, ⟨by omega, by simp; omega, ?_⟩⟩
    rw [Int.toNat_natCast, getD_snoc, if_neg (by omega), if_pos rfl]

theorem mk_ext1 (ds : List Nd) (d : Nd) : ∃ r, (mk ds d).1 = ds ++ r ∧ r.length ≤ 1 := by
  obtain ⟨r, hr⟩ := mk_ext ds d
  have := (mk_le ds d).2
  rw [hr, List.length_append] at this
  exact ⟨r, hr, by omega⟩

/-! ## nodes that may be -/
theorem may_atom (ds : List Nd) {n : Int} (h : 0 ≤ n) : May ds ⟨1, n, [], []⟩ :=
  ⟨by simp, by simp, h, .inr rfl, by simp, .inl rfl, by simp [kLeast, kTab], by simp [kMost, kTab], (fun x hx => by cases hx), (fun e => by simp at e)⟩
theorem may_text (ds : List Nd) {s : List UInt8} (h : s.length ≤ 200) : May ds ⟨2, 0, s, []⟩ :=
  ⟨by simp, by simp, by simp, .inl rfl, h, .inr rfl, by simp [kLeast, kTab], by simp [kMost, kTab], (fun x hx => by cases hx), (fun e => by simp at e)⟩
theorem may_list (ds : List Nd) {l : List Int} (hl : l.length ≤ 64) (h : ∀ x ∈ l, IsT ds x) : May ds ⟨3, 0, [], l⟩ :=
  ⟨by simp, by simp, by simp, .inl rfl, by simp, .inl rfl, by simp [kLeast, kTab], by simp [kMost, kTab]; omega, h, (fun e => by simp at e)⟩
theorem may_key {ds : List Nd} {s t c : Int} {x : List UInt8} (hs : IsT ds s) (ht : Is ds t ⟨2, 0, x, []⟩) (hc : IsT ds c) : May ds ⟨6, 0, [], [s, t, c]⟩ :=
  ⟨by simp, by simp, by simp, .inl rfl, by simp, .inl rfl, by simp [kLeast, kTab], by simp [kMost, kTab], (fun y hy => by
    simp only [List.mem_cons, List.not_mem_nil, or_false] at hy
    rcases hy with rfl | rfl | rfl
    · exact hs
    · exact ht.isT
    · exact hc), (fun _ => by
    show (ds.getD (([s, t, c] : List Int).getD 1 0).toNat nd0).op = 2
    rw [show ([s, t, c] : List Int).getD 1 0 = t from rfl, ht.eq])⟩
theorem may1 {ds : List Nd} {op a : Int} (ho : op = 4 ∨ op = 7) (ha : IsT ds a) : May ds ⟨op, 0, [], [a]⟩ := by
  have hall : ∀ x ∈ [a], 0 ≤ x ∧ x < (ds.length : Int) := fun x hx => by
    rw [List.mem_singleton.1 hx]; exact ha
  rcases ho with rfl | rfl <;>
  exact ⟨by simp, by simp, by simp, .inl rfl, by simp, .inl rfl, by simp [kLeast, kTab], by simp [kMost, kTab], hall, (fun e => by simp at e)⟩
theorem may2 {ds : List Nd} {op a b : Int} (ho : op = 5 ∨ op = 10 ∨ op = 11 ∨ op = 12) (ha : IsT ds a) (hb : IsT ds b) : May ds ⟨op, 0, [], [a, b]⟩ := by
  have hall : ∀ x ∈ [a, b], 0 ≤ x ∧ x < (ds.length : Int) := fun x hx => by
    simp only [List.mem_cons, List.not_mem_nil, or_false] at hx
    rcases hx with rfl | rfl
    · exact ha
    · exact hb
  rcases ho with rfl | rfl | rfl | rfl <;>
  exact ⟨by simp, by simp, by simp, .inl rfl, by simp, .inl rfl, by simp [kLeast, kTab], by simp [kMost, kTab], hall, (fun e => by simp at e)⟩
theorem may4 {ds : List Nd} {op a b c d : Int} (ho : op = 8 ∨ op = 9) (ha : IsT ds a) (hb : IsT ds b) (hc : IsT ds c) (hd : IsT ds d) : May ds ⟨op, 0, [], [a, b, c, d]⟩ := by
  have hall : ∀ x ∈ [a, b, c, d], 0 ≤ x ∧ x < (ds.length : Int) := fun x hx => by
    simp only [List.mem_cons, List.not_mem_nil, or_false] at hx
    rcases hx with rfl | rfl | rfl | rfl
    · exact ha
    · exact hb
    · exact hc
    · exact hd
  rcases ho with rfl | rfl <;>
  exact ⟨by simp, by simp, by simp, .inl rfl, by simp, .inl rfl, by simp [kLeast, kTab], by simp [kMost, kTab], hall, (fun e => by simp at e)⟩

/-! ## what the layer's calls answer -/
/-- The parts of a term of that kind, and whether it is one. -/
def partsB (ds : List Nd) (op t : Int) : Bool := decide (IsT ds t) && decide ((ndAt ds t).op = op)
def partsL (ds : List Nd) (op t : Int) : List Int := if partsB ds op t then ((ndAt ds t).l ++ [0, 0, 0, 0]).take 4 else [0, 0, 0, 0]
/-- All of them are terms. -/
def termsB (ds : List Nd) (l : List Int) : Bool := l.all fun t => decide (IsT ds t)

noncomputable def made (ds : List Nd) (op : Int) (l : List Int) : List Nd × Int × Int := mk ds ⟨op, 0, [], l⟩
noncomputable def expandM (ds : List Nd) (s : Int) (x : List UInt8) (c : Int) : List Nd × Int × Int :=
  let m := mk ds ⟨2, 0, x, []⟩
  if termsB ds [s, c] then if m.2.2 = 0 then made m.1 6 [s, m.2.1, c] else (m.1, 0, m.2.2) else (m.1, 0, 1)
noncomputable def deriveM (ds : List Nd) (s : Int) (x : List UInt8) : List Nd × Int × Int :=
  let m := mk ds ⟨3, 0, [], []⟩
  if termsB ds [s] then if m.2.2 = 0 then expandM m.1 s x m.2.1 else (m.1, 0, m.2.2) else ((mk m.1 ⟨2, 0, x, []⟩).1, 0, 1)
noncomputable def sealM (ds : List Nd) (pk aad plain draw : Int) : List Nd × Int × Int :=
  if partsB ds 7 pk then made ds 8 [pk, aad, plain, draw] else (ds, 0, 1)
def openM (ds : List Nd) (sk aad x : Int) : Int × Int :=
  if termsB ds [sk, aad, x] then
    if partsB ds 8 x = true ∧ partsB ds 7 ((partsL ds 8 x).getD 0 0) = true ∧ (partsL ds 7 ((partsL ds 8 x).getD 0 0)).getD 0 0 = sk ∧ (partsL ds 8 x).getD 1 0 = aad then ((partsL ds 8 x).getD 2 0, 0) else (0, 40)
  else (0, 1)
def unlockM (ds : List Nd) (key nonce aad x : Int) : Int × Int :=
  if termsB ds [key, nonce, aad, x] then
    if partsB ds 9 x = true ∧ (partsL ds 9 x).getD 0 0 = key ∧ (partsL ds 9 x).getD 1 0 = nonce ∧ (partsL ds 9 x).getD 2 0 = aad then ((partsL ds 9 x).getD 3 0, 0) else (0, 40)
  else (0, 1)
def verifyM (ds : List Nd) (pk m sig : Int) : Bool :=
  partsB ds 10 sig && partsB ds 7 pk && decide ((partsL ds 10 sig).getD 0 0 = (partsL ds 7 pk).getD 0 0) && decide ((partsL ds 10 sig).getD 1 0 = m)
def checkM (ds : List Nd) (k m tag : Int) : Bool :=
  partsB ds 11 tag && decide ((partsL ds 11 tag).getD 0 0 = k) && decide ((partsL ds 11 tag).getD 1 0 = m)
noncomputable def unblindM (ds : List Nd) (sig draw : Int) : List Nd × Int × Int :=
  if termsB ds [sig, draw] then
    if partsB ds 10 sig = true ∧ partsB ds 12 ((partsL ds 10 sig).getD 1 0) = true ∧ (partsL ds 12 ((partsL ds 10 sig).getD 1 0)).getD 1 0 = draw then
      made ds 10 [(partsL ds 10 sig).getD 0 0, (partsL ds 12 ((partsL ds 10 sig).getD 1 0)).getD 0 0] else (ds, 0, 40)
  else (ds, 0, 1)

/-! ## no more than three terms at a time -/
def Ext (ds : List Nd) (n : Nat) (es : List Nd) : Prop := ∃ r, es = ds ++ r ∧ r.length ≤ n
theorem Ext.refl (ds : List Nd) (n : Nat) : Ext ds n ds := ⟨[], by simp, by simp⟩
theorem Ext.trans {a b c : List Nd} {m n k : Nat} (h : Ext a m b) (h2 : Ext b n c) (hk : m + n ≤ k) : Ext a k c := by
  obtain ⟨r, rfl, hr⟩ := h
  obtain ⟨s, rfl, hs⟩ := h2
  exact ⟨r ++ s, by simp, by rw [List.length_append]; omega⟩
theorem Ext.mono {a b : List Nd} {m n : Nat} (h : Ext a m b) (hk : m ≤ n) : Ext a n b := by
  obtain ⟨r, rfl, hr⟩ := h
  exact ⟨r, rfl, by omega⟩
theorem ext_mk (ds : List Nd) (d : Nd) : Ext ds 1 (mk ds d).1 := mk_ext1 ds d
theorem ext_expand (ds : List Nd) (s : Int) (x : List UInt8) (c : Int) : Ext ds 2 (expandM ds s x c).1 := by
  unfold expandM
  simp only
  split
  · split
    · exact (ext_mk ds _).trans (ext_mk _ _) (by omega)
    · exact (ext_mk ds _).mono (by omega)
  · exact (ext_mk ds _).mono (by omega)
theorem ext_derive (ds : List Nd) (s : Int) (x : List UInt8) : Ext ds 3 (deriveM ds s x).1 := by
  unfold deriveM
  simp only
  split
  · split
    · exact (ext_mk ds _).trans (ext_expand _ _ _ _) (by omega)
    · exact (ext_mk ds _).mono (by omega)
  · exact (ext_mk ds _).trans (ext_mk _ _) (by omega)
theorem ext_seal (ds : List Nd) (pk aad plain draw : Int) : Ext ds 1 (sealM ds pk aad plain draw).1 := by
  unfold sealM
  split
  · exact ext_mk ds _
  · exact Ext.refl _ _
theorem ext_unblind (ds : List Nd) (sig draw : Int) : Ext ds 1 (unblindM ds sig draw).1 := by
  unfold unblindM
  split
  · split
    · exact ext_mk ds _
    · exact Ext.refl _ _
  · exact Ext.refl _ _

/-! ## what they answer about terms that are known -/
theorem parts_is {ds : List Nd} {t : Int} {d : Nd} (h : Is ds t d) (op : Int) : partsB ds op t = decide (d.op = op) := by
  unfold partsB
  rw [h.at, decide_eq_true h.isT, Bool.true_and]
theorem partsL_is {ds : List Nd} {t : Int} {d : Nd} (h : Is ds t d) : partsL ds d.op t = (d.l ++ [0, 0, 0, 0]).take 4 := by
  unfold partsL
  rw [parts_is h, if_pos (by simp), h.at]
theorem terms_of {ds : List Nd} {l : List Int} (h : ∀ x ∈ l, IsT ds x) : termsB ds l = true := by
  unfold termsB
  rw [List.all_eq_true]
  exact fun x hx => decide_eq_true (h x hx)
theorem terms2 {ds : List Nd} {a b : Int} (ha : IsT ds a) (hb : IsT ds b) : termsB ds [a, b] = true :=
  terms_of fun x hx => by
    simp only [List.mem_cons, List.not_mem_nil, or_false] at hx
    rcases hx with rfl | rfl <;> assumption
theorem terms3 {ds : List Nd} {a b c : Int} (ha : IsT ds a) (hb : IsT ds b) (hc : IsT ds c) : termsB ds [a, b, c] = true :=
  terms_of fun x hx => by
    simp only [List.mem_cons, List.not_mem_nil, or_false] at hx
    rcases hx with rfl | rfl | rfl <;> assumption
theorem terms4 {ds : List Nd} {a b c d : Int} (ha : IsT ds a) (hb : IsT ds b) (hc : IsT ds c) (hd : IsT ds d) : termsB ds [a, b, c, d] = true :=
  terms_of fun x hx => by
    simp only [List.mem_cons, List.not_mem_nil, or_false] at hx
    rcases hx with rfl | rfl | rfl | rfl <;> assumption

theorem open_is {ds : List Nd} {x pk sk aad plain draw a b : Int} (hx : Is ds x ⟨8, 0, [], [pk, aad, plain, draw]⟩) (hp : Is ds pk ⟨7, 0, [], [sk]⟩) (ha : IsT ds a) (hb : IsT ds b) :
    openM ds a b x = if a = sk ∧ b = aad then (plain, 0) else (0, 40) := by
  have e1 := partsL_is hx
  have e2 := partsL_is hp
  simp only at e1 e2
  unfold openM
  rw [terms3 ha hb hx.isT, if_pos rfl, parts_is hx, e1]
  simp only [List.cons_append, List.nil_append, List.take_succ_cons, List.take_zero, List.getD_cons_zero, List.getD_cons_succ]
  rw [parts_is hp, e2]
  simp only [List.cons_append, List.nil_append, List.take_succ_cons, List.take_zero, List.getD_cons_zero, List.getD_cons_succ, decide_true, true_and]
  by_cases h : a = sk ∧ b = aad
  · rw [if_pos h, if_pos ⟨h.1.symm, h.2.symm⟩]
  · rw [if_neg h, if_neg (fun e => h ⟨e.1.symm, e.2.symm⟩)]
theorem unlock_is {ds : List Nd} {x key nonce aad plain a b c : Int} (hx : Is ds x ⟨9, 0, [], [key, nonce, aad, plain]⟩) (ha : IsT ds a) (hb : IsT ds b) (hc : IsT ds c) :
    unlockM ds a b c x = if a = key ∧ b = nonce ∧ c = aad then (plain, 0) else (0, 40) := by
  have e1 := partsL_is hx
  simp only at e1
  unfold unlockM
  rw [terms4 ha hb hc hx.isT, if_pos rfl, parts_is hx, e1]
  simp only [List.cons_append, List.nil_append, List.take_succ_cons, List.take_zero, List.getD_cons_zero, List.getD_cons_succ, decide_true, true_and]
  by_cases h : a = key ∧ b = nonce ∧ c = aad
  · rw [if_pos h, if_pos ⟨h.1.symm, h.2.1.symm, h.2.2.symm⟩]
  · rw [if_neg h, if_neg (fun e => h ⟨e.1.symm, e.2.1.symm, e.2.2.symm⟩)]
theorem verify_is {ds : List Nd} {x pk sk s m n : Int} (hx : Is ds x ⟨10, 0, [], [s, m]⟩) (hp : Is ds pk ⟨7, 0, [], [sk]⟩) : verifyM ds pk n x = decide (s = sk ∧ m = n) := by
  have e1 := partsL_is hx
  have e2 := partsL_is hp
  simp only at e1 e2
  unfold verifyM
  rw [parts_is hx, parts_is hp, e1, e2]
  simp [Bool.decide_and]
theorem check_is {ds : List Nd} {x k m a n : Int} (hx : Is ds x ⟨11, 0, [], [k, m]⟩) : checkM ds a n x = decide (k = a ∧ m = n) := by
  have e1 := partsL_is hx
  simp only at e1
  unfold checkM
  rw [parts_is hx, e1]
  simp [Bool.decide_and]
theorem unblind_is {ds : List Nd} {x b s m draw d : Int} (hx : Is ds x ⟨10, 0, [], [s, b]⟩) (hb : Is ds b ⟨12, 0, [], [m, draw]⟩) (hd : IsT ds d) :
    unblindM ds x d = if d = draw then made ds 10 [s, m] else (ds, 0, 40) := by
  have e1 := partsL_is hx
  have e2 := partsL_is hb
  simp only at e1 e2
  unfold unblindM
  rw [terms2 hx.isT hd, if_pos rfl, parts_is hx, e1]
  simp only [List.cons_append, List.nil_append, List.take_succ_cons, List.take_zero, List.getD_cons_zero, List.getD_cons_succ]
  rw [parts_is hb, e2]
  simp only [List.cons_append, List.nil_append, List.take_succ_cons, List.take_zero, List.getD_cons_zero, List.getD_cons_succ, decide_true, true_and]
  by_cases h : d = draw
  · rw [if_pos h, if_pos h.symm]
  · rw [if_neg h, if_neg (fun e => h e.symm)]
theorem seal_is {ds : List Nd} {pk sk aad plain draw : Int} (hp : Is ds pk ⟨7, 0, [], [sk]⟩) : sealM ds pk aad plain draw = made ds 8 [pk, aad, plain, draw] := by
  unfold sealM
  rw [parts_is hp, if_pos (by simp)]
/-- Expand, of terms, and a label that is short. -/
theorem expand_is {ds : List Nd} {s c : Int} {x : List UInt8} (hs : IsT ds s) (hc : IsT ds c) (hx : x.length ≤ 200) (hl : ds.length < 99998) :
    ∃ r y t, expandM ds s x c = (ds ++ r, y, 0) ∧ r.length ≤ 2 ∧ Is (ds ++ r) t ⟨2, 0, x, []⟩ ∧ Is (ds ++ r) y ⟨6, 0, [], [s, t, c]⟩ := by
  obtain ⟨r1, t, h1, h2, h3⟩ := mk_is (may_text ds hx) (by omega)
  obtain ⟨r2, y, h4, h5, h6⟩ := mk_is (may_key (hs.more r1) h3 (hc.more r1)) (by rw [List.length_append]; omega)
  refine ⟨r1 ++ r2, y, t, ?_, by rw [List.length_append]; omega, ?_, ?_⟩
  · unfold expandM made
    simp only [h1, terms2 hs hc, if_true, h4, List.append_assoc]
  · rw [← List.append_assoc]; exact h3.more r2
  · rw [← List.append_assoc]; exact h6
end Go.Proofs.YtnmaiokhndbicaaGreatDoor
end

section
/- An arena within a call: what stays; Make, List, Text, Node, Len, New of package term, said so. -/
set_option linter.unusedSimpArgs false
set_option linter.unusedVariables false
namespace Go.Proofs.YtnmaiokhndbicaaGreatDoor
open Go.RowKit Go.Maps

/-- Only blocks that are not of S have turned. -/
def Keep (S : Nat → Prop) (w w' : World) : Prop := Turn (fun b => ¬ S b) w w'
theorem Keep.refl (S : Nat → Prop) (w : World) : Keep S w w := Turn.refl _ _
theorem Keep.trans {S : Nat → Prop} {a b c : World} (h : Keep S a b) (k : Keep S b c) : Keep S a c := Turn.trans h k (fun x hx => .inl hx)
theorem Kept.keep {w w' : World} (h : Kept w w') (S : Nat → Prop) : Keep S w w' := h.turn _
theorem Keep.kept {S : Nat → Prop} {a b c : World} (h : Keep S a b) (k : Kept b c) : Keep S a c := Turn.kept h k
theorem Keep.size {S : Nat → Prop} {a b : World} (h : Keep S a b) : a.heap.size ≤ b.heap.size := Turn.size h
theorem Keep.blk {S : Nat → Prop} {a b : World} (h : Keep S a b) {g : Nat} {e : TypeId} {xs : List Value} (k : Blk a g e xs) (hs : S g) : Blk b g e xs := Blk.turn k h (fun c => c hs)
theorem Keep.cell {S : Nat → Prop} {a b : World} (h : Keep S a b) {p : Addr} {v : Value} (k : a.cell? p = some v) (hs : S p.block) : b.cell? p = some v :=
  (World.cell?_of_block (Turn.block h p.block (World.block_lt_of_cell? _ _ k) (fun c => c hs))).trans k
theorem Keep.owni {S : Nat → Prop} {a b : World} (h : Keep S a b) {B : Nat} {v : Value} {zs : List Int} (k : OwnI B a v zs) (hs : ∀ b, Blks v b → S b) : OwnI B b v zs := Ownv.turn k h (fun b hb c => c (hs b hb))
theorem Keep.of {S : Nat → Prop} {w0 w w' : World} (h0 : Kept w0 w) (h : Keep S w w') (hb : ∀ b, b < w0.heap.size → S b) : Kept w0 w' :=
  Turn.keptOf h0 h (fun b hn => by
    by_cases c : b < w0.heap.size
    · exact absurd (hb b c) hn
    · omega)

/-- Since w0 nothing of it has turned; p is an arena with the terms ds, apart from S; w0 has the tables. -/
structure At (w0 : World) (S : Nat → Prop) (w : World) (p : Value) (ds : List Nd) : Prop where
  ar : ∃ F, Ar F w p ds ∧ ∀ b, F b → ¬ S b
  old : ∀ b, S b → b < w.heap.size
  base : ∀ b, b < w0.heap.size → S b
  kept : Kept w0 w
  tab : Tabs w0

theorem At.tabs {w0 : World} {S : Nat → Prop} {w : World} {p : Value} {ds : List Nd} (h : At w0 S w p ds) : Tabs w := h.tab.kept h.kept
theorem At.good {w0 : World} {S : Nat → Prop} {w : World} {p : Value} {ds : List Nd} (h : At w0 S w p ds) : Good ds := by
  obtain ⟨F, h1, _⟩ := h.ar
  exact h1.good
theorem At.few {w0 : World} {S : Nat → Prop} {w : World} {p : Value} {ds : List Nd} (h : At w0 S w p ds) : ds.length ≤ 100000 := by
  obtain ⟨F, h1, _⟩ := h.ar
  exact h1.few
theorem At.step {w0 : World} {S : Nat → Prop} {w w' : World} {p : Value} {ds : List Nd} (h : At w0 S w p ds) (k : Kept w w') : At w0 S w' p ds := by
  obtain ⟨F, h1, h2⟩ := h.ar
  exact ⟨⟨F, ArG.kept h1 k, h2⟩, fun b hb => Nat.lt_of_lt_of_le (h.old b hb) k.size, h.base, h.kept.trans k, h.tab⟩
/-- Other blocks that are to stay: old ones of S, or ones that the arena cannot have. -/
theorem At.more {w0 : World} {S T : Nat → Prop} {w w' : World} {p : Value} {ds : List Nd} (h : At w0 S w p ds) (k : Kept w w') (hT : ∀ b, T b → (S b ∨ w.heap.size ≤ b) ∧ b < w'.heap.size) (hb : ∀ b, b < w0.heap.size → T b) : At w0 T w' p ds := by
  obtain ⟨F, h1, h2⟩ := h.ar
  refine ⟨⟨F, ArG.kept h1 k, fun b hF hTb => ?_⟩, fun b hTb => (hT b hTb).2, hb, h.kept.trans k, h.tab⟩
  rcases (hT b hTb).1 with c | c
  · exact h2 b hF c
  · exact absurd (h1.lt b hF) (by omega)
/-- What turns blocks that are to stay, and no others that were there. -/
theorem At.turn {w0 : World} {S G : Nat → Prop} {w w' : World} {p : Value} {ds : List Nd} (h : At w0 S w p ds) (k : Turn G w w') (hG : ∀ b, G b → S b ∧ w0.heap.size ≤ b) : At w0 S w' p ds := by
  obtain ⟨F, h1, h2⟩ := h.ar
  exact ⟨⟨F, ArG.turn h1 k (fun b hF hg => h2 b hF (hG b hg).1), h2⟩, fun b hb => Nat.lt_of_lt_of_le (h.old b hb) k.size, h.base, Turn.keptOf h.kept k (fun b hb => (hG b hb).2), h.tab⟩

/-- What a call answers that makes a term. -/
def MkPost (w0 : World) (S : Nat → Prop) (w : World) (p : Value) (r : List Nd × Int × Int) (e : Ending) (w' : World) : Prop :=
  e = .returned (.tuple #[.int .i64 r.2.1, .int .i64 r.2.2]) ∧ At w0 S w' p r.1 ∧ Keep S w w'
theorem MkPost.after {w0 : World} {S : Nat → Prop} {w w1 : World} {p : Value} {r : List Nd × Int × Int} {e : Ending} {w' : World} (h : MkPost w0 S w1 p r e w') (k : Kept w w1) : MkPost w0 S w p r e w' :=
  ⟨h.1, h.2.1, (k.keep S).trans h.2.2⟩

theorem post_of {w0 : World} {S F F' : Nat → Prop} {w w' : World} {p : Value} {ds es : List Nd} (h : At w0 S w p ds) (hF : ∀ b, F b → ¬ S b) (r1 : Ar F' w' p es) (r2 : Turn F w w') (r3 : ∀ b, F' b → F b ∨ w.heap.size ≤ b) :
    At w0 S w' p es ∧ Keep S w w' := by
  have hk : Keep S w w' := r2.mono fun b hb => hF b hb
  refine ⟨⟨⟨F', r1, fun b hb hs => ?_⟩, fun b hb => Nat.lt_of_lt_of_le (h.old b hb) r2.size, h.base, hk.of h.kept h.base, h.tab⟩, hk⟩
  rcases r3 b hb with c | c
  · exact hF b c hs
  · exact absurd (h.old b hs) (by omega)

theorem makeA {w0 : World} {S : Nat → Prop} {w : World} {p : Value} {ds : List Nd} (h : At w0 S w p ds) {v : Value} {d : Nd} (hd : RdN w v d) (hok : NdOk d) :
    Calls Tryz.prog 18 #[p, v] w (MkPost w0 S w p (mk ds d)) := by
  obtain ⟨F, h1, h2⟩ := h.ar
  refine (make_any h1 h.tabs hd hok).mono ?_
  rintro e w' ⟨F', rfl, r1, r2, r3⟩
  exact ⟨rfl, post_of h h2 r1 r2 r3⟩
theorem lenA {w0 : World} {S : Nat → Prop} {w : World} {p : Value} {ds : List Nd} (h : At w0 S w p ds) :
    Calls Tryz.prog 54 #[p] w fun e w' => e = .returned (.int .i64 ds.length) ∧ w = w' := by
  obtain ⟨F, h1, h2⟩ := h.ar
  exact arg_len h1
theorem newA {w0 w : World} (k : Kept w0 w) (ht : Tabs w0) {S : Nat → Prop} (hS : ∀ b, S b → b < w.heap.size) (hb : ∀ b, b < w0.heap.size → S b) :
    Calls Tryz.prog 16 #[] w fun e w' => e = .returned (.pointer (some ⟨w.heap.size + 1, 0, none⟩)) ∧ At w0 S w' (.pointer (some ⟨w.heap.size + 1, 0, none⟩)) [] ∧ Kept w w' := by
  refine (new_any w).mono ?_
  rintro e w' ⟨F, p, rfl, h1, h2, h3, rfl⟩
  exact ⟨rfl, ⟨⟨F, h1, fun b hb hs => absurd (hS b hs) (by have := h3 b hb; omega)⟩, fun b hs => Nat.lt_of_lt_of_le (hS b hs) h2.size, hb, k.trans h2, ht⟩, h2⟩

theorem ndE_eq {ds : List Nd} {t : Int} : ndE ds t = if IsT ds t then 0 else 4 := rfl
theorem ndAt_i64 {ds : List Nd} {t : Int} : True := trivial

end Go.Proofs.YtnmaiokhndbicaaGreatDoor
end

section
/- Walks of package term: List, Text. -/
set_option linter.unusedSimpArgs false
set_option linter.unusedVariables false
namespace Go.Proofs.YtnmaiokhndbicaaGreatDoor
open Go.RowKit Go.Maps

end Go.Proofs.YtnmaiokhndbicaaGreatDoor
end

section
/- List, Text of package term, at an arena that is kept. -/
set_option linter.unusedSimpArgs false
set_option linter.unusedVariables false
namespace Go.Proofs.YtnmaiokhndbicaaGreatDoor
open Go.RowKit Go.Maps

end Go.Proofs.YtnmaiokhndbicaaGreatDoor
end

section
/- Package treehash: what a hasher holds, and what a call that makes a term leaves. -/
set_option linter.unusedSimpArgs false
set_option linter.unusedVariables false
namespace Go.Proofs.YtnmaiokhndbicaaGreatDoor
open Go.RowKit Go.Maps

/-- The node x of the tree tv, as it is told wherever the blocks U have not turned. -/
def TreeAt (U : Nat → Prop) (w : World) (tv : Value) (ts : List Rt.TN) (x : Nat) : Prop :=
  ∃ tb to tc la lc, tv = .slice (some ⟨tb, to, none⟩) ts.length tc ∧ ∀ w', Turn (fun b => ¬ U b) w w' → TnAt w' tb (to + x * 6) (Rt.nd ts x) (.slice la (Rt.nd ts x).un.length lc) ∧ RdI w' (.slice la (Rt.nd ts x).un.length lc) (Rt.nd ts x).un
theorem TreeAt.turn {U : Nat → Prop} {w w' : World} {tv : Value} {ts : List Rt.TN} {x : Nat} (h : TreeAt U w tv ts x) (k : Turn (fun b => ¬ U b) w w') : TreeAt U w' tv ts x := by
  obtain ⟨tb, to, tc, la, lc, rfl, h⟩ := h
  exact ⟨tb, to, tc, la, lc, rfl, fun w2 t => h w2 (Turn.trans k t (fun x hx => .inl hx))⟩
theorem RdTs.treeAt {w : World} {tv : Value} {ts : List Rt.TN} (h : RdTs w tv ts) (U : Nat → Prop) (hU : ∀ b, b < w.heap.size → U b) {w1 : World} (k : Kept w w1) {x : Nat} (hx : x < ts.length) : TreeAt U w1 tv ts x := by
  obtain ⟨tb, to, tc, la, lc, rfl, hat, hun⟩ := h.at (k := x) hx
  refine ⟨tb, to, tc, la, lc, rfl, fun w' t => ?_⟩
  have k2 : Kept w w' := Turn.keptOf k t (fun b hb => by
    by_cases c : b < w.heap.size
    · exact absurd (hU b c) hb
    · omega)
  exact ⟨hat w' k2, hun.kept k2⟩

/-- The hasher in block hb: the arena p with the terms ds, the tree tv; no error yet. S stays; the tree's memory is U. -/
structure Hs (w0 : World) (S U : Nat → Prop) (w : World) (hb : Nat) (p tv : Value) (ts : List Rt.TN) (ds : List Nd) : Prop where
  arena : At w0 S w p ds
  blk : Blk w hb 54 [p, tv, .int .i64 0]
  inS : S hb
  new : w0.heap.size ≤ hb
  tree : ∀ w', Turn (fun b => ¬ U b) w w' → RdTs w' tv ts
  sub : ∀ b, U b → S b ∧ b ≠ hb
  cells : ∀ x, x < ts.length → TreeAt U w tv ts x

theorem Hs.rd {w0 : World} {S U : Nat → Prop} {w : World} {hb : Nat} {p tv : Value} {ts : List Rt.TN} {ds : List Nd} (h : Hs w0 S U w hb p tv ts ds) : RdTs w tv ts := h.tree w (Turn.refl _ _)
theorem Hs.step {w0 : World} {S U : Nat → Prop} {w w' : World} {hb : Nat} {p tv : Value} {ts : List Rt.TN} {ds : List Nd} (h : Hs w0 S U w hb p tv ts ds) (k : Kept w w') : Hs w0 S U w' hb p tv ts ds :=
  ⟨h.arena.step k, h.blk.kept k, h.inS, h.new, fun w2 t => h.tree w2 (Turn.trans (k.turn _) t (fun x hx => .inl hx)), h.sub, fun x hx => (h.cells x hx).turn (k.turn _)⟩
/-- Other blocks that are to stay. -/
theorem Hs.more {w0 : World} {S T U : Nat → Prop} {w w' : World} {hb : Nat} {p tv : Value} {ts : List Rt.TN} {ds : List Nd} (h : Hs w0 S U w hb p tv ts ds) (k : Kept w w')
    (hT : ∀ b, T b → (S b ∨ w.heap.size ≤ b) ∧ b < w'.heap.size) (hs : ∀ b, S b → T b) : Hs w0 T U w' hb p tv ts ds :=
  ⟨h.arena.more k hT (fun b hb => hs b (h.arena.base b hb)), h.blk.kept k, hs _ h.inS, h.new, fun w2 t => h.tree w2 (Turn.trans (k.turn _) t (fun x hx => .inl hx)), fun b hb => ⟨hs b (h.sub b hb).1, (h.sub b hb).2⟩, fun x hx => (h.cells x hx).turn (k.turn _)⟩
theorem Hs.old {w0 : World} {S U : Nat → Prop} {w : World} {hb : Nat} {p tv : Value} {ts : List Rt.TN} {ds : List Nd} (h : Hs w0 S U w hb p tv ts ds) : ∀ b, S b → b < w.heap.size := h.arena.old
/-- S, and all that is new since w. -/
def Plus (S : Nat → Prop) (w w' : World) : Nat → Prop := fun b => S b ∨ (w.heap.size ≤ b ∧ b < w'.heap.size)
theorem Hs.plus {w0 : World} {S U : Nat → Prop} {w w' : World} {hb : Nat} {p tv : Value} {ts : List Rt.TN} {ds : List Nd} (h : Hs w0 S U w hb p tv ts ds) (k : Kept w w') : Hs w0 (Plus S w w') U w' hb p tv ts ds :=
  h.more k (fun b hb => by
    rcases hb with hb | hb
    · exact ⟨.inl hb, Nat.lt_of_lt_of_le (h.old b hb) k.size⟩
    · exact ⟨.inr hb.1, hb.2⟩) (fun b hb => .inl hb)
/-- Fewer that are to stay. -/
theorem Hs.fewer {w0 : World} {S T U : Nat → Prop} {w : World} {hb : Nat} {p tv : Value} {ts : List Rt.TN} {ds : List Nd} (h : Hs w0 T U w hb p tv ts ds) (hs : ∀ b, S b → T b) (hb0 : ∀ b, b < w0.heap.size → S b) (h1 : S hb) (hU : ∀ b, U b → S b) : Hs w0 S U w hb p tv ts ds :=
  ⟨h.arena.more (Kept.refl w) (fun b hb => ⟨.inl (hs b hb), h.old b (hs b hb)⟩) hb0, h.blk, h1, h.new, h.tree, fun b hb => ⟨hU b hb, (h.sub b hb).2⟩, h.cells⟩
/-- What a call that makes terms turns. -/
def Wk (S : Nat → Prop) (hb : Nat) : Nat → Prop := fun b => ¬ S b ∨ b = hb

/-- What a call leaves that makes terms: no more than n, and of the last one Q. -/
def HMk (w0 : World) (S U : Nat → Prop) (w : World) (hb : Nat) (p tv : Value) (ts : List Rt.TN) (ds : List Nd) (n : Nat) (Q : List Nd → Int → Prop) (e : Ending) (w' : World) : Prop :=
  ∃ (r : List Nd) (t : Int), e = .returned (.int .i64 t) ∧ Hs w0 S U w' hb p tv ts (ds ++ r) ∧ r.length ≤ n ∧ Q (ds ++ r) t ∧ Turn (Wk S hb) w w'

theorem Hs.turn {w0 : World} {S U : Nat → Prop} {w w' : World} {hb : Nat} {p tv : Value} {ts : List Rt.TN} {ds es : List Nd} (h : Hs w0 S U w hb p tv ts ds) (t : Turn (Wk S hb) w w') (a : At w0 S w' p es) (b : Blk w' hb 54 [p, tv, .int .i64 0]) : Hs w0 S U w' hb p tv ts es :=
  ⟨a, b, h.inS, h.new, fun w2 k => h.tree w2 (Turn.trans (t.mono fun b hb hu => by
    rcases hb with hb | hb
    · exact hb (h.sub b hu).1
    · exact (h.sub b hu).2 hb) k (fun x hx => .inl hx)), h.sub, fun x hx => (h.cells x hx).turn (t.mono fun b hb hu => by
    rcases hb with hb | hb
    · exact hb (h.sub b hu).1
    · exact (h.sub b hu).2 hb)⟩
theorem IsT.i64' {ds : List Nd} {t : Int} (h : IsT ds t) (hf : ds.length ≤ 100000) : I64 t := ⟨by have := h.1; omega, by have := h.2; omega⟩
end Go.Proofs.YtnmaiokhndbicaaGreatDoor
end

section
/- Walks of package treehash: made, text, list, hashOf, none. -/
set_option linter.unusedSimpArgs false
set_option linter.unusedVariables false
namespace Go.Proofs.YtnmaiokhndbicaaGreatDoor
open Go.RowKit Go.Maps

set_option maxHeartbeats 4000000 in
set_option maxRecDepth 100000 in
theorem made_ok {w0 : World} {S U : Nat → Prop} {w : World} {hb : Nat} {p tv : Value} {ts : List Rt.TN} {ds : List Nd} (h : Hs w0 S U w hb p tv ts ds) {v : Value} {d : Nd} (hd : RdN w v d) (hok : NdOk d) (hm : May ds d) (hl : ds.length < 100000) :
    Calls Tryz.prog 77 #[.pointer (some ⟨hb, 0, none⟩), v] w (HMk w0 S U w hb p tv ts ds 1 (fun es t => Is es t d)) := by
  obtain ⟨lv, rfl, hr⟩ := hd
  obtain ⟨la, lc, rfl, _, _, _⟩ := hr.len
  obtain ⟨r, t, hmk, hr1, his⟩ := mk_is hm hl
  have k1 : Kept w (w.alloc (.cells #[.int .i64 d.op, .int .i64 d.n, .string (strB d.s), .slice la d.l.length lc] 50)) := (Kept.refl w).alloc _
  have bN : Blk (w.alloc (.cells #[.int .i64 d.op, .int .i64 d.n, .string (strB d.s), .slice la d.l.length lc] 50)) w.heap.size 50 [.int .i64 d.op, .int .i64 d.n, .string (strB d.s), .slice la d.l.length lc] := Blk.new _ _ _
  have HH := Lib.hid h
  have g0 := (h.blk.kept k1).cell 0
  have g2 := (h.blk.kept k1).cell 2
  simp only [List.getElem?_cons_succ, List.getElem?_cons_zero] at g0 g2
  have n0 := bN.cell 0
  have n1 := bN.cell 1
  have n2 := bN.cell 2
  have n3 := bN.cell 3
  simp only [List.getElem?_cons_succ, List.getElem?_cons_zero] at n0 n1 n2 n3
  have HM := Lib.hid (fun W (k : Kept w W) => makeA (h.arena.step k) (v := .agg #[.int .i64 d.op, .int .i64 d.n, .string (strB d.s), .slice la d.l.length lc]) ⟨_, rfl, hr.kept k⟩ hok)
  rw [hmk] at HM
  have HI := Lib.hid his
  have HR := Shut.mk hr1
  clear hmk his h hr bN hm hok hr1
  go_enter Tryz.func77, Tryz.ntmps77
  go_wp2_with fail
  generalize w.alloc (.cells #[.int .i64 d.op, .int .i64 d.n, .string (strB d.s), .slice la d.l.length lc] 50) = w1 at *
  have k1d : Kept w w1.drew := k1.drew
  go_region_with (go_at_call 18; (with_reducible refine (HM.out _ k1d).mono ?_); rintro e w2 ⟨rfl, a2, t2⟩; have b2 := Keep.blk t2 (HH.out.blk.kept k1d) HH.out.inS; have q2 := b2.cell 2; have f2 := b2.frozen 2; simp only [List.getElem?_cons_succ, List.getElem?_cons_zero] at q2)
  all_goals
    go_wp2
    go_ret
    have a3 := a2.turn (turn_setCell w2 ⟨hb, 2, none⟩ (.int .i64 0)) (fun b e => by cases e; exact ⟨HH.out.inS, HH.out.new⟩)
    have b3 := b2.set 2 (.int .i64 0)
    have t3 : Turn (Wk S hb) w (w2.setCell ⟨hb, 2, none⟩ (.int .i64 0)) := Turn.trans (Turn.trans (k1d.turn _) t2 (fun b h => .inl (.inl h))) (turn_setCell w2 ⟨hb, 2, none⟩ (.int .i64 0)) (fun b e => .inl (.inr e))
    exact ⟨r, t, rfl, HH.out.turn t3 a3 b3, HR.out, HI.out, t3⟩

theorem HMk.mono {w0 : World} {S U : Nat → Prop} {w : World} {hb : Nat} {p tv : Value} {ts : List Rt.TN} {ds : List Nd} {n m : Nat} {Q R : List Nd → Int → Prop} {e : Ending} {w' : World} (h : HMk w0 S U w hb p tv ts ds n Q e w') (hn : n ≤ m) (hQ : ∀ es t, Q es t → R es t) : HMk w0 S U w hb p tv ts ds m R e w' := by
  obtain ⟨r, t, h1, h2, h3, h4, h5⟩ := h
  exact ⟨r, t, h1, h2, Nat.le_trans h3 hn, hQ _ _ h4, h5⟩

set_option maxHeartbeats 4000000 in
set_option maxRecDepth 100000 in
theorem htext_ok {w0 : World} {S U : Nat → Prop} {w : World} {hb : Nat} {p tv : Value} {ts : List Rt.TN} {ds : List Nd} (h : Hs w0 S U w hb p tv ts ds) (s : List UInt8) (hs : s.length ≤ 200) (hl : ds.length < 100000) :
    Calls Tryz.prog 48 #[.pointer (some ⟨hb, 0, none⟩), .string (strB s)] w (HMk w0 S U w hb p tv ts ds 1 (fun es t => Is es t ⟨2, 0, s, []⟩)) := by
  have HM := Lib.hid (made_ok h (v := .agg #[.int .i64 2, .int .i64 0, .string (strB s), .slice none 0 0]) (d := ⟨2, 0, s, []⟩) ⟨_, rfl, RdI.nil _⟩ ⟨i64_lit (by simp), i64_lit (by simp), by unfold maxLen; simp; omega, fun x hx => by cases hx⟩ (may_text ds hs) hl)
  generalize strB s = X at HM ⊢
  go_enter Tryz.func48, Tryz.ntmps48
  go_wp2_with fail
  (with_reducible refine HM.out.mono ?_); rintro e w2 ⟨r, t, rfl, h2, hr, hQ, t2⟩
  go_wp2
  go_ret
  exact ⟨r, t, rfl, h2, hr, hQ, t2⟩

set_option maxHeartbeats 4000000 in
set_option maxRecDepth 100000 in
theorem hlist_ok {w0 : World} {S U : Nat → Prop} {w : World} {hb : Nat} {p tv : Value} {ts : List Rt.TN} {ds : List Nd} (h : Hs w0 S U w hb p tv ts ds) {v : Value} {l : List Int} (hr : RdI w v l) (h64 : l.length ≤ 64) (hi : ∀ x ∈ l, IsT ds x) (hl : ds.length < 100000) :
    Calls Tryz.prog 78 #[.pointer (some ⟨hb, 0, none⟩), v] w (HMk w0 S U w hb p tv ts ds 1 (fun es t => Is es t ⟨3, 0, [], l⟩)) := by
  have HM := Lib.hid (made_ok h (v := .agg #[.int .i64 3, .int .i64 0, .string (strB []), v]) (d := ⟨3, 0, [], l⟩) ⟨_, rfl, hr⟩ ⟨i64_lit (by simp), i64_lit (by simp), by simp, fun x hx => (hi x hx).i64' (by omega)⟩ (may_list ds h64 hi) hl)
  rw [show strB [] = ⟨#[]⟩ from rfl] at HM
  obtain ⟨va, vc, rfl, _, _, _⟩ := hr.len
  go_enter Tryz.func78, Tryz.ntmps78
  go_wp2_with fail
  (with_reducible refine HM.out.mono ?_); rintro e w2 ⟨r, t, rfl, h2, hr, hQ, t2⟩
  go_wp2
  go_ret
  exact ⟨r, t, rfl, h2, hr, hQ, t2⟩

theorem hnone_ok {w0 : World} {S U : Nat → Prop} {w : World} {hb : Nat} {p tv : Value} {ts : List Rt.TN} {ds : List Nd} (h : Hs w0 S U w hb p tv ts ds) (hl : ds.length < 100000) :
    Calls Tryz.prog 83 #[.pointer (some ⟨hb, 0, none⟩)] w (HMk w0 S U w hb p tv ts ds 1 (fun es t => Is es t ⟨2, 0, [], []⟩)) := by
  have HM := Lib.hid (htext_ok h [] (by simp) hl)
  rw [show strB [] = ⟨#[]⟩ from rfl] at HM
  go_enter Tryz.func83, Tryz.ntmps83
  go_wp2_with fail
  (with_reducible refine HM.out.mono ?_); rintro e w2 ⟨r, t, rfl, h2, hr, hQ, t2⟩
  go_wp2
  go_ret
  exact ⟨r, t, rfl, h2, hr, hQ, t2⟩

/-- The Hash of a List. -/
def HashL (l : List Int) (es : List Nd) (t : Int) : Prop := ∃ x, Is es x ⟨3, 0, [], l⟩ ∧ Is es t ⟨4, 0, [], [x]⟩
set_option maxHeartbeats 4000000 in
set_option maxRecDepth 100000 in
theorem hashOf_ok {w0 : World} {S U : Nat → Prop} {w : World} {hb : Nat} {p tv : Value} {ts : List Rt.TN} {ds : List Nd} (h : Hs w0 S U w hb p tv ts ds) {v : Value} {l : List Int} (hr : RdI w v l) (h64 : l.length ≤ 64) (hi : ∀ x ∈ l, IsT ds x) (hl : ds.length + 1 < 100000) :
    Calls Tryz.prog 47 #[.pointer (some ⟨hb, 0, none⟩), v] w (HMk w0 S U w hb p tv ts ds 2 (HashL l)) := by
  have HM := Lib.hid (hlist_ok h hr h64 hi (by omega))
  obtain ⟨va, vc, rfl, _, _, _⟩ := hr.len
  go_enter Tryz.func47, Tryz.ntmps47
  go_wp2_with fail
  (with_reducible refine HM.out.mono ?_); rintro e w2 ⟨r, t, rfl, h2, hr, hQ, t2⟩
  have k3 : Kept w2 (w2.alloc (.cells #[.int .i64 t] 3)) := (Kept.refl w2).alloc _
  have r3 := OwnI.rd (OwnI.lit1 w2 t)
  have HM2 := Lib.hid (made_ok (h2.step k3) (v := .agg #[.int .i64 4, .int .i64 0, .string (strB []), .slice (some ⟨w2.heap.size, 0, none⟩) 1 1]) (d := ⟨4, 0, [], [t]⟩) ⟨_, rfl, r3⟩ ⟨i64_lit (by simp), i64_lit (by simp), by simp, fun x hx => by rw [List.mem_singleton.1 hx]; exact hQ.isT.i64' h2.arena.few⟩ (may1 (.inl rfl) hQ.isT) (by rw [List.length_append]; omega))
  rw [show strB [] = ⟨#[]⟩ from rfl] at HM2
  have HQ := Lib.hid hQ
  clear hQ r3 h
  go_wp2_with fail
  (with_reducible refine HM2.out.mono ?_); rintro e w4 ⟨r4, t4, rfl, h4, hr4, hQ4, tt4⟩
  go_wp2
  go_ret
  rw [List.append_assoc] at h4 hQ4
  refine ⟨r ++ r4, t4, rfl, h4, by rw [List.length_append]; omega, ⟨t, ?_, hQ4⟩, Turn.trans (t2.kept k3) tt4 (fun b h => .inl h)⟩
  rw [← List.append_assoc]
  exact HQ.out.more r4
end Go.Proofs.YtnmaiokhndbicaaGreatDoor
end

section
/- A strings.Builder that is the first field of term's writer: its methods. -/
set_option linter.unusedSimpArgs false
set_option linter.unusedVariables false
namespace Go.Proofs.YtnmaiokhndbicaaGreatDoor
open Go.RowKit Go.Maps

theorem Tryz.sizeBuilder : (Tryz.prog.info? 70).map (·.size) = some 2 := by kernel_rfl
theorem Tryz.liesBuilder : liesAt Tryz.prog Tryz.prog.depth 72 (3 / Tryz.prog.cellsOf 72) 0 70 1 = true := by kernel_rfl
theorem Tryz.cellsByte : Tryz.prog.cellsOf 5 = 1 := by kernel_rfl

/-- b is a writer of the call's own (blocks from B on, none of N), with the bytes bs, over the nodes nv. -/
def BldN (N : Nat → Prop) (B b : Nat) (nv : Value) (bs : List UInt8) (w : World) : Prop :=
  B ≤ b ∧ ∃ av bv, Blk w b 72 [av, bv, nv] ∧ (av = .pointer none ∨ av = .pointer (some ⟨b, 0, none⟩)) ∧ OwnU B w bv bs ∧ ¬ N b ∧ ∀ x, Blks bv x → ¬ N x
def No : Nat → Prop := fun _ => False
/-- The same, where nothing is to be kept. -/
def Bld (B b : Nat) (nv : Value) (bs : List UInt8) (w : World) : Prop := BldN No B b nv bs w
theorem BldN.no {N : Nat → Prop} {B b : Nat} {nv : Value} {bs : List UInt8} {w : World} (h : BldN N B b nv bs w) : Bld B b nv bs w := by
  obtain ⟨h1, av, bv, h2, h3, h4, _, _⟩ := h
  exact ⟨h1, av, bv, h2, h3, h4, fun x => x, fun _ _ x => x⟩
theorem Bld.new {B b : Nat} {nv : Value} {bs : List UInt8} {w : World} (h : Bld B b nv bs w) : BldN (fun x => w.heap.size ≤ x) B b nv bs w := by
  obtain ⟨h1, av, bv, h2, h3, h4, _, _⟩ := h
  refine ⟨h1, av, bv, h2, h3, h4, fun x => ?_, fun x hx c => ?_⟩
  · have := h2.lt; omega
  · have := (Ownv.lt h4 hx).1; omega
theorem BldN.mono {N M : Nat → Prop} {B b : Nat} {nv : Value} {bs : List UInt8} {w : World} (h : BldN N B b nv bs w) (hs : ∀ x, M x → N x) : BldN M B b nv bs w := by
  obtain ⟨h1, av, bv, h2, h3, h4, h5, h6⟩ := h
  exact ⟨h1, av, bv, h2, h3, h4, fun x => h5 (hs _ x), fun x hx c => h6 x hx (hs x c)⟩
theorem BldN.kept {N : Nat → Prop} {B b : Nat} {nv : Value} {bs : List UInt8} {w w' : World} (h : BldN N B b nv bs w) (k : Kept w w') : BldN N B b nv bs w' := by
  obtain ⟨h1, av, bv, h2, h3, h4, h5, h6⟩ := h
  exact ⟨h1, av, bv, h2.kept k, h3, Own.kept h4 k, h5, h6⟩

theorem Blk.shape {w : World} {g : Nat} {e : TypeId} {xs : List Value} (h : Blk w g e xs) : w.shape? g = some (e, xs.length) := by
  unfold Blk at h
  simp [World.shape?, h]

theorem Bld.kept {B b : Nat} {nv : Value} {bs : List UInt8} {w w' : World} (h : Bld B b nv bs w) (k : Kept w w') : Bld B b nv bs w' := BldN.kept h k
theorem Bld.lt {B b : Nat} {nv : Value} {bs : List UInt8} {w : World} (h : Bld B b nv bs w) : b < w.heap.size := by
  obtain ⟨h1, av, bv, h2, h3, h4, _, _⟩ := h
  exact h2.lt
theorem Bld.cell2 {B b : Nat} {nv : Value} {bs : List UInt8} {w : World} (h : Bld B b nv bs w) : w.cell? ⟨b, 2, none⟩ = some nv := by
  obtain ⟨h1, av, bv, h2, h3, h4, _, _⟩ := h
  exact h2.cell 2

set_option maxHeartbeats 1000000 in
set_option maxRecDepth 100000 in
theorem copyCheck_used (b : Nat) (w : World) (h0 : w.cell? ⟨b, 0, none⟩ = some (.pointer (some ⟨b, 0, none⟩))) :
    Calls Tryz.prog 84 #[.pointer (some ⟨b, 0, none⟩)] w fun e w' => e = .returned (.tuple #[]) ∧ w' = w := by
  obtain ⟨j, hj, _⟩ := Option.map_eq_some_iff.1 Tryz.sizeBuilder
  go_enter Tryz.func84, Tryz.ntmps84
  go_wp2
  rw [Lib.run_neq_ptr_same w _ Tryz.underlying67 hj]
  go_wp2
  go_end0
  exact ⟨rfl, rfl⟩

set_option maxHeartbeats 1000000 in
set_option maxRecDepth 100000 in
theorem copyCheck_fresh (b : Nat) (w : World) (h0 : w.cell? ⟨b, 0, none⟩ = some (.pointer none)) (hsh : w.shape? b = some (72, 3)) (hfz : w.frozen? ⟨b, 0, none⟩ = false) :
    Calls Tryz.prog 84 #[.pointer (some ⟨b, 0, none⟩)] w fun e w' => e = .returned (.tuple #[]) ∧ w' = w.setCell ⟨b, 0, none⟩ (.pointer (some ⟨b, 0, none⟩)) := by
  obtain ⟨j, hj, hjs⟩ := Option.map_eq_some_iff.1 Tryz.sizeBuilder
  go_enter Tryz.func84, Tryz.ntmps84
  go_wp2
  rw [Lib.run_to_unsafe w ⟨b, 0, none⟩ Tryz.underlying67 Tryz.underlying117 hj (by rw [hjs]; decide) hsh (by show 0 < 3; decide)]
  simp only [Result.andThen]
  rw [Oper.upon_value]
  go_wp2
  rw [run_callFunc_extern Tryz.func108 (by kernel_rfl) (by kernel_rfl) (by kernel_rfl) (e := Extern.AbiNoEscape.same) (by kernel_rfl)]
  rw [Lib.run_noEscape]
  simp only [Result.andThen]
  rw [Oper.upon_value]
  go_wp2
  rw [Lib.run_from_unsafe w ⟨b, 0, none⟩ Tryz.underlying117 Tryz.underlying67 hj hsh Tryz.liesBuilder]
  simp only [Result.andThen]
  rw [Oper.upon_value]
  go_wp2
  go_end0
  exact ⟨rfl, rfl⟩

theorem copyCheck_any {N : Nat → Prop} {B b : Nat} {nv : Value} {bs : List UInt8} {w : World} (h : BldN N B b nv bs w) :
    Calls Tryz.prog 84 #[.pointer (some ⟨b, 0, none⟩)] w fun e w' => e = .returned (.tuple #[]) ∧ (∃ bv, Blk w' b 72 [.pointer (some ⟨b, 0, none⟩), bv, nv] ∧ OwnU B w' bv bs ∧ ∀ x, Blks bv x → ¬ N x) ∧ Turn (fun x => B ≤ x ∧ ¬ N x) w w' := by
  obtain ⟨h1, av, bv, h2, h3, h4, h5, h6⟩ := h
  rcases h3 with rfl | rfl
  · refine (copyCheck_fresh b w (h2.cell 0) h2.shape (h2.frozen 0)).mono ?_
    rintro e w' ⟨rfl, rfl⟩
    exact ⟨rfl, ⟨bv, h2.set 0 _, Ownv.setCell h4 (Ownv.notBlk h4 h2 (by decide)) _, h6⟩, (turn_setCell w _ _).mono fun x hx => by
      subst hx
      exact ⟨h1, h5⟩⟩
  · refine (copyCheck_used b w (h2.cell 0)).mono ?_
    rintro e w' ⟨rfl, rfl⟩
    exact ⟨rfl, ⟨bv, h2, h4, h6⟩, Turn.refl _ _⟩

theorem blen_any {B b : Nat} {nv : Value} {bs : List UInt8} {w : World} (h : Bld B b nv bs w) :
    Calls Tryz.prog 31 #[.pointer (some ⟨b, 0, none⟩)] w fun e w' => e = .returned (.int .i64 bs.length) ∧ w = w' := by
  obtain ⟨h1, av, bv, h2, h3, h4, _, _⟩ := h
  obtain ⟨ao, cap, rfl, _, _, _⟩ := (Own.rd h4).len
  have c1 := h2.cell 1
  rw [toI_length] at c1
  simp only [List.getElem?_cons_succ, List.getElem?_cons_zero] at c1
  go_enter Tryz.func31, Tryz.ntmps31
  go_wp2
  go_ret
  exact ⟨rfl, rfl⟩

theorem Turn.toBelow {N : Nat → Prop} {B : Nat} {w w' : World} (h : Turn (fun x => B ≤ x ∧ ¬ N x) w w') (hB : B ≤ w.heap.size) : Below B w w' :=
  Turn.below (Below.refl B w) h (fun b hb => hb.1) hB

set_option maxHeartbeats 2000000 in
set_option maxRecDepth 100000 in
theorem bbyteN_any {N : Nat → Prop} {B b : Nat} {nv : Value} {bs : List UInt8} {w : World} (h : BldN N B b nv bs w) (hB : B ≤ w.heap.size) (hN : ∀ x, N x → x < w.heap.size) (hl : bs.length ≤ 1000000) (c : UInt8) (z : Int) (hz : z = c.toNat) :
    Calls Tryz.prog 55 #[.pointer (some ⟨b, 0, none⟩), .int .u8 z] w fun e w' => e = .returned .nilIface ∧ BldN N B b nv (bs ++ [c]) w' ∧ Turn (fun x => B ≤ x ∧ ¬ N x) w w' := by
  have hBb := h.1
  have hNb : ¬ N b := by
    obtain ⟨_, _, _, _, _, _, h5, _⟩ := h
    exact h5
  subst hz
  go_enter Tryz.func55, Tryz.ntmps55
  go_wp2_with fail
  refine (copyCheck_any h).mono ?_
  rintro e w1 ⟨rfl, ⟨bv, hk, ho, hnb⟩, hb1⟩
  have hB1 : B ≤ w1.heap.size := Nat.le_trans hB hb1.size
  have c1 := hk.cell 1
  simp only [List.getElem?_cons_succ, List.getElem?_cons_zero] at c1
  go_wp2_with (at_builtin; refine go_app1 B bv bs rfl w1 c c.toNat rfl rfl ho rfl hl hB1 ?_; intro v2 w2 ho2 ht2 hb2 hloc; refine Hid.out ?_)
  refine Lib.hid ?_
  have hk2 : Blk w2 b 72 [.pointer (some ⟨b, 0, none⟩), bv, nv] := hk.turn ht2 (Ownv.notBlk ho hk (by decide))
  have hnv : ∀ x, Blks v2 x → ¬ N x := fun x hx c => by
    rcases hloc x hx with hh | hh
    · exact hnb x hh c
    · have := hN x c
      have := hb1.size
      omega
  obtain ⟨ao, cap, rfl, _, _, _⟩ := (Own.rd ho2).len
  have d1 := hk2.cell 1
  have f1 := hk2.frozen 1
  simp only [List.getElem?_cons_succ, List.getElem?_cons_zero] at d1
  have hfin : BldN N B b nv (bs ++ [c]) (w2.setCell ⟨b, 1, none⟩ (.slice ao (toI (bs ++ [c])).length cap)) := ⟨hBb, _, _, hk2.set 1 _, .inr rfl, Ownv.setCell ho2 (Ownv.notBlk ho2 hk2 (by decide)) _, hNb, hnv⟩
  have hbel : Turn (fun x => B ≤ x ∧ ¬ N x) w (w2.setCell ⟨b, 1, none⟩ (.slice ao (toI (bs ++ [c])).length cap)) := (hb1.trans (ht2.mono fun x hx => ⟨(Ownv.lt ho hx).2, hnb x hx⟩) (fun x hx => .inl hx)).trans (turn_setCell w2 _ _) (fun x hx => .inl (by subst hx; exact ⟨hBb, hNb⟩))
  generalize (toI (bs ++ [c])).length = len at hfin hbel d1 f1 ⊢
  clear ho2 hnv hloc
  go_wp2
  go_ret
  exact ⟨rfl, hfin, hbel⟩
theorem bbyte_any {B b : Nat} {nv : Value} {bs : List UInt8} {w : World} (h : Bld B b nv bs w) (hB : B ≤ w.heap.size) (hl : bs.length ≤ 1000000) (c : UInt8) (z : Int) (hz : z = c.toNat) :
    Calls Tryz.prog 55 #[.pointer (some ⟨b, 0, none⟩), .int .u8 z] w fun e w' => e = .returned .nilIface ∧ Bld B b nv (bs ++ [c]) w' ∧ Below B w w' :=
  (bbyteN_any h hB (fun _ x => x.elim) hl c z hz).mono fun e w' ⟨a, b, c⟩ => ⟨a, b, c.toBelow hB⟩

set_option maxHeartbeats 2000000 in
set_option maxRecDepth 100000 in
theorem bstrN_any {N : Nat → Prop} {B b : Nat} {nv : Value} {bs : List UInt8} {w : World} (h : BldN N B b nv bs w) (hB : B ≤ w.heap.size) (hN : ∀ x, N x → ∃ e cs, Blk w x e cs ∧ 5 ≠ e) (hl : bs.length ≤ 1000000) (s : List UInt8) (hs : s.length ≤ 1000000) :
    Calls Tryz.prog 56 #[.pointer (some ⟨b, 0, none⟩), .string (strB s)] w fun e w' => e = .returned (.tuple #[.int .i64 s.length, .nilIface]) ∧ BldN N B b nv (bs ++ s) w' ∧ Turn (fun x => B ≤ x ∧ ¬ N x) w w' := by
  have hBb := h.1
  have hNb : ¬ N b := by
    obtain ⟨_, _, _, _, _, _, h5, _⟩ := h
    exact h5
  obtain ⟨i0, hi, hz0, hz1, hz2⟩ := info_parts Tryz.info5
  have e1 := strB_size s
  have hcs : Lib.strCells (strB s) = Lib.byteCells s := rfl
  generalize strB s = S at e1 hcs
  go_enter Tryz.func56, Tryz.ntmps56
  go_wp2_with fail
  refine (copyCheck_any h).mono ?_
  rintro e w1 ⟨rfl, ⟨bv, hk, ho, hnb⟩, hb1⟩
  have hB1 : B ≤ w1.heap.size := Nat.le_trans hB hb1.size
  have c1 := hk.cell 1
  simp only [List.getElem?_cons_succ, List.getElem?_cons_zero] at c1
  go_wp2_with (at_builtin; refine Lib.wpList_append_own_string _ rfl _ _ 68 9 rfl B 5 i0 Tryz.underlying68 Tryz.underlying9 hi hz0 hz1 hz2 bv (toI bs).length _ rfl ho S rfl (by rw [e1, toI_length]; unfold maxLen; omega) (by rw [e1, toI_length]; omega) hB1 ?_; intro v2 w2 ho2 hg2 _; refine Hid.out ?_)
  refine Lib.hid ?_
  have ht2 : Turn (Blks bv) w1 w2 := (Grown.turn hg2).mono fun b hb => hb.symm
  have ho3 : OwnU B w2 v2 (bs ++ s) := by
    unfold OwnU Own Ownv
    rw [toI_cells, toI_length, List.length_append]
    rw [hcs, toI_cells, e1, toI_length] at ho2
    simpa [Lib.byteCells] using ho2
  have hb2 : Turn (fun x => B ≤ x ∧ ¬ N x) w1 w2 := ht2.mono fun x hx => ⟨(Ownv.lt ho hx).2, hnb x hx⟩
  have hk2 : Blk w2 b 72 [.pointer (some ⟨b, 0, none⟩), bv, nv] := hk.turn ht2 (Ownv.notBlk ho hk (by decide))
  have hnv : ∀ x, Blks v2 x → ¬ N x := fun x hx c => by
    obtain ⟨e, cs, hb, hne⟩ := hN x c
    exact Ownv.notBlk ho3 ((hb.turn hb1 (fun y => y.2 c)).turn hb2 (fun y => y.2 c)) hne hx
  clear ho2 hg2
  obtain ⟨ao, cap, rfl, _, _, _⟩ := (Own.rd ho3).len
  have d1 := hk2.cell 1
  have f1 := hk2.frozen 1
  simp only [List.getElem?_cons_succ, List.getElem?_cons_zero] at d1
  have hfin : BldN N B b nv (bs ++ s) (w2.setCell ⟨b, 1, none⟩ (.slice ao (toI (bs ++ s)).length cap)) := ⟨hBb, _, _, hk2.set 1 _, .inr rfl, Ownv.setCell ho3 (Ownv.notBlk ho3 hk2 (by decide)) _, hNb, hnv⟩
  have hbel : Turn (fun x => B ≤ x ∧ ¬ N x) w (w2.setCell ⟨b, 1, none⟩ (.slice ao (toI (bs ++ s)).length cap)) := (hb1.trans hb2 (fun x hx => .inl hx)).trans (turn_setCell w2 _ _) (fun x hx => .inl (by subst hx; exact ⟨hBb, hNb⟩))
  generalize (toI (bs ++ s)).length = len at hfin hbel d1 f1 ⊢
  clear ho3 hcs hnv
  go_wp2
  go_ret2
  exact ⟨rfl, hfin, hbel⟩
theorem bstr_any {B b : Nat} {nv : Value} {bs : List UInt8} {w : World} (h : Bld B b nv bs w) (hB : B ≤ w.heap.size) (hl : bs.length ≤ 1000000) (s : List UInt8) (hs : s.length ≤ 1000000) :
    Calls Tryz.prog 56 #[.pointer (some ⟨b, 0, none⟩), .string (strB s)] w fun e w' => e = .returned (.tuple #[.int .i64 s.length, .nilIface]) ∧ Bld B b nv (bs ++ s) w' ∧ Below B w w' :=
  (bstrN_any h hB (fun _ x => x.elim) hl s hs).mono fun e w' ⟨a, b, c⟩ => ⟨a, b, c.toBelow hB⟩

set_option maxHeartbeats 2000000 in
set_option maxRecDepth 100000 in
theorem bstring_any {B b : Nat} {nv : Value} {bs : List UInt8} {w : World} (h : Bld B b nv bs w) (hne : bs ≠ []) :
    Calls Tryz.prog 32 #[.pointer (some ⟨b, 0, none⟩)] w fun e w' => e = .returned (.string (strB bs)) ∧ Below B w w' := by
  obtain ⟨hB, av, bv, hbk, _, ho, _, _⟩ := h
  have hl0 : bs.length ≠ 0 := by simpa using hne
  unfold OwnU Own Ownv at ho
  rw [toI_cells, toI_length] at ho
  obtain ⟨g, cap, cur, rfl, hbg, hg, hnc, hcm, hcs, htake⟩ : ∃ g cap cur, bv = .slice (some ⟨g, 0, none⟩) bs.length cap ∧ B ≤ g ∧ w.heap[g]? = some (.cells cur 5 (0, 0)) ∧ bs.length ≤ cap ∧ cap ≤ maxLen ∧ cur.size = cap * 1 ∧ cur.toList.take (bs.length * 1) = Lib.byteCells bs := by
    rcases ho.2 with ⟨_, hz⟩ | ⟨g, cap, cur, hv, r⟩
    · exact absurd hz hl0
    · exact ⟨g, cap, cur, hv, r⟩
  have c1 : w.drew.cell? ⟨b, 1, none⟩ = some (.slice (some ⟨g, 0, none⟩) bs.length cap) := hbk.cell 1
  have hSD : (Builtin.unsafeSliceData_ #[68] 106 #[.slice (some ⟨g, 0, none⟩) bs.length cap]).run Tryz.prog w.drew = .ok (.pointer (some ⟨g, 0, none⟩)) w.drew :=
    Lib.run_unsafeSliceData_row _ _ _ _ _ _ (by omega)
  have hUS : (Builtin.unsafeString_ #[106, 3] 9 #[.pointer (some ⟨g, 0, none⟩), .int .i64 bs.length]).run Tryz.prog w.drew = .ok (.string (strB bs)) (w.drew.freeze ⟨g, 0, none⟩ bs.length) := by
    refine Lib.run_unsafeString_row w.drew 106 3 9 5 Tryz.underlying106 Tryz.cellsByte g cur.size (by have hg' : w.drew.heap[g]? = some (.cells cur 5 (0, 0)) := hg; simp [World.shape?, hg']) bs hne (by omega) (by unfold maxLen at hcm; omega) ?_
    intro j x hx
    have := ho.cells (g := g) rfl j (.int .u8 x.toNat) (by simp [Lib.byteCells, hx])
    exact this
  generalize strB bs = S at hUS ⊢
  go_enter Tryz.func32, Tryz.ntmps32
  go_wp2
  go_region
  all_goals (go_wp2; go_ret; exact ⟨rfl, Lib.below_freeze (Below.drew (Below.refl B w)) (p := ⟨g, 0, none⟩) hbg _⟩)
end Go.Proofs.YtnmaiokhndbicaaGreatDoor
end

section
/- A term's text: what Show is to write. Nothing here names a program. -/
set_option linter.unusedSimpArgs false
set_option linter.unusedVariables false
namespace Go.Proofs.YtnmaiokhndbicaaGreatDoor
open Go

def esc (s : List UInt8) : List UInt8 := s.flatMap fun c => if c = 34 ∨ c = 92 then [92, c] else [c]
def joinC : List (List UInt8) → List UInt8
  | [] => []
  | [x] => x
  | x :: y :: r => x ++ 44 :: joinC (y :: r)
/-- A node's text, where f tells its parts'. -/
def one (f : Int → List UInt8) (d : Nd) : List UInt8 :=
  if d.op = 1 then 35 :: Lib.itoa d.n else if d.op = 2 then 34 :: (esc d.s ++ [34]) else kName d.op ++ 40 :: (joinC (d.l.map f) ++ [41])
def stepS (acc : List (List UInt8)) (d : Nd) : List (List UInt8) := acc ++ [one (fun x => acc.getD x.toNat []) d]
/-- All terms' texts. -/
def shws (ds : List Nd) : List (List UInt8) := ds.foldl stepS []
/-- The text of a term. -/
def shw (ds : List Nd) (t : Int) : List UInt8 := (shws ds).getD t.toNat []

theorem shws_pre (ds : List Nd) : ∀ acc : List (List UInt8), ∃ r, ds.foldl stepS acc = acc ++ r ∧ r.length = ds.length := by
  induction ds with
  | nil => exact fun acc => ⟨[], by simp, rfl⟩
  | cons d ds ih =>
    intro acc
    obtain ⟨r, h1, h2⟩ := ih (stepS acc d)
    refine ⟨one (fun x => acc.getD x.toNat []) d :: r, ?_, by simp [h2]⟩
    rw [List.foldl_cons, h1]
    simp [stepS]
theorem shws_append (a b : List Nd) : ∃ r, shws (a ++ b) = shws a ++ r ∧ r.length = b.length := by
  unfold shws
  rw [List.foldl_append]
  exact shws_pre b _
theorem shws_length (ds : List Nd) : (shws ds).length = ds.length := by
  obtain ⟨r, h1, h2⟩ := shws_pre ds []
  unfold shws
  rw [h1]
  simpa using h2
theorem shw_more {ds : List Nd} (es : List Nd) {t : Int} (h : t.toNat < ds.length) : shw (ds ++ es) t = shw ds t := by
  obtain ⟨r, h1, _⟩ := shws_append ds es
  unfold shw
  rw [h1]
  simp only [List.getD_eq_getElem?_getD]
  rw [List.getElem?_append_left (by rw [shws_length]; exact h)]
theorem one_congr {f g : Int → List UInt8} {d : Nd} (h : ∀ x ∈ d.l, f x = g x) : one f d = one g d := by
  unfold one
  rw [List.map_congr_left h]
/-- What a term's text is. -/
theorem shw_eq {ds : List Nd} (hg : Good ds) {t : Int} (h0 : 0 ≤ t) (h1 : t < ds.length) : shw ds t = one (shw ds) (ds.getD t.toNat nd0) := by
  obtain ⟨i, rfl⟩ := Int.eq_ofNat_of_zero_le h0
  have hi : i < ds.length := by omega
  simp only [Int.toNat_natCast]
  have hsplit : ds = ds.take i ++ (ds.getD i nd0 :: ds.drop (i + 1)) := by
    rw [List.getD_eq_getElem?_getD, List.getElem?_eq_getElem hi, Option.getD_some, List.getElem_cons_drop hi, List.take_append_drop]
  have htl : (ds.take i).length = i := by rw [List.length_take]; omega
  have key1 : shw ds (i : Int) = one (fun x => (shws (ds.take i)).getD x.toNat []) (ds.getD i nd0) := by
    have e : shws ds = (ds.drop (i + 1)).foldl stepS (stepS (shws (ds.take i)) (ds.getD i nd0)) := by
      conv => lhs; rw [hsplit]
      unfold shws
      rw [List.foldl_append, List.foldl_cons]
    obtain ⟨r, h2, _⟩ := shws_pre (ds.drop (i + 1)) (stepS (shws (ds.take i)) (ds.getD i nd0))
    unfold shw
    rw [e, h2]
    simp only [Int.toNat_natCast, stepS, List.append_assoc, List.getD_eq_getElem?_getD]
    rw [List.getElem?_append_right (by rw [shws_length, htl]; omega), shws_length, htl]
    simp
  rw [key1]
  refine one_congr fun x hx => ?_
  obtain ⟨x0, x1⟩ := hg.lesser hi x hx
  have : shw (ds.take i ++ ds.drop i) x = shw (ds.take i) x := shw_more _ (by rw [htl]; omega)
  rw [List.take_append_drop] at this
  rw [this]
  rfl

theorem joinC_snoc (l : List (List UInt8)) (x : List UInt8) : joinC (l ++ [x]) = if l = [] then x else joinC l ++ 44 :: x := by
  induction l with
  | nil => rfl
  | cons a l ih =>
    cases l with
    | nil => rfl
    | cons b l =>
      simp only [List.cons_append, joinC] at ih ⊢
      rw [ih]
      simp
theorem joinC_take_le (l : List (List UInt8)) (k : Nat) : (joinC (l.take k)).length ≤ (joinC l).length := by
  induction l generalizing k with
  | nil => simp [joinC]
  | cons a l ih =>
    cases k with
    | zero => simp [joinC]
    | succ k =>
      cases l with
      | nil => simp [joinC]
      | cons b l =>
        cases k with
        | zero => simp [joinC]
        | succ k =>
          have := ih (k + 1)
          simp only [List.take_succ_cons, joinC, List.length_append, List.length_cons] at this ⊢
          omega
theorem joinC_step (l : List Int) (f : Int → List UInt8) {k : Nat} (h : k < l.length) :
    joinC ((l.take (k + 1)).map f) = joinC ((l.take k).map f) ++ ((if k = 0 then [] else [44]) ++ f (l.getD k 0)) := by
  rw [List.take_succ_eq_append_getElem h, List.map_append, List.map_cons, List.map_nil, joinC_snoc, List.getD_eq_getElem?_getD, List.getElem?_eq_getElem h]
  by_cases c : k = 0
  · subst c
    simp [joinC]
  · have : ¬ (l.take k).map f = [] := by
      intro e
      have := congrArg List.length e
      rw [List.length_map, List.length_take, List.length_nil] at this
      omega
    rw [if_neg this, if_neg c]
    simp

/-- What is written behind old: all of x, or more than may be shown, where all of x is more, too. -/
def Out (old x new : List UInt8) : Prop := new = old ++ x ∨ (4000 < new.length ∧ 4000 < old.length + x.length)
theorem esc_snoc (s : List UInt8) (c : UInt8) : esc (s ++ [c]) = esc s ++ (if c = 34 ∨ c = 92 then [92, c] else [c]) := by simp [esc]
theorem esc_len (s : List UInt8) : (esc s).length ≤ 2 * s.length := by
  induction s with
  | nil => simp [esc]
  | cons c s ih =>
    have e : esc (c :: s) = (if c = 34 ∨ c = 92 then [92, c] else [c]) ++ esc s := by simp [esc]
    rw [e, List.length_append]
    have : (if c = 34 ∨ c = 92 then [92, c] else [c]).length ≤ 2 := by split <;> simp
    simp
    omega
theorem kName_len (o : Int) : (kName o).length ≤ 5 := by
  unfold kName
  rcases Nat.lt_or_ge o.toNat 13 with h | h
  · generalize o.toNat = n at h
    have : n = 0 ∨ n = 1 ∨ n = 2 ∨ n = 3 ∨ n = 4 ∨ n = 5 ∨ n = 6 ∨ n = 7 ∨ n = 8 ∨ n = 9 ∨ n = 10 ∨ n = 11 ∨ n = 12 := by omega
    rcases this with e | e | e | e | e | e | e | e | e | e | e | e | e <;> subst e <;> simp [kTab]
  · rw [List.getD_eq_getElem?_getD, List.getElem?_eq_none (by simp [kTab]; omega)]
    simp
end Go.Proofs.YtnmaiokhndbicaaGreatDoor
end

section
/- Walks of package term: the writer. -/
set_option linter.unusedSimpArgs false
set_option linter.unusedVariables false
namespace Go.Proofs.YtnmaiokhndbicaaGreatDoor
open Go.RowKit Go.Maps

theorem u8_eq_lit (c : UInt8) (k : Nat) (hk : k < 256) : ((c.toNat : Int) = (k : Int)) ↔ c = UInt8.ofNat k := by
  rw [← UInt8.toNat_inj, ofNat_small hk]; omega
theorem bytesWorld_kept (w : World) (e : TypeId) (s : ByteArray) : Kept w (Lib.bytesWorld w e s) :=
  ⟨rfl, rfl, rfl, by rw [Lib.bytesWorld_size]; omega, fun j hj => Lib.bytesWorld_at_old w e s j hj⟩

set_option maxHeartbeats 4000000 in
set_option maxRecDepth 100000 in
theorem quoted_any {B b : Nat} {nv : Value} {bs : List UInt8} {w : World} (h : Bld B b nv bs w) (hB : B ≤ w.heap.size) (hl : bs.length ≤ 100000) (s : List UInt8) (hs : s.length ≤ 200) :
    Calls Tryz.prog 58 #[.pointer (some ⟨b, 0, none⟩), .string (strB s)] w fun e w' => e = .returned (.tuple #[]) ∧ Bld B b nv (bs ++ (34 :: (esc s ++ [34]))) w' ∧ Below B w w' := by
  have e1 := strB_size s
  have e2 := strB_toList s
  generalize strB s = S at e1 e2
  go_enter Tryz.func58, Tryz.ntmps58
  go_wp2_with fail
  refine (bbyte_any h hB (by omega) 34 34 rfl).mono ?_
  rintro e w1 ⟨rfl, h1, k1⟩
  have hB1 : B ≤ w1.heap.size := Nat.le_trans hB k1.size
  have hcv := Lib.run_convert_string_bytes (P := Tryz.prog) w1 9 68 5 S Tryz.underlying9 Tryz.underlying68 Tryz.underlying5
  have hq : ∀ j, j < s.length → (Lib.bytesWorld w1 5 S).cell? ⟨w1.heap.size, j, none⟩ = some (.int .u8 (s.getD j 0).toNat) := fun j hj => by
    rw [Lib.bytesWorld_cell w1 5 S j (by omega), e2]
  have hk := bytesWorld_kept w1 5 S
  have hsz := Lib.bytesWorld_size w1 5 S
  have hbn := (h1.new).mono (M := fun x => x = w1.heap.size) (fun x hx => by subst hx; exact Nat.le_refl _)
  have hbn2 := hbn.kept hk
  generalize Lib.bytesWorld w1 5 S = w2 at hcv hq hk hsz hbn2
  generalize grownCap w1 S.size 0 5 = cap at hcv
  rw [e1] at hcv
  clear e1 e2
  go_wp2
  go_loopw [13] (fun i wr => ∃ k : Nat, k ≤ s.length ∧ i = .int .i64 k ∧ BldN (fun x => x = w1.heap.size) B b nv (bs ++ 34 :: esc (s.take k)) wr ∧ Turn (fun x => B ≤ x ∧ ¬ x = w1.heap.size) w2 wr) (fun i _ => s.length - (intOf i).toNat)
  case atStart => exact ⟨0, Nat.zero_le _, rfl, by simpa [esc] using hbn2, Turn.refl _ _⟩
  case round =>
    obtain ⟨k, hk0, rfl, hr, ht⟩ := hrel
    have hwB : Below B w wr := (k1.trans (Below.mono hk hB1)).trans (Turn.toBelow ht (by omega))
    have hBr : B ≤ wr.heap.size := Nat.le_trans hB hwB.size
    have hel := esc_len (s.take k)
    rw [List.length_take] at hel
    by_cases hlt : k < s.length
    · have hc : wr.cell? ⟨w1.heap.size, k, none⟩ = some (.int .u8 (s.getD k 0).toNat) := by
        rw [World.cell?_of_block (ht.block _ (show w1.heap.size < w2.heap.size by omega) (fun x => x.2 rfl))]; exact hq k hlt
      have hstep : esc (s.take (k + 1)) = esc (s.take k) ++ (if s.getD k 0 = 34 ∨ s.getD k 0 = 92 then [92, s.getD k 0] else [s.getD k 0]) := by
        rw [List.take_succ_eq_append_getElem hlt, esc_snoc, List.getD_eq_getElem?_getD, List.getElem?_eq_getElem hlt]; rfl
      have HS := Shut.mk hstep
      clear hstep hq
      generalize s.getD k 0 = c at hc HS
      have hNr : ∀ x, x = w1.heap.size → x < wr.heap.size := fun x hx => by have := ht.size; omega
      have hbl : (bs ++ 34 :: esc (s.take k)).length ≤ 200000 := by simp; omega
      have hcases : (((c.toNat : Int) == 34) = true ∧ (c = 34 ∨ c = 92)) ∨ (((c.toNat : Int) == 34) = false ∧ ((c.toNat : Int) == 92) = true ∧ (c = 34 ∨ c = 92)) ∨ (((c.toNat : Int) == 34) = false ∧ ((c.toNat : Int) == 92) = false ∧ ¬ (c = 34 ∨ c = 92)) := by
        have q1 := u8_eq_lit c 34 (by decide)
        have q2 := u8_eq_lit c 92 (by decide)
        by_cases c1 : (c.toNat : Int) = 34
        · exact .inl ⟨by simpa using c1, .inl (q1.1 c1)⟩
        · by_cases c2 : (c.toNat : Int) = 92
          · exact .inr (.inl ⟨by simpa using c1, by simpa using c2, .inr (q2.1 c2)⟩)
          · exact .inr (.inr ⟨by simpa using c1, by simpa using c2, fun h => h.elim (fun e => c1 (q1.2 e)) (fun e => c2 (q2.2 e))⟩)
      clear hel
      rcases hcases with ⟨d1, hcc⟩ | ⟨d1, d2, hcc⟩ | ⟨d1, d2, hcc⟩
      · have hst := HS.out
        rw [if_pos hcc] at hst
        have HS2 := Shut.mk hst
        clear hst HS hcc
        go_wp2_with fail
        refine (bbyteN_any hr hBr hNr (by omega) 92 92 rfl).mono ?_
        rintro e w3 ⟨rfl, h3, t3⟩
        go_wp2_with fail
        refine (bbyteN_any h3 (Nat.le_trans hBr t3.size) (fun x hx => Nat.lt_of_lt_of_le (hNr x hx) t3.size) (by rw [List.length_append]; show _ + 1 ≤ 1000000; omega) c c.toNat rfl).mono ?_
        rintro e w4 ⟨rfl, h4, t4⟩
        go_wp2
        go_roundw
        case rel =>
          refine ⟨k + 1, hlt, rfl, ?_, (ht.trans t3 (fun x hx => .inl hx)).trans t4 (fun x hx => .inl hx)⟩
          rw [HS2.out]
          simpa using h4
        case measure => simp [intOf]; omega
      · have hst := HS.out
        rw [if_pos hcc] at hst
        have HS2 := Shut.mk hst
        clear hst HS hcc
        go_wp2_with fail
        refine (bbyteN_any hr hBr hNr (by omega) 92 92 rfl).mono ?_
        rintro e w3 ⟨rfl, h3, t3⟩
        go_wp2_with fail
        refine (bbyteN_any h3 (Nat.le_trans hBr t3.size) (fun x hx => Nat.lt_of_lt_of_le (hNr x hx) t3.size) (by rw [List.length_append]; show _ + 1 ≤ 1000000; omega) c c.toNat rfl).mono ?_
        rintro e w4 ⟨rfl, h4, t4⟩
        go_wp2
        go_roundw
        case rel =>
          refine ⟨k + 1, hlt, rfl, ?_, (ht.trans t3 (fun x hx => .inl hx)).trans t4 (fun x hx => .inl hx)⟩
          rw [HS2.out]
          simpa using h4
        case measure => simp [intOf]; omega
      · have hst := HS.out
        rw [if_neg hcc] at hst
        have HS2 := Shut.mk hst
        clear hst HS hcc
        go_wp2_with fail
        refine (bbyteN_any hr hBr hNr (by omega) c c.toNat rfl).mono ?_
        rintro e w3 ⟨rfl, h3, t3⟩
        go_wp2
        go_roundw
        case rel =>
          refine ⟨k + 1, hlt, rfl, ?_, ht.trans t3 (fun x hx => .inl hx)⟩
          rw [HS2.out]
          simpa using h3
        case measure => simp [intOf]; omega
    · obtain rfl : k = s.length := by omega
      rw [List.take_length] at hr hel
      go_wp2_with fail
      refine (bbyte_any hr.no hBr (by simp; omega) 34 34 rfl).mono ?_
      rintro e w3 ⟨rfl, h3, k3⟩
      go_wp2
      go_end0
      exact ⟨rfl, by simpa using h3, hwB.trans k3⟩

/-- What writing a term does. -/
def TermOk (w0 : World) (nv : Value) (ds : List Nd) (t : Nat) : Prop := ∀ (b : Nat) (bs : List UInt8) (w : World), Kept w0 w → Bld w0.heap.size b nv bs w → bs.length ≤ 4001 →
  Calls Tryz.prog 30 #[.pointer (some ⟨b, 0, none⟩), .int .i64 t] w fun e w' => e = .returned (.tuple #[]) ∧ (∃ bs', Bld w0.heap.size b nv bs' w' ∧ Out bs (shw ds t) bs' ∧ bs'.length ≤ 4501 + t) ∧ Kept w0 w'

theorem out_trans {a x b y c : List UInt8} (h : b = a ++ x) (k : Out b y c) : Out a (x ++ y) c := by
  subst h
  rcases k with k | ⟨k1, k2⟩
  · exact .inl (by rw [k, List.append_assoc])
  · exact .inr ⟨k1, by simp only [List.length_append] at k2 ⊢; omega⟩

set_option maxHeartbeats 4000000 in
set_option maxRecDepth 100000 in
theorem parts_any {w0 : World} {nv : Value} {ds : List Nd} {T : Nat} {lv : Value} {l : List Int} (hr : RdI w0 lv l) (hl : l.length ≤ 64) (hT : ∀ x ∈ l, 0 ≤ x ∧ x < T) (ih : ∀ x, x < T → TermOk w0 nv ds x) {b : Nat} {bs : List UInt8} {w : World} (hk : Kept w0 w) (h : Bld w0.heap.size b nv bs w) (hbs : bs.length ≤ 4008) :
    Calls Tryz.prog 59 #[.pointer (some ⟨b, 0, none⟩), lv] w fun e w' => e = .returned (.tuple #[]) ∧ (∃ bs', Bld w0.heap.size b nv bs' w' ∧ Out bs (joinC (l.map (shw ds))) bs' ∧ bs'.length ≤ 4500 + T) ∧ Kept w0 w' := by
  obtain ⟨la, lc, rfl, l1, l2, l3⟩ := hr.len
  go_enter Tryz.func59, Tryz.ntmps59
  go_wp2
  go_loopw [8] (fun i wr => ∃ (k : Nat) (bk : List UInt8), k ≤ l.length ∧ i = .int .i64 k ∧ Bld w0.heap.size b nv bk wr ∧ Out bs (joinC ((l.take k).map (shw ds))) bk ∧ bk.length ≤ 4500 + T ∧ Kept w0 wr) (fun i _ => l.length - (intOf i).toNat)
  case atStart => exact ⟨0, bs, Nat.zero_le _, rfl, h, .inl (by simp [joinC]), by omega, hk⟩
  case round =>
    obtain ⟨k, bk, hk0, rfl, hb, hout, hbl, hkr⟩ := hrel
    by_cases hlt : k < l.length
    · obtain ⟨rb, ro, rc, hrv, _, _, hrb, hcell⟩ := hr.addr (by omega)
      simp only [Value.slice.injEq] at hrv
      obtain ⟨rfl, _, rfl⟩ := hrv
      have hcw : wr.cell? ⟨rb, ro + k, none⟩ = some (.int .i64 (l.getD k 0)) := hkr.cell (p := ⟨rb, ro + k, none⟩) hrb |>.trans (hcell k hlt)
      clear hcell
      have hmem : l.getD k 0 ∈ l := by
        rw [List.getD_eq_getElem?_getD, List.getElem?_eq_getElem hlt]; exact List.getElem_mem _
      obtain ⟨x0, xT⟩ := hT _ hmem
      have hstep := joinC_step l (shw ds) hlt
      have hple : (joinC ((l.take k).map (shw ds))).length ≤ (joinC (l.map (shw ds))).length := by
        rw [List.map_take]; exact joinC_take_le _ _
      have HO := Shut.mk hout
      have HS := Shut.mk hstep
      have HP := Shut.mk hple
      clear hout hstep hple hmem
      generalize hxv : l.getD k 0 = xv at hcw x0 xT HS
      have HXV := Shut.mk hxv
      clear hxv
      obtain ⟨x, rfl⟩ := Int.eq_ofNat_of_zero_le x0
      have hxT : x < T := by omega
      by_cases hbig : 4000 < bk.length
      · have hd : decide (4000 < (bk.length : Int)) = true := decide_eq_true (by omega)
        go_wp2_with (go_at_call 31; refine (blen_any hb).mono ?_; rintro e w' ⟨rfl, rfl⟩)
        refine bodyPost_ret (results_none rfl _ _ _) rfl ?_
        refine ⟨rfl, ⟨bk, hb, .inr ⟨hbig, ?_⟩, hbl⟩, hkr⟩
        have hp := HP.out
        rcases HO.out with e | ⟨_, e⟩
        · have := congrArg List.length e
          rw [List.length_append] at this
          omega
        · omega
      · have hex : bk = bs ++ joinC ((l.take k).map (shw ds)) := HO.out.resolve_right (fun e => hbig e.1)
        have HE := Shut.mk hex
        have hd : decide (4000 < (bk.length : Int)) = false := decide_eq_false (by omega)
        clear hex
        by_cases hk1 : k = 0
        · subst hk1
          rw [Nat.add_zero] at hcw
          go_wp2_with (first | (go_at_call 31; refine (blen_any hb).mono ?_; rintro e w' ⟨rfl, rfl⟩) | fail)
          refine (ih x hxT b bk _ hkr hb (by omega)).mono ?_
          rintro e w3 ⟨rfl, ⟨b3, h3, o3, n3⟩, k3⟩
          go_wp2
          go_roundw
          case rel =>
            refine ⟨1, b3, hlt, rfl, h3, ?_, by omega, k3⟩
            rw [HS.out]
            exact out_trans HE.out (by simpa using o3)
          case measure => simp [intOf]; omega
        · go_wp2_with (first | (go_at_call 31; refine (blen_any hb).mono ?_; rintro e w' ⟨rfl, rfl⟩) | fail)
          refine (bbyte_any hb hkr.size (by omega) 44 44 rfl).mono ?_
          rintro e w2 ⟨rfl, h2, k2⟩
          have hk2 : Kept w0 w2 := Below.trans hkr k2
          go_wp2_with fail
          refine (ih x hxT b _ _ hk2 h2 (by rw [List.length_append]; show _ + 1 ≤ 4001; omega)).mono ?_
          rintro e w3 ⟨rfl, ⟨b3, h3, o3, n3⟩, k3⟩
          go_wp2
          go_roundw
          case rel =>
            refine ⟨k + 1, b3, hlt, rfl, h3, ?_, by omega, k3⟩
            rw [HS.out, if_neg hk1]
            refine out_trans HE.out ?_
            exact out_trans rfl o3
          case measure => simp [intOf]; omega
    · obtain rfl : k = l.length := by omega
      rw [List.take_length] at hout
      go_wp2
      go_end0
      exact ⟨rfl, ⟨bk, hb, hout, hbl⟩, hkr⟩
end Go.Proofs.YtnmaiokhndbicaaGreatDoor
end

section
/- Walks of package term: a term's text, Show. -/
set_option linter.unusedSimpArgs false
set_option linter.unusedVariables false
namespace Go.Proofs.YtnmaiokhndbicaaGreatDoor
open Go.RowKit Go.Maps

theorem itoa_any (n : Int) (hn : I64 n) (w : World) (ht : Lib.TabIs Tryz.prog w "internal/strconv.uint64pow10" .u64 Lib.pow10Tab) :
    Calls Tryz.prog 57 #[.int .i64 n] w fun e w' => e = .returned (.string (strB (Lib.itoa n))) ∧ Kept w w' :=
  (Tryz.strconv_Itoa n hn.1 hn.2 w ht).mono fun e w' ⟨a, k, os, c⟩ => ⟨a, by rw [c]; exact Lib.below_grow w.heap.size w (Nat.le_refl _) k os⟩

set_option maxHeartbeats 4000000 in
set_option maxRecDepth 100000 in
theorem term_ok {w0 : World} {nv : Value} {ds : List Nd} (hg : Good ds) (hns : RdNs w0 nv ds) (ht : Tabs w0) (hn : ∀ d ∈ ds, NdOk d) (HD : Shut (ds.length ≤ 100000)) (t : Nat) : t < ds.length → TermOk w0 nv ds t := by
  induction t using Nat.strongRecOn with
  | ind t ih =>
    intro htl b bs w hk h hbs
    obtain ⟨nb, noff, ncap, lvs, rfl, _, _, hnb, hnc, hnl⟩ := hns.addr (by omega)
    obtain ⟨y0, y1, y2, y3⟩ := hnc t htl
    have z0 := hk.cell (p := ⟨nb, noff + t * 4, none⟩) hnb |>.trans y0
    have z1 := hk.cell (p := ⟨nb, noff + t * 4 + 1, none⟩) hnb |>.trans y1
    have z2 := hk.cell (p := ⟨nb, noff + t * 4 + 2, none⟩) hnb |>.trans y2
    have z3 := hk.cell (p := ⟨nb, noff + t * 4 + 3, none⟩) hnb |>.trans y3
    have hlr := hnl t htl
    have hbc := h.cell2
    have hmay := hg.may' htl
    have hless := hg.lesser htl
    have heq := shw_eq hg (t := (t : Int)) (by omega) (by omega)
    rw [Int.toNat_natCast] at heq
    have hok : NdOk (ds.getD t nd0) := hn _ (by rw [List.getD_eq_getElem?_getD, List.getElem?_eq_getElem htl]; exact List.getElem_mem _)
    have HE := Shut.mk heq
    have HN := Shut.mk hnc
    clear y0 y1 y2 y3 hnc heq
    generalize ds.getD t nd0 = d at z0 z1 z2 z3 hlr hmay hless HE hok
    obtain ⟨op, n, s, l⟩ := d
    simp only at z0 z1 z2 z3 hlr hless
    obtain ⟨la, lc, hlv, l1, l2, l3⟩ := hlr.len
    rw [hlv] at z3 hlr
    clear hlv
    have htl' : (t : Int) < (ds.length : Int) := by omega
    have ht0 : (0 : Int) ≤ (t : Int) := by omega
    have hlt := h.lt
    have hn64 := hok.n
    simp only at hn64
    have hil := itoa_len hok.n
    simp only at hil
    go_enter Tryz.func30, Tryz.ntmps30
    by_cases c1 : op = 1
    · subst c1
      go_wp2_with fail
      have k1 : Kept w (w.alloc (.cells #[.int .i64 1, .int .i64 n, .string (strB s), .slice la l.length lc] 50)) := (Kept.refl w).alloc _
      have b1 := Blk.new w [.int .i64 1, .int .i64 n, .string (strB s), .slice la l.length lc] 50
      have h1 := (h.new.mono (M := fun x => x = w.heap.size) (fun x hx => by subst hx; exact Nat.le_refl _)).kept k1
      generalize w.alloc (.cells #[.int .i64 1, .int .i64 n, .string (strB s), .slice la l.length lc] 50) = w1 at k1 b1 h1 ⊢
      have hB1 : w0.heap.size ≤ w1.heap.size := Nat.le_trans hk.size k1.size
      refine (bbyteN_any h1 hB1 (fun x hx => by subst hx; exact b1.lt) (by omega) 35 35 rfl).mono ?_
      rintro e w2 ⟨rfl, h2, t2⟩
      have b2 := b1.turn t2 (fun x => x.2 rfl)
      have k2 : Kept w0 w2 := (hk.trans k1).trans' (t2.toBelow hB1)
      have hB2 := k2.size
      have q1 := b2.cell 1
      simp only [List.getElem?_cons_succ, List.getElem?_cons_zero] at q1
      go_wp2_with fail
      go_region_with (first
        | (go_at_call 57; refine (itoa_any n hn64 _ (ht.kept (k2.drew)).pow).mono ?_; rintro e w3 ⟨rfl, k3⟩; have k3' : Kept w2 w3 := (Kept.refl w2).drew.trans k3; have h3 := BldN.no (BldN.kept h2 k3'))
        | (go_at_call 56; refine (bstr_any h3 (Nat.le_trans hB2 k3'.size) (by simp; omega) (Lib.itoa n) (by omega)).mono ?_; rintro e w4 ⟨rfl, h4, k4⟩))
      go_wp2
      go_end0
      refine ⟨rfl, ⟨_, h4, .inl ?_, ?_⟩, (k2.trans k3').trans' k4⟩
      · rw [HE.out]; simp [one]
      · simp; omega
    · by_cases c2 : op = 2
      · subst c2
        have k1 : Kept w (w.alloc (.cells #[.int .i64 2, .int .i64 n, .string (strB s), .slice la l.length lc] 50)) := (Kept.refl w).alloc _
        have h1 := BldN.kept h k1
        have hB1 : w0.heap.size ≤ _ := Nat.le_trans hk.size k1.size
        have hs0 := hmay.s0
        have hel := esc_len s
        simp only at hs0
        go_wp2_with fail
        refine (quoted_any h1 hB1 (by omega) s hs0).mono ?_
        rintro e w2 ⟨rfl, h2, k2⟩
        go_wp2
        go_end0
        refine ⟨rfl, ⟨_, h2, .inl ?_, ?_⟩, (hk.trans k1).trans' k2⟩
        · rw [HE.out]; simp [one]
        · simp; omega
      · have d1 : ¬ op = 1 := c1
        have o1 := hmay.op1
        have o2 := hmay.op12
        simp only at o1 o2
        obtain ⟨o, rfl⟩ := Int.eq_ofNat_of_zero_le (show 0 ≤ op by omega)
        have e1 : ((o : Int) == 1) = false := by simpa using c1
        have e2 : ((o : Int) == 2) = false := by simpa using c2
        obtain ⟨g0, _, _⟩ := (ht.kept hk).kinds o (by omega)
        have hone : one (shw ds) ⟨(o : Int), n, s, l⟩ = kName o ++ 40 :: (joinC (l.map (shw ds)) ++ [41]) := by unfold one; rw [if_neg c1, if_neg c2]
        rw [hone] at HE
        have hll := hmay.len64
        simp only at hll
        have hkn := kName_len (o : Int)
        clear c1 c2 d1 hone
        have b1 := Blk.new w [.int .i64 (o : Int), .int .i64 n, .string (strB s), .slice la l.length lc] 50
        have k1 : Kept w (w.alloc (.cells #[.int .i64 (o : Int), .int .i64 n, .string (strB s), .slice la l.length lc] 50)) := (Kept.refl w).alloc _
        have h1 := (h.new.mono (M := fun x => x = w.heap.size) (fun x hx => by subst hx; exact Nat.le_refl _)).kept k1
        have g1 := k1.cell (p := ⟨0, o * 3, none⟩) (World.block_lt_of_cell? _ _ g0) |>.trans g0
        have o13 : (o : Int) < 13 := by omega
        have o00 : (0 : Int) ≤ (o : Int) := by omega
        go_wp2_with fail
        generalize w.alloc (.cells #[.int .i64 (o : Int), .int .i64 n, .string (strB s), .slice la l.length lc] 50) = w1 at k1 b1 h1 g1 ⊢
        have q0 := b1.cell 0
        simp only [List.getElem?_cons_succ, List.getElem?_cons_zero] at q0
        have hB1 : w0.heap.size ≤ w1.heap.size := Nat.le_trans hk.size k1.size
        have hdr : ∀ x : Nat, x = w.heap.size → ∃ e cs, Blk w1.drew x e cs ∧ 5 ≠ e := fun x hx => by subst hx; exact ⟨_, _, b1, by decide⟩
        have h1d : BldN (fun x => x = w.heap.size) w0.heap.size b (.slice (some ⟨nb, noff, none⟩) ds.length ncap) bs w1.drew := h1.kept (Kept.refl w1).drew
        go_region_with (first
          | (go_at_call 56; refine (bstrN_any h1d hB1 hdr (by omega) (kName o) (by omega)).mono ?_; rintro e w2 ⟨rfl, h2, t2⟩))
        all_goals
          have t2' : Turn (fun x => w0.heap.size ≤ x ∧ ¬ x = w.heap.size) w1 w2 := ((Kept.refl w1).drew.turn _).trans t2 (fun x hx => .inl hx)
          have b2 := b1.turn t2' (fun x => x.2 rfl)
          have k2 : Kept w0 w2 := (hk.trans k1).trans' (t2'.toBelow hB1)
          go_wp2_with fail
          refine (bbyteN_any h2 k2.size (fun x hx => by subst hx; exact b2.lt) (by rw [List.length_append]; omega) 40 40 rfl).mono ?_
          rintro e w3 ⟨rfl, h3, t3⟩
          have b3 := b2.turn t3 (fun x => x.2 rfl)
          have k3 : Kept w0 w3 := k2.trans' (t3.toBelow k2.size)
          have q3 := b3.cell 3
          simp only [List.getElem?_cons_succ, List.getElem?_cons_zero] at q3
          go_wp2_with fail
          refine (parts_any hlr hll hless (fun x hx => ih x hx (by omega)) k3 h3.no (by simp only [List.length_append, List.length_cons, List.length_nil]; omega)).mono ?_
          rintro e w4 ⟨rfl, ⟨b4, h4, o4, n4⟩, k4⟩
          go_wp2_with fail
          refine (bbyte_any h4 k4.size (by have := HD.out; omega) 41 41 rfl).mono ?_
          rintro e w5 ⟨rfl, h5, k5⟩
          go_wp2
          go_end0
          refine ⟨rfl, ⟨_, h5, ?_, ?_⟩, k4.trans' k5⟩
          · rw [HE.out]
            rcases o4 with e | ⟨e1, e2⟩
            · exact .inl (by rw [e]; simp)
            · refine .inr ⟨?_, ?_⟩
              · rw [List.length_append]; omega
              · simp only [List.length_append, List.length_cons, List.length_nil] at e2 ⊢; omega
          · rw [List.length_append]
            show _ + 1 ≤ _
            omega

/-- What Show tells of a term, and its error. -/
def shE (ds : List Nd) (t : Int) : Int := if 0 ≤ t ∧ t < ds.length then (if 4000 < (shw ds t).length then 2 else 0) else 4
def shT (ds : List Nd) (t : Int) : List UInt8 := if shE ds t = 0 then shw ds t else []

theorem one_pos (f : Int → List UInt8) (d : Nd) : one f d ≠ [] := by
  unfold one
  split
  · simp
  · split <;> simp

set_option maxHeartbeats 4000000 in
set_option maxRecDepth 100000 in
theorem show_any {F : Nat → Prop} {w : World} {p : Value} {ds : List Nd} (h : Ar F w p ds) (ht : Tabs w) (t : Int) :
    Calls Tryz.prog 12 #[p, .int .i64 t] w fun e w' => e = .returned (.tuple #[.string (strB (shT ds t)), .int .i64 (shE ds t)]) ∧ Kept w w' := by
  have HH := Shut.mk h
  by_cases hin : 0 ≤ t ∧ t < ds.length
  · have hE : shE ds t = (if 4000 < (shw ds t).length then 2 else 0) := by unfold shE; rw [if_pos hin]
    obtain ⟨t0, t1⟩ := hin
    obtain ⟨pb, mb, nv, rfl, q0, q1, hns⟩ := ArG.nodes h
    obtain ⟨na, ncap, rfl, _, _, _⟩ := hns.len
    have hq := World.block_lt_of_cell? _ _ q0
    have hterm := term_ok h.good hns ht h.oks ⟨h.few⟩ t.toNat (by omega)
    have hsh := shw_eq h.good t0 t1
    have HE := Shut.mk hE
    have HSH := Shut.mk hsh
    clear hE hsh hns
    have htt : ((t.toNat : Nat) : Int) = t := by omega
    clear h
    go_enter Tryz.func12, Tryz.ntmps12
    go_wp2_with (first | (go_at_call 29; refine (arg_has_t HH.out t0 t1).mono ?_; rintro e w' ⟨rfl, rfl⟩) | fail)
    have k1 : Kept w (w.alloc (.cells #[.pointer none, .slice none 0 0, .slice na ds.length ncap] 72)) := (Kept.refl w).alloc _
    have h1 : Bld w.heap.size w.heap.size (.slice na ds.length ncap) [] (w.alloc (.cells #[.pointer none, .slice none 0 0, .slice na ds.length ncap] 72)) :=
      ⟨Nat.le_refl _, _, _, Blk.new w [.pointer none, .slice none 0 0, .slice na ds.length ncap] 72, .inl rfl, Own.nil _ _ _, fun x => x, fun _ _ x => x⟩
    have hc := hterm _ [] _ k1 h1 (by simp)
    rw [htt] at hc
    refine hc.mono ?_
    rintro e w2 ⟨rfl, ⟨bs, h2, o2, n2⟩, k2⟩
    have HO := Shut.mk o2
    clear o2 hterm
    by_cases hbig : 4000 < bs.length
    · have hd : decide (4000 < (bs.length : Int)) = true := decide_eq_true (by omega)
      have hS : 4000 < (shw ds t).length := by
        rcases HO.out with e | ⟨_, e⟩
        · rw [List.nil_append] at e; rw [← e]; exact hbig
        · simpa using e
      have hE : shE ds t = 2 := by rw [HE.out, if_pos hS]
      have hT : shT ds t = [] := by unfold shT; rw [if_neg (by rw [hE]; decide)]
      have HE2 := Shut.mk hE
      have HT2 := Shut.mk hT
      clear hE hT hS
      go_wp2_with (go_at_call 31; refine (blen_any h2).mono ?_; rintro e w' ⟨rfl, rfl⟩)
      go_ret2
      exact ⟨by rw [HE2.out, HT2.out]; rfl, k2⟩
    · have hd : decide (4000 < (bs.length : Int)) = false := decide_eq_false (by omega)
      have hS : bs = shw ds t := by
        rcases HO.out with e | ⟨e, _⟩
        · simpa using e
        · exact absurd e hbig
      have hE : shE ds t = 0 := by rw [HE.out, if_neg (by rw [← hS]; exact hbig)]
      have hT : shT ds t = bs := by unfold shT; rw [if_pos hE, hS]
      have hne : bs ≠ [] := by rw [hS, HSH.out]; exact one_pos _ _
      have HE2 := Shut.mk hE
      have HT2 := Shut.mk hT
      have HS2 := Shut.mk hS
      clear hE hT hS
      go_wp2_with (first | (go_at_call 31; refine (blen_any h2).mono ?_; rintro e w' ⟨rfl, rfl⟩) | (go_at_call 32; refine (bstring_any h2 hne).mono ?_; rintro e w3 ⟨rfl, k3⟩))
      go_ret2
      exact ⟨by rw [HE2.out, HT2.out]; rfl, Below.trans k2 k3⟩
  · have hE : shE ds t = 4 := by unfold shE; rw [if_neg hin]
    have hT : shT ds t = [] := by unfold shT; rw [if_neg (by rw [hE]; decide)]
    rw [hE, hT]
    clear h hE hT
    go_enter Tryz.func12, Tryz.ntmps12
    go_wp2_with (go_at_call 29; refine (arg_has_f HH.out hin).mono ?_; rintro e w' ⟨rfl, rfl⟩)
    go_ret2
    exact ⟨rfl, Kept.refl _⟩
end Go.Proofs.YtnmaiokhndbicaaGreatDoor
end

section
/- Walks of package treehash: number, leaf, leaves, told, isNode, children. -/
set_option linter.unusedSimpArgs false
set_option linter.unusedVariables false
namespace Go.Proofs.YtnmaiokhndbicaaGreatDoor
open Go.RowKit Go.Maps

set_option maxHeartbeats 4000000 in
set_option maxRecDepth 100000 in
theorem hnumber_ok {w0 : World} {S U : Nat → Prop} {w : World} {hb : Nat} {p tv : Value} {ts : List Rt.TN} {ds : List Nd} (h : Hs w0 S U w hb p tv ts ds) (i : Int) (hi : I64 i) (hl : ds.length < 100000) :
    Calls Tryz.prog 51 #[.pointer (some ⟨hb, 0, none⟩), .int .i64 i] w (HMk w0 S U w hb p tv ts ds 1 (fun es t => Is es t ⟨2, 0, Lib.itoa i, []⟩)) := by
  have hlen := itoa_len hi
  have HI := Lib.hid (itoa_any i hi w h.arena.tabs.pow)
  have HT := Lib.hid (fun W (k : Kept w W) => htext_ok (h.step k) (Lib.itoa i) (by omega) hl)
  generalize strB (Lib.itoa i) = X at HI HT
  clear hlen
  go_enter Tryz.func51, Tryz.ntmps51
  go_wp2_with fail
  (with_reducible refine HI.out.mono ?_); rintro e w1 ⟨rfl, k1⟩
  go_wp2_with fail
  (with_reducible refine (HT.out _ k1).mono ?_); rintro e w2 ⟨r, t, rfl, h2, hr, hQ, t2⟩
  go_wp2
  go_ret
  exact ⟨r, t, rfl, h2, hr, hQ, Turn.trans (k1.turn _) t2 (fun b h => .inl h)⟩

theorem hleaves_any {w0 : World} {S U : Nat → Prop} {w : World} {hb : Nat} {p tv : Value} {ts : List Rt.TN} {ds : List Nd} (h : Hs w0 S U w hb p tv ts ds) (hts : ts.length ≤ 1000000) :
    Calls Tryz.prog 45 #[.pointer (some ⟨hb, 0, none⟩)] w fun e w' => e = .returned (.int .i64 (((ts.length : Int) + 1) / 2)) ∧ w = w' := by
  have g1 := h.blk.cell 1
  simp only [List.getElem?_cons_succ, List.getElem?_cons_zero] at g1
  obtain ⟨ta, tc, rfl, _, _, _⟩ := h.rd.len
  have t63 : ((ts.length : Nat) : Int) ≤ 1000000 := by omega
  clear h hts
  generalize ts.length = n at *
  go_enter Tryz.func45, Tryz.ntmps45
  go_wp2
  go_ret
  exact ⟨rfl, rfl⟩

theorem hisNode_any {w0 : World} {S U : Nat → Prop} {w : World} {hb : Nat} {p tv : Value} {ts : List Rt.TN} {ds : List Nd} (h : Hs w0 S U w hb p tv ts ds) (x : Nat) (hx : x < ts.length) :
    Calls Tryz.prog 25 #[.pointer (some ⟨hb, 0, none⟩), .int .i64 (x : Int)] w fun e w' => e = .returned (.bool true) ∧ w = w' := by
  have g1 := h.blk.cell 1
  simp only [List.getElem?_cons_succ, List.getElem?_cons_zero] at g1
  obtain ⟨ta, tc, rfl, _, _, _⟩ := h.rd.len
  have x0 : (0 : Int) ≤ (x : Int) := by omega
  have x1 : (x : Int) < (ts.length : Int) := by omega
  clear h hx
  go_enter Tryz.func25, Tryz.ntmps25
  go_wp2
  go_ret
  exact ⟨rfl, rfl⟩

set_option maxHeartbeats 4000000 in
theorem htold_any {w0 : World} {S U : Nat → Prop} {w : World} {hb : Nat} {p tv : Value} {ts : List Rt.TN} {ds : List Nd} (h : Hs w0 S U w hb p tv ts ds) (t : Int) :
    Calls Tryz.prog 27 #[.pointer (some ⟨hb, 0, none⟩), .int .i64 t] w fun e w' => e = .returned (.tuple #[.int .i64 t, .int .i64 0]) ∧ Kept w w' := by
  have g2 := h.blk.cell 2
  simp only [List.getElem?_cons_succ, List.getElem?_cons_zero] at g2
  clear h
  go_enter Tryz.func27, Tryz.ntmps27
  go_wp2
  go_region
  all_goals
    go_wp2
    go_ret2
    exact ⟨rfl, (Kept.refl _).drew⟩

theorem hchildren_kid {w : World} {x : Nat} (hx : x < 511) (hp : 0 < Mth.lvl x) (hT : TabsM w) :
    Calls Tryz.prog 50 #[.int .i64 (x : Int)] w fun e w' => e = .returned (.tuple #[.int .i64 (Mth.left x : Nat), .int .i64 (Mth.right x : Nat), .bool true]) ∧ Kept w w' := by
  have HL := Lib.hid (fun W (k : Kept w W) => Left_any (x : Int) W ⟨by omega, by omega⟩ (hT.kept k))
  have HRi := Lib.hid (fun W (k : Kept w W) => Right_any (x : Int) W ⟨by omega, by omega⟩ (hT.kept k))
  rw [kidB_nat hx, decide_eq_true hp] at HL HRi
  have HL : Hid (∀ W (k : Kept w W), Calls Tryz.prog 81 #[.int .i64 (x : Int)] W fun e w' => e = .returned (.tuple #[.int .i64 (Mth.left x : Nat), .int .i64 0]) ∧ Kept W w') := HL
  have HRi : Hid (∀ W (k : Kept w W), Calls Tryz.prog 82 #[.int .i64 (x : Int)] W fun e w' => e = .returned (.tuple #[.int .i64 (Mth.right x : Nat), .int .i64 0]) ∧ Kept W w') := HRi
  clear hx hp
  generalize Mth.left x = xl at *
  generalize Mth.right x = xr at *
  go_enter Tryz.func50, Tryz.ntmps50
  go_wp2_with fail
  (with_reducible refine (HL.out _ (Kept.refl _)).mono ?_); rintro e w1 ⟨rfl, k1⟩
  go_wp2_with fail
  (with_reducible refine (HRi.out _ k1).mono ?_); rintro e w2 ⟨rfl, k2⟩
  go_wp2
  go_ret3
  exact ⟨rfl, k1.trans k2⟩
theorem hchildren_leaf {w : World} {x : Nat} (hx : x < 511) (hp : Mth.lvl x = 0) (hT : TabsM w) :
    Calls Tryz.prog 50 #[.int .i64 (x : Int)] w fun e w' => e = .returned (.tuple #[.int .i64 0, .int .i64 0, .bool false]) ∧ Kept w w' := by
  have HL := Lib.hid (fun W (k : Kept w W) => Left_any (x : Int) W ⟨by omega, by omega⟩ (hT.kept k))
  rw [kidB_nat hx, decide_eq_false (show ¬ 0 < Mth.lvl x by omega)] at HL
  have HL : Hid (∀ W (k : Kept w W), Calls Tryz.prog 81 #[.int .i64 (x : Int)] W fun e w' => e = .returned (.tuple #[.int .i64 0, .int .i64 1]) ∧ Kept W w') := HL
  clear hx hp
  go_enter Tryz.func50, Tryz.ntmps50
  go_wp2_with fail
  (with_reducible refine (HL.out _ (Kept.refl _)).mono ?_); rintro e w1 ⟨rfl, k1⟩
  go_wp2
  go_ret3
  exact ⟨rfl, k1⟩

/-- What a leaf is in its hash: none, if it is Blank or left off. -/
def LeafQ (d : Rt.TN) (off : Bool) (es : List Nd) (t : Int) : Prop := if d.kd = 0 ∨ off = true then Is es t ⟨2, 0, [], []⟩ else Is es t ⟨3, 0, [], [d.id, d.enc, d.sig, d.hash]⟩
theorem LeafQ.isT {d : Rt.TN} {off : Bool} {es : List Nd} {t : Int} (h : LeafQ d off es t) : IsT es t := by
  unfold LeafQ at h
  split at h
  · exact h.isT
  · exact h.isT
set_option maxHeartbeats 4000000 in
set_option maxRecDepth 100000 in
theorem hleaf_ok {w0 : World} {S U : Nat → Prop} {w : World} {hb : Nat} {p tv : Value} {ts : List Rt.TN} {ds : List Nd} (h : Hs w0 S U w hb p tv ts ds) {v : Value} {d : Rt.TN} (hv : RdTn w v d) (off : Bool)
    (hd : d.kd ≠ 0 → IsT ds d.id ∧ IsT ds d.enc ∧ IsT ds d.sig ∧ IsT ds d.hash) (hl : ds.length < 100000) :
    Calls Tryz.prog 52 #[.pointer (some ⟨hb, 0, none⟩), v, .bool off] w (HMk w0 S U w hb p tv ts ds 1 (LeafQ d off)) := by
  obtain ⟨lv, rfl, hr⟩ := hv
  obtain ⟨la, lc, rfl, _, _, _⟩ := hr.len
  have bN : Blk (w.alloc (.cells #[.int .i64 d.kd, .int .i64 d.id, .int .i64 d.enc, .int .i64 d.sig, .int .i64 d.hash, .slice la d.un.length lc] 29)) w.heap.size 29 [.int .i64 d.kd, .int .i64 d.id, .int .i64 d.enc, .int .i64 d.sig, .int .i64 d.hash, .slice la d.un.length lc] := Blk.new _ _ _
  have k1 : Kept w (w.alloc (.cells #[.int .i64 d.kd, .int .i64 d.id, .int .i64 d.enc, .int .i64 d.sig, .int .i64 d.hash, .slice la d.un.length lc] 29)) := (Kept.refl w).alloc _
  have hsz : (w.alloc (.cells #[.int .i64 d.kd, .int .i64 d.id, .int .i64 d.enc, .int .i64 d.sig, .int .i64 d.hash, .slice la d.un.length lc] 29)).heap.size = w.heap.size + 1 := alloc_size _ _
  by_cases hc : d.kd = 0 ∨ off = true
  · have HN := Lib.hid (hnone_ok (h.step k1) hl)
    have HQ := Shut.mk (show ∀ es t, Is es t ⟨2, 0, [], []⟩ → LeafQ d off es t from fun es t h => by unfold LeafQ; rw [if_pos hc]; exact h)
    have n0 := bN.cell 0
    simp only [List.getElem?_cons_succ, List.getElem?_cons_zero] at n0
    have e0 : d.kd = 0 ∨ (d.kd ≠ 0 ∧ off = true) := by
      by_cases c : d.kd = 0
      · exact .inl c
      · exact .inr ⟨c, hc.resolve_left c⟩
    have hk : (d.kd == 0) = true ∨ ((d.kd == 0) = false ∧ off = true) := by
      rcases e0 with c | ⟨c, c2⟩
      · exact .inl (by rw [c]; rfl)
      · exact .inr ⟨by rw [beq_eq_false_iff_ne]; exact c, c2⟩
    clear hc e0 hd hr bN hsz
    rcases hk with c | ⟨c, rfl⟩
    all_goals
      go_enter Tryz.func52, Tryz.ntmps52
      go_wp2_with fail
      (with_reducible refine HN.out.mono ?_); rintro e w2 ⟨r, t, rfl, h2, hr, hQ, t2⟩
      go_wp2
      go_ret
      exact ⟨r, t, rfl, h2, hr, HQ.out _ _ hQ, Turn.trans (k1.turn _) t2 (fun b h => .inl h)⟩
  · have HQ := Shut.mk (show ∀ es t, Is es t ⟨3, 0, [], [d.id, d.enc, d.sig, d.hash]⟩ → LeafQ d off es t from fun es t h => by unfold LeafQ; rw [if_neg hc]; exact h)
    have hn : d.kd ≠ 0 := fun e => hc (.inl e)
    have ho : off = false := by cases off with
      | false => rfl
      | true => exact absurd (.inr rfl) hc
    obtain ⟨i1, i2, i3, i4⟩ := hd hn
    have c : (d.kd == 0) = false := by rw [beq_eq_false_iff_ne]; exact hn
    subst ho
    have k2 := k1.alloc (.cells #[.int .i64 d.id, .int .i64 d.enc, .int .i64 d.sig, .int .i64 d.hash] 3)
    have r2 : RdI ((w.alloc (.cells #[.int .i64 d.kd, .int .i64 d.id, .int .i64 d.enc, .int .i64 d.sig, .int .i64 d.hash, .slice la d.un.length lc] 29)).alloc (.cells #[.int .i64 d.id, .int .i64 d.enc, .int .i64 d.sig, .int .i64 d.hash] 3)) (.slice (some ⟨w.heap.size + 1, 0, none⟩) 4 4) [d.id, d.enc, d.sig, d.hash] := by
      have := OwnI.rd (show OwnI _ _ _ [d.id, d.enc, d.sig, d.hash] from Ownv.lit (B := (w.alloc (.cells #[.int .i64 d.kd, .int .i64 d.id, .int .i64 d.enc, .int .i64 d.sig, .int .i64 d.hash, .slice la d.un.length lc] 29)).heap.size) 3 (w := w.alloc (.cells #[.int .i64 d.kd, .int .i64 d.id, .int .i64 d.enc, .int .i64 d.sig, .int .i64 d.hash, .slice la d.un.length lc] 29)) [.int .i64 d.id, .int .i64 d.enc, .int .i64 d.sig, .int .i64 d.hash] (Nat.le_refl _) (by unfold maxLen; simp))
      rw [hsz] at this
      exact this
    have HL := Lib.hid (hlist_ok (h.step k2) r2 (by simp) (fun x hx => by
      simp only [List.mem_cons, List.not_mem_nil, or_false] at hx
      rcases hx with rfl | rfl | rfl | rfl
      · exact i1
      · exact i2
      · exact i3
      · exact i4) hl)
    have n0 := bN.cell 0
    have n1 := bN.cell 1
    have n2 := bN.cell 2
    have n3 := bN.cell 3
    have n4 := bN.cell 4
    simp only [List.getElem?_cons_succ, List.getElem?_cons_zero] at n0 n1 n2 n3 n4
    clear hc hn hd hr bN hsz r2
    go_enter Tryz.func52, Tryz.ntmps52
    go_wp2_with fail
    (with_reducible refine HL.out.mono ?_); rintro e w2 ⟨r, t, rfl, h2, hr, hQ, t2⟩
    go_wp2
    go_ret
    exact ⟨r, t, rfl, h2, hr, HQ.out _ _ hQ, Turn.trans (k2.turn _) t2 (fun b h => .inl h)⟩
end Go.Proofs.YtnmaiokhndbicaaGreatDoor
end

section
/- Package treehash: which leaves are meant, as an array of 256; among. -/
set_option linter.unusedSimpArgs false
set_option linter.unusedVariables false
namespace Go.Proofs.YtnmaiokhndbicaaGreatDoor
open Go.RowKit Go.Maps

/-- The cells of an array that says f of each leaf. -/
def offL (f : Nat → Bool) : List Value := (List.range 256).map fun i => Value.bool (f i)
theorem offL_len (f : Nat → Bool) : (offL f).length = 256 := by simp [offL]
theorem offL_at (f : Nat → Bool) {i : Nat} (h : i < 256) : (offL f)[i]? = some (.bool (f i)) := by simp [offL, h]
theorem offL_set (f : Nat → Bool) {i : Nat} (h : i < 256) : (offL f).set i (.bool true) = offL (fun j => j == i || f j) := by
  apply List.ext_getElem?
  intro j
  by_cases hj : j < 256
  · rw [offL_at _ hj, List.getElem?_set]
    by_cases c : i = j
    · subst c; simp [offL_len, h]
    · rw [if_neg c, offL_at _ hj, show (j == i) = false by rw [beq_eq_false_iff_ne]; exact fun e => c e.symm, Bool.false_or]
  · rw [List.getElem?_eq_none (by rw [List.length_set, offL_len]; omega), List.getElem?_eq_none (by rw [offL_len]; omega)]
theorem offL_none : Array.replicate 256 (Value.bool false) = (offL fun _ => false).toArray := by
  apply Array.ext'
  show List.replicate 256 _ = (List.range 256).map fun _ => Value.bool false
  rw [List.map_const', List.length_range]
/-- The array itself. -/
def offV (f : Nat → Bool) : Value := .agg (offL f).toArray
theorem offL_one (f : Nat → Bool) : (offL f).toArray.all (·.oneCell') = true := by
  simp [offL, Value.oneCell']
theorem Tryz.zero58 : (∀ w, (zeroValue 58).run Tryz.prog w = .ok (offV fun _ => false) w) ∧ (Tryz.prog.info? 58).map (·.size) = some 256 := by
  have := zero_of_info (P := Tryz.prog) (t := 58) (v := .agg (Array.replicate 256 (Value.bool false))) (n := 256) (by kernel_rfl)
  unfold offV
  rw [← offL_none]
  exact this

def AmongPost (w : World) (l : List Int) (e : Ending) (w' : World) : Prop := ∃ f : Nat → Bool, e = .returned (offV f) ∧ (∀ i, f i = true → (i : Int) ∈ l) ∧ Kept w w'
set_option maxHeartbeats 4000000 in
set_option maxRecDepth 100000 in
theorem among_any {w : World} {v : Value} {l : List Int} (hr : RdI w v l) :
    Calls Tryz.prog 24 #[v] w (AmongPost w l) := by
  obtain ⟨la, lc, rfl, l1, l2, l3⟩ := hr.len
  have l63 : ((l.length : Nat) : Int) ≤ 9223372036854775807 := by unfold maxLen at l2; omega
  obtain ⟨v58, i58⟩ := Tryz.zero58
  have I58 := Shut.mk i58
  clear i58
  unfold offV at v58
  obtain ⟨Z, HZ⟩ : ∃ Z, Shut (Z = (offL fun _ => false).toArray) := ⟨_, ⟨rfl⟩⟩
  rw [← HZ.out] at v58
  go_enter Tryz.func24, Tryz.ntmps24
  go_wp2
  go_loopw [8] (fun c wr => ∃ (k : Nat) (f : Nat → Bool), k ≤ l.length ∧ c = .int .i64 k ∧ Blk wr (w.heap.size + 1) 58 (offL f) ∧ Blk wr w.heap.size 58 (offL fun _ => false) ∧ (∀ i, f i = true → (i : Int) ∈ l) ∧ Kept w wr) (fun c _ => l.length - (intOf c).toNat)
  case atStart =>
    refine ⟨0, fun _ => false, Nat.zero_le _, rfl, ?_, ?_, (fun i h => by cases h), ((Kept.refl w).alloc _).alloc _⟩
    · rw [HZ.out]
      have := Blk.new (w.alloc (.cells (offL fun _ => false).toArray 58)) (offL fun _ => false) 58
      rw [alloc_size] at this
      exact this
    · rw [HZ.out]
      exact (Blk.new w (offL fun _ => false) 58).kept ((Kept.refl _).alloc _)
  case round =>
    obtain ⟨k, f, hk0, rfl, hf, hz, hin, hkw⟩ := hrel
    have HIN := Shut.mk hin
    clear hin
    by_cases hlt : k < l.length
    · obtain ⟨rb, ro, rc, hrv, _, _, hrb, hcl⟩ := hr.addr (by omega)
      simp only [Value.slice.injEq] at hrv
      obtain ⟨rfl, _, rfl⟩ := hrv
      have hcw := (hkw.cell (p := ⟨rb, ro + k, none⟩) hrb).trans (hcl k hlt)
      have HMem := Shut.mk (getD_memI (l := l) hlt)
      clear hcl
      have k0 : (0 : Int) ≤ (k : Int) := by omega
      have k1 : (k : Int) < (l.length : Int) := by omega
      generalize l.getD k 0 = x at hcw HMem
      by_cases c0 : 0 ≤ x
      · by_cases c1 : x < 256
        · obtain ⟨n, rfl⟩ := Int.eq_ofNat_of_zero_le c0
          have n256 : n < 256 := by omega
          have q0 := (hf.cell n).trans (offL_at f n256)
          have f0 := hf.frozen n
          have b2 := hf.set n (.bool true)
          rw [offL_set f n256] at b2
          have z2 := hz.turn (turn_setCell wr ⟨w.heap.size + 1, n, none⟩ (.bool true)) (show ¬ w.heap.size = w.heap.size + 1 by omega)
          have k2 := hkw.setCell (ad := ⟨w.heap.size + 1, n, none⟩) (Nat.le_succ _) (.bool true)
          clear hf hz
          go_wp2
          go_roundw
          case rel => exact ⟨k + 1, fun j => j == n || f j, hlt, by go_num, b2, z2, fun i h => by
            rw [Bool.or_eq_true, beq_iff_eq] at h
            rcases h with rfl | h
            · exact HMem.out
            · exact HIN.out i h, k2⟩
          case measure => simp [intOf]; omega
        · go_wp2
          go_roundw
          case rel => exact ⟨k + 1, f, hlt, by go_num, hf, hz, HIN.out, hkw⟩
          case measure => simp [intOf]; omega
      · go_wp2
        go_roundw
        case rel => exact ⟨k + 1, f, hlt, by go_num, hf, hz, HIN.out, hkw⟩
        case measure => simp [intOf]; omega
    · have k1 : ¬ (k : Int) < (l.length : Int) := by omega
      go_upto_region 8 with fail
      go_step
      refine wpList_load_row rfl 58 (.tmp 3) rfl (w.heap.size + 1) rfl _ _ _ _ hf Tryz.underlying58 rfl (by rw [I58.out]; simp [offL_len]) ?_
      refine wpList_store_row rfl 58 (.tmp 2) (.tmp 21) rfl w.heap.size _ rfl rfl _ _ hz (by rw [I58.out]; simp [offL_len]) (by simp [offL_len]) (offL_one _) ?_
      have a5 := setRow_heap wr w.heap.size _ (offL f).toArray _ _ hz
      have k5 : Kept w (wr.setRow w.heap.size (offL f).toArray) := below_setRow hkw (Nat.le_refl _) _
      generalize wr.setRow w.heap.size (offL f).toArray = w5 at a5 k5 ⊢
      go_wp2
      refine bodyPost_ret (v := offV f) ?_ rfl ?_
      · have hrs : Tryz.f24.results = #[.cell 2 58] := rfl
        have hl := run_loadVar_row (P := Tryz.prog) w5 w.heap.size _ 58 _ _ _ a5 Tryz.underlying58 rfl (by rw [I58.out]; simp [offL_len])
        simp [results, hrs, asAddr, hl]
        rfl
      · exact ⟨f, rfl, HIN.out, k5⟩
end Go.Proofs.YtnmaiokhndbicaaGreatDoor
end

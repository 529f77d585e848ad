/- Texts of one proof, put together: CrS, AtA, TermGl, AtL, TermBR, RefD, RefX, RefM, RefN, RefO, ArB, DnS, HrE, HrF, CrA, ScT, TsT, SameI, TermM, RefP, NodesAt. -/
import Derived.Test.YtdjfdobcjakmhaaDoorMg03
import Derived.Deep.RegionLaw
import Derived.BigQuiet
import Derived.Deep.QuietTactic
import Derived.IntWalk
import Derived.Lib.ItoaLen
import Derived.StillTailTactics
import Derived.Test.YtdjfdobcjakmhaaDoorMg01
section
/- Secrets: what is made of terms, and what opens; plain facts. Nothing here names a program. -/
set_option linter.unusedSimpArgs false
set_option linter.unusedVariables false
namespace Go.Proofs.YtdjfdobcjakmhaaDoor
open Go

/-- t is a term. -/
def IsT (ds : List Nd) (t : Int) : Prop := 0 ≤ t ∧ t < ds.length
instance (ds : List Nd) (t : Int) : Decidable (IsT ds t) := by unfold IsT; infer_instance
/-- t is the term of the node d. -/
structure Is (ds : List Nd) (t : Int) (d : Nd) : Prop where
  lo : 0 ≤ t
  hi : t < ds.length
  eq : ds.getD t.toNat nd0 = d
theorem Is.isT {ds : List Nd} {t : Int} {d : Nd} (h : Is ds t d) : IsT ds t := ⟨h.lo, h.hi⟩
theorem IsT.more {ds : List Nd} {t : Int} (h : IsT ds t) (r : List Nd) : IsT (ds ++ r) t := ⟨h.1, by have := h.2; rw [List.length_append]; omega⟩
theorem Is.more {ds : List Nd} {t : Int} {d : Nd} (h : Is ds t d) (r : List Nd) : Is (ds ++ r) t d :=
  ⟨h.lo, by have := h.hi; rw [List.length_append]; omega, by rw [getD_app (by have := h.hi; have := h.lo; omega)]; exact h.eq⟩
theorem Is.at {ds : List Nd} {t : Int} {d : Nd} (h : Is ds t d) : ndAt ds t = d := by unfold ndAt; rw [if_pos ⟨h.lo, h.hi⟩]; exact h.eq
theorem Is.e {ds : List Nd} {t : Int} {d : Nd} (h : Is ds t d) : ndE ds t = 0 := by unfold ndE; rw [if_pos ⟨h.lo, h.hi⟩]
theorem Is.node {ds : List Nd} {t : Int} {c d : Nd} (h : Is ds t c) (k : Is ds t d) : c = d := h.eq.symm.trans k.eq
theorem Is.same {ds : List Nd} (hg : Good ds) {t u : Int} {d : Nd} (h : Is ds t d) (k : Is ds u d) : t = u := by
  have := hg.once t.toNat u.toNat (by have := h.hi; have := h.lo; omega) (by have := k.hi; have := k.lo; omega) (h.eq.trans k.eq.symm)
  have := h.lo
  have := k.lo
  omega
theorem Is.iff {ds : List Nd} (hg : Good ds) {t u : Int} {c d : Nd} (h : Is ds t c) (k : Is ds u d) : t = u ↔ c = d :=
  ⟨fun e => by subst e; exact h.node k, fun e => by subst e; exact h.same hg k⟩
/-- What a term is made of is less. -/
theorem Is.less {ds : List Nd} (hg : Good ds) {t : Int} {d : Nd} (h : Is ds t d) : ∀ x ∈ d.l, x < t := fun x hx => by
  have := hg.lesser (i := t.toNat) (by have := h.hi; have := h.lo; omega) x (by rw [h.eq]; exact hx)
  have := h.lo
  omega

/-- Make, of a node that may be. -/
theorem mk_is {ds : List Nd} {d : Nd} (hm : May ds d) (hl : ds.length < 100000) : ∃ r t, mk ds d = (ds ++ r, t, 0) ∧ r.length ≤ 1 ∧ Is (ds ++ r) t d := by
  cases hf : find ds d with
  | some i =>
    obtain ⟨h1, h2⟩ := find_some hf
    exact ⟨[], (i : Int), by rw [mk_old hm hf]; simp, by simp, ⟨by omega, by simpa using h1, by simpa using h2⟩⟩
  | none =>
    refine ⟨[d], (ds.length : Int), mk_new hm hf (by omega), by simp, ⟨by omega, by simp; omega, ?_⟩⟩
    rw [Int.toNat_natCast, getD_snoc, if_neg (by omega), if_pos rfl]

theorem mk_ext1 (ds : List Nd) (d : Nd) : ∃ r, (mk ds d).1 = ds ++ r ∧ r.length ≤ 1 := by
  obtain ⟨r, hr⟩ := mk_ext ds d
  have := (mk_le ds d).2
  rw [hr, List.length_append] at this
  exact ⟨r, hr, by omega⟩

/-! ## nodes that may be -/
theorem may_atom (ds : List Nd) {n : Int} (h : 0 ≤ n) : May ds ⟨1, n, [], []⟩ :=
  ⟨by simp, by simp, h, .inr rfl, by simp, .inl rfl, by simp [kLeast, kTab], by simp [kMost, kTab], (fun x hx => by cases hx), (fun e => by simp at e)⟩
theorem may_text (ds : List Nd) {s : List UInt8} (h : s.length ≤ 200) : May ds ⟨2, 0, s, []⟩ :=
  ⟨by simp, by simp, by simp, .inl rfl, h, .inr rfl, by simp [kLeast, kTab], by simp [kMost, kTab], (fun x hx => by cases hx), (fun e => by simp at e)⟩
theorem may_list (ds : List Nd) {l : List Int} (hl : l.length ≤ 64) (h : ∀ x ∈ l, IsT ds x) : May ds ⟨3, 0, [], l⟩ :=
  ⟨by simp, by simp, by simp, .inl rfl, by simp, .inl rfl, by simp [kLeast, kTab], by simp [kMost, kTab]; omega, h, (fun e => by simp at e)⟩
theorem may_key {ds : List Nd} {s t c : Int} {x : List UInt8} (hs : IsT ds s) (ht : Is ds t ⟨2, 0, x, []⟩) (hc : IsT ds c) : May ds ⟨6, 0, [], [s, t, c]⟩ :=
  ⟨by simp, by simp, by simp, .inl rfl, by simp, .inl rfl, by simp [kLeast, kTab], by simp [kMost, kTab], (fun y hy => by
    simp only [List.mem_cons, List.not_mem_nil, or_false] at hy
    rcases hy with rfl | rfl | rfl
    · exact hs
    · exact ht.isT
    · exact hc), (fun _ => by
    show (ds.getD (([s, t, c] : List Int).getD 1 0).toNat nd0).op = 2
    rw [show ([s, t, c] : List Int).getD 1 0 = t from rfl, ht.eq])⟩
theorem may1 {ds : List Nd} {op a : Int} (ho : op = 4 ∨ op = 7) (ha : IsT ds a) : May ds ⟨op, 0, [], [a]⟩ := by
  have hall : ∀ x ∈ [a], 0 ≤ x ∧ x < (ds.length : Int) := fun x hx => by
    rw [List.mem_singleton.1 hx]; exact ha
  rcases ho with rfl | rfl <;>
  exact ⟨by simp, by simp, by simp, .inl rfl, by simp, .inl rfl, by simp [kLeast, kTab], by simp [kMost, kTab], hall, (fun e => by simp at e)⟩
theorem may2 {ds : List Nd} {op a b : Int} (ho : op = 5 ∨ op = 10 ∨ op = 11 ∨ op = 12) (ha : IsT ds a) (hb : IsT ds b) : May ds ⟨op, 0, [], [a, b]⟩ := by
  have hall : ∀ x ∈ [a, b], 0 ≤ x ∧ x < (ds.length : Int) := fun x hx => by
    simp only [List.mem_cons, List.not_mem_nil, or_false] at hx
    rcases hx with rfl | rfl
    · exact ha
    · exact hb
  rcases ho with rfl | rfl | rfl | rfl <;>
  exact ⟨by simp, by simp, by simp, .inl rfl, by simp, .inl rfl, by simp [kLeast, kTab], by simp [kMost, kTab], hall, (fun e => by simp at e)⟩
theorem may4 {ds : List Nd} {op a b c d : Int} (ho : op = 8 ∨ op = 9) (ha : IsT ds a) (hb : IsT ds b) (hc : IsT ds c) (hd : IsT ds d) : May ds ⟨op, 0, [], [a, b, c, d]⟩ := by
  have hall : ∀ x ∈ [a, b, c, d], 0 ≤ x ∧ x < (ds.length : Int) := fun x hx => by
    simp only [List.mem_cons, List.not_mem_nil, or_false] at hx
    rcases hx with rfl | rfl | rfl | rfl
    · exact ha
    · exact hb
    · exact hc
    · exact hd
  rcases ho with rfl | rfl <;>
  exact ⟨by simp, by simp, by simp, .inl rfl, by simp, .inl rfl, by simp [kLeast, kTab], by simp [kMost, kTab], hall, (fun e => by simp at e)⟩

/-! ## what the layer's calls answer -/
/-- The parts of a term of that kind, and whether it is one. -/
def partsB (ds : List Nd) (op t : Int) : Bool := decide (IsT ds t) && decide ((ndAt ds t).op = op)
def partsL (ds : List Nd) (op t : Int) : List Int := if partsB ds op t then ((ndAt ds t).l ++ [0, 0, 0, 0]).take 4 else [0, 0, 0, 0]
/-- All of them are terms. -/
def termsB (ds : List Nd) (l : List Int) : Bool := l.all fun t => decide (IsT ds t)

noncomputable def made (ds : List Nd) (op : Int) (l : List Int) : List Nd × Int × Int := mk ds ⟨op, 0, [], l⟩
noncomputable def expandM (ds : List Nd) (s : Int) (x : List UInt8) (c : Int) : List Nd × Int × Int :=
  let m := mk ds ⟨2, 0, x, []⟩
  if termsB ds [s, c] then if m.2.2 = 0 then made m.1 6 [s, m.2.1, c] else (m.1, 0, m.2.2) else (m.1, 0, 1)
noncomputable def deriveM (ds : List Nd) (s : Int) (x : List UInt8) : List Nd × Int × Int :=
  let m := mk ds ⟨3, 0, [], []⟩
  if termsB ds [s] then if m.2.2 = 0 then expandM m.1 s x m.2.1 else (m.1, 0, m.2.2) else ((mk m.1 ⟨2, 0, x, []⟩).1, 0, 1)
noncomputable def sealM (ds : List Nd) (pk aad plain draw : Int) : List Nd × Int × Int :=
  if partsB ds 7 pk then made ds 8 [pk, aad, plain, draw] else (ds, 0, 1)
def openM (ds : List Nd) (sk aad x : Int) : Int × Int :=
  if termsB ds [sk, aad, x] then
    if partsB ds 8 x = true ∧ partsB ds 7 ((partsL ds 8 x).getD 0 0) = true ∧ (partsL ds 7 ((partsL ds 8 x).getD 0 0)).getD 0 0 = sk ∧ (partsL ds 8 x).getD 1 0 = aad then ((partsL ds 8 x).getD 2 0, 0) else (0, 40)
  else (0, 1)
def unlockM (ds : List Nd) (key nonce aad x : Int) : Int × Int :=
  if termsB ds [key, nonce, aad, x] then
    if partsB ds 9 x = true ∧ (partsL ds 9 x).getD 0 0 = key ∧ (partsL ds 9 x).getD 1 0 = nonce ∧ (partsL ds 9 x).getD 2 0 = aad then ((partsL ds 9 x).getD 3 0, 0) else (0, 40)
  else (0, 1)
def verifyM (ds : List Nd) (pk m sig : Int) : Bool :=
  partsB ds 10 sig && partsB ds 7 pk && decide ((partsL ds 10 sig).getD 0 0 = (partsL ds 7 pk).getD 0 0) && decide ((partsL ds 10 sig).getD 1 0 = m)
def checkM (ds : List Nd) (k m tag : Int) : Bool :=
  partsB ds 11 tag && decide ((partsL ds 11 tag).getD 0 0 = k) && decide ((partsL ds 11 tag).getD 1 0 = m)
noncomputable def unblindM (ds : List Nd) (sig draw : Int) : List Nd × Int × Int :=
  if termsB ds [sig, draw] then
    if partsB ds 10 sig = true ∧ partsB ds 12 ((partsL ds 10 sig).getD 1 0) = true ∧ (partsL ds 12 ((partsL ds 10 sig).getD 1 0)).getD 1 0 = draw then
      made ds 10 [(partsL ds 10 sig).getD 0 0, (partsL ds 12 ((partsL ds 10 sig).getD 1 0)).getD 0 0] else (ds, 0, 40)
  else (ds, 0, 1)

/-! ## no more than three terms at a time -/
def Ext (ds : List Nd) (n : Nat) (es : List Nd) : Prop := ∃ r, es = ds ++ r ∧ r.length ≤ n
theorem Ext.refl (ds : List Nd) (n : Nat) : Ext ds n ds := ⟨[], by simp, by simp⟩
theorem Ext.trans {a b c : List Nd} {m n k : Nat} (h : Ext a m b) (h2 : Ext b n c) (hk : m + n ≤ k) : Ext a k c := by
  obtain ⟨r, rfl, hr⟩ := h
  obtain ⟨s, rfl, hs⟩ := h2
  exact ⟨r ++ s, by simp, by rw [List.length_append]; omega⟩
theorem Ext.mono {a b : List Nd} {m n : Nat} (h : Ext a m b) (hk : m ≤ n) : Ext a n b := by
  obtain ⟨r, rfl, hr⟩ := h
  exact ⟨r, rfl, by omega⟩
theorem ext_mk (ds : List Nd) (d : Nd) : Ext ds 1 (mk ds d).1 := mk_ext1 ds d
theorem ext_expand (ds : List Nd) (s : Int) (x : List UInt8) (c : Int) : Ext ds 2 (expandM ds s x c).1 := by
  unfold expandM
  simp only
  split
  · split
    · exact (ext_mk ds _).trans (ext_mk _ _) (by omega)
    · exact (ext_mk ds _).mono (by omega)
  · exact (ext_mk ds _).mono (by omega)
theorem ext_derive (ds : List Nd) (s : Int) (x : List UInt8) : Ext ds 3 (deriveM ds s x).1 := by
  unfold deriveM
  simp only
  split
  · split
    · exact (ext_mk ds _).trans (ext_expand _ _ _ _) (by omega)
    · exact (ext_mk ds _).mono (by omega)
  · exact (ext_mk ds _).trans (ext_mk _ _) (by omega)
theorem ext_seal (ds : List Nd) (pk aad plain draw : Int) : Ext ds 1 (sealM ds pk aad plain draw).1 := by
  unfold sealM
  split
  · exact ext_mk ds _
  · exact Ext.refl _ _
theorem ext_unblind (ds : List Nd) (sig draw : Int) : Ext ds 1 (unblindM ds sig draw).1 := by
  unfold unblindM
  split
  · split
    · exact ext_mk ds _
    · exact Ext.refl _ _
  · exact Ext.refl _ _

/-! ## what they answer about terms that are known -/
theorem parts_is {ds : List Nd} {t : Int} {d : Nd} (h : Is ds t d) (op : Int) : partsB ds op t = decide (d.op = op) := by
  unfold partsB
  rw [h.at, decide_eq_true h.isT, Bool.true_and]
theorem partsL_is {ds : List Nd} {t : Int} {d : Nd} (h : Is ds t d) : partsL ds d.op t = (d.l ++ [0, 0, 0, 0]).take 4 := by
  unfold partsL
  rw [parts_is h, if_pos (by simp), h.at]
theorem terms_of {ds : List Nd} {l : List Int} (h : ∀ x ∈ l, IsT ds x) : termsB ds l = true := by
  unfold termsB
  rw [List.all_eq_true]
  exact fun x hx => decide_eq_true (h x hx)
theorem terms2 {ds : List Nd} {a b : Int} (ha : IsT ds a) (hb : IsT ds b) : termsB ds [a, b] = true :=
  terms_of fun x hx => by
    simp only [List.mem_cons, List.not_mem_nil, or_false] at hx
    rcases hx with rfl | rfl <;> assumption
theorem terms3 {ds : List Nd} {a b c : Int} (ha : IsT ds a) (hb : IsT ds b) (hc : IsT ds c) : termsB ds [a, b, c] = true :=
  terms_of fun x hx => by
    simp only [List.mem_cons, List.not_mem_nil, or_false] at hx
    rcases hx with rfl | rfl | rfl <;> assumption
theorem terms4 {ds : List Nd} {a b c d : Int} (ha : IsT ds a) (hb : IsT ds b) (hc : IsT ds c) (hd : IsT ds d) : termsB ds [a, b, c, d] = true :=
  terms_of fun x hx => by
    simp only [List.mem_cons, List.not_mem_nil, or_false] at hx
    rcases hx with rfl | rfl | rfl | rfl <;> assumption

theorem open_is {ds : List Nd} {x pk sk aad plain draw a b : Int} (hx : Is ds x ⟨8, 0, [], [pk, aad, plain, draw]⟩) (hp : Is ds pk ⟨7, 0, [], [sk]⟩) (ha : IsT ds a) (hb : IsT ds b) :
    openM ds a b x = if a = sk ∧ b = aad then (plain, 0) else (0, 40) := by
  have e1 := partsL_is hx
  have e2 := partsL_is hp
  simp only at e1 e2
  unfold openM
  rw [terms3 ha hb hx.isT, if_pos rfl, parts_is hx, e1]
  simp only [List.cons_append, List.nil_append, List.take_succ_cons, List.take_zero, List.getD_cons_zero, List.getD_cons_succ]
  rw [parts_is hp, e2]
  simp only [List.cons_append, List.nil_append, List.take_succ_cons, List.take_zero, List.getD_cons_zero, List.getD_cons_succ, decide_true, true_and]
  by_cases h : a = sk ∧ b = aad
  · rw [if_pos h, if_pos ⟨h.1.symm, h.2.symm⟩]
  · rw [if_neg h, if_neg (fun e => h ⟨e.1.symm, e.2.symm⟩)]
theorem unlock_is {ds : List Nd} {x key nonce aad plain a b c : Int} (hx : Is ds x ⟨9, 0, [], [key, nonce, aad, plain]⟩) (ha : IsT ds a) (hb : IsT ds b) (hc : IsT ds c) :
    unlockM ds a b c x = if a = key ∧ b = nonce ∧ c = aad then (plain, 0) else (0, 40) := by
  have e1 := partsL_is hx
  simp only at e1
  unfold unlockM
  rw [terms4 ha hb hc hx.isT, if_pos rfl, parts_is hx, e1]
  simp only [List.cons_append, List.nil_append, List.take_succ_cons, List.take_zero, List.getD_cons_zero, List.getD_cons_succ, decide_true, true_and]
  by_cases h : a = key ∧ b = nonce ∧ c = aad
  · rw [if_pos h, if_pos ⟨h.1.symm, h.2.1.symm, h.2.2.symm⟩]
  · rw [if_neg h, if_neg (fun e => h ⟨e.1.symm, e.2.1.symm, e.2.2.symm⟩)]
theorem verify_is {ds : List Nd} {x pk sk s m n : Int} (hx : Is ds x ⟨10, 0, [], [s, m]⟩) (hp : Is ds pk ⟨7, 0, [], [sk]⟩) : verifyM ds pk n x = decide (s = sk ∧ m = n) := by
  have e1 := partsL_is hx
  have e2 := partsL_is hp
  simp only at e1 e2
  unfold verifyM
  rw [parts_is hx, parts_is hp, e1, e2]
  simp [Bool.decide_and]
theorem check_is {ds : List Nd} {x k m a n : Int} (hx : Is ds x ⟨11, 0, [], [k, m]⟩) : checkM ds a n x = decide (k = a ∧ m = n) := by
  have e1 := partsL_is hx
  simp only at e1
  unfold checkM
  rw [parts_is hx, e1]
  simp [Bool.decide_and]
theorem unblind_is {ds : List Nd} {x b s m draw d : Int} (hx : Is ds x ⟨10, 0, [], [s, b]⟩) (hb : Is ds b ⟨12, 0, [], [m, draw]⟩) (hd : IsT ds d) :
    unblindM ds x d = if d = draw then made ds 10 [s, m] else (ds, 0, 40) := by
  have e1 := partsL_is hx
  have e2 := partsL_is hb
  simp only at e1 e2
  unfold unblindM
  rw [terms2 hx.isT hd, if_pos rfl, parts_is hx, e1]
  simp only [List.cons_append, List.nil_append, List.take_succ_cons, List.take_zero, List.getD_cons_zero, List.getD_cons_succ]
  rw [parts_is hb, e2]
  simp only [List.cons_append, List.nil_append, List.take_succ_cons, List.take_zero, List.getD_cons_zero, List.getD_cons_succ, decide_true, true_and]
  by_cases h : d = draw
  · rw [if_pos h, if_pos h.symm]
  · rw [if_neg h, if_neg (fun e => h e.symm)]
theorem seal_is {ds : List Nd} {pk sk aad plain draw : Int} (hp : Is ds pk ⟨7, 0, [], [sk]⟩) : sealM ds pk aad plain draw = made ds 8 [pk, aad, plain, draw] := by
  unfold sealM
  rw [parts_is hp, if_pos (by simp)]
/-- Expand, of terms, and a label that is short. -/
theorem expand_is {ds : List Nd} {s c : Int} {x : List UInt8} (hs : IsT ds s) (hc : IsT ds c) (hx : x.length ≤ 200) (hl : ds.length < 99998) :
    ∃ r y t, expandM ds s x c = (ds ++ r, y, 0) ∧ r.length ≤ 2 ∧ Is (ds ++ r) t ⟨2, 0, x, []⟩ ∧ Is (ds ++ r) y ⟨6, 0, [], [s, t, c]⟩ := by
  obtain ⟨r1, t, h1, h2, h3⟩ := mk_is (may_text ds hx) (by omega)
  obtain ⟨r2, y, h4, h5, h6⟩ := mk_is (may_key (hs.more r1) h3 (hc.more r1)) (by rw [List.length_append]; omega)
  refine ⟨r1 ++ r2, y, t, ?_, by rw [List.length_append]; omega, ?_, ?_⟩
  · unfold expandM made
    simp only [h1, terms2 hs hc, if_true, h4, List.append_assoc]
  · rw [← List.append_assoc]; exact h3.more r2
  · rw [← List.append_assoc]; exact h6
end Go.Proofs.YtdjfdobcjakmhaaDoor
end

section
/- An arena within a call: what stays; Make, List, Text, Node, Len, New of package term, said so. -/
set_option linter.unusedSimpArgs false
set_option linter.unusedVariables false
namespace Go.Proofs.YtdjfdobcjakmhaaDoor
open Go.RowKit Go.Maps

/-- Only blocks that are not of S have turned. -/
def Keep (S : Nat → Prop) (w w' : World) : Prop := Turn (fun b => ¬ S b) w w'
theorem Keep.refl (S : Nat → Prop) (w : World) : Keep S w w := Turn.refl _ _
theorem Keep.trans {S : Nat → Prop} {a b c : World} (h : Keep S a b) (k : Keep S b c) : Keep S a c := Turn.trans h k (fun x hx => .inl hx)
theorem Kept.keep {w w' : World} (h : Kept w w') (S : Nat → Prop) : Keep S w w' := h.turn _
theorem Keep.kept {S : Nat → Prop} {a b c : World} (h : Keep S a b) (k : Kept b c) : Keep S a c := Turn.kept h k
theorem Keep.size {S : Nat → Prop} {a b : World} (h : Keep S a b) : a.heap.size ≤ b.heap.size := Turn.size h
theorem Keep.blk {S : Nat → Prop} {a b : World} (h : Keep S a b) {g : Nat} {e : TypeId} {xs : List Value} (k : Blk a g e xs) (hs : S g) : Blk b g e xs := Blk.turn k h (fun c => c hs)
theorem Keep.cell {S : Nat → Prop} {a b : World} (h : Keep S a b) {p : Addr} {v : Value} (k : a.cell? p = some v) (hs : S p.block) : b.cell? p = some v :=
  (World.cell?_of_block (Turn.block h p.block (World.block_lt_of_cell? _ _ k) (fun c => c hs))).trans k
theorem Keep.owni {S : Nat → Prop} {a b : World} (h : Keep S a b) {B : Nat} {v : Value} {zs : List Int} (k : OwnI B a v zs) (hs : ∀ b, Blks v b → S b) : OwnI B b v zs := Ownv.turn k h (fun b hb c => c (hs b hb))
theorem Keep.of {S : Nat → Prop} {w0 w w' : World} (h0 : Kept w0 w) (h : Keep S w w') (hb : ∀ b, b < w0.heap.size → S b) : Kept w0 w' :=
  Turn.keptOf h0 h (fun b hn => by
    by_cases c : b < w0.heap.size
    · exact absurd (hb b c) hn
    · omega)

/-- Since w0 nothing of it has turned; p is an arena with the terms ds, apart from S; w0 has the tables. -/
structure At (w0 : World) (S : Nat → Prop) (w : World) (p : Value) (ds : List Nd) : Prop where
  ar : ∃ F, Ar F w p ds ∧ ∀ b, F b → ¬ S b
  old : ∀ b, S b → b < w.heap.size
  base : ∀ b, b < w0.heap.size → S b
  kept : Kept w0 w
  tab : Tabs w0

theorem At.tabs {w0 : World} {S : Nat → Prop} {w : World} {p : Value} {ds : List Nd} (h : At w0 S w p ds) : Tabs w := h.tab.kept h.kept
theorem At.good {w0 : World} {S : Nat → Prop} {w : World} {p : Value} {ds : List Nd} (h : At w0 S w p ds) : Good ds := by
  obtain ⟨F, h1, _⟩ := h.ar
  exact h1.good
theorem At.few {w0 : World} {S : Nat → Prop} {w : World} {p : Value} {ds : List Nd} (h : At w0 S w p ds) : ds.length ≤ 100000 := by
  obtain ⟨F, h1, _⟩ := h.ar
  exact h1.few
theorem At.step {w0 : World} {S : Nat → Prop} {w w' : World} {p : Value} {ds : List Nd} (h : At w0 S w p ds) (k : Kept w w') : At w0 S w' p ds := by
  obtain ⟨F, h1, h2⟩ := h.ar
  exact ⟨⟨F, ArG.kept h1 k, h2⟩, fun b hb => Nat.lt_of_lt_of_le (h.old b hb) k.size, h.base, h.kept.trans k, h.tab⟩
/-- Other blocks that are to stay: old ones of S, or ones that the arena cannot have. -/
theorem At.more {w0 : World} {S T : Nat → Prop} {w w' : World} {p : Value} {ds : List Nd} (h : At w0 S w p ds) (k : Kept w w') (hT : ∀ b, T b → (S b ∨ w.heap.size ≤ b) ∧ b < w'.heap.size) (hb : ∀ b, b < w0.heap.size → T b) : At w0 T w' p ds := by
  obtain ⟨F, h1, h2⟩ := h.ar
  refine ⟨⟨F, ArG.kept h1 k, fun b hF hTb => ?_⟩, fun b hTb => (hT b hTb).2, hb, h.kept.trans k, h.tab⟩
  rcases (hT b hTb).1 with c | c
  · exact h2 b hF c
  · exact absurd (h1.lt b hF) (by omega)
/-- What turns blocks that are to stay, and no others that were there. -/
theorem At.turn {w0 : World} {S G : Nat → Prop} {w w' : World} {p : Value} {ds : List Nd} (h : At w0 S w p ds) (k : Turn G w w') (hG : ∀ b, G b → S b ∧ w0.heap.size ≤ b) : At w0 S w' p ds := by
  obtain ⟨F, h1, h2⟩ := h.ar
  exact ⟨⟨F, ArG.turn h1 k (fun b hF hg => h2 b hF (hG b hg).1), h2⟩, fun b hb => Nat.lt_of_lt_of_le (h.old b hb) k.size, h.base, Turn.keptOf h.kept k (fun b hb => (hG b hb).2), h.tab⟩

/-- What a call answers that makes a term. -/
def MkPost (w0 : World) (S : Nat → Prop) (w : World) (p : Value) (r : List Nd × Int × Int) (e : Ending) (w' : World) : Prop :=
  e = .returned (.tuple #[.int .i64 r.2.1, .int .i64 r.2.2]) ∧ At w0 S w' p r.1 ∧ Keep S w w'
theorem MkPost.after {w0 : World} {S : Nat → Prop} {w w1 : World} {p : Value} {r : List Nd × Int × Int} {e : Ending} {w' : World} (h : MkPost w0 S w1 p r e w') (k : Kept w w1) : MkPost w0 S w p r e w' :=
  ⟨h.1, h.2.1, (k.keep S).trans h.2.2⟩

theorem post_of {w0 : World} {S F F' : Nat → Prop} {w w' : World} {p : Value} {ds es : List Nd} (h : At w0 S w p ds) (hF : ∀ b, F b → ¬ S b) (r1 : Ar F' w' p es) (r2 : Turn F w w') (r3 : ∀ b, F' b → F b ∨ w.heap.size ≤ b) :
    At w0 S w' p es ∧ Keep S w w' := by
  have hk : Keep S w w' := r2.mono fun b hb => hF b hb
  refine ⟨⟨⟨F', r1, fun b hb hs => ?_⟩, fun b hb => Nat.lt_of_lt_of_le (h.old b hb) r2.size, h.base, hk.of h.kept h.base, h.tab⟩, hk⟩
  rcases r3 b hb with c | c
  · exact hF b c hs
  · exact absurd (h.old b hs) (by omega)

theorem makeA {w0 : World} {S : Nat → Prop} {w : World} {p : Value} {ds : List Nd} (h : At w0 S w p ds) {v : Value} {d : Nd} (hd : RdN w v d) (hok : NdOk d) :
    Calls Tryd.prog 36 #[p, v] w (MkPost w0 S w p (mk ds d)) := by
  obtain ⟨F, h1, h2⟩ := h.ar
  refine (make_any h1 h.tabs hd hok).mono ?_
  rintro e w' ⟨F', rfl, r1, r2, r3⟩
  exact ⟨rfl, post_of h h2 r1 r2 r3⟩
theorem nodeA {w0 : World} {S : Nat → Prop} {w : World} {p : Value} {ds : List Nd} (h : At w0 S w p ds) (t : Int) :
    Calls Tryd.prog 49 #[p, .int .i64 t] w fun e w' => ∃ v, e = .returned (.tuple #[v, .int .i64 (ndE ds t)]) ∧ RdN w' v (ndAt ds t) ∧ Kept w w' := by
  obtain ⟨F, h1, h2⟩ := h.ar
  exact node_any h1 t
theorem lenA {w0 : World} {S : Nat → Prop} {w : World} {p : Value} {ds : List Nd} (h : At w0 S w p ds) :
    Calls Tryd.prog 29 #[p] w fun e w' => e = .returned (.int .i64 ds.length) ∧ w = w' := by
  obtain ⟨F, h1, h2⟩ := h.ar
  exact arg_len h1
theorem newA {w0 w : World} (k : Kept w0 w) (ht : Tabs w0) {S : Nat → Prop} (hS : ∀ b, S b → b < w.heap.size) (hb : ∀ b, b < w0.heap.size → S b) :
    Calls Tryd.prog 34 #[] w fun e w' => e = .returned (.pointer (some ⟨w.heap.size + 1, 0, none⟩)) ∧ At w0 S w' (.pointer (some ⟨w.heap.size + 1, 0, none⟩)) [] ∧ Kept w w' := by
  refine (new_any w).mono ?_
  rintro e w' ⟨F, p, rfl, h1, h2, h3, rfl⟩
  exact ⟨rfl, ⟨⟨F, h1, fun b hb hs => absurd (hS b hs) (by have := h3 b hb; omega)⟩, fun b hs => Nat.lt_of_lt_of_le (hS b hs) h2.size, hb, k.trans h2, ht⟩, h2⟩

theorem ndE_eq {ds : List Nd} {t : Int} : ndE ds t = if IsT ds t then 0 else 4 := rfl
theorem ndAt_i64 {ds : List Nd} {t : Int} : True := trivial

end Go.Proofs.YtdjfdobcjakmhaaDoor
end

section
/- Walks of package term: List, Text. -/
set_option linter.unusedSimpArgs false
set_option linter.unusedVariables false
namespace Go.Proofs.YtdjfdobcjakmhaaDoor
open Go.RowKit Go.Maps

theorem list_any {F : Nat → Prop} {w : World} {p : Value} {ds : List Nd} (h : Ar F w p ds) (ht : Tabs w) {v : Value} {l : List Int} (hd : RdI w v l) (hok : ∀ x ∈ l, I64 x) :
    Calls Tryd.prog 24 #[p, v] w fun e w' => ∃ F' : Nat → Prop, e = .returned (.tuple #[.int .i64 (mk ds ⟨3, 0, [], l⟩).2.1, .int .i64 (mk ds ⟨3, 0, [], l⟩).2.2]) ∧ Ar F' w' p (mk ds ⟨3, 0, [], l⟩).1 ∧ Turn F w w' ∧ (∀ b, F' b → F b ∨ w.heap.size ≤ b) := by
  obtain ⟨la, lc, rfl, l1, l2, l3⟩ := hd.len
  have hmk := make_any h ht (v := .agg #[.int .i64 3, .int .i64 0, .string ⟨#[]⟩, .slice la l.length lc]) (d := ⟨3, 0, [], l⟩) ⟨_, rfl, hd⟩ ⟨i64_lit (by simp), i64_lit (by simp), by simp, hok⟩
  generalize mk ds ⟨3, 0, [], l⟩ = m at hmk ⊢
  go_enter Tryd.func24, Tryd.ntmps24
  go_wp2_with fail
  refine hmk.mono ?_
  rintro e w' ⟨F', rfl, r1, r2, r3⟩
  go_wp2
  go_ret2
  exact ⟨F', rfl, r1, r2, r3⟩
theorem mtext_any {F : Nat → Prop} {w : World} {p : Value} {ds : List Nd} (h : Ar F w p ds) (ht : Tabs w) (s : List UInt8) (hl : s.length ≤ maxLen) :
    Calls Tryd.prog 23 #[p, .string (strB s)] w fun e w' => ∃ F' : Nat → Prop, e = .returned (.tuple #[.int .i64 (mk ds ⟨2, 0, s, []⟩).2.1, .int .i64 (mk ds ⟨2, 0, s, []⟩).2.2]) ∧ Ar F' w' p (mk ds ⟨2, 0, s, []⟩).1 ∧ Turn F w w' ∧ (∀ b, F' b → F b ∨ w.heap.size ≤ b) := by
  have hmk := make_any h ht (v := .agg #[.int .i64 2, .int .i64 0, .string (strB s), .slice none 0 0]) (d := ⟨2, 0, s, []⟩) ⟨_, rfl, RdI.nil _⟩ ⟨i64_lit (by simp), i64_lit (by simp), hl, fun x hx => by cases hx⟩
  clear hl
  generalize mk ds ⟨2, 0, s, []⟩ = m at hmk ⊢
  go_enter Tryd.func23, Tryd.ntmps23
  go_wp2_with fail
  refine hmk.mono ?_
  rintro e w' ⟨F', rfl, r1, r2, r3⟩
  go_wp2
  go_ret2
  exact ⟨F', rfl, r1, r2, r3⟩
end Go.Proofs.YtdjfdobcjakmhaaDoor
end

section
/- List, Text of package term, at an arena that is kept. -/
set_option linter.unusedSimpArgs false
set_option linter.unusedVariables false
namespace Go.Proofs.YtdjfdobcjakmhaaDoor
open Go.RowKit Go.Maps

theorem listA {w0 : World} {S : Nat → Prop} {w : World} {p : Value} {ds : List Nd} (h : At w0 S w p ds) {v : Value} {l : List Int} (hd : RdI w v l) (hok : ∀ x ∈ l, I64 x) :
    Calls Tryd.prog 24 #[p, v] w (MkPost w0 S w p (mk ds ⟨3, 0, [], l⟩)) := by
  obtain ⟨F, h1, h2⟩ := h.ar
  refine (list_any h1 h.tabs hd hok).mono ?_
  rintro e w' ⟨F', rfl, r1, r2, r3⟩
  exact ⟨rfl, post_of h h2 r1 r2 r3⟩
theorem textA {w0 : World} {S : Nat → Prop} {w : World} {p : Value} {ds : List Nd} (h : At w0 S w p ds) (s : List UInt8) (hl : s.length ≤ maxLen) :
    Calls Tryd.prog 23 #[p, .string (strB s)] w (MkPost w0 S w p (mk ds ⟨2, 0, s, []⟩)) := by
  obtain ⟨F, h1, h2⟩ := h.ar
  refine (mtext_any h1 h.tabs s hl).mono ?_
  rintro e w' ⟨F', rfl, r1, r2, r3⟩
  exact ⟨rfl, post_of h h2 r1 r2 r3⟩
theorem IsT.i64' {ds : List Nd} {t : Int} (h : IsT ds t) (hf : ds.length ≤ 100000) : I64 t := ⟨by have := h.1; omega, by have := h.2; omega⟩
theorem RdI.lit (w : World) (zs : List Int) (hl : zs.length ≤ 1000000) : RdI (w.alloc (.cells (zs.map (Value.int .i64)).toArray 3)) (.slice (some ⟨w.heap.size, 0, none⟩) zs.length zs.length) zs := by
  have := (Ownv.lit (B := w.heap.size) 3 (w := w) (zs.map (Value.int .i64)) (Nat.le_refl _) (by unfold maxLen; simp; omega)).rdv
  simp only [List.length_map] at this
  exact this
theorem RdI.sl1 (w : World) (a : Int) : RdI (w.alloc (.cells #[.int .i64 a] 3)) (.slice (some ⟨w.heap.size, 0, none⟩) 1 1) [a] := RdI.lit w [a] (by simp)
theorem RdI.sl2 (w : World) (a b : Int) : RdI (w.alloc (.cells #[.int .i64 a, .int .i64 b] 3)) (.slice (some ⟨w.heap.size, 0, none⟩) 2 2) [a, b] := RdI.lit w [a, b] (by simp)
theorem RdI.sl3 (w : World) (a b c : Int) : RdI (w.alloc (.cells #[.int .i64 a, .int .i64 b, .int .i64 c] 3)) (.slice (some ⟨w.heap.size, 0, none⟩) 3 3) [a, b, c] := RdI.lit w [a, b, c] (by simp)
theorem RdI.sl4 (w : World) (a b c d : Int) : RdI (w.alloc (.cells #[.int .i64 a, .int .i64 b, .int .i64 c, .int .i64 d] 3)) (.slice (some ⟨w.heap.size, 0, none⟩) 4 4) [a, b, c, d] := RdI.lit w [a, b, c, d] (by simp)
end Go.Proofs.YtdjfdobcjakmhaaDoor
end

section
/- The document's arena: what it is, New, Len. -/
set_option linter.unusedSimpArgs false
set_option linter.unusedVariables false
namespace Go.Proofs.YtdjfdobcjakmhaaDoor
open Go.RowKit Go.Maps

def ArR (F : Nat → Prop) (w : World) (p : Value) (ds : List Nd) : Prop := ArG 78 keyR F w p ds

theorem newR_any (w : World) : Calls Tryd.prog 35 #[] w fun e w' => ∃ (F : Nat → Prop) (p : Value), e = .returned p ∧ ArR F w' p [] ∧ Kept w w' ∧ (∀ b, F b → w.heap.size ≤ b) ∧ p = .pointer (some ⟨w.heap.size + 1, 0, none⟩) := by
  have hmm := @run_makeMap Tryd.prog
  go_enter Tryd.func35, Tryd.ntmps35
  go_wp2
  go_ret
  exact ⟨fun b => b = w.heap.size ∨ b = w.heap.size + 1, .pointer (some ⟨w.heap.size + 1, 0, none⟩), rfl, arg_new w, ((Kept.refl w).alloc _).alloc _, fun b hb => (by omega), rfl⟩
theorem lenR {F : Nat → Prop} {w : World} {p : Value} {ds : List Nd} (h : ArR F w p ds) :
    Calls Tryd.prog 26 #[p] w fun e w' => e = .returned (.int .i64 ds.length) ∧ w = w' := by
  obtain ⟨pb, mb, nv, rfl, c0, c1, hr⟩ := ArG.nodes h
  obtain ⟨a, cap, rfl, _, _, _⟩ := hr.len
  go_enter Tryd.func26, Tryd.ntmps26
  go_wp2
  go_ret
  exact ⟨rfl, rfl⟩
end Go.Proofs.YtdjfdobcjakmhaaDoor
end

section
/- The document's terms: Digits. -/
set_option linter.unusedSimpArgs false
set_option linter.unusedVariables false
namespace Go.Proofs.YtdjfdobcjakmhaaDoor
open Go.RowKit Go.Maps

def digs : ByteArray := ⟨#[48, 49, 50, 51, 52, 53, 54, 55, 56, 57]⟩
theorem strB_app (a b : List UInt8) : strB a ++ strB b = strB (a ++ b) := by
  unfold strB
  apply ByteArray.ext
  simp
theorem digs_at (k : Nat) (h : k < 10) : digs.extract k (k + 1) = strB [UInt8.ofNat (48 + k)] := by
  have : k = 0 ∨ k = 1 ∨ k = 2 ∨ k = 3 ∨ k = 4 ∨ k = 5 ∨ k = 6 ∨ k = 7 ∨ k = 8 ∨ k = 9 := by omega
  rcases this with rfl | rfl | rfl | rfl | rfl | rfl | rfl | rfl | rfl | rfl <;> rfl

theorem dd_len (n : Nat) (h : n ≤ 9223372036854775807) : (Lib.decDigits n).length ≤ 21 := by
  have := Lib.itoa_length_le (n : Int) (by omega) (by omega)
  rwa [itoa_of_nonneg (by omega), Int.toNat_natCast] at this

set_option maxHeartbeats 1000000 in
set_option maxRecDepth 20000 in
theorem digits_any (n : Nat) (hn : (n : Int) ≤ 9223372036854775807) (w : World) :
    Calls Tryd.prog 47 #[.int .i64 n] w fun e w' => e = .returned (.string (strB (Lib.decDigits n))) ∧ ∃ m, w' = w.drewN m := by
  induction n using Nat.strongRecOn generalizing w with
  | ind n ih =>
    by_cases h : n < 10
    · have HE := Shut.mk (Lib.decDigits_one h)
      have HD := Shut.mk (digs_at n h)
      have h1 : (n : Int) < 10 := by omega
      have h0 : (0 : Int) ≤ (n : Int) := by omega
      go_enter Tryd.func47, Tryd.ntmps47
      go_wp2
      go_ret
      exact ⟨by rw [HE.out, ← HD.out]; rfl, 0, rfl⟩
    · have hq : (((n / 10 : Nat) : Int)) ≤ 9223372036854775807 := by omega
      have e0 : (((n / 10 : Nat)) : Int) = (n : Int) / 10 := by omega
      have hih := fun W => ih (n / 10) (by omega) hq W
      rw [e0] at hih
      clear e0
      have hs := dd_step h
      have hlen := dd_len (n / 10) (by omega)
      have HS := Shut.mk hs
      have HD := Shut.mk (digs_at (n % 10) (by omega))
      have h0 : ¬ (n : Int) < 0 := by omega
      have h1 : ¬ (n : Int) < 10 := by omega
      have hsz : ¬ 9223372036854775807 < (strB (Lib.decDigits (n / 10))).size + (min (n % 10 + 1) 10 - n % 10) := by rw [strB_size]; omega
      clear hs ih
      go_enter Tryd.func47, Tryd.ntmps47
      go_wp2
      go_quiet ((go_at_call 47; exact Calls.quiet_of (hih _)))
      go_wp2
      go_ret
      refine ⟨?_, _, rfl⟩
      show Ending.returned (Value.string (strB (Lib.decDigits (n / 10)) ++ digs.extract (n % 10) (n % 10 + 1))) = _
      rw [HS.out, HD.out, strB_app]

theorem itoaR (n : Int) (h0 : 0 ≤ n) (hn : n ≤ 9223372036854775807) (w : World) :
    Calls Tryd.prog 47 #[.int .i64 n] w fun e w' => e = .returned (.string (strB (Lib.itoa n))) ∧ ∃ m, w' = w.drewN m := by
  obtain ⟨k, rfl⟩ := Int.eq_ofNat_of_zero_le h0
  rw [itoa_of_nonneg h0, Int.toNat_natCast]
  exact digits_any k hn w
end Go.Proofs.YtdjfdobcjakmhaaDoor
end

section
/- The document's terms: text. -/
set_option linter.unusedSimpArgs false
set_option linter.unusedVariables false
namespace Go.Proofs.YtdjfdobcjakmhaaDoor
open Go.RowKit Go.Maps

theorem partsKeyR_len (l : List Int) (h : ∀ x ∈ l, I64 x) : (partsKeyR l).length ≤ 22 * l.length := by
  induction l with
  | nil => simp [partsKeyR]
  | cons x l ih =>
    rw [partsKeyR_cons]
    have := ih fun y hy => h y (List.mem_cons_of_mem _ hy)
    have := itoa_len (h x List.mem_cons_self)
    simp
    omega
theorem drewKept (w : World) (n : Nat) : Kept w (w.drewN n) := (Kept.refl w).drewN n

set_option maxRecDepth 100000 in
set_option maxHeartbeats 4000000 in
theorem textR_any {w : World} {v : Value} {d : Nd} (hd : RdN w v d) (hop : 0 ≤ d.op) (hn : 0 ≤ d.n) (hok : NdOk d) (hs : d.s.length ≤ 200) (hl : d.l.length ≤ 64) (hpos : ∀ x ∈ d.l, 0 ≤ x) :
    Calls Tryd.prog 65 #[v] w fun e w' => e = .returned (.string (strB (keyR d))) ∧ Kept w w' := by
  obtain ⟨lv, rfl, hr⟩ := hd
  obtain ⟨op, n, s, l⟩ := d
  simp only at hr hop hs hl hn hpos ⊢
  have ho64 := hok.op
  have hn64 := hok.n
  have hll := hok.l
  simp only at ho64 hn64 hll
  obtain ⟨la, lc, rfl, l1, l2, l3⟩ := hr.len
  have h1 := fun W => itoaR op hop ho64.2 W
  have h2 := fun W => itoaR n hn hn64.2 W
  have h3 := fun W => itoaR (s.length : Int) (by omega) (by omega) W
  have g1 := itoa_len ho64
  have g2 := itoa_len hn64
  have g3 := itoa_len (i := (s.length : Int)) ⟨by omega, by omega⟩
  have e1 := strB_size (Lib.itoa op)
  have e2 := strB_size (Lib.itoa n)
  have e3 := strB_size (Lib.itoa (s.length : Int))
  have e4 := strB_size s
  have HK : Shut (strB (keyR ⟨op, n, s, []⟩) = strB (Lib.itoa op) ++ ⟨#[32]⟩ ++ strB (Lib.itoa n) ++ ⟨#[32]⟩ ++ strB (Lib.itoa (s.length : Int)) ++ ⟨#[32]⟩ ++ strB s) := ⟨by
    have e : (⟨#[32]⟩ : ByteArray) = strB [32] := rfl
    rw [e]
    simp only [strB_app]
    congr 1
    simp [keyR, partsKeyR]⟩
  generalize strB (Lib.itoa op) = A at *
  generalize strB (Lib.itoa n) = B at *
  generalize strB (Lib.itoa (s.length : Int)) = C at *
  generalize hS : strB s = S at *
  have HS := Shut.mk hS
  clear hS
  have f1 : A.size ≤ 21 := by omega
  have f2 : B.size ≤ 21 := by omega
  have f3 : C.size ≤ 21 := by omega
  have f4 : S.size ≤ 200 := by omega
  have F4 := Shut.mk e4
  clear e1 e2 e3 g1 g2 g3
  go_enter Tryd.func65, Tryd.ntmps65
  go_wp2
  refine wp_region_quiet_lit (by kernel_rfl) (by kernel_rfl) ?_
  repeat (go_big_quiet_step (fail))
  go_big_quiet_step ((go_at_call 47; exact Calls.quiet_of (h1 _)))
  repeat (go_big_quiet_step (fail))
  go_big_quiet_step ((go_at_call 47; exact Calls.quiet_of (h2 _)))
  repeat (go_big_quiet_step (fail))
  go_big_quiet_step ((go_at_call 47; exact Calls.quiet_of (h3 _)))
  repeat (go_big_quiet_step (fail))
  refine wpQuiet_nil ?_
  intro _ hw'
  obtain ⟨nq, hw''⟩ := hw'
  subst hw''
  rw [← HK.out]
  have k0 : Kept w ((w.alloc (.cells #[.int .i64 op, .int .i64 n, .string S, .slice la l.length lc] 65)).drewN nq) := ((Kept.refl w).alloc _).drewN _
  have hk0 : (keyR ⟨op, n, s, []⟩).length ≤ 300 := by
    have := congrArg ByteArray.size HK.out
    rw [strB_size] at this
    simp only [ByteArray.size_append] at this
    have e : (⟨#[32]⟩ : ByteArray).size = 1 := rfl
    omega
  have HE : Shut (keyR ⟨op, n, s, l⟩ = keyR ⟨op, n, s, []⟩ ++ partsKeyR l) := ⟨by simp [keyR, partsKeyR]⟩
  generalize keyR ⟨op, n, s, []⟩ = K0 at HK HE hk0
  clear h1 h2 h3 HK
  have l63 : ((l.length : Nat) : Int) ≤ 9223372036854775807 := by omega
  go_wp2
  go_loopw [3, 27] (fun b i wr => ∃ k : Nat, k ≤ l.length ∧ i = .int .i64 k ∧ b = .string (strB (K0 ++ partsKeyR (l.take k))) ∧ Kept w wr) (fun _ i _ => l.length - (intOf i).toNat)
  case atStart => exact ⟨0, Nat.zero_le _, rfl, by simp [partsKeyR], k0⟩
  case round =>
    obtain ⟨k, hk1, rfl, rfl, hkept⟩ := hrel
    by_cases hlt : k < l.length
    · obtain ⟨rb, ro, rc, hrv, _, _, hrb, hcell⟩ := hr.addr (by omega)
      simp only [Value.slice.injEq] at hrv
      obtain ⟨rfl, hdrop, rfl⟩ := hrv
      clear hdrop
      have hcw : wr.cell? ⟨rb, ro + k, none⟩ = some (.int .i64 (l.getD k 0)) := hkept.cell (p := ⟨rb, ro + k, none⟩) hrb |>.trans (hcell k hlt)
      clear hcell
      have hmem : l.getD k 0 ∈ l := by rw [List.getD_eq_getElem?_getD, List.getElem?_eq_getElem hlt]; exact List.getElem_mem _
      have hx64 : I64 (l.getD k 0) := hll _ hmem
      have hx0 := hpos _ hmem
      have hstep : partsKeyR (l.take (k + 1)) = partsKeyR (l.take k) ++ 32 :: Lib.itoa (l.getD k 0) := by
        rw [List.take_succ_eq_append_getElem hlt, partsKeyR_snoc, List.getD_eq_getElem?_getD, List.getElem?_eq_getElem hlt]; rfl
      have hpl : (partsKeyR (l.take k)).length ≤ 22 * k := by
        have := partsKeyR_len (l.take k) (fun x hx => hll x (List.mem_of_mem_take hx))
        rw [List.length_take] at this
        omega
      have HS2 := Shut.mk hstep
      clear hstep hmem
      generalize l.getD k 0 = x at hcw hx64 HS2 hx0
      have hil := itoa_len hx64
      have hd := itoaR x hx0 hx64.2 wr
      have HJ : Shut (strB (K0 ++ partsKeyR (l.take (k + 1))) = strB (K0 ++ partsKeyR (l.take k)) ++ ((⟨#[32]⟩ : ByteArray) ++ strB (Lib.itoa x))) := ⟨by
        have e : (⟨#[32]⟩ : ByteArray) = strB [32] := rfl
        rw [e, strB_app, strB_app, HS2.out]
        simp⟩
      have e1 : (strB (Lib.itoa x)).size ≤ 21 := by rw [strB_size]; exact hil
      have e2 : (strB (K0 ++ partsKeyR (l.take k))).size ≤ 3000 := by rw [strB_size]; simp; omega
      generalize strB (Lib.itoa x) = X at hd HJ e1
      generalize strB (K0 ++ partsKeyR (l.take k)) = Z at HJ e2
      go_wp2_with fail
      refine hd.mono ?_
      rintro e w1 ⟨rfl, m, rfl⟩
      go_wp2
      go_roundw
      case rel => exact ⟨k + 1, hlt, rfl, by rw [HJ.out], hkept.drewN _⟩
      case measure => simp [intOf]; omega
    · obtain rfl : k = l.length := by omega
      go_wp2
      go_ret
      exact ⟨by rw [List.take_length, ← HE.out]; rfl, hkept⟩
end Go.Proofs.YtdjfdobcjakmhaaDoor
end

section
/- The document's terms: which nodes may be. -/
set_option linter.unusedSimpArgs false
set_option linter.unusedVariables false
namespace Go.Proofs.YtdjfdobcjakmhaaDoor
open Go.RowKit Go.Maps

/-- How many parts a node has by its op; below 0: any, or there is no such op. -/
def arR (op : Int) : Int := if op = 3 ∨ op < 1 ∨ 12 < op then -1 else kMost op
theorem arR_no {op : Int} (h : op = 3 ∨ op < 1 ∨ 12 < op) : arR op = -1 := by unfold arR; rw [if_pos h]
theorem ne_beq {a b : Int} (h : a ≠ b) : (a == b) = false := by simpa using h

set_option maxRecDepth 100000 in
set_option maxHeartbeats 4000000 in
theorem arity_any (op : Int) (w : World) : Calls Tryd.prog 75 #[.int .i64 op] w fun e w' => e = .returned (.int .i64 (arR op)) ∧ w = w' := by
  by_cases h : op = 3 ∨ op < 1 ∨ 12 < op
  · rw [arR_no h]
    have c1 := ne_beq (show op ≠ 1 by omega)
    have c2 := ne_beq (show op ≠ 2 by omega)
    have c4 := ne_beq (show op ≠ 4 by omega)
    have c5 := ne_beq (show op ≠ 5 by omega)
    have c6 := ne_beq (show op ≠ 6 by omega)
    have c7 := ne_beq (show op ≠ 7 by omega)
    have c8 := ne_beq (show op ≠ 8 by omega)
    have c9 := ne_beq (show op ≠ 9 by omega)
    have c10 := ne_beq (show op ≠ 10 by omega)
    have c11 := ne_beq (show op ≠ 11 by omega)
    have c12 := ne_beq (show op ≠ 12 by omega)
    clear h
    go_enter Tryd.func75, Tryd.ntmps75
    go_wp2
    go_ret
    exact ⟨rfl, rfl⟩
  · have hc : op = 1 ∨ op = 2 ∨ op = 4 ∨ op = 5 ∨ op = 6 ∨ op = 7 ∨ op = 8 ∨ op = 9 ∨ op = 10 ∨ op = 11 ∨ op = 12 := by omega
    clear h
    rcases hc with rfl | rfl | rfl | rfl | rfl | rfl | rfl | rfl | rfl | rfl | rfl
    all_goals
      go_enter Tryd.func75, Tryd.ntmps75
      go_wp2
      go_ret
      exact ⟨rfl, rfl⟩

set_option maxRecDepth 100000 in
set_option maxHeartbeats 4000000 in
/-- The first tests of May: whether it comes to the parts. -/
theorem mayR_bad {w : World} {p v : Value} {d : Nd} (hd : RdN w v d) (hb : ¬ (1 ≤ d.op ∧ d.op ≤ 12 ∧ 0 ≤ d.n ∧ (d.n = 0 ∨ d.op = 1) ∧ d.s.length ≤ 200 ∧ (d.s = [] ∨ d.op = 2) ∧ kLeast d.op ≤ d.l.length ∧ (d.l.length : Int) ≤ kMost d.op)) :
    Calls Tryd.prog 64 #[p, v] w fun e w' => e = .returned (.bool false) ∧ Kept w w' := by
  obtain ⟨lv, rfl, hr⟩ := hd
  obtain ⟨op, n, s, l⟩ := d
  simp only at hr hb ⊢
  obtain ⟨la, lc, rfl, l1, l2, l3⟩ := hr.len
  have l63 : ((l.length : Nat) : Int) ≤ 9223372036854775807 := by unfold maxLen at l2; omega
  have e1 := strB_size s
  have e2 := strB_list s
  generalize strB s = S at e1 e2
  by_cases ho : op < 1 ∨ 12 < op
  · have HK := Shut.mk (arR_no (op := op) (by omega))
    have c3 := bne_int (show op ≠ 3 by omega)
    clear hb ho
    go_enter Tryd.func64, Tryd.ntmps64
    go_wp2_with (go_at_call 75; refine (arity_any _ _).mono ?_; rintro e w' ⟨rfl, rfl⟩; rw [HK.out])
    go_ret
    exact ⟨rfl, (Kept.refl w).alloc _⟩
  -- which op, and how many parts
  have hop : (op = 3 ∧ arR op = -1 ∧ kLeast op = 0 ∧ kMost op = 64) ∨ (op ≠ 3 ∧ 0 ≤ arR op ∧ arR op ≤ 4 ∧ kLeast op = arR op ∧ kMost op = arR op) := by
    have hc : op = 1 ∨ op = 2 ∨ op = 3 ∨ op = 4 ∨ op = 5 ∨ op = 6 ∨ op = 7 ∨ op = 8 ∨ op = 9 ∨ op = 10 ∨ op = 11 ∨ op = 12 := by omega
    rcases hc with rfl | rfl | rfl | rfl | rfl | rfl | rfl | rfl | rfl | rfl | rfl | rfl <;> decide
  have hlen : (op = 3 ∧ arR op = -1 ∧ ((l.length : Nat) : Int) ≤ 64 ∧ kLeast op ≤ l.length ∧ (l.length : Int) ≤ kMost op) ∨ (op = 3 ∧ arR op = -1 ∧ 64 < ((l.length : Nat) : Int)) ∨ (op ≠ 3 ∧ 0 ≤ arR op ∧ (l.length : Int) = arR op ∧ ((l.length : Nat) : Int) ≤ 64 ∧ kLeast op ≤ l.length ∧ (l.length : Int) ≤ kMost op) ∨ (op ≠ 3 ∧ 0 ≤ arR op ∧ (l.length : Int) ≠ arR op) := by omega
  generalize hK : arR op = k at hop hlen
  have HK := Shut.mk hK
  clear hK hop
  have hpre : ∀ (Q : Prop), (op = 3 → k = -1 → ((l.length : Nat) : Int) ≤ 64 → Q) → (((op != 3) = true) → 0 ≤ k → ((l.length : Int) != k) = false → ((l.length : Nat) : Int) ≤ 64 → Q) → (kLeast op ≤ l.length ∧ (l.length : Int) ≤ kMost op → Q) → True := fun _ _ _ _ => trivial
  clear hpre
  rcases hlen with ⟨rfl, rfl, q1, q2, q3⟩ | ⟨rfl, rfl, q1⟩ | ⟨q0, q1, q2, q3, q4, q5⟩ | ⟨q0, q1, q2⟩
  · have hb2 : ¬ (n = 0 ∧ s = []) := fun h => hb ⟨by omega, by omega, by omega, .inl h.1, by rw [h.2]; simp, .inl h.2, q2, q3⟩
    clear q2 q3
    by_cases hn : n = 0
    · subst hn
      have hs : s.isEmpty = false := by simpa using fun e => hb2 ⟨rfl, e⟩
      clear hb hb2
      go_enter Tryd.func64, Tryd.ntmps64
      go_wp2_with (go_at_call 75; refine (arity_any _ _).mono ?_; rintro e w' ⟨rfl, rfl⟩; rw [HK.out])
      go_ret
      exact ⟨rfl, (Kept.refl w).alloc _⟩
    · have c1 := bne_int hn
      clear hb hb2 hn
      go_enter Tryd.func64, Tryd.ntmps64
      go_wp2_with (go_at_call 75; refine (arity_any _ _).mono ?_; rintro e w' ⟨rfl, rfl⟩; rw [HK.out])
      go_ret
      exact ⟨rfl, (Kept.refl w).alloc _⟩
  · clear hb
    go_enter Tryd.func64, Tryd.ntmps64
    go_wp2_with (go_at_call 75; refine (arity_any _ _).mono ?_; rintro e w' ⟨rfl, rfl⟩; rw [HK.out])
    go_ret
    exact ⟨rfl, (Kept.refl w).alloc _⟩
  · have c3 := bne_int q0
    have c4 := beq_int q2
    clear q2
    by_cases o1 : op = 1
    · subst o1
      have hb2 : ¬ (0 ≤ n ∧ s = []) := fun h => hb ⟨by omega, by omega, h.1, .inr rfl, by rw [h.2]; simp, .inl h.2, q4, q5⟩
      clear hb q4 q5 q0
      by_cases hs : s = []
      · subst hs
        have hn : n < 0 := by
          apply Classical.byContradiction
          intro c
          exact hb2 ⟨by omega, rfl⟩
        clear hb2
        go_enter Tryd.func64, Tryd.ntmps64
        go_wp2_with (go_at_call 75; refine (arity_any _ _).mono ?_; rintro e w' ⟨rfl, rfl⟩; rw [HK.out])
        go_ret
        exact ⟨rfl, (Kept.refl w).alloc _⟩
      · have hs2 : s.isEmpty = false := by simpa using hs
        clear hb2 hs
        go_enter Tryd.func64, Tryd.ntmps64
        go_wp2_with (go_at_call 75; refine (arity_any _ _).mono ?_; rintro e w' ⟨rfl, rfl⟩; rw [HK.out])
        go_ret
        exact ⟨rfl, (Kept.refl w).alloc _⟩
    · have d1 := bne_int o1
      by_cases hn : n = 0
      · subst hn
        by_cases o2 : op = 2
        · subst o2
          have hs : 200 < s.length := by
            apply Classical.byContradiction
            intro c
            exact hb ⟨by omega, by omega, by omega, .inl rfl, by omega, .inr rfl, q4, q5⟩
          clear hb q4 q5 q0
          go_enter Tryd.func64, Tryd.ntmps64
          go_wp2_with (go_at_call 75; refine (arity_any _ _).mono ?_; rintro e w' ⟨rfl, rfl⟩; rw [HK.out])
          go_ret
          exact ⟨rfl, (Kept.refl w).alloc _⟩
        · have d2 := bne_int o2
          have hs : s.isEmpty = false := by simpa using fun e => hb ⟨by omega, by omega, by omega, .inl rfl, by rw [e]; simp, .inl e, q4, q5⟩
          clear hb q4 q5 q0 o2 o1
          go_enter Tryd.func64, Tryd.ntmps64
          go_wp2_with (go_at_call 75; refine (arity_any _ _).mono ?_; rintro e w' ⟨rfl, rfl⟩; rw [HK.out])
          go_ret
          exact ⟨rfl, (Kept.refl w).alloc _⟩
      · have d3 := bne_int hn
        clear hb q4 q5 q0 o1 hn
        go_enter Tryd.func64, Tryd.ntmps64
        go_wp2_with (go_at_call 75; refine (arity_any _ _).mono ?_; rintro e w' ⟨rfl, rfl⟩; rw [HK.out])
        go_ret
        exact ⟨rfl, (Kept.refl w).alloc _⟩
  · have c3 := bne_int q0
    have c4 := bne_int q2
    clear hb q2 q0
    go_enter Tryd.func64, Tryd.ntmps64
    go_wp2_with (go_at_call 75; refine (arity_any _ _).mono ?_; rintro e w' ⟨rfl, rfl⟩; rw [HK.out])
    go_ret
    exact ⟨rfl, (Kept.refl w).alloc _⟩
end Go.Proofs.YtdjfdobcjakmhaaDoor
end

section
/- The document's terms: which nodes may be, whole. -/
set_option linter.unusedSimpArgs false
set_option linter.unusedVariables false
namespace Go.Proofs.YtdjfdobcjakmhaaDoor
open Go.RowKit Go.Maps

def MayPost (w : World) (ds : List Nd) (d : Nd) (e : Ending) (w' : World) : Prop := ∃ b : Bool, e = .returned (.bool b) ∧ (b = true ↔ May ds d) ∧ Kept w w'

set_option maxRecDepth 100000 in
set_option maxHeartbeats 4000000 in
theorem mayR_good {F : Nat → Prop} {w : World} {p : Value} {ds : List Nd} (h : ArR F w p ds) {v : Value} {d : Nd} (hd : RdN w v d) (hb : 1 ≤ d.op ∧ d.op ≤ 12 ∧ 0 ≤ d.n ∧ (d.n = 0 ∨ d.op = 1) ∧ d.s.length ≤ 200 ∧ (d.s = [] ∨ d.op = 2) ∧ kLeast d.op ≤ d.l.length ∧ (d.l.length : Int) ≤ kMost d.op) :
    Calls Tryd.prog 64 #[p, v] w (MayPost w ds d) := by
  have h64 : d.l.length ≤ 64 := by
    have hb := hb
    have := hb.2.2.2.2.2.2.2
    rcases op_cases hb.1 hb.2.1 with e | e | e | e | e | e | e | e | e | e | e | e <;> rw [e] at this <;> simp [kMost, kTab] at this <;> (try rw [this]) <;> simp <;> omega
  obtain ⟨lv, rfl, hr⟩ := hd
  obtain ⟨op, n, s, l⟩ := d
  simp only at hr hb h64 ⊢
  obtain ⟨la, lc, rfl, l1, l2, l3⟩ := hr.len
  have HB := Shut.mk hb
  obtain ⟨o1, o2, o3, o4, o5, o6, o7, o8⟩ := hb
  have hop : (op = 3 ∧ arR op = -1) ∨ (op ≠ 3 ∧ 0 ≤ arR op ∧ kLeast op = arR op ∧ kMost op = arR op) := by
    rcases op_cases o1 o2 with rfl | rfl | rfl | rfl | rfl | rfl | rfl | rfl | rfl | rfl | rfl | rfl <;> decide
  have hL : ((l.length : Nat) : Int) ≤ 9223372036854775807 := by unfold maxLen at l2; omega
  have hL64 : ((l.length : Nat) : Int) ≤ 64 := by omega
  have e1 := strB_size s
  have e2 := strB_list s
  have MM : Shut ((∀ x ∈ l, 0 ≤ x ∧ x < ds.length) → (op = 6 → (ds.getD (l.getD 1 0).toNat nd0).op = 2) → May ds ⟨op, n, s, l⟩) :=
    ⟨fun a b => ⟨o1, o2, o3, o4, o5, o6, o7, o8, a, b⟩⟩
  have hl3 : Shut (op = 6 → l.length = 3) := ⟨fun e => by
    rw [e] at o7 o8
    simp [kLeast, kMost, kTab] at o7 o8
    omega⟩
  have hcase : (arR op = -1 ∧ (op != 3) = false ∧ (op != 1) = true ∧ (op != 2) = true ∧ n = 0 ∧ s = []) ∨ (arR op = 0 ∧ (op != 1) = false ∧ (op != 2) = true ∧ ((l.length : Int) != 0) = false ∧ s = []) ∨ (arR op = 0 ∧ (op != 1) = true ∧ (op != 2) = false ∧ ((l.length : Int) != 0) = false ∧ n = 0) ∨ ((op != 1) = true ∧ (op != 2) = true ∧ 0 ≤ arR op ∧ ((l.length : Int) != arR op) = false ∧ n = 0 ∧ s = []) := by
    rcases hop with ⟨a, b⟩ | ⟨a, b, c, d⟩
    · exact .inl ⟨b, beq_int a, bne_int (by omega), bne_int (by omega), o4.resolve_right (by omega), o6.resolve_right (by omega)⟩
    · by_cases c1 : op = 1
      · subst c1
        exact .inr (.inl ⟨rfl, rfl, rfl, beq_int (by have : arR 1 = 0 := rfl; omega), o6.resolve_right (by omega)⟩)
      · by_cases c2 : op = 2
        · subst c2
          exact .inr (.inr (.inl ⟨rfl, rfl, rfl, beq_int (by have : arR 2 = 0 := rfl; omega), o4.resolve_right (by omega)⟩))
        · exact .inr (.inr (.inr ⟨bne_int c1, bne_int c2, b, beq_int (by omega), o4.resolve_right c1, o6.resolve_right c2⟩))
  generalize hK : arR op = kk at hcase
  have HK := Shut.mk hK
  clear hK hop o4 o6 o7 o8
  generalize hS : strB s = S at e1 e2
  have HS := Shut.mk hS
  clear hS
  obtain ⟨pb, mb, nv, rfl, q0, q1, qn⟩ := ArG.nodes h
  obtain ⟨na, ncap, rfl, n1, n2, n3⟩ := qn.len
  have dl : ((ds.length : Nat) : Int) ≤ 9223372036854775807 := by unfold maxLen at n2; omega
  have q0a : ∀ ob, (w.alloc ob).cell? ⟨pb, 0, none⟩ = some (.slice na ds.length ncap) := fun ob => by rw [World.cell?_alloc_past _ _ _ (World.block_lt_of_cell? _ _ q0)]; exact q0
  rcases hcase with ⟨rfl, c1, c2, c3, rfl, rfl⟩ | ⟨rfl, c1, c2, c3, rfl⟩ | ⟨rfl, c1, c2, c3, rfl⟩ | ⟨c1, c2, c3, c4, rfl, rfl⟩
  all_goals
    go_enter Tryd.func64, Tryd.ntmps64
    go_wp2_with (go_at_call 75; refine (arity_any _ _).mono ?_; rintro e w' ⟨rfl, rfl⟩; rw [HK.out])
    go_loop [69] (fun s => ∃ k : Nat, (k ≤ l.length ∧ ∀ i, i < k → 0 ≤ l.getD i 0 ∧ l.getD i 0 < ds.length) ∧ s = .int .i64 k) (fun s => l.length - (intOf s).toNat)
    case atStart => exact ⟨0, ⟨Nat.zero_le _, fun i hi => absurd hi (Nat.not_lt_zero _)⟩, rfl⟩
    case round =>
      obtain ⟨k, ⟨hk0, hk1⟩, rfl⟩ := hrel
      have HK1 := Shut.mk hk1
      clear hk1
      by_cases hlt : k < l.length
      · obtain ⟨rb, ro, rc, hrv, _, _, hrb, hcell⟩ := hr.addr (by omega)
        simp only [Value.slice.injEq] at hrv
        obtain ⟨rfl, hdrop, rfl⟩ := hrv
        clear hdrop
        have hcw : ∀ (ob : Obj), (w.alloc ob).cell? ⟨rb, ro + k, none⟩ = some (.int .i64 (l.getD k 0)) := fun ob => ((Kept.refl w).alloc ob).cell (p := ⟨rb, ro + k, none⟩) hrb |>.trans (hcell k hlt)
        clear hcell
        generalize hx : l.getD k 0 = x at hcw
        have HX := Shut.mk hx
        clear hx
        by_cases hx0 : x < 0
        · go_wp2
          go_ret
          refine ⟨false, rfl, ⟨(fun h => by cases h), fun m => ?_⟩, ((Kept.refl w).alloc _)⟩
          have := m.all x (by rw [← HX.out, List.getD_eq_getElem?_getD, List.getElem?_eq_getElem hlt]; exact List.getElem_mem _)
          omega
        · by_cases hx1 : x < ds.length
          · go_wp2
            go_round
            case rel => exact ⟨k + 1, ⟨hlt, fun i hi => by
              by_cases c : i < k
              · exact HK1.out i c
              · obtain rfl : i = k := by omega
                rw [HX.out]; omega⟩, rfl⟩
            case measure => simp [intOf]; omega
          · go_wp2
            go_ret
            refine ⟨false, rfl, ⟨(fun h => by cases h), fun m => ?_⟩, ((Kept.refl w).alloc _)⟩
            have := m.all x (by rw [← HX.out, List.getD_eq_getElem?_getD, List.getElem?_eq_getElem hlt]; exact List.getElem_mem _)
            omega
      · obtain rfl : k = l.length := by omega
        have hall : Shut (∀ x ∈ l, 0 ≤ x ∧ x < ds.length) := ⟨fun x hx => by
          obtain ⟨i, hi, e⟩ := List.mem_iff_getElem.1 hx
          have := HK1.out i hi
          rwa [List.getD_eq_getElem?_getD, List.getElem?_eq_getElem hi, Option.getD_some, e] at this⟩
        by_cases h6 : op = 6
        · have hb6 := beq_int h6
          have hl3' : l.length = 3 := hl3.out h6
          have hx1 := HK1.out 1 (by omega)
          obtain ⟨j, hj⟩ := Int.eq_ofNat_of_zero_le hx1.1
          have hjl : j < ds.length := by omega
          obtain ⟨nb, noff, ncap', lvs, hnv, _, _, hnb, hnc, _⟩ := qn.addr (by omega)
          simp only [Value.slice.injEq] at hnv
          obtain ⟨rfl, hdrop, rfl⟩ := hnv
          clear hdrop
          obtain ⟨nc, _, _, _⟩ := hnc j hjl
          obtain ⟨rb, ro, rc, hrv, _, _, hrb, hcell⟩ := hr.addr (by omega)
          simp only [Value.slice.injEq] at hrv
          obtain ⟨rfl, hdrop, rfl⟩ := hrv
          clear hdrop
          have hc1 := hcell 1 (by omega)
          rw [hj] at hc1
          clear hcell hnc
          have nca : ∀ ob, (w.alloc ob).cell? ⟨nb, noff + j * 4, none⟩ = some (.int .i64 (ds.getD j nd0).op) := fun ob => by rw [World.cell?_alloc_past _ _ _ (World.block_lt_of_cell? _ _ nc)]; exact nc
          have hca : ∀ ob, (w.alloc ob).cell? ⟨rb, ro + 1, none⟩ = some (.int .i64 (j : Int)) := fun ob => by rw [World.cell?_alloc_past _ _ _ (World.block_lt_of_cell? _ _ hc1)]; exact hc1
          have j0 : (0 : Int) ≤ (j : Int) := by omega
          have j1 : (j : Int) < (ds.length : Int) := by omega
          have l31 : (1 : Int) < (l.length : Int) := by omega
          have HL3 := Shut.mk hl3'
          have H6 := Shut.mk h6
          have HJ := Shut.mk hj
          clear hl3' h6 hj hx1
          generalize hop' : (ds.getD j nd0).op = oj at nc nca
          have HO := Shut.mk hop'
          clear hop'
          go_wp2
          go_quiet (fail)
          go_wp2
          go_ret
          refine ⟨_, rfl, ⟨fun hh => ?_, fun m => ?_⟩, ?_⟩
          · exact MM.out hall.out (fun e => by
              simp only [HJ.out, Int.toNat_natCast, HO.out]
              simpa using hh)
          · have := m.key H6.out
            simp only [HJ.out, Int.toNat_natCast, HO.out] at this
            simp [this]
          · exact ((Kept.refl w).alloc _).drewN _
        · have hb6 := bne_int h6
          go_wp2
          go_quiet (fail)
          go_wp2
          go_ret
          refine ⟨true, rfl, ⟨fun _ => MM.out hall.out (fun e => absurd e h6), fun _ => rfl⟩, ((Kept.refl w).alloc _).drewN _⟩
theorem mayR_any {F : Nat → Prop} {w : World} {p : Value} {ds : List Nd} (h : ArR F w p ds) {v : Value} {d : Nd} (hd : RdN w v d) :
    Calls Tryd.prog 64 #[p, v] w (MayPost w ds d) := by
  by_cases hb : 1 ≤ d.op ∧ d.op ≤ 12 ∧ 0 ≤ d.n ∧ (d.n = 0 ∨ d.op = 1) ∧ d.s.length ≤ 200 ∧ (d.s = [] ∨ d.op = 2) ∧ kLeast d.op ≤ d.l.length ∧ (d.l.length : Int) ≤ kMost d.op
  · exact mayR_good h hd hb
  · exact (mayR_bad hd hb).mono fun e w' ⟨a, b⟩ => ⟨false, a, ⟨(fun x => by cases x), fun m => absurd ⟨m.op1, m.op12, m.n0, m.n1, m.s0, m.s1, m.least, m.most⟩ hb⟩, b⟩
end Go.Proofs.YtdjfdobcjakmhaaDoor
end

section
/- The document's terms: Make. -/
set_option linter.unusedSimpArgs false
set_option linter.unusedVariables false
namespace Go.Proofs.YtdjfdobcjakmhaaDoor
open Go.RowKit Go.Maps

theorem keyR_len {d : Nd} (hok : NdOk d) (hs : d.s.length ≤ 200) (hl : d.l.length ≤ 64) : (keyR d).length ≤ 2000 := by
  unfold keyR
  have h0 := itoa_len hok.op
  have h1 := itoa_len hok.n
  have h2 := partsKeyR_len d.l hok.l
  have h3 := itoa_len (i := (d.s.length : Int)) ⟨by omega, by omega⟩
  simp
  omega

set_option maxRecDepth 100000 in
set_option maxHeartbeats 4000000 in
theorem makeR_any {F : Nat → Prop} {w : World} {p : Value} {ds : List Nd} (h : ArR F w p ds) {v : Value} {d : Nd} (hd : RdN w v d) (hok : NdOk d) :
    Calls Tryd.prog 48 #[p, v] w fun e w' => ∃ F' : Nat → Prop, e = .returned (.tuple #[.int .i64 (mk ds d).2.1, .int .i64 (mk ds d).2.2]) ∧ ArR F' w' p (mk ds d).1 ∧ Turn F w w' ∧ (∀ b, F' b → F b ∨ w.heap.size ≤ b) := by
  obtain ⟨pb, mb, n, nv, lvs, D, rfl, h2, h3, h4, h5, h6, h7, h8, h9, h10, h11, h12⟩ := h.rep
  obtain ⟨lv, rfl, hr⟩ := hd
  obtain ⟨op, nn, s, l⟩ := d
  simp only at hr ⊢
  have hd1 : ∀ W, Kept w W → RdN W (.agg #[.int .i64 op, .int .i64 nn, .string (strB s), lv]) ⟨op, nn, s, l⟩ := fun W k => ⟨lv, rfl, hr.kept k⟩
  obtain ⟨la, lc, rfl, l1, l2, l3⟩ := hr.len
  have HH := Shut.mk h
  clear h
  go_enter Tryd.func48, Tryd.ntmps48
  go_wp2_with fail
  have k0 : Kept w (w.alloc (.cells #[.int .i64 op, .int .i64 nn, .string (strB s), .slice la l.length lc] 65)) := (Kept.refl w).alloc _
  have b0 := Blk.new w [.int .i64 op, .int .i64 nn, .string (strB s), .slice la l.length lc] 65
  generalize w.alloc (.cells #[.int .i64 op, .int .i64 nn, .string (strB s), .slice la l.length lc] 65) = w0 at k0 b0 ⊢
  refine (mayR_any (ArG.kept HH.out k0) (hd1 w0 k0)).mono ?_
  rintro e w1 ⟨b, rfl, hb, k1⟩
  have k01 := k0.trans k1
  have b1 := b0.kept k1
  cases b with
  | false =>
    have hng : ¬ May ds ⟨op, nn, s, l⟩ := fun m => by have := hb.2 m; cases this
    go_wp2
    go_ret2
    rw [mk_bad hng]
    exact ⟨F, rfl, ArG.kept HH.out k01, k01.turn F, fun b hb => .inl hb⟩
  | true =>
    have hm : May ds ⟨op, nn, s, l⟩ := hb.1 rfl
    have HM := Shut.mk hm
    have hs2 := hm.s0
    have hlen := hm.len64
    have hkl := keyR_len hok hs2 hlen
    have x0 := b1.cell 0
    have x1 := b1.cell 1
    have x2 := b1.cell 2
    have x3 := b1.cell 3
    simp only [List.getElem?_cons_succ, List.getElem?_cons_zero] at x0 x1 x2 x3
    clear hm hb
    go_wp2_with fail
    refine (textR_any (hd1 w1 k01) (by have := HM.out.op1; simp only at this ⊢; omega) HM.out.n0 hok hs2 hlen (fun x hx => (HM.out.all x hx).1)).mono ?_
    rintro e w2 ⟨rfl, k2⟩
    have k02 := k01.trans k2
    have b2 := b1.kept k2
    have m2 := ownsMap_kept h6 k02
    have q0 := (h2.kept k02).cell 0
    have q1 := (h2.kept k02).cell 1
    have y0 := b2.cell 0
    have y1 := b2.cell 1
    have y2 := b2.cell 2
    have y3 := b2.cell 3
    simp only [List.getElem?_cons_succ, List.getElem?_cons_zero] at q0 q1 y0 y1 y2 y3
    clear x0 x1 x2 x3
    obtain ⟨na, ncap, rfl, n1, n2, n3, n4, n5⟩ := h3.rdv
    have hkey : keyOf Tryd.prog 9 (.string (strB (keyR ⟨op, nn, s, l⟩))) = some (.string (keyR ⟨op, nn, s, l⟩)) := WideMaps.keyOf_string_mk Tryd.underlying9 (by rw [strB_size]; unfold maxLen; omega)
    have hlaw : Keyed Tryd.prog 9 := string_keyed Tryd.underlying9
    have hix := idx_has h8 HH.out.good (d := ⟨op, nn, s, l⟩) (fun i hi e => keyR_inj (HH.out.good.may' hi) HM.out e)
    have HKEY := Shut.mk hkey
    clear hkey
    generalize hKY : Value.string (strB (keyR ⟨op, nn, s, l⟩)) = KY at HKEY
    have HKY := Shut.mk hKY
    clear hKY
    rcases hix with ⟨hx1, hx2⟩ | ⟨i, hi, hx1, hx2, hx3⟩
    · have HX2 := Shut.mk hx2
      clear hx2
      by_cases hbig : 100000 ≤ ds.length
      · have HB := Shut.mk hbig
        have hdb : decide ((100000 : Int) ≤ (ds.length : Int)) = true := decide_eq_true (by omega)
        clear hbig
        go_wp2_with (at_lookup; refine wpList_lookup_own_ok_int _ rfl _ _ 76 rfl 9 3 .i64 hlaw Tryd.underlying76 Tryd.underlying3 (zeroInt _) mb n D rfl m2 _ _ rfl HKEY.out ?_; intro c hat hwc; rw [hx1])
        go_ret2
        rw [mk_full HM.out HX2.out HB.out]
        exact ⟨F, rfl, ArG.kept HH.out k02, k02.turn F, fun b hb => .inl hb⟩
      · have HB := Shut.mk hbig
        have hdb : decide ((100000 : Int) ≤ (ds.length : Int)) = false := decide_eq_false (by omega)
        have hl10 : ds.length < 10000000000 := by omega
        have HI : Shut (∀ i, i < ds.length → keyR (ds.getD i nd0) ≠ keyR ⟨op, nn, s, l⟩) := ⟨fun i hi e => find_none HX2.out i hi (keyR_inj (HH.out.good.may' hi) HM.out e)⟩
        clear hbig
        have c23 := b2.frozen 3
        go_wp2_with (first
          | (at_lookup; refine wpList_lookup_own_ok_int _ rfl _ _ 76 rfl 9 3 .i64 hlaw Tryd.underlying76 Tryd.underlying3 (zeroInt _) mb n D rfl m2 _ _ rfl HKEY.out ?_; intro c hat hwc; rw [hx1])
          | (at_builtin; refine go_appi w2.heap.size _ [] rfl (OwnI.nil _ _) _ l rfl (hr.kept k02) (by simp; omega) (Nat.le_refl _) ?_; intro v3 w3 o3 t3 l3'; obtain ⟨a3, cap3, rfl, _, _, _⟩ := (OwnI.rd o3).len;
             have k3 : Kept w2 w3 := Turn.keptOf (Kept.refl w2) t3 (fun x hx => by simp only [Blks] at hx; cases hx);
             have b3 : Blk w3 w.heap.size 65 [.int .i64 op, .int .i64 nn, .string (strB s), .slice la l.length lc] := b2.kept k3;
             have kw3 : Kept w w3 := k02.trans k3;
             have z3 := b3.cell 3; have f33 := b3.frozen 3))
        have b4 : Blk (w3.setCell ⟨w.heap.size, 3, none⟩ (.slice a3 l.length cap3)) w.heap.size 65 [.int .i64 op, .int .i64 nn, .string (strB s), (.slice a3 l.length cap3)] := b3.set 3 (.slice a3 l.length cap3)
        have kw4 : Kept w (w3.setCell ⟨w.heap.size, 3, none⟩ (.slice a3 l.length cap3)) := kw3.setCell (Nat.le_refl _) _
        have o4 : OwnI 0 (w3.setCell ⟨w.heap.size, 3, none⟩ (.slice a3 l.length cap3)) (.slice a3 l.length cap3) l := Ownv.setCell (Ownv.mono0 o3) (Ownv.notBlk o3 b3 (by decide)) _
        have hlv : ∀ b, Blks (.slice a3 l.length cap3) b → w.heap.size ≤ b := fun b hb => Nat.le_trans k02.size (Ownv.lt o3 hb).2
        generalize w3.setCell ⟨w.heap.size, 3, none⟩ (.slice a3 l.length cap3) = w4 at b4 kw4 o4 ⊢
        have q0 := (h2.kept kw4).cell 0
        have q1 := (h2.kept kw4).cell 1
        have qf := (h2.kept kw4).frozen 0
        have c40 := b4.cell 0
        have c41 := b4.cell 1
        have c42 := b4.cell 2
        have c43 := b4.cell 3
        simp only [List.getElem?_cons_succ, List.getElem?_cons_zero] at q0 q1 c40 c41 c42 c43
        have hn4 := h3.kept kw4
        obtain ⟨i0, hi, hz0, hz1, hz2⟩ := info_parts Tryd.infoNode
        have hgb : Blk w4 pb 78 [.slice na ds.length ncap, .map (some mb)] := h2.kept kw4
        have hnb : ¬ Blks (.slice na ds.length ncap) pb := Ownv.notBlk hn4 hgb (by decide)
        have hnq : ¬ Blks (.slice na ds.length ncap) w.heap.size := fun hb => Nat.lt_irrefl _ (h3.lt hb).1
        have gb := hgb.lt
        have hcz : ∀ ob, (w4.alloc ob).cell? ⟨pb, 0, none⟩ = some (.slice na ds.length ncap) := fun ob => (hgb.kept ((Kept.refl w4).alloc ob)).cell 0
        have hfz : ∀ ob, (w4.alloc ob).frozen? ⟨pb, 0, none⟩ = false := fun ob => by
          have := (hgb.kept ((Kept.refl w4).alloc ob)).frozen 0
          exact this
        have hnb' : some pb ≠ (Value.slice na ds.length ncap).ownBlock := fun e => hnb e.symm
        have hnq' : some w.heap.size ≠ (Value.slice na ds.length ncap).ownBlock := fun e => hnq e.symm
        have qb := b4.lt
        go_region_law
          ((refine step_append_lies _ (by rfl) _ _ _ (by rfl) 0 65 i0 _ 4 56 Tryd.underlying70 hi hz0 hz1 hz2 rfl (by omega) (.slice na ds.length ncap) ds.length (flat ds lvs) (by rfl) ((hn4.alloc _).drew)
              ⟨w4.heap.size, 0, none⟩ 1 1 [.int .i64 op, .int .i64 nn, .string (strB s), (.slice a3 l.length cap3)] (by rfl) (by rfl) (World.news_of_block (cs := #[.int .i64 op, .int .i64 nn, .string (strB s), (.slice a3 l.length cap3)]) (t := 65) (fr := (0, 0)) (heap_alloc_new w4 _)) (by simp [Value.oneCell'])
              (by omega) (by unfold maxLen; omega) (by omega) (by omega) (w4.heap.size + 1) (by simp) ?_; intro gg cap w5 hown5 hgrow hat hlt; have hfz5 : w5.frozen? ⟨pb, 0, none⟩ = false := (hgrow.frozen_far ⟨pb, 0, none⟩ (by simp; omega) hnb').trans (hfz _); have hcz5 : w5.cell? ⟨pb, 0, none⟩ = some (.slice na ds.length ncap) := (hgrow.cell_far ⟨pb, 0, none⟩ (by simp; omega) hnb').trans (hcz _);
            have t5 : Turn (Blks (.slice na ds.length ncap)) w4 w5 := ((((Kept.refl w4).alloc (.cells #[.int .i64 op, .int .i64 nn, .string (strB s), .slice a3 l.length cap3] 65)).drew).turn _).trans ((Grown.turn hgrow).mono fun b hb => hb.symm) (fun x hx => .inl hx)))
        all_goals
          have o6 : Ownv 0 65 4 (w5.setCell ⟨pb, 0, none⟩ (.slice (some ⟨gg, 0, none⟩) (ds.length + 1) cap)) (.slice (some ⟨gg, 0, none⟩) (ds.length + 1) cap) (ds.length + 1) (flat ds lvs ++ [.int .i64 op, .int .i64 nn, .string (strB s), .slice a3 l.length cap3]) :=
            Ownv.setCell hown5 (Ownv.notBlk hown5 (hgb.turn t5 hnb) (by decide)) _
          have g6 : Blk (w5.setCell ⟨pb, 0, none⟩ (.slice (some ⟨gg, 0, none⟩) (ds.length + 1) cap)) pb 78 [.slice (some ⟨gg, 0, none⟩) (ds.length + 1) cap, .map (some mb)] := (hgb.turn t5 hnb).set 0 _
          have t6 : Turn (fun b => Blks (.slice na ds.length ncap) b ∨ b = pb) w4 (w5.setCell ⟨pb, 0, none⟩ (.slice (some ⟨gg, 0, none⟩) (ds.length + 1) cap)) :=
            (t5.mono fun b hb => .inl hb).trans (turn_setCell w5 _ _) (fun x hx => .inl (.inr hx))
          have m6 := ownsMap_turn (ownsMap_kept h6 kw4) t6 (fun hb => hb.elim (ownsMap_notBlk (ownsMap_kept h6 kw4) hn4) (fun e => ownsMap_notBlk' (ownsMap_kept h6 kw4) hgb e.symm))
          have a6 := o4.turn t6 (fun b hb hc => hc.elim (Ownv.apart o4 hn4 (by decide) hb) (fun e => Ownv.notBlk o4 hgb (by decide) (e ▸ hb)))
          generalize w5.setCell ⟨pb, 0, none⟩ (.slice (some ⟨gg, 0, none⟩) (ds.length + 1) cap) = w6 at o6 g6 t6 m6 a6 ⊢
          have z0 := g6.cell 0
          have z1 := g6.cell 1
          simp only [List.getElem?_cons_succ, List.getElem?_cons_zero] at z0 z1
          have hlaw : Keyed Tryd.prog 9 := string_keyed Tryd.underlying9
          go_wp2_with fail
          go_still_tail 11, (by kernel_rfl)
          change wpList _ _ _ _ _ w6.drew
          have kd : Kept w6 w6.drew := (Kept.refl _).drew
          have o7 := Ownv.kept o6 kd
          have g7 := g6.kept kd
          have t7 := t6.kept kd
          have m7 := ownsMap_kept m6 kd
          have a7 := Ownv.kept a6 kd
          clear o6 g6 t6 m6 a6 kd z0 z1
          generalize w6.drew = w7 at o7 g7 t7 m7 a7 ⊢
          have z0 := g7.cell 0
          have z1 := g7.cell 1
          simp only [List.getElem?_cons_succ, List.getElem?_cons_zero] at z0 z1
          have hsub : (((ds.length + 1 : Nat) : Int) - 1) = (ds.length : Int) := by omega
          have hw : IntKind.i64.wrap (ds.length : Int) = (ds.length : Int) := by exact IntWalk.i64_in _ (by omega)
          have hpe : plainElem Tryd.prog 3 (.int .i64 (IntKind.i64.wrap (ds.length : Int))) = some ((.lit (.int .i64 ds.length) : DataW Unit), []) := by rw [hw]; exact plainElem_int Tryd.underlying3 (WalkArith.wf_i64 (by omega))
          have HPE := Shut.mk hpe
          have HW := Shut.mk hw
          have HSUB := Shut.mk hsub
          clear hpe hw hsub
          go_wp2_with (at_mapUpdate; refine wpList_mapUpdate_own _ rfl _ _ _ 76 rfl 9 3 hlaw Tryd.underlying76 (plainElem Tryd.prog 3) mb n D rfl m7 (by unfold maxLen; omega) _ _ (.string (keyR ⟨op, nn, s, l⟩)) rfl rfl HKEY.out (.lit (.int .i64 ds.length)) [] (by first | exact HPE.out | exact plainElem_int Tryd.underlying3 (WalkArith.wf_i64 (by omega))) ?_; intro w8 own8 hg8; have t8 : Turn (fun b => b = mb) w7 w8 := ((Grown.turn hg8).mono fun b hb => by simpa using hb); have g8 := g7.turn t8 (ownsMap_notBlk' m7 g7); have z8 := g8.cell 0; simp only [List.getElem?_cons_zero] at z8)
          go_ret2
          obtain ⟨F', r1, r2, r3⟩ := arg_grow HH.out.good (Nat.lt_of_not_le HB.out) HH.out.oks hok HM.out HX2.out HI.out (by decide) h2 h3 h4 h5 h6 h7 h8 h9 h10 h11 h12 HH.out.lt kw4 t7 g7 (by unfold ndCells; exact o7) (fun b hb => by
            obtain rfl : gg = b := by simpa [Blks, Value.ownBlock] using hb
            rcases hat with c | c
            · exact .inl c
            · have := kw4.size
              exact .inr (by omega)) a7 hlv own8 m7 t8
          rw [mk_new HM.out HX2.out HB.out]
          exact ⟨F', by first | rfl | (simp only [HSUB.out]) | (simp only [HW.out]), r1, r2, r3⟩
    · have HX3 := Shut.mk hx3
      clear hx3
      go_wp2_with (at_lookup; refine wpList_lookup_own_ok_int _ rfl _ _ 76 rfl 9 3 .i64 hlaw Tryd.underlying76 Tryd.underlying3 (zeroInt _) mb n D rfl m2 _ _ rfl HKEY.out ?_; intro c hat hwc; rw [hx1])
      rw [hx2] at hat
      simp only [DataW.lit.injEq, Lit.int.injEq, true_and] at hat
      go_ret2
      rw [mk_old HM.out HX3.out]
      exact ⟨F, by rw [← hat]; rfl, ArG.kept HH.out k02, k02.turn F, fun b hb => .inl hb⟩
end Go.Proofs.YtdjfdobcjakmhaaDoor
end

section
/- The document's arena, told as the program's is (At): Make. -/
set_option linter.unusedSimpArgs false
set_option linter.unusedVariables false
namespace Go.Proofs.YtdjfdobcjakmhaaDoor
open Go.RowKit Go.Maps

/-- Since w0 nothing of it has turned; p is the document's arena with the terms ds, apart from S. -/
structure AtR (w0 : World) (S : Nat → Prop) (w : World) (p : Value) (ds : List Nd) : Prop where
  ar : ∃ F, ArR F w p ds ∧ ∀ b, F b → ¬ S b
  old : ∀ b, S b → b < w.heap.size
  base : ∀ b, b < w0.heap.size → S b
  kept : Kept w0 w
theorem AtR.good {w0 : World} {S : Nat → Prop} {w : World} {p : Value} {ds : List Nd} (h : AtR w0 S w p ds) : Good ds := by
  obtain ⟨F, h1, _⟩ := h.ar
  exact h1.good
theorem AtR.few {w0 : World} {S : Nat → Prop} {w : World} {p : Value} {ds : List Nd} (h : AtR w0 S w p ds) : ds.length ≤ 100000 := by
  obtain ⟨F, h1, _⟩ := h.ar
  exact h1.few
theorem AtR.step {w0 : World} {S : Nat → Prop} {w w' : World} {p : Value} {ds : List Nd} (h : AtR w0 S w p ds) (k : Kept w w') : AtR w0 S w' p ds := by
  obtain ⟨F, h1, h2⟩ := h.ar
  exact ⟨⟨F, ArG.kept h1 k, h2⟩, fun b hb => Nat.lt_of_lt_of_le (h.old b hb) k.size, h.base, h.kept.trans k⟩
theorem AtR.more {w0 : World} {S T : Nat → Prop} {w w' : World} {p : Value} {ds : List Nd} (h : AtR w0 S w p ds) (k : Kept w w') (hT : ∀ b, T b → (S b ∨ w.heap.size ≤ b) ∧ b < w'.heap.size) (hb : ∀ b, b < w0.heap.size → T b) : AtR w0 T w' p ds := by
  obtain ⟨F, h1, h2⟩ := h.ar
  refine ⟨⟨F, ArG.kept h1 k, fun b hF hTb => ?_⟩, fun b hTb => (hT b hTb).2, hb, h.kept.trans k⟩
  rcases (hT b hTb).1 with c | c
  · exact h2 b hF c
  · exact absurd (h1.lt b hF) (by omega)
theorem AtR.back {w0 : World} {S T : Nat → Prop} {w : World} {p : Value} {ds : List Nd} (h : AtR w0 T w p ds) (hs : ∀ b, S b → T b) (hb : ∀ b, b < w0.heap.size → S b) : AtR w0 S w p ds :=
  h.more (Kept.refl w) (fun b hb => ⟨.inl (hs b hb), h.old b (hs b hb)⟩) hb
theorem AtR.turn {w0 : World} {S G : Nat → Prop} {w w' : World} {p : Value} {ds : List Nd} (h : AtR w0 S w p ds) (k : Turn G w w') (hG : ∀ b, G b → S b ∧ w0.heap.size ≤ b) : AtR w0 S w' p ds := by
  obtain ⟨F, h1, h2⟩ := h.ar
  exact ⟨⟨F, ArG.turn h1 k (fun b hF hg => h2 b hF (hG b hg).1), h2⟩, fun b hb => Nat.lt_of_lt_of_le (h.old b hb) k.size, h.base, Turn.keptOf h.kept k (fun b hb => (hG b hb).2)⟩
/-- What a call answers that makes a term. -/
def MkPostR (w0 : World) (S : Nat → Prop) (w : World) (p : Value) (r : List Nd × Int × Int) (e : Ending) (w' : World) : Prop :=
  e = .returned (.tuple #[.int .i64 r.2.1, .int .i64 r.2.2]) ∧ AtR w0 S w' p r.1 ∧ Keep S w w'
theorem postR_of {w0 : World} {S F F' : Nat → Prop} {w w' : World} {p : Value} {ds es : List Nd} (h : AtR w0 S w p ds) (hF : ∀ b, F b → ¬ S b) (r1 : ArR F' w' p es) (r2 : Turn F w w') (r3 : ∀ b, F' b → F b ∨ w.heap.size ≤ b) :
    AtR w0 S w' p es ∧ Keep S w w' := by
  have hk : Keep S w w' := r2.mono fun b hb => hF b hb
  refine ⟨⟨⟨F', r1, fun b hb hs => ?_⟩, fun b hb => Nat.lt_of_lt_of_le (h.old b hb) r2.size, h.base, hk.of h.kept h.base⟩, hk⟩
  rcases r3 b hb with c | c
  · exact hF b c hs
  · exact absurd (h.old b hs) (by omega)
theorem makeAR {w0 : World} {S : Nat → Prop} {w : World} {p : Value} {ds : List Nd} (h : AtR w0 S w p ds) {v : Value} {d : Nd} (hd : RdN w v d) (hok : NdOk d) :
    Calls Tryd.prog 48 #[p, v] w (MkPostR w0 S w p (mk ds d)) := by
  obtain ⟨F, h1, h2⟩ := h.ar
  refine (makeR_any h1 hd hok).mono ?_
  rintro e w' ⟨F', rfl, r1, r2, r3⟩
  exact ⟨rfl, postR_of h h2 r1 r2 r3⟩
end Go.Proofs.YtdjfdobcjakmhaaDoor
end

section
/- What a term is, without numbers: a tree; plain facts. Nothing here names a program. -/
set_option linter.unusedSimpArgs false
set_option linter.unusedVariables false
namespace Go.Proofs.YtdjfdobcjakmhaaDoor
open Go

/-- A term as a tree. -/
inductive Tr where
  | mk (op n : Int) (s : List UInt8) (l : List Tr)
def tr0 : Tr := .mk 0 0 [] []
/-- The tree of a node, where f tells its parts'. -/
def trN (f : Int → Tr) (d : Nd) : Tr := .mk d.op d.n d.s (d.l.map f)
def stepD (acc : List Tr) (d : Nd) : List Tr := acc ++ [trN (fun x => acc.getD x.toNat tr0) d]
def dens (ds : List Nd) : List Tr := ds.foldl stepD []
/-- The tree of a term. -/
def den (ds : List Nd) (t : Int) : Tr := (dens ds).getD t.toNat tr0

theorem dens_pre (ds : List Nd) : ∀ acc : List Tr, ∃ r, ds.foldl stepD acc = acc ++ r ∧ r.length = ds.length := by
  induction ds with
  | nil => exact fun acc => ⟨[], by simp, rfl⟩
  | cons d ds ih =>
    intro acc
    obtain ⟨r, h1, h2⟩ := ih (stepD acc d)
    refine ⟨trN (fun x => acc.getD x.toNat tr0) d :: r, ?_, by simp [h2]⟩
    rw [List.foldl_cons, h1]
    simp [stepD]
theorem dens_append (a b : List Nd) : ∃ r, dens (a ++ b) = dens a ++ r ∧ r.length = b.length := by
  unfold dens
  rw [List.foldl_append]
  exact dens_pre b _
theorem dens_length (ds : List Nd) : (dens ds).length = ds.length := by
  obtain ⟨r, h1, h2⟩ := dens_pre ds []
  unfold dens
  rw [h1]
  simpa using h2
theorem den_more' {ds : List Nd} (es : List Nd) {t : Int} (h : t.toNat < ds.length) : den (ds ++ es) t = den ds t := by
  obtain ⟨r, h1, _⟩ := dens_append ds es
  unfold den
  rw [h1]
  simp only [List.getD_eq_getElem?_getD]
  rw [List.getElem?_append_left (by rw [dens_length]; exact h)]
theorem den_more {ds : List Nd} {t : Int} (h : IsT ds t) (es : List Nd) : den (ds ++ es) t = den ds t := den_more' es (by have := h.1; have := h.2; omega)
theorem trN_congr {f g : Int → Tr} {d : Nd} (h : ∀ x ∈ d.l, f x = g x) : trN f d = trN g d := by
  unfold trN
  rw [List.map_congr_left h]
theorem den_eq {ds : List Nd} (hg : Good ds) {t : Int} (h0 : 0 ≤ t) (h1 : t < ds.length) : den ds t = trN (den ds) (ds.getD t.toNat nd0) := by
  obtain ⟨i, rfl⟩ := Int.eq_ofNat_of_zero_le h0
  have hi : i < ds.length := by omega
  simp only [Int.toNat_natCast]
  have hsplit : ds = ds.take i ++ (ds.getD i nd0 :: ds.drop (i + 1)) := by
    rw [List.getD_eq_getElem?_getD, List.getElem?_eq_getElem hi, Option.getD_some, List.getElem_cons_drop hi, List.take_append_drop]
  have htl : (ds.take i).length = i := by rw [List.length_take]; omega
  have key1 : den ds (i : Int) = trN (fun x => (dens (ds.take i)).getD x.toNat tr0) (ds.getD i nd0) := by
    have e : dens ds = (ds.drop (i + 1)).foldl stepD (stepD (dens (ds.take i)) (ds.getD i nd0)) := by
      conv => lhs; rw [hsplit]
      unfold dens
      rw [List.foldl_append, List.foldl_cons]
    obtain ⟨r, h2, _⟩ := dens_pre (ds.drop (i + 1)) (stepD (dens (ds.take i)) (ds.getD i nd0))
    unfold den
    rw [e, h2]
    simp only [Int.toNat_natCast, stepD, List.append_assoc, List.getD_eq_getElem?_getD]
    rw [List.getElem?_append_right (by rw [dens_length, htl]; omega), dens_length, htl]
    simp
  rw [key1]
  refine trN_congr fun x hx => ?_
  obtain ⟨x0, x1⟩ := hg.lesser hi x hx
  have : den (ds.take i ++ ds.drop i) x = den (ds.take i) x := den_more' _ (by rw [htl]; omega)
  rw [List.take_append_drop] at this
  rw [this]
  rfl
theorem den_is {ds : List Nd} (hg : Good ds) {t : Int} {d : Nd} (h : Is ds t d) : den ds t = trN (den ds) d := by
  rw [den_eq hg h.lo h.hi, h.eq]
/-- Terms that are the same trees have one number. -/
theorem den_inj {ds : List Nd} (hg : Good ds) : ∀ (n : Nat) (t u : Int), t.toNat < n → IsT ds t → IsT ds u → den ds t = den ds u → t = u := by
  intro n
  induction n with
  | zero => intro t u h; omega
  | succ n ih =>
    intro t u hn ht hu he
    have it : Is ds t (ds.getD t.toNat nd0) := ⟨ht.1, ht.2, rfl⟩
    have iu : Is ds u (ds.getD u.toNat nd0) := ⟨hu.1, hu.2, rfl⟩
    rw [den_is hg it, den_is hg iu] at he
    have lt := it.less hg
    have mt := hg.lesser (i := t.toNat) (by have := ht.1; have := ht.2; omega)
    have mu := hg.lesser (i := u.toNat) (by have := hu.1; have := hu.2; omega)
    generalize ds.getD t.toNat nd0 = d at *
    generalize ds.getD u.toNat nd0 = e at *
    unfold trN at he
    injection he with h1 h2 h3 h4
    have hl : d.l = e.l := by
      refine List.ext_getElem (by simpa using congrArg List.length h4) fun i a b => ?_
      have h5 : den ds d.l[i] = den ds e.l[i] := by
        have := congrArg (·[i]?) h4
        simpa [a, b] using this
      have m1 := mt d.l[i] (List.getElem_mem a)
      have m2 := mu e.l[i] (List.getElem_mem b)
      have l1 := lt d.l[i] (List.getElem_mem a)
      refine ih _ _ (by have := ht.1; omega) ⟨m1.1, by have := ht.2; omega⟩ ⟨m2.1, by have := hu.1; have := hu.2; omega⟩ h5
    have hde : d = e := nd_ext h1 h2 h3 hl
    subst hde
    exact it.same hg iu
theorem den_iff {ds : List Nd} (hg : Good ds) {t u : Int} (ht : IsT ds t) (hu : IsT ds u) : den ds t = den ds u ↔ t = u :=
  ⟨den_inj hg _ t u (Nat.lt_succ_self _) ht hu, fun e => by rw [e]⟩

/-! ## the trees of layer 9 -/
def textT (s : List UInt8) : Tr := .mk 2 0 s []
def listT (l : List Tr) : Tr := .mk 3 0 [] l
def hashT (x : Tr) : Tr := .mk 4 0 [] [x]
def hashLT (l : List Tr) : Tr := hashT (listT l)
def numT (i : Int) : Tr := textT (Lib.itoa i)
def noneT : Tr := textT []
theorem is_text {ds : List Nd} (hg : Good ds) {t : Int} {s : List UInt8} (h : Is ds t ⟨2, 0, s, []⟩) : den ds t = textT s := den_is hg h
theorem is_list {ds : List Nd} (hg : Good ds) {t : Int} {l : List Int} (h : Is ds t ⟨3, 0, [], l⟩) : den ds t = listT (l.map (den ds)) := den_is hg h
theorem is_hash {ds : List Nd} (hg : Good ds) {t x : Int} (h : Is ds t ⟨4, 0, [], [x]⟩) : den ds t = hashT (den ds x) := den_is hg h
/-- t is a term that is the tree T. -/
def Den (T : Tr) (ds : List Nd) (t : Int) : Prop := IsT ds t ∧ den ds t = T
theorem Den.more {T : Tr} {ds : List Nd} {t : Int} (h : Den T ds t) (r : List Nd) : Den T (ds ++ r) t := ⟨h.1.more r, by rw [den_more h.1]; exact h.2⟩
theorem Den.same {T : Tr} {ds : List Nd} (hg : Good ds) {t u : Int} (h : Den T ds t) (k : Den T ds u) : t = u := (den_iff hg h.1 k.1).1 (h.2.trans k.2.symm)
/-- Terms, each the tree it is to be. -/
def DenL (L : List Tr) (ds : List Nd) (l : List Int) : Prop := (∀ x ∈ l, IsT ds x) ∧ l.map (den ds) = L
theorem DenL.nil (ds : List Nd) : DenL [] ds [] := ⟨fun x h => absurd h List.not_mem_nil, rfl⟩
theorem DenL.more {L : List Tr} {ds : List Nd} {l : List Int} (h : DenL L ds l) (r : List Nd) : DenL L (ds ++ r) l :=
  ⟨fun x hx => (h.1 x hx).more r, by rw [← h.2]; exact List.map_congr_left fun x hx => den_more (h.1 x hx) r⟩
theorem DenL.cons {T : Tr} {L : List Tr} {ds : List Nd} {t : Int} {l : List Int} (h : Den T ds t) (k : DenL L ds l) : DenL (T :: L) ds (t :: l) :=
  ⟨fun x hx => (List.mem_cons.1 hx).elim (fun e => e ▸ h.1) (k.1 x), by rw [List.map_cons, h.2, k.2]⟩
theorem DenL.snoc {T : Tr} {L : List Tr} {ds : List Nd} {t : Int} {l : List Int} (k : DenL L ds l) (h : Den T ds t) : DenL (L ++ [T]) ds (l ++ [t]) :=
  ⟨fun x hx => (List.mem_append.1 hx).elim (k.1 x) (fun e => by rw [List.mem_singleton.1 e]; exact h.1), by rw [List.map_append, k.2, List.map_singleton, h.2]⟩
theorem den_list {L : List Tr} {ds : List Nd} (hg : Good ds) {t : Int} {l : List Int} (h : Is ds t ⟨3, 0, [], l⟩) (k : DenL L ds l) : Den (listT L) ds t := ⟨h.isT, by rw [is_list hg h, k.2]⟩
theorem den_text {ds : List Nd} (hg : Good ds) {t : Int} {s : List UInt8} (h : Is ds t ⟨2, 0, s, []⟩) : Den (textT s) ds t := ⟨h.isT, is_text hg h⟩
/-! ## the trees of layers 4 and 11 -/
def atomT (n : Int) : Tr := .mk 1 n [] []
def mixT (a b : Tr) : Tr := .mk 5 0 [] [a, b]
def macT (a b : Tr) : Tr := .mk 11 0 [] [a, b]
def pubT (s : Tr) : Tr := .mk 7 0 [] [s]
/-- A secret that is expanded. -/
def keyT (s : Tr) (x : List UInt8) (c : Tr) : Tr := .mk 6 0 [] [s, textT x, c]
/-- A secret that is derived. -/
def derT (s : Tr) (x : List UInt8) : Tr := keyT s x (listT [])
theorem den_key {es : List Nd} (hg : Good es) {s t c k : Int} {S C : Tr} {x : List UInt8} (h : Is es k ⟨6, 0, [], [s, t, c]⟩) (hs : Den S es s) (ht : Is es t ⟨2, 0, x, []⟩) (hc : Den C es c) : Den (keyT S x C) es k := by
  refine ⟨h.isT, ?_⟩
  rw [den_is hg h]
  unfold trN keyT
  simp only [List.map_cons, List.map_nil, hs.2, is_text hg ht, hc.2]
theorem den_mix {es : List Nd} (hg : Good es) {a b k : Int} {A B : Tr} (h : Is es k ⟨5, 0, [], [a, b]⟩) (ha : Den A es a) (hb : Den B es b) : Den (mixT A B) es k := by
  refine ⟨h.isT, ?_⟩
  rw [den_is hg h]
  unfold trN mixT
  simp only [List.map_cons, List.map_nil, ha.2, hb.2]
theorem den_mac {es : List Nd} (hg : Good es) {a b k : Int} {A B : Tr} (h : Is es k ⟨11, 0, [], [a, b]⟩) (ha : Den A es a) (hb : Den B es b) : Den (macT A B) es k := by
  refine ⟨h.isT, ?_⟩
  rw [den_is hg h]
  unfold trN macT
  simp only [List.map_cons, List.map_nil, ha.2, hb.2]
theorem den_hash {es : List Nd} (hg : Good es) {a k : Int} {A : Tr} (h : Is es k ⟨4, 0, [], [a]⟩) (ha : Den A es a) : Den (hashT A) es k := by
  refine ⟨h.isT, ?_⟩
  rw [is_hash hg h, ha.2]
theorem den_pub {es : List Nd} (hg : Good es) {a k : Int} {A : Tr} (h : Is es k ⟨7, 0, [], [a]⟩) (ha : Den A es a) : Den (pubT A) es k := by
  refine ⟨h.isT, ?_⟩
  rw [den_is hg h]
  unfold trN pubT
  simp only [List.map_cons, List.map_nil, ha.2]
theorem DenL.same {L : List Tr} {ds : List Nd} (hg : Good ds) {l m : List Int} (h : DenL L ds l) (k : DenL L ds m) : l = m := by
  have he : l.map (den ds) = m.map (den ds) := h.2.trans k.2.symm
  refine List.ext_getElem (by simpa using congrArg List.length he) fun i a b => ?_
  have h5 : den ds l[i] = den ds m[i] := by
    have := congrArg (·[i]?) he
    simpa [a, b] using this
  exact (den_iff hg (h.1 _ (List.getElem_mem a)) (k.1 _ (List.getElem_mem b))).1 h5
theorem den_self {ds : List Nd} {t : Int} (h : IsT ds t) : Den (den ds t) ds t := ⟨h, rfl⟩
theorem denL_self {ds : List Nd} {l : List Int} (h : ∀ x ∈ l, IsT ds x) : DenL (l.map (den ds)) ds l := ⟨h, rfl⟩
theorem den_inv {ds : List Nd} (hg : Good ds) {t op n : Int} {s : List UInt8} {L : List Tr} (h : Den (.mk op n s L) ds t) : ∃ l, Is ds t ⟨op, n, s, l⟩ ∧ DenL L ds l := by
  have hi : Is ds t (ds.getD t.toNat nd0) := ⟨h.1.1, h.1.2, rfl⟩
  have he := (den_is hg hi).symm.trans h.2
  unfold trN at he
  injection he with h1 h2 h3 h4
  refine ⟨(ds.getD t.toNat nd0).l, ⟨h.1.1, h.1.2, ?_⟩, ?_, h4⟩
  · exact nd_ext h1 h2 h3 rfl
  · have hl := hg.lesser (i := t.toNat) (by have := h.1.1; have := h.1.2; omega)
    exact fun x hx => ⟨(hl x hx).1, by have := (hl x hx).2; have := h.1.1; have := h.1.2; omega⟩
theorem DenL.cons_inv {T : Tr} {L : List Tr} {ds : List Nd} {l : List Int} (h : DenL (T :: L) ds l) : ∃ t m, l = t :: m ∧ Den T ds t ∧ DenL L ds m := by
  obtain ⟨h1, h2⟩ := h
  cases l with
  | nil => cases h2
  | cons t m =>
    rw [List.map_cons] at h2
    injection h2 with h3 h4
    exact ⟨t, m, rfl, ⟨h1 t List.mem_cons_self, h3⟩, fun x hx => h1 x (List.mem_cons_of_mem _ hx), h4⟩
theorem DenL.nil_inv {ds : List Nd} {l : List Int} (h : DenL [] ds l) : l = [] := List.map_eq_nil_iff.1 h.2
end Go.Proofs.YtdjfdobcjakmhaaDoor
end

section
/- The document's terms and keys (layers 3 and 4), as trees: Of, List, Text, bad, Expand, Derive. -/
set_option linter.unusedSimpArgs false
set_option linter.unusedVariables false
namespace Go.Proofs.YtdjfdobcjakmhaaDoor
open Go.RowKit Go.Maps

/-- What a call leaves that makes terms, no more than n, and of the one it answers Q. -/
def RMk (w0 : World) (S : Nat → Prop) (w : World) (p : Value) (ds : List Nd) (n : Nat) (Q : List Nd → Int → Prop) (e : Ending) (w' : World) : Prop :=
  ∃ (r : List Nd) (t : Int), e = .returned (.tuple #[.int .i64 t, .int .i64 0]) ∧ AtR w0 S w' p (ds ++ r) ∧ r.length ≤ n ∧ Q (ds ++ r) t ∧ Keep S w w'
set_option maxHeartbeats 4000000 in
set_option maxRecDepth 100000 in
theorem ofR_ok {w0 : World} {S : Nat → Prop} {w : World} {p v : Value} {ds : List Nd} {op : Int} {l : List Int} (h : AtR w0 S w p ds) (hr : RdI w v l) (hm : May ds ⟨op, 0, [], l⟩) (hl : ds.length < 100000) :
    Calls Tryd.prog 43 #[p, .int .i64 op, v] w (RMk w0 S w p ds 1 (fun es t => Is es t ⟨op, 0, [], l⟩)) := by
  have h1 := hm.op1
  have h12 := hm.op12
  have hall := hm.all
  simp only at h1 h12 hall
  obtain ⟨r, t, hmk, hr1, his⟩ := mk_is hm hl
  have HM := Lib.hid (makeAR h (v := .agg #[.int .i64 op, .int .i64 0, .string (strB []), v]) (d := ⟨op, 0, [], l⟩) ⟨_, rfl, hr⟩ ⟨⟨by simp only; omega, by simp only; omega⟩, ⟨by simp, by simp⟩, by simp, fun x hx => ⟨by have := hall x hx; omega, by have := hall x hx; omega⟩⟩)
  rw [hmk, show strB [] = ⟨#[]⟩ from rfl] at HM
  have HI := Lib.hid his
  have HR := Shut.mk hr1
  obtain ⟨va, vc, rfl, _, _, _⟩ := hr.len
  obtain ⟨F0, hF0, _⟩ := h.ar
  obtain ⟨qb, qm, nv, rfl, _, _, _⟩ := ArG.nodes hF0
  clear hmk his h hr hm hr1 hF0 hall
  go_enter Tryd.func43, Tryd.ntmps43
  go_wp2_with fail
  (with_reducible refine HM.out.mono ?_); rintro e w2 ⟨rfl, a2, t2⟩
  go_wp2
  go_ret2
  exact ⟨r, t, rfl, a2, HR.out, HI.out, t2⟩
set_option maxHeartbeats 4000000 in
set_option maxRecDepth 100000 in
theorem textAR_ok {w0 : World} {S : Nat → Prop} {w : World} {p : Value} {ds : List Nd} (h : AtR w0 S w p ds) (s : List UInt8) (hs : s.length ≤ 200) (hl : ds.length < 100000) :
    Calls Tryd.prog 22 #[p, .string (strB s)] w (RMk w0 S w p ds 1 (fun es t => Is es t ⟨2, 0, s, []⟩)) := by
  obtain ⟨r, t, hmk, hr1, his⟩ := mk_is (may_text ds hs) hl
  have HM := Lib.hid (makeAR h (v := .agg #[.int .i64 2, .int .i64 0, .string (strB s), .slice none 0 0]) (d := ⟨2, 0, s, []⟩) ⟨_, rfl, RdI.nil _⟩ ⟨⟨by simp, by simp⟩, ⟨by simp, by simp⟩, by unfold maxLen; simp; omega, fun x hx => by cases hx⟩)
  rw [hmk] at HM
  have HI := Lib.hid his
  have HR := Shut.mk hr1
  obtain ⟨F0, hF0, _⟩ := h.ar
  obtain ⟨qb, qm, nv, rfl, _, _, _⟩ := ArG.nodes hF0
  clear hmk his h hr1 hF0
  generalize strB s = X at HM ⊢
  go_enter Tryd.func22, Tryd.ntmps22
  go_wp2_with fail
  (with_reducible refine HM.out.mono ?_); rintro e w2 ⟨rfl, a2, t2⟩
  go_wp2
  go_ret2
  exact ⟨r, t, rfl, a2, HR.out, HI.out, t2⟩
set_option maxHeartbeats 4000000 in
set_option maxRecDepth 100000 in
theorem listAR_ok {w0 : World} {S : Nat → Prop} {w : World} {p v : Value} {ds : List Nd} {l : List Int} (h : AtR w0 S w p ds) (hr : RdI w v l) (h64 : l.length ≤ 64) (hi : ∀ x ∈ l, IsT ds x) (hl : ds.length < 100000) :
    Calls Tryd.prog 25 #[p, v] w (RMk w0 S w p ds 1 (fun es t => Is es t ⟨3, 0, [], l⟩)) := by
  have HM := Lib.hid (ofR_ok h hr (may_list ds h64 hi) hl)
  obtain ⟨va, vc, rfl, _, _, _⟩ := hr.len
  obtain ⟨F0, hF0, _⟩ := h.ar
  obtain ⟨qb, qm, nv, rfl, _, _, _⟩ := ArG.nodes hF0
  clear h hr hF0 hi
  go_enter Tryd.func25, Tryd.ntmps25
  go_wp2_with fail
  (with_reducible refine HM.out.mono ?_); rintro e w2 ⟨r, t, rfl, a2, hr1, hQ, t2⟩
  go_wp2
  go_ret2
  exact ⟨r, t, rfl, a2, hr1, hQ, t2⟩
end Go.Proofs.YtdjfdobcjakmhaaDoor
end

section
/- The document's Expand, Derive, as trees. -/
set_option linter.unusedSimpArgs false
set_option linter.unusedVariables false
namespace Go.Proofs.YtdjfdobcjakmhaaDoor
open Go.RowKit Go.Maps

theorem RdI.lit2' (w : World) (a b : Int) : RdI (w.alloc (.cells #[.int .i64 a, .int .i64 b] 3)) (.slice (some ⟨w.heap.size, 0, none⟩) 2 2) [a, b] :=
  OwnI.rd (show OwnI w.heap.size _ _ [a, b] from Ownv.lit (B := w.heap.size) 3 (w := w) [.int .i64 a, .int .i64 b] (Nat.le_refl _) (by unfold maxLen; simp))
end Go.Proofs.YtdjfdobcjakmhaaDoor
end

section
/- Package crypto: made, terms. -/
set_option linter.unusedSimpArgs false
set_option linter.unusedVariables false
namespace Go.Proofs.YtdjfdobcjakmhaaDoor
open Go.RowKit Go.Maps

/-! ## made -/
set_option maxHeartbeats 4000000 in
set_option maxRecDepth 100000 in
theorem madeA {w0 : World} {S : Nat → Prop} {w : World} {p : Value} {ds : List Nd} (h : At w0 S w p ds) {v : Value} {op : Int} {l : List Int} (hd : RdI w v l) (hop : I64 op) (hok : ∀ x ∈ l, I64 x) :
    Calls Tryd.prog 62 #[p, .int .i64 op, v] w (MkPost w0 S w p (made ds op l)) := by
  obtain ⟨la, lc, rfl, l1, l2, l3⟩ := hd.len
  have hmk := makeA h (v := .agg #[.int .i64 op, .int .i64 0, .string ⟨#[]⟩, .slice la l.length lc]) (d := ⟨op, 0, [], l⟩) ⟨_, rfl, hd⟩ ⟨hop, i64_lit (by simp), by simp, hok⟩
  unfold made
  generalize mk ds ⟨op, 0, [], l⟩ = m at hmk ⊢
  go_enter Tryd.func62, Tryd.ntmps62
  go_wp2_with fail
  refine hmk.mono ?_
  rintro e w' ⟨rfl, r1, r2⟩
  go_wp2
  go_ret2
  exact ⟨rfl, r1, r2⟩

/-! ## terms -/
theorem terms_take {ds : List Nd} {l : List Int} (h : ∀ j, j < l.length → IsT ds (l.getD j 0)) : termsB ds l = true :=
  terms_of fun x hx => by
    obtain ⟨j, hj, rfl⟩ := List.getElem_of_mem hx
    have := h j hj
    rwa [List.getD_eq_getElem?_getD, List.getElem?_eq_getElem hj] at this
theorem terms_not {ds : List Nd} {l : List Int} {j : Nat} (hj : j < l.length) (h : ¬ IsT ds (l.getD j 0)) : termsB ds l = false := by
  unfold termsB
  rw [List.all_eq_false]
  refine ⟨l.getD j 0, ?_, by simpa using h⟩
  rw [List.getD_eq_getElem?_getD, List.getElem?_eq_getElem hj]
  exact List.getElem_mem hj

end Go.Proofs.YtdjfdobcjakmhaaDoor
end

section
/- The trees of an epoch's secrets; that others are others. Plain facts; nothing here names a program. -/
set_option linter.unusedSimpArgs false
set_option linter.unusedVariables false
namespace Go.Proofs.YtdjfdobcjakmhaaDoor
open Go

def joinerS : List UInt8 := [106, 111, 105, 110, 101, 114]
def welcomeS : List UInt8 := [119, 101, 108, 99, 111, 109, 101]
def epochS : List UInt8 := [101, 112, 111, 99, 104]
def senderS : List UInt8 := [115, 101, 110, 100, 101, 114]
def encryptionS : List UInt8 := [101, 110, 99, 114, 121, 112, 116, 105, 111, 110]
def exporterS : List UInt8 := [101, 120, 112, 111, 114, 116, 101, 114]
def confirmS : List UInt8 := [99, 111, 110, 102, 105, 114, 109]
def membershipS : List UInt8 := [109, 101, 109, 98, 101, 114, 115, 104, 105, 112]
def resumptionS : List UInt8 := [114, 101, 115, 117, 109, 112, 116, 105, 111, 110]
def externalS : List UInt8 := [101, 120, 116, 101, 114, 110, 97, 108]
def initS : List UInt8 := [105, 110, 105, 116]
def exportedS : List UInt8 := [101, 120, 112, 111, 114, 116, 101, 100]
/-- Several shared secrets in one. -/
def pskT (l : List Tr) : Tr := l.foldl mixT noneT
def joinT (i c x : Tr) : Tr := keyT (mixT i c) joinerS x
def epochT (j p c : Tr) : Tr := keyT (mixT j p) epochS c
/-- The secrets of an epoch, but for External. -/
def innerT (j p c : Tr) : List Tr := [j, derT (mixT j p) welcomeS, epochT j p c, derT (epochT j p c) senderS, derT (epochT j p c) encryptionS, derT (epochT j p c) exporterS, derT (epochT j p c) confirmS, derT (epochT j p c) membershipS, derT (epochT j p c) resumptionS, derT (epochT j p c) initS]
def externT (j p c : Tr) : Tr := pubT (derT (epochT j p c) externalS)
/-- An epoch. -/
structure Ep where
  joiner : Int
  welcome : Int
  epoch : Int
  sender : Int
  encryption : Int
  exporter : Int
  confirm : Int
  membership : Int
  resumption : Int
  external : Int
  init : Int
def Ep.inner (x : Ep) : List Int := [x.joiner, x.welcome, x.epoch, x.sender, x.encryption, x.exporter, x.confirm, x.membership, x.resumption, x.init]
def ep0 : Ep := ⟨0, 0, 0, 0, 0, 0, 0, 0, 0, 0, 0⟩
theorem ep_ext {x y : Ep} (h : x.inner = y.inner) (k : x.external = y.external) : x = y := by
  cases x; cases y
  simp only [Ep.inner, List.cons.injEq, and_true] at h
  simp only at k
  obtain ⟨rfl, rfl, rfl, rfl, rfl, rfl, rfl, rfl, rfl, rfl⟩ := h
  subst k
  rfl
/-- The epoch that follows of a joiner secret, a shared one, a context. -/
def EpD (j p c : Tr) (ds : List Nd) (x : Ep) : Prop := DenL (innerT j p c) ds x.inner ∧ Den (externT j p c) ds x.external
theorem EpD.more {j p c : Tr} {ds : List Nd} {x : Ep} (h : EpD j p c ds x) (r : List Nd) : EpD j p c (ds ++ r) x := ⟨h.1.more r, h.2.more r⟩
theorem EpD.same {j p c : Tr} {ds : List Nd} (hg : Good ds) {x y : Ep} (h : EpD j p c ds x) (k : EpD j p c ds y) : x = y := ep_ext (h.1.same hg k.1) (h.2.same hg k.2)
theorem EpD.at {j p c : Tr} {ds : List Nd} {x : Ep} (h : EpD j p c ds x) {i : Nat} (hi : i < 10) : Den ((innerT j p c).getD i tr0) ds (x.inner.getD i 0) := by
  have hl : i < x.inner.length := hi
  have e : (x.inner.map (den ds)).getD i tr0 = (innerT j p c).getD i tr0 := by rw [h.1.2]
  rw [List.getD_eq_getElem?_getD, List.getElem?_eq_getElem (by rw [List.length_map]; exact hl), Option.getD_some, List.getElem_map] at e
  have e2 : x.inner.getD i 0 = x.inner[i] := by rw [List.getD_eq_getElem?_getD, List.getElem?_eq_getElem hl]; rfl
  rw [e2]
  exact ⟨h.1.1 _ (List.getElem_mem hl), e⟩
theorem EpD.exporter {j p c : Tr} {ds : List Nd} {x : Ep} (h : EpD j p c ds x) : Den (derT (epochT j p c) exporterS) ds x.exporter := h.at (i := 5) (by decide)

/-! ## others are others -/
theorem mixT_inj {a b c d : Tr} (h : mixT a b = mixT c d) : a = c ∧ b = d := by
  unfold mixT at h
  injection h with _ _ _ h
  injection h with h1 h
  injection h with h2 _
  exact ⟨h1, h2⟩
theorem keyT_inj {a b c d : Tr} {x y : List UInt8} (h : keyT a x b = keyT c y d) : a = c ∧ x = y ∧ b = d := by
  unfold keyT textT at h
  injection h with _ _ _ h
  injection h with h1 h
  injection h with h2 h
  injection h with h3 _
  injection h2 with _ _ h2 _
  exact ⟨h1, h2, h3⟩
theorem pskT_snoc (l : List Tr) (x : Tr) : pskT (l ++ [x]) = mixT (pskT l) x := by
  unfold pskT
  rw [List.foldl_append]
  rfl
theorem pskT_nil : pskT [] = noneT := rfl
theorem pskT_inj : ∀ (n : Nat) (l m : List Tr), l.length ≤ n → pskT l = pskT m → l = m := by
  intro n
  induction n with
  | zero =>
    intro l m hl h
    obtain rfl : l = [] := List.length_eq_zero_iff.1 (by omega)
    rcases List.eq_nil_or_concat m with rfl | ⟨m', y, rfl⟩
    · rfl
    · rw [List.concat_eq_append, pskT_snoc] at h
      unfold pskT noneT textT mixT at h
      simp at h
  | succ n ih =>
    intro l m hl h
    rcases List.eq_nil_or_concat l with rfl | ⟨l', x, rfl⟩
    · rcases List.eq_nil_or_concat m with rfl | ⟨m', y, rfl⟩
      · rfl
      · rw [List.concat_eq_append, pskT_snoc] at h
        unfold pskT noneT textT mixT at h
        simp at h
    · rcases List.eq_nil_or_concat m with rfl | ⟨m', y, rfl⟩
      · rw [List.concat_eq_append, pskT_snoc] at h
        unfold pskT noneT textT mixT at h
        simp at h
      · simp only [List.concat_eq_append] at h hl ⊢
        rw [pskT_snoc, pskT_snoc] at h
        obtain ⟨h1, rfl⟩ := mixT_inj h
        rw [ih l' m' (by rw [List.length_append, List.length_singleton] at hl; omega) h1]
theorem derT_inj {a c : Tr} {x y : List UInt8} (h : derT a x = derT c y) : a = c ∧ x = y := ⟨(keyT_inj h).1, (keyT_inj h).2.1⟩
theorem joinT_iff {i c x i' c' x' : Tr} : joinT i c x = joinT i' c' x' ↔ i = i' ∧ c = c' ∧ x = x' := by
  constructor
  · intro h
    obtain ⟨h1, _, h3⟩ := keyT_inj h
    obtain ⟨h4, h5⟩ := mixT_inj h1
    exact ⟨h4, h5, h3⟩
  · rintro ⟨rfl, rfl, rfl⟩
    rfl
theorem epochT_iff {j p c j' p' c' : Tr} : epochT j p c = epochT j' p' c' ↔ j = j' ∧ p = p' ∧ c = c' := by
  constructor
  · intro h
    obtain ⟨h1, _, h3⟩ := keyT_inj h
    obtain ⟨h4, h5⟩ := mixT_inj h1
    exact ⟨h4, h5, h3⟩
  · rintro ⟨rfl, rfl, rfl⟩
    rfl
theorem derT_iff {a b : Tr} {x : List UInt8} : derT a x = derT b x ↔ a = b := ⟨fun h => (derT_inj h).1, fun h => by rw [h]⟩
theorem mixT_iff {a b c d : Tr} : mixT a b = mixT c d ↔ a = c ∧ b = d := ⟨mixT_inj, fun ⟨h, k⟩ => by rw [h, k]⟩
/-- The secrets behind the joiner one, each at its place: the same, just if all is. -/
theorem inner_iff {j p c j' p' c' : Tr} {i : Nat} (hi : i < 10) : (innerT j p c).getD i tr0 = (innerT j' p' c').getD i tr0 ↔ j = j' ∧ (i = 0 ∨ p = p') ∧ (i = 0 ∨ i = 1 ∨ c = c') := by
  have hc : i = 0 ∨ i = 1 ∨ i = 2 ∨ i = 3 ∨ i = 4 ∨ i = 5 ∨ i = 6 ∨ i = 7 ∨ i = 8 ∨ i = 9 := by omega
  rcases hc with rfl | rfl | rfl | rfl | rfl | rfl | rfl | rfl | rfl | rfl <;>
  simp [innerT, derT_iff, mixT_iff, epochT_iff]
end Go.Proofs.YtdjfdobcjakmhaaDoor
end

section
/- The trees of a transcript; plain facts. Nothing here names a program. -/
set_option linter.unusedSimpArgs false
set_option linter.unusedVariables false
namespace Go.Proofs.YtdjfdobcjakmhaaDoor
open Go

def groupS : List UInt8 := [103, 114, 111, 117, 112]
/-- A message: what it says, its signature, a confirm secret. -/
structure Msg where
  content : Int
  sig : Int
  secret : Int
def msg0 : Msg := ⟨0, 0, 0⟩
def Msg.l (m : Msg) : List Int := [m.content, m.sig, m.secret]
def confT (i c s : Tr) : Tr := hashLT [i, c, s]
def intT (c t : Tr) : Tr := hashLT [c, t]
def ctxT (i n t c e : Tr) : Tr := listT [textT groupS, i, n, t, c, e]
/-- The interim hash behind so many messages; g tells the terms' trees. -/
def stT (g : Int → Tr) (s : Tr) (l : List Msg) : Nat → Tr
  | 0 => s
  | k + 1 => intT (confT (stT g s l k) (g (l.getD k msg0).content) (g (l.getD k msg0).sig)) (macT (g (l.getD k msg0).secret) (confT (stT g s l k) (g (l.getD k msg0).content) (g (l.getD k msg0).sig)))
/-- The confirmed hash at a place. -/
def cfT (g : Int → Tr) (s : Tr) (l : List Msg) (k : Nat) : Tr := confT (stT g s l k) (g (l.getD k msg0).content) (g (l.getD k msg0).sig)
theorem stT_succ (g : Int → Tr) (s : Tr) (l : List Msg) (k : Nat) : stT g s l (k + 1) = intT (cfT g s l k) (macT (g (l.getD k msg0).secret) (cfT g s l k)) := rfl
theorem hashLT_inj {l m : List Tr} (h : hashLT l = hashLT m) : l = m := by
  unfold hashLT hashT listT at h
  injection h with _ _ _ h
  injection h with h _
  injection h with _ _ _ h
theorem macT_inj {a b c d : Tr} (h : macT a b = macT c d) : a = c ∧ b = d := by
  unfold macT at h
  injection h with _ _ _ h
  injection h with h1 h
  injection h with h2 _
  exact ⟨h1, h2⟩
theorem confT_iff {a b c x y z : Tr} : confT a b c = confT x y z ↔ a = x ∧ b = y ∧ c = z := by
  constructor
  · intro h
    have := hashLT_inj h
    simp only [List.cons.injEq, and_true] at this
    exact this
  · rintro ⟨rfl, rfl, rfl⟩; rfl
theorem intT_iff {a b x y : Tr} : intT a b = intT x y ↔ a = x ∧ b = y := by
  constructor
  · intro h
    have := hashLT_inj h
    simp only [List.cons.injEq, and_true] at this
    exact this
  · rintro ⟨rfl, rfl⟩; rfl
theorem macT_iff {a b x y : Tr} : macT a b = macT x y ↔ a = x ∧ b = y := ⟨macT_inj, fun ⟨h, k⟩ => by rw [h, k]⟩
/-- Two chains: the same hash, just if the same ahead, and said and signed the same. -/
theorem cfT_iff {g : Int → Tr} {s : Tr} {l m : List Msg} {k : Nat} : cfT g s l k = cfT g s m k ↔ stT g s l k = stT g s m k ∧ g (l.getD k msg0).content = g (m.getD k msg0).content ∧ g (l.getD k msg0).sig = g (m.getD k msg0).sig := confT_iff
theorem stT_iff {g : Int → Tr} {s : Tr} {l m : List Msg} {k : Nat} : stT g s l (k + 1) = stT g s m (k + 1) ↔ cfT g s l k = cfT g s m k ∧ g (l.getD k msg0).secret = g (m.getD k msg0).secret := by
  rw [stT_succ, stT_succ, intT_iff, macT_iff]
  constructor
  · rintro ⟨h, h2, _⟩; exact ⟨h, h2⟩
  · rintro ⟨h, h2⟩; exact ⟨h, h2, h⟩
/-- Fewer messages: the same up to there. -/
theorem stT_take {g : Int → Tr} {s : Tr} {l : List Msg} {n : Nat} : ∀ k, k ≤ n → n ≤ l.length → stT g s (l.take n) k = stT g s l k := by
  intro k
  induction k with
  | zero => exact fun _ _ => rfl
  | succ k ih =>
    intro hk hn
    have e : (l.take n).getD k msg0 = l.getD k msg0 := by
      rw [List.getD_eq_getElem?_getD, List.getElem?_take, if_pos (by omega), List.getD_eq_getElem?_getD]
    rw [stT_succ, stT_succ]
    unfold cfT
    rw [ih (by omega) hn, e]
theorem cfT_take {g : Int → Tr} {s : Tr} {l : List Msg} {n k : Nat} (hk : k < n) (hn : n ≤ l.length) : cfT g s (l.take n) k = cfT g s l k := by
  have e : (l.take n).getD k msg0 = l.getD k msg0 := by
    rw [List.getD_eq_getElem?_getD, List.getElem?_take, if_pos hk, List.getD_eq_getElem?_getD]
  unfold cfT
  rw [stT_take k (by omega) hn, e]
/-- A hash is greater than what its list has. -/
theorem hashL_less {ds : List Nd} (hg : Good ds) {L : List Tr} {t : Int} (h : Den (hashLT L) ds t) : ∃ u l, Is ds t ⟨4, 0, [], [u]⟩ ∧ Is ds u ⟨3, 0, [], l⟩ ∧ DenL L ds l ∧ u < t ∧ ∀ x ∈ l, x < u := by
  obtain ⟨l1, i1, d1⟩ := den_inv hg h
  obtain ⟨u, m, rfl, du, dm⟩ := d1.cons_inv
  obtain rfl := dm.nil_inv
  obtain ⟨l, i2, d2⟩ := den_inv hg du
  exact ⟨u, l, i1, i2, d2, i1.less hg u (by simp), i2.less hg⟩
/-- The hashes rise. -/
theorem cf_rise {ds : List Nd} (hg : Good ds) {g : Int → Tr} {s : Tr} {l : List Msg} {k : Nat} {a b : Int} (ha : Den (cfT g s l k) ds a) (hb : Den (cfT g s l (k + 1)) ds b) : a < b := by
  unfold cfT at hb
  obtain ⟨u, m, _, _, dm, hu, hm⟩ := hashL_less hg hb
  obtain ⟨st, m, rfl, dst, _⟩ := dm.cons_inv
  have h1 := hm st (by simp)
  rw [stT_succ] at dst
  obtain ⟨u2, m2, _, _, dm2, hu2, hm2⟩ := hashL_less hg dst
  obtain ⟨c, m2, rfl, dc, _⟩ := dm2.cons_inv
  have h2 := hm2 c (by simp)
  have h3 := dc.same hg ha
  omega
theorem rises {xs : List Int} (h : ∀ k, k + 1 < xs.length → xs.getD k 0 < xs.getD (k + 1) 0) : ∀ (d i : Nat), i + d + 1 < xs.length + 0 → xs.getD i 0 < xs.getD (i + d + 1) 0 := by
  intro d
  induction d with
  | zero => exact fun i hi => h i (by omega)
  | succ d ih =>
    intro i hi
    have h1 := ih i (by omega)
    have h2 := h (i + d + 1) (by omega)
    have e : i + (d + 1) + 1 = i + d + 1 + 1 := by omega
    rw [e]
    omega
end Go.Proofs.YtdjfdobcjakmhaaDoor
end

section
/- Walks: comparing lists of numbers. -/
set_option linter.unusedSimpArgs false
set_option linter.unusedVariables false
namespace Go.Proofs.YtdjfdobcjakmhaaDoor
open Go.RowKit Go.Maps

end Go.Proofs.YtdjfdobcjakmhaaDoor
end

section
/- Walks: comparing nodes and lists of numbers. -/
set_option linter.unusedSimpArgs false
set_option linter.unusedVariables false
namespace Go.Proofs.YtdjfdobcjakmhaaDoor
open Go.RowKit Go.Maps

theorem strB_inj {a b : List UInt8} (h : strB a = strB b) : a = b := by
  have := congrArg (fun x : ByteArray => x.data.toList) h
  simpa [strB] using this

end Go.Proofs.YtdjfdobcjakmhaaDoor
end

section
/- The document's terms: Node. -/
set_option linter.unusedSimpArgs false
set_option linter.unusedVariables false
namespace Go.Proofs.YtdjfdobcjakmhaaDoor
open Go.RowKit Go.Maps

set_option maxHeartbeats 4000000 in
set_option maxRecDepth 100000 in
theorem nodeR_any {F : Nat → Prop} {w : World} {p : Value} {ds : List Nd} (h : ArR F w p ds) (t : Int) :
    Calls Tryd.prog 52 #[p, .int .i64 t] w fun e w' => ∃ v, e = .returned (.tuple #[v, .int .i64 (ndE ds t)]) ∧ RdN w' v (ndAt ds t) ∧ Kept w w' := by
  have HH := Shut.mk h
  obtain ⟨pb, mb, nv, rfl, q0, q1, hns⟩ := ArG.nodes h
  have hq := World.block_lt_of_cell? _ _ q0
  have q0a : ∀ ob, (w.alloc ob).cell? ⟨pb, 0, none⟩ = some nv := fun ob => by rw [World.cell?_alloc_past _ _ _ hq]; exact q0
  by_cases hin : 0 ≤ t ∧ t < ds.length
  · have hE : ndE ds t = 0 := by unfold ndE; rw [if_pos hin]
    have hN : ndAt ds t = ds.getD t.toNat nd0 := by unfold ndAt; rw [if_pos hin]
    rw [hE, hN]
    clear hE hN
    obtain ⟨t0, t1⟩ := hin
    obtain ⟨j, rfl⟩ := Int.eq_ofNat_of_zero_le t0
    have hjl : j < ds.length := by omega
    rw [Int.toNat_natCast]
    obtain ⟨nb, noff, ncap, lvs, rfl, _, _, hnb, hnc, hnl⟩ := hns.addr (by omega)
    obtain ⟨y0, y1, y2, y3⟩ := hnc j hjl
    have hlr := hnl j hjl
    clear hnc hns h hnl
    generalize ds.getD j nd0 = d at y0 y1 y2 y3 hlr ⊢
    obtain ⟨op, n, s, l⟩ := d
    simp only at y0 y1 y2 y3 hlr ⊢
    obtain ⟨la, lc, hlv, l1, l2, l3⟩ := hlr.len
    rw [hlv] at y3 hlr
    clear hlv
    have z0 : ∀ ob, (w.alloc ob).cell? ⟨nb, noff + j * 4, none⟩ = some (.int .i64 op) := fun ob => by rw [World.cell?_alloc_past _ _ _ hnb]; exact y0
    have z1 : ∀ ob, (w.alloc ob).cell? ⟨nb, noff + j * 4 + 1, none⟩ = some (.int .i64 n) := fun ob => by rw [World.cell?_alloc_past _ _ _ hnb]; exact y1
    have z2 : ∀ ob, (w.alloc ob).cell? ⟨nb, noff + j * 4 + 2, none⟩ = some (.string (strB s)) := fun ob => by rw [World.cell?_alloc_past _ _ _ hnb]; exact y2
    have z3 : ∀ ob, (w.alloc ob).cell? ⟨nb, noff + j * 4 + 3, none⟩ = some (.slice la l.length lc) := fun ob => by rw [World.cell?_alloc_past _ _ _ hnb]; exact y3
    go_enter Tryd.func52, Tryd.ntmps52
    go_wp2
    refine bodyPost_ret (v := .tuple #[.agg #[.int .i64 op, .int .i64 n, .string (strB s), .slice la l.length lc], .int .i64 0]) ?_ rfl ?_
    · have hr : Tryd.f52.results = #[.cell 4 65, .tmp 5] := rfl
      simp [results, hr]
      go_simp
    · exact ⟨_, rfl, ⟨_, rfl, hlr.kept ((Kept.refl w).alloc _)⟩, (Kept.refl w).alloc _⟩
  · have hE : ndE ds t = 4 := by unfold ndE; rw [if_neg hin]
    have hN : ndAt ds t = nd0 := by unfold ndAt; rw [if_neg hin]
    rw [hE, hN]
    obtain ⟨na, ncap, rfl, _, _, _⟩ := hns.len
    clear hE hN h hns
    have hb := Blk.new w [.int .i64 0, .int .i64 0, .string ⟨#[]⟩, .slice none 0 0] 65
    have c0 := hb.cell 0
    have c1 := hb.cell 1
    have c2 := hb.cell 2
    have c3 := hb.cell 3
    simp only [List.getElem?_cons_succ, List.getElem?_cons_zero] at c0 c1 c2 c3
    by_cases t0 : t < 0
    · go_enter Tryd.func52, Tryd.ntmps52
      go_wp2
      refine bodyPost_ret (v := .tuple #[.agg #[.int .i64 0, .int .i64 0, .string ⟨#[]⟩, .slice none 0 0], .int .i64 4]) ?_ rfl ?_
      · have hr : Tryd.f52.results = #[.cell 4 65, .tmp 5] := rfl
        simp [results, hr]
        go_simp
      · exact ⟨_, rfl, ⟨_, rfl, RdI.nil _⟩, (Kept.refl w).alloc _⟩
    · have t1 : (ds.length : Int) ≤ t := by omega
      clear hin
      go_enter Tryd.func52, Tryd.ntmps52
      go_wp2
      refine bodyPost_ret (v := .tuple #[.agg #[.int .i64 0, .int .i64 0, .string ⟨#[]⟩, .slice none 0 0], .int .i64 4]) ?_ rfl ?_
      · have hr : Tryd.f52.results = #[.cell 4 65, .tmp 5] := rfl
        simp [results, hr]
        go_simp
      · exact ⟨_, rfl, ⟨_, rfl, RdI.nil _⟩, (Kept.refl w).alloc _⟩
end Go.Proofs.YtdjfdobcjakmhaaDoor
end

section
/- A node of a list that came in. -/
set_option linter.unusedSimpArgs false
set_option linter.unusedVariables false
namespace Go.Proofs.YtdjfdobcjakmhaaDoor
open Go.RowKit Go.Maps

/-- The node at a place of a list that came in. -/
theorem RdNs.at {w : World} {v : Value} {ls : List Nd} (h : RdNs w v ls) {k : Nat} (hk : k < ls.length) : ∃ nb noff ncap la lc, v = .slice (some ⟨nb, noff, none⟩) ls.length ncap ∧
    (∀ wr, Kept w wr → wr.cell? ⟨nb, noff + k * 4, none⟩ = some (.int .i64 (ls.getD k nd0).op) ∧ wr.cell? ⟨nb, noff + k * 4 + 1, none⟩ = some (.int .i64 (ls.getD k nd0).n) ∧ wr.cell? ⟨nb, noff + k * 4 + 2, none⟩ = some (.string (strB (ls.getD k nd0).s)) ∧ wr.cell? ⟨nb, noff + k * 4 + 3, none⟩ = some (.slice la (ls.getD k nd0).l.length lc)) ∧
    RdI w (.slice la (ls.getD k nd0).l.length lc) (ls.getD k nd0).l := by
  obtain ⟨nb, noff, ncap, lvs, rfl, _, _, hnb, hnc, hnl⟩ := h.addr (by omega)
  obtain ⟨y0, y1, y2, y3⟩ := hnc k hk
  have hlr := hnl k hk
  obtain ⟨la, lc, hlv, _, _, _⟩ := hlr.len
  rw [hlv] at y3 hlr
  exact ⟨nb, noff, ncap, la, lc, rfl, fun wr hw => ⟨hw.cell (p := ⟨nb, noff + k * 4, none⟩) hnb |>.trans y0, hw.cell (p := ⟨nb, noff + k * 4 + 1, none⟩) hnb |>.trans y1, hw.cell (p := ⟨nb, noff + k * 4 + 2, none⟩) hnb |>.trans y2, hw.cell (p := ⟨nb, noff + k * 4 + 3, none⟩) hnb |>.trans y3⟩, hlr⟩

end Go.Proofs.YtdjfdobcjakmhaaDoor
end

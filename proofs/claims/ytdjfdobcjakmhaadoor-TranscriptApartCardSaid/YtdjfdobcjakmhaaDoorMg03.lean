/- Texts of one proof, put together: TermS, TermA, OpenN, TermB, Laid, TabE, LaidE, TermE, TermF, TermC, TermD, TermG, TermNp, TermMn. -/
import Derived.Lib.ItoaNum
import Derived.Test.YtdjfdobcjakmhaaDoorMg01
import Derived.Deep.Slices
import Derived.Deep.Fields
import Derived.Lib.LaidTab
import Derived.Lib.AppendIntMem
import Derived.Test.YtdjfdobcjakmhaaDoorTie
import Derived.Test.YtdjfdobcjakmhaaDoorCards
import Derived.Lay
import Derived.LaidLaws
import Derived.Handed
import Derived.Lib.LaidU8
import Derived.Stop.LaidErr
import Derived.Test.YtdjfdobcjakmhaaDoorShelf
import Derived.Lib.ItoaLen
import Derived.Lib.AppendStr
import Derived.Deep.RegionHeld3
import Derived.Deep.AppendLies
import Derived.Laws.Pointers
section
/- Terms: what a node is, which may be, how it is found again; plain facts. Nothing here names a program. -/
set_option linter.unusedSimpArgs false
set_option linter.unusedVariables false
namespace Go.Proofs.YtdjfdobcjakmhaaDoor
open Go

/-- A node. -/
structure Nd where
  op : Int
  n : Int
  s : List UInt8
  l : List Int
  deriving DecidableEq

def nd0 : Nd := ⟨0, 0, [], []⟩

def kTab : List (List UInt8 × Int × Int) := [([], 0, 0), ([], 0, 0), ([], 0, 0), ([108, 105, 115, 116], 0, 64), ([104, 97, 115, 104], 1, 1), ([109, 105, 120], 2, 2), ([107, 101, 121], 3, 3), ([112, 117, 98], 1, 1),
  ([115, 101, 97, 108], 4, 4), ([101, 110, 99], 4, 4), ([115, 105, 103], 2, 2), ([109, 97, 99], 2, 2), ([98, 108, 105, 110, 100], 2, 2)]
def kName (op : Int) : List UInt8 := (kTab.getD op.toNat ([], 0, 0)).1
def kLeast (op : Int) : Int := (kTab.getD op.toNat ([], 0, 0)).2.1
def kMost (op : Int) : Int := (kTab.getD op.toNat ([], 0, 0)).2.2

/-- A node may be, where there are the terms ds. -/
structure May (ds : List Nd) (d : Nd) : Prop where
  op1 : 1 ≤ d.op
  op12 : d.op ≤ 12
  n0 : 0 ≤ d.n
  n1 : d.n = 0 ∨ d.op = 1
  s0 : d.s.length ≤ 200
  s1 : d.s = [] ∨ d.op = 2
  least : kLeast d.op ≤ d.l.length
  most : (d.l.length : Int) ≤ kMost d.op
  all : ∀ x ∈ d.l, 0 ≤ x ∧ x < ds.length
  key : d.op = 6 → (ds.getD (d.l.getD 1 0).toNat nd0).op = 2

theorem op_cases {o : Int} (h1 : 1 ≤ o) (h2 : o ≤ 12) : o = 1 ∨ o = 2 ∨ o = 3 ∨ o = 4 ∨ o = 5 ∨ o = 6 ∨ o = 7 ∨ o = 8 ∨ o = 9 ∨ o = 10 ∨ o = 11 ∨ o = 12 := by omega

theorem May.len64 {ds : List Nd} {d : Nd} (h : May ds d) : d.l.length ≤ 64 := by
  have := h.most
  rcases op_cases h.op1 h.op12 with e | e | e | e | e | e | e | e | e | e | e | e <;> rw [e] at this <;> simp [kMost, kTab] at this <;> (try rw [this]) <;> simp <;> omega
theorem May.nol {ds : List Nd} {d : Nd} (h : May ds d) (ho : d.op = 1 ∨ d.op = 2) : d.l = [] := by
  have := h.most
  rcases ho with e | e <;> rw [e] at this <;> simp [kMost, kTab] at this <;> exact this
theorem May.len3 {ds : List Nd} {d : Nd} (h : May ds d) (ho : d.op = 6) : d.l.length = 3 := by
  have h1 := h.most
  have h2 := h.least
  rw [ho] at h1 h2
  simp [kMost, kLeast, kTab] at h1 h2
  omega
theorem May.more {ds es : List Nd} {d : Nd} (h : May ds d) : May (ds ++ es) d :=
  { h with
    all := fun x hx => ⟨(h.all x hx).1, by have := (h.all x hx).2; rw [List.length_append]; omega⟩
    key := fun ho => by
      have hl := h.len3 ho
      have hx := h.all (d.l.getD 1 0) (by
        rw [List.getD_eq_getElem?_getD, List.getElem?_eq_getElem (show 1 < d.l.length by omega)]
        exact List.getElem_mem _)
      rw [← h.key ho]
      simp only [List.getD_eq_getElem?_getD]
      rw [List.getElem?_append_left (by simp only [List.getD_eq_getElem?_getD] at hx; omega)] }

/-! ## decimals -/
def isDig (c : UInt8) : Bool := decide (48 ≤ c.toNat) && decide (c.toNat ≤ 57)
def decVal (l : List UInt8) : Nat := l.foldl (fun a c => a * 10 + (c.toNat - 48)) 0

theorem dd_step {u : Nat} (h : ¬ u < 10) : Lib.decDigits u = Lib.decDigits (u / 10) ++ [UInt8.ofNat (48 + u % 10)] := by
  rw [Lib.decDigits, dif_neg h]
theorem ofNat_small {k : Nat} (h : k < 256) : (UInt8.ofNat k).toNat = k := by
  rw [UInt8.toNat_ofNat_of_lt' (by simpa using h)]
theorem dd_dig (u : Nat) : ∀ c ∈ Lib.decDigits u, isDig c = true := by
  induction u using Nat.strongRecOn with
  | ind u ih =>
    by_cases h : u < 10
    · rw [Lib.decDigits_one h]
      intro c hc
      obtain rfl : c = UInt8.ofNat (48 + u) := by simpa using hc
      simp [isDig, ofNat_small (show 48 + u < 256 by omega)]
      omega
    · rw [dd_step h]
      intro c hc
      rcases List.mem_append.1 hc with h1 | h1
      · exact ih _ (by omega) c h1
      · obtain rfl : c = UInt8.ofNat (48 + u % 10) := by simpa using h1
        simp only [isDig, ofNat_small (show 48 + u % 10 < 256 by omega)]
        simp
        omega
theorem dd_val (u : Nat) : decVal (Lib.decDigits u) = u := by
  induction u using Nat.strongRecOn with
  | ind u ih =>
    by_cases h : u < 10
    · rw [Lib.decDigits_one h]
      simp only [decVal, List.foldl_cons, List.foldl_nil, ofNat_small (show 48 + u < 256 by omega)]
      omega
    · have := ih (u / 10) (by omega)
      rw [dd_step h]
      unfold decVal at this ⊢
      rw [List.foldl_append, this]
      simp only [List.foldl_cons, List.foldl_nil, ofNat_small (show 48 + u % 10 < 256 by omega)]
      omega
theorem dd_inj {a b : Nat} (h : Lib.decDigits a = Lib.decDigits b) : a = b := by rw [← dd_val a, ← dd_val b, h]
theorem dd_pos (u : Nat) : 0 < (Lib.decDigits u).length := by
  by_cases h : u < 10
  · rw [Lib.decDigits_one h]; simp
  · rw [dd_step h]; simp

/-- Nothing, or no digit, comes first. -/
def NoDig (l : List UInt8) : Prop := ∀ c r, l = c :: r → isDig c = false
theorem noDig_nil : NoDig [] := fun c r h => by cases h
theorem noDig_cons {c : UInt8} (r : List UInt8) (h : isDig c = false) : NoDig (c :: r) := fun c' r' e => by cases e; exact h

theorem takeWhile_dig {x u : List UInt8} (hx : ∀ c ∈ x, isDig c = true) (hu : NoDig u) : (x ++ u).takeWhile isDig = x ∧ (x ++ u).dropWhile isDig = u := by
  induction x with
  | nil =>
    cases u with
    | nil => exact ⟨rfl, rfl⟩
    | cons c r =>
      have := hu c r rfl
      simp [List.takeWhile, List.dropWhile, this]
  | cons a x ih =>
    have h1 := hx a List.mem_cons_self
    obtain ⟨i1, i2⟩ := ih fun c hc => hx c (List.mem_cons_of_mem _ hc)
    simp only [List.cons_append, List.takeWhile_cons, List.dropWhile_cons, h1, if_true]
    exact ⟨by rw [i1], i2⟩

theorem dd_sep {a b : Nat} {u v : List UInt8} (hu : NoDig u) (hv : NoDig v) (h : Lib.decDigits a ++ u = Lib.decDigits b ++ v) : a = b ∧ u = v := by
  obtain ⟨h1, h2⟩ := takeWhile_dig (dd_dig a) hu
  obtain ⟨h3, h4⟩ := takeWhile_dig (dd_dig b) hv
  rw [h] at h1 h2
  exact ⟨dd_inj (h1.symm.trans h3), h2.symm.trans h4⟩
theorem itoa_of_nonneg {n : Int} (h : 0 ≤ n) : Lib.itoa n = Lib.decDigits n.toNat := by
  unfold Lib.itoa
  rw [if_neg (by omega)]
theorem itoa_sep {a b : Int} {u v : List UInt8} (ha : 0 ≤ a) (hb : 0 ≤ b) (hu : NoDig u) (hv : NoDig v) (h : Lib.itoa a ++ u = Lib.itoa b ++ v) : a = b ∧ u = v := by
  rw [itoa_of_nonneg ha, itoa_of_nonneg hb] at h
  obtain ⟨h1, h2⟩ := dd_sep hu hv h
  exact ⟨by omega, h2⟩

/-! ## a node's text among others: the program's -/
def partsKey (l : List Int) : List UInt8 := l.flatMap fun x => Lib.itoa x ++ [44]
def key (d : Nd) : List UInt8 := UInt8.ofNat d.op.toNat :: (if d.op = 1 then Lib.itoa d.n else if d.op = 2 then d.s else partsKey d.l)

theorem partsKey_cons (x : Int) (l : List Int) : partsKey (x :: l) = Lib.itoa x ++ 44 :: partsKey l := by simp [partsKey]
theorem partsKey_snoc (l : List Int) (x : Int) : partsKey (l ++ [x]) = partsKey l ++ (Lib.itoa x ++ [44]) := by simp [partsKey]
theorem partsKey_inj {l m : List Int} (hl : ∀ x ∈ l, 0 ≤ x) (hm : ∀ x ∈ m, 0 ≤ x) (h : partsKey l = partsKey m) : l = m := by
  induction l generalizing m with
  | nil =>
    cases m with
    | nil => rfl
    | cons y m => rw [partsKey_cons] at h; simp [partsKey] at h
  | cons x l ih =>
    cases m with
    | nil => rw [partsKey_cons] at h; simp [partsKey] at h
    | cons y m =>
      rw [partsKey_cons, partsKey_cons] at h
      obtain ⟨h1, h2⟩ := itoa_sep (hl x List.mem_cons_self) (hm y List.mem_cons_self) (noDig_cons _ (by decide)) (noDig_cons _ (by decide)) h
      simp only [List.cons.injEq, true_and] at h2
      rw [h1, ih (fun z hz => hl z (List.mem_cons_of_mem _ hz)) (fun z hz => hm z (List.mem_cons_of_mem _ hz)) h2]

theorem nd_ext {d e : Nd} (h1 : d.op = e.op) (h2 : d.n = e.n) (h3 : d.s = e.s) (h4 : d.l = e.l) : d = e := by
  cases d; cases e; simp_all

theorem key_inj {ds es : List Nd} {d e : Nd} (hd : May ds d) (he : May es e) (h : key d = key e) : d = e := by
  unfold key at h
  simp only [List.cons.injEq] at h
  obtain ⟨h1, h2⟩ := h
  have a1 := hd.op1; have a2 := hd.op12; have b1 := he.op1; have b2 := he.op12
  have ho : d.op = e.op := by
    have := congrArg UInt8.toNat h1
    rw [ofNat_small (by omega), ofNat_small (by omega)] at this
    omega
  rw [← ho] at h2
  by_cases c1 : d.op = 1
  · rw [if_pos c1, if_pos c1] at h2
    have hn : d.n = e.n := (itoa_sep (u := []) (v := []) hd.n0 he.n0 noDig_nil noDig_nil (by simpa using h2)).1
    have s1 : d.s = [] := hd.s1.resolve_right (by omega)
    have s2 : e.s = [] := he.s1.resolve_right (by omega)
    exact nd_ext ho hn (s1.trans s2.symm) ((hd.nol (.inl c1)).trans (he.nol (.inl (by omega))).symm)
  · have n1 : d.n = 0 := hd.n1.resolve_right c1
    have n2 : e.n = 0 := he.n1.resolve_right (by omega)
    rw [if_neg c1, if_neg c1] at h2
    by_cases c2 : d.op = 2
    · rw [if_pos c2, if_pos c2] at h2
      exact nd_ext ho (n1.trans n2.symm) h2 ((hd.nol (.inr c2)).trans (he.nol (.inr (by omega))).symm)
    · rw [if_neg c2, if_neg c2] at h2
      have s1 : d.s = [] := hd.s1.resolve_right c2
      have s2 : e.s = [] := he.s1.resolve_right (by omega)
      exact nd_ext ho (n1.trans n2.symm) (s1.trans s2.symm) (partsKey_inj (fun x hx => (hd.all x hx).1) (fun x hx => (he.all x hx).1) h2)

/-! ## a node's text among others: the document's -/
def partsKeyR (l : List Int) : List UInt8 := l.flatMap fun x => 32 :: Lib.itoa x
def keyR (d : Nd) : List UInt8 := Lib.itoa d.op ++ 32 :: (Lib.itoa d.n ++ 32 :: (Lib.itoa d.s.length ++ 32 :: (d.s ++ partsKeyR d.l)))
theorem partsKeyR_cons (x : Int) (l : List Int) : partsKeyR (x :: l) = 32 :: (Lib.itoa x ++ partsKeyR l) := by simp [partsKeyR]
theorem partsKeyR_snoc (l : List Int) (x : Int) : partsKeyR (l ++ [x]) = partsKeyR l ++ 32 :: Lib.itoa x := by simp [partsKeyR]
theorem noDig_partsR (l : List Int) : NoDig (partsKeyR l) := by
  cases l with
  | nil => exact noDig_nil
  | cons x l => rw [partsKeyR_cons]; exact noDig_cons _ (by decide)
theorem partsKeyR_inj {l m : List Int} (hl : ∀ x ∈ l, 0 ≤ x) (hm : ∀ x ∈ m, 0 ≤ x) (h : partsKeyR l = partsKeyR m) : l = m := by
  induction l generalizing m with
  | nil =>
    cases m with
    | nil => rfl
    | cons y m => rw [partsKeyR_cons] at h; simp [partsKeyR] at h
  | cons x l ih =>
    cases m with
    | nil => rw [partsKeyR_cons] at h; simp [partsKeyR] at h
    | cons y m =>
      rw [partsKeyR_cons, partsKeyR_cons] at h
      simp only [List.cons.injEq, true_and] at h
      obtain ⟨h1, h2⟩ := itoa_sep (hl x List.mem_cons_self) (hm y List.mem_cons_self) (noDig_partsR l) (noDig_partsR m) h
      rw [h1, ih (fun z hz => hl z (List.mem_cons_of_mem _ hz)) (fun z hz => hm z (List.mem_cons_of_mem _ hz)) h2]
theorem keyR_inj {ds es : List Nd} {d e : Nd} (hd : May ds d) (he : May es e) (h : keyR d = keyR e) : d = e := by
  unfold keyR at h
  have d1 := hd.op1; have e1 := he.op1
  obtain ⟨ho, h⟩ := itoa_sep (by omega) (by omega) (noDig_cons _ (by decide)) (noDig_cons _ (by decide)) h
  simp only [List.cons.injEq, true_and] at h
  obtain ⟨hn, h⟩ := itoa_sep hd.n0 he.n0 (noDig_cons _ (by decide)) (noDig_cons _ (by decide)) h
  simp only [List.cons.injEq, true_and] at h
  obtain ⟨hs, h⟩ := itoa_sep (by omega) (by omega) (noDig_cons _ (by decide)) (noDig_cons _ (by decide)) h
  simp only [List.cons.injEq, true_and] at h
  obtain ⟨hs', hl⟩ := List.append_inj h (by omega)
  exact nd_ext ho hn hs' (partsKeyR_inj (fun x hx => (hd.all x hx).1) (fun x hx => (he.all x hx).1) hl)

/-! ## an arena's terms -/
/-- The terms of an arena: each made of lesser ones, each once. -/
structure Good (ds : List Nd) : Prop where
  may : ∀ i, i < ds.length → May (ds.take i) (ds.getD i nd0)
  once : ∀ i j, i < ds.length → j < ds.length → ds.getD i nd0 = ds.getD j nd0 → i = j

theorem Good.nil : Good [] := ⟨fun i hi => by simp at hi, fun i j hi => by simp at hi⟩
theorem Good.may' {ds : List Nd} (h : Good ds) {i : Nat} (hi : i < ds.length) : May ds (ds.getD i nd0) := by
  have := (h.may i hi).more (es := ds.drop i)
  rwa [List.take_append_drop] at this
theorem Good.lesser {ds : List Nd} (h : Good ds) {i : Nat} (hi : i < ds.length) : ∀ x ∈ (ds.getD i nd0).l, 0 ≤ x ∧ x < i := fun x hx => by
  have := (h.may i hi).all x hx
  rw [List.length_take] at this
  omega
theorem getD_snoc (ds : List Nd) (d : Nd) (i : Nat) : (ds ++ [d]).getD i nd0 = if i < ds.length then ds.getD i nd0 else if i = ds.length then d else nd0 := by
  simp only [List.getD_eq_getElem?_getD]
  by_cases h : i < ds.length
  · rw [if_pos h, List.getElem?_append_left h]
  · rw [if_neg h, List.getElem?_append_right (by omega)]
    by_cases h2 : i = ds.length
    · simp [h2]
    · rw [if_neg h2, List.getElem?_eq_none (by simp; omega)]; rfl

/-- The number of the term that has this node. -/
def find (ds : List Nd) (d : Nd) : Option Nat := ds.findIdx? (fun e => decide (e = d))
theorem find_some {ds : List Nd} {d : Nd} {i : Nat} (h : find ds d = some i) : i < ds.length ∧ ds.getD i nd0 = d := by
  obtain ⟨h1, h2, _⟩ := List.findIdx?_eq_some_iff_getElem.1 h
  refine ⟨h1, ?_⟩
  rw [List.getD_eq_getElem?_getD, List.getElem?_eq_getElem h1]
  simpa using h2
theorem find_none {ds : List Nd} {d : Nd} (h : find ds d = none) : ∀ i, i < ds.length → ds.getD i nd0 ≠ d := by
  intro i hi e
  have := List.findIdx?_eq_none_iff.1 h (ds.getD i nd0) (by rw [List.getD_eq_getElem?_getD, List.getElem?_eq_getElem hi]; exact List.getElem_mem _)
  rw [e] at this
  simp at this
theorem Good.findAt {ds : List Nd} (h : Good ds) {d : Nd} {i : Nat} (hi : i < ds.length) (he : ds.getD i nd0 = d) : find ds d = some i := by
  cases hf : find ds d with
  | none => exact absurd he (find_none hf i hi)
  | some j =>
    obtain ⟨h1, h2⟩ := find_some hf
    rw [h.once j i h1 hi (h2.trans he.symm)]

theorem Good.snoc {ds : List Nd} (h : Good ds) {d : Nd} (hm : May ds d) (hf : find ds d = none) : Good (ds ++ [d]) := by
  refine ⟨fun i hi => ?_, fun i j hi hj he => ?_⟩
  · rw [getD_snoc]
    rw [List.length_append, List.length_singleton] at hi
    by_cases h1 : i < ds.length
    · rw [if_pos h1, List.take_append_of_le_length (by omega)]
      exact h.may i h1
    · obtain rfl : i = ds.length := by omega
      rw [if_neg h1, if_pos rfl, List.take_append_of_le_length (Nat.le_refl _), List.take_length]
      exact hm
  · rw [List.length_append, List.length_singleton] at hi hj
    rw [getD_snoc, getD_snoc] at he
    by_cases h1 : i < ds.length
    · rw [if_pos h1] at he
      by_cases h2 : j < ds.length
      · rw [if_pos h2] at he; exact h.once i j h1 h2 he
      · rw [if_neg h2, if_pos (by omega)] at he
        exact absurd he (find_none hf i h1)
    · rw [if_neg h1, if_pos (by omega)] at he
      by_cases h2 : j < ds.length
      · rw [if_pos h2] at he
        exact absurd he.symm (find_none hf j h2)
      · omega

/-- What Make does: the terms behind it, the term's number, the error. -/
noncomputable def mk (ds : List Nd) (d : Nd) : List Nd × Int × Int :=
  open Classical in
  if May ds d then
    match find ds d with
    | some i => (ds, i, 0)
    | none => if 100000 ≤ ds.length then (ds, 0, 2) else (ds ++ [d], ds.length, 0)
  else (ds, 0, 1)
theorem mk_bad {ds : List Nd} {d : Nd} (h : ¬ May ds d) : mk ds d = (ds, 0, 1) := by unfold mk; rw [if_neg h]
theorem mk_old {ds : List Nd} {d : Nd} (h : May ds d) {i : Nat} (hf : find ds d = some i) : mk ds d = (ds, (i : Int), 0) := by unfold mk; rw [if_pos h, hf]
theorem mk_full {ds : List Nd} {d : Nd} (h : May ds d) (hf : find ds d = none) (hl : 100000 ≤ ds.length) : mk ds d = (ds, 0, 2) := by unfold mk; rw [if_pos h, hf]; simp only [if_pos hl]
theorem mk_new {ds : List Nd} {d : Nd} (h : May ds d) (hf : find ds d = none) (hl : ¬ 100000 ≤ ds.length) : mk ds d = (ds ++ [d], (ds.length : Int), 0) := by unfold mk; rw [if_pos h, hf]; simp only [if_neg hl]
theorem good_mk {ds : List Nd} (h : Good ds) (d : Nd) : Good (mk ds d).1 := by
  by_cases hm : May ds d
  · cases hf : find ds d with
    | some i => rw [mk_old hm hf]; exact h
    | none =>
      by_cases hl : 100000 ≤ ds.length
      · rw [mk_full hm hf hl]; exact h
      · rw [mk_new hm hf hl]; exact h.snoc hm hf
  · rw [mk_bad hm]; exact h
theorem mk_le (ds : List Nd) (d : Nd) : ds.length ≤ (mk ds d).1.length ∧ (mk ds d).1.length ≤ ds.length + 1 := by
  by_cases hm : May ds d
  · cases hf : find ds d with
    | some i => rw [mk_old hm hf]; simp
    | none =>
      by_cases hl : 100000 ≤ ds.length
      · rw [mk_full hm hf hl]; simp
      · rw [mk_new hm hf hl]; simp
  · rw [mk_bad hm]; simp
end Go.Proofs.YtdjfdobcjakmhaaDoor
end

section
/- Nodes in memory; an arena in memory. -/
set_option linter.unusedSimpArgs false
set_option linter.unusedVariables false
namespace Go.Proofs.YtdjfdobcjakmhaaDoor
open Go.RowKit Go.Maps

def strB (s : List UInt8) : ByteArray := ⟨s.toArray⟩
theorem strB_toList (s : List UInt8) : (strB s).data.toList = s := rfl
theorem strB_list (s : List UInt8) : (strB s).toList = s := by rw [ByteArray.toList_eq]; rfl
theorem strB_size (s : List UInt8) : (strB s).size = s.length := by simp [strB, ByteArray.size]

/-- The cells of a node whose parts are the slice lv. -/
def ndCells (d : Nd) (lv : Value) : List Value := [.int .i64 d.op, .int .i64 d.n, .string (strB d.s), lv]
/-- The cells of many. -/
def flat : List Nd → List Value → List Value
  | [], _ => []
  | d :: ds, lvs => ndCells d (lvs.headD undef) ++ flat ds lvs.tail
theorem flat_length (ds : List Nd) (lvs : List Value) : (flat ds lvs).length = ds.length * 4 := by
  induction ds generalizing lvs with
  | nil => rfl
  | cons d ds ih => simp [flat, ndCells, ih]; omega
theorem flat_at (ds : List Nd) (lvs : List Value) (i j : Nat) (hi : i < ds.length) (hj : j < 4) : (flat ds lvs)[i * 4 + j]? = (ndCells (ds.getD i nd0) (lvs.getD i undef))[j]? := by
  induction ds generalizing lvs i with
  | nil => simp at hi
  | cons d ds ih =>
    cases i with
    | zero =>
      simp only [flat, Nat.zero_mul, Nat.zero_add]
      rw [List.getElem?_append_left (by simp [ndCells]; omega)]
      cases lvs <;> rfl
    | succ i =>
      simp only [flat]
      rw [List.getElem?_append_right (by simp [ndCells]; omega)]
      have e : (i + 1) * 4 + j - (ndCells d (lvs.headD undef)).length = i * 4 + j := by simp [ndCells]; omega
      rw [e, ih lvs.tail i (by simpa using hi)]
      cases lvs <;> simp
theorem flat_snoc (ds : List Nd) (lvs : List Value) (h : lvs.length = ds.length) (d : Nd) (lv : Value) : flat (ds ++ [d]) (lvs ++ [lv]) = flat ds lvs ++ ndCells d lv := by
  induction ds generalizing lvs with
  | nil =>
    cases lvs with
    | nil => simp [flat]
    | cons => simp at h
  | cons e ds ih =>
    cases lvs with
    | nil => simp at h
    | cons v lvs => simp [flat, ih lvs (by simpa using h)]

/-- An argument that is a node. -/
def RdN (w : World) (v : Value) (d : Nd) : Prop := ∃ lv, v = .agg #[.int .i64 d.op, .int .i64 d.n, .string (strB d.s), lv] ∧ RdI w lv d.l
/-- Nodes whose numbers are int's. -/
structure NdOk (d : Nd) : Prop where
  op : I64 d.op
  n : I64 d.n
  s : d.s.length ≤ maxLen
  l : ∀ x ∈ d.l, I64 x

/-- v is a slice of nodes. -/
def RdNs (w : World) (v : Value) (ds : List Nd) : Prop :=
  ∃ lvs : List Value, lvs.length = ds.length ∧ Rdv 4 w v ds.length (flat ds lvs) ∧ ∀ i, i < ds.length → RdI w (lvs.getD i undef) (ds.getD i nd0).l

theorem RdNs.kept {w w' : World} {v : Value} {ds : List Nd} (h : RdNs w v ds) (k : Kept w w') : RdNs w' v ds := by
  obtain ⟨lvs, h1, h2, h3⟩ := h
  exact ⟨lvs, h1, h2.kept k, fun i hi => (h3 i hi).kept k⟩

/-- What the map of an arena says: at the text of each node its number; of no other text anything. -/
def Idx {H : Type} (key : Nd → List UInt8) (ds : List Nd) (D : DataW H) : Prop :=
  (∀ i, i < ds.length → Maps.has D (.string (key (ds.getD i nd0))) = true ∧ D.atKey (.string (key (ds.getD i nd0))) (.lit (.int .i64 0)) = .lit (.int .i64 i)) ∧
  ∀ s, Maps.has D (.string s) = true → ∃ i, i < ds.length ∧ key (ds.getD i nd0) = s

/-- p is an arena with the terms ds; its memory is in F. -/
structure ArG (T : TypeId) (key : Nd → List UInt8) (F : Nat → Prop) (w : World) (p : Value) (ds : List Nd) : Prop where
  good : Good ds
  rep : ∃ (pb mb n : Nat) (nv : Value) (lvs : List Value) (D : DataW Unit), p = .pointer (some ⟨pb, 0, none⟩) ∧ Blk w pb T [nv, .map (some mb)] ∧
    Ownv 0 65 4 w nv ds.length (flat ds lvs) ∧ lvs.length = ds.length ∧ (∀ i, i < ds.length → OwnI 0 w (lvs.getD i undef) (ds.getD i nd0).l) ∧
    w.ownsMap Tryd.prog 9 (plainElem Tryd.prog 3) mb n D ∧ n ≤ ds.length ∧ Idx key ds D ∧
    F pb ∧ F mb ∧ (∀ b, Blks nv b → F b) ∧ ∀ i, i < ds.length → ∀ b, Blks (lvs.getD i undef) b → F b
  lt : ∀ b, F b → b < w.heap.size
  few : ds.length ≤ 100000
  oks : ∀ d ∈ ds, NdOk d

theorem ArG.same {T : TypeId} {key : Nd → List UInt8} {F : Nat → Prop} {w w' : World} {p : Value} {ds : List Nd} (h : ArG T key F w p ds) (k : Same F w w') (hl : w.heap.size ≤ w'.heap.size) : ArG T key F w' p ds := by
  refine ⟨h.good, ?_, fun b hb => Nat.lt_of_lt_of_le (h.lt b hb) hl, h.few, h.oks⟩
  obtain ⟨pb, mb, n, nv, lvs, D, h1, h2, h3, h4, h5, h6, h7, h8, h9, h10, h11, h12⟩ := h.rep
  exact ⟨pb, mb, n, nv, lvs, D, h1, h2.same (k.mono fun b e => by rw [e]; exact h9), h3.same (k.mono h11), h4, fun i hi => (h5 i hi).same (k.mono (h12 i hi)), ownsMap_same h6 (k.mono fun b e => by rw [e]; exact h10), h7, h8, h9, h10, h11, h12⟩
theorem ArG.turn {T : TypeId} {key : Nd → List UInt8} {F G : Nat → Prop} {w w' : World} {p : Value} {ds : List Nd} (h : ArG T key F w p ds) (k : Turn G w w') (hd : ∀ b, F b → ¬ G b) : ArG T key F w' p ds :=
  h.same (k.same h.lt hd) k.size
theorem ArG.kept {T : TypeId} {key : Nd → List UInt8} {F : Nat → Prop} {w w' : World} {p : Value} {ds : List Nd} (h : ArG T key F w p ds) (k : Kept w w') : ArG T key F w' p ds :=
  h.same (k.same h.lt) k.size

/-- The program's arena. -/
def Ar (F : Nat → Prop) (w : World) (p : Value) (ds : List Nd) : Prop := ArG 85 key F w p ds

theorem ArG.nodes {T : TypeId} {key : Nd → List UInt8} {F : Nat → Prop} {w : World} {p : Value} {ds : List Nd} (h : ArG T key F w p ds) :
    ∃ (pb mb : Nat) (nv : Value), p = .pointer (some ⟨pb, 0, none⟩) ∧ w.cell? ⟨pb, 0, none⟩ = some nv ∧ w.cell? ⟨pb, 1, none⟩ = some (.map (some mb)) ∧ RdNs w nv ds := by
  obtain ⟨pb, mb, n, nv, lvs, D, h1, h2, h3, h4, h5, h6, h7, h8, h9, h10, h11, h12⟩ := h.rep
  exact ⟨pb, mb, nv, h1, h2.cell 0, h2.cell 1, lvs, h4, h3.rdv, fun i hi => (h5 i hi).rd⟩
theorem RdNs.len {w : World} {v : Value} {ds : List Nd} (h : RdNs w v ds) : ∃ a cap, v = .slice a ds.length cap ∧ ds.length ≤ cap ∧ cap ≤ maxLen ∧ (a = none → cap = 0) := by
  obtain ⟨lvs, _, ⟨a, cap, rfl, _, h2, h3, h4, _⟩, _⟩ := h
  exact ⟨a, cap, rfl, h2, h3, h4⟩

/-- A slice of nodes that is not empty: its address, its cells. -/
theorem RdNs.addr {w : World} {v : Value} {ds : List Nd} (h : RdNs w v ds) (hp : 0 < ds.length) :
    ∃ b off cap, ∃ lvs : List Value, v = .slice (some ⟨b, off, none⟩) ds.length cap ∧ ds.length ≤ cap ∧ cap ≤ maxLen ∧ b < w.heap.size ∧
      (∀ i, i < ds.length → w.cell? ⟨b, off + i * 4, none⟩ = some (.int .i64 (ds.getD i nd0).op) ∧ w.cell? ⟨b, off + i * 4 + 1, none⟩ = some (.int .i64 (ds.getD i nd0).n) ∧
        w.cell? ⟨b, off + i * 4 + 2, none⟩ = some (.string (strB (ds.getD i nd0).s)) ∧ w.cell? ⟨b, off + i * 4 + 3, none⟩ = some (lvs.getD i undef)) ∧
      ∀ i, i < ds.length → RdI w (lvs.getD i undef) (ds.getD i nd0).l := by
  obtain ⟨lvs, hvs, ⟨ao, cap, rfl, hl, hc, hm, hno, hcell⟩, hr⟩ := h
  cases ao with
  | none => have := hno rfl; omega
  | some ad =>
    obtain ⟨b, off, spot⟩ := ad
    have h0 := hcell _ rfl 0 (.int .i64 (ds.getD 0 nd0).op) (by have := flat_at ds lvs 0 0 hp (by omega); simpa [ndCells] using this)
    obtain rfl : spot = none := by simpa [Addr.add] using World.cell?_spot h0
    have hg : ∀ i j u, i < ds.length → j < 4 → (ndCells (ds.getD i nd0) (lvs.getD i undef))[j]? = some u → w.cell? ⟨b, off + i * 4 + j, none⟩ = some u := by
      intro i j u hi hj hu
      have := hcell _ rfl (i * 4 + j) u ((flat_at ds lvs i j hi hj).trans hu)
      rw [Addr.add_lit] at this
      rwa [Nat.add_assoc]
    exact ⟨b, off, cap, lvs, rfl, hc, hm, World.block_lt_of_cell? _ _ h0, fun i hi => ⟨hg i 0 _ hi (by omega) rfl, hg i 1 _ hi (by omega) rfl, hg i 2 _ hi (by omega) rfl, hg i 3 _ hi (by omega) rfl⟩, hr⟩

theorem ownsMap_kept {H : Type} {w w' : World} {P : Program} {k : TypeId} {R : Value → Option (DataW H × List MemPlace)} {b n : Nat} {D : DataW H} (h : w.ownsMap P k R b n D) (t : Kept w w') : w'.ownsMap P k R b n D :=
  ownsMap_turn h (t.turn (fun _ => False)) (fun x => x)

/-- At the text of a node that is new, the map says its number. -/
theorem Idx.snoc {H : Type} {ky : Nd → List UInt8} {ds : List Nd} {D : DataW H} (h : Idx ky ds D) (hm : Maps.IsMap D) {d : Nd} (hne : ∀ i, i < ds.length → ky (ds.getD i nd0) ≠ ky d) :
    Idx ky (ds ++ [d]) (D.put (.string (ky d)) (.lit (.int .i64 ds.length))) := by
  have hk : WideAt.IsKeyLit (.string (ky d)) := by first | trivial | exact (by decide) | simp [WideAt.IsKeyLit]
  refine ⟨fun i hi => ?_, fun s hs => ?_⟩
  · rw [List.length_append, List.length_singleton] at hi
    rw [getD_snoc]
    by_cases c : i < ds.length
    · rw [if_pos c]
      obtain ⟨h1, h2⟩ := h.1 i c
      have hn : (Lit.string (ky (ds.getD i nd0))) ≠ Lit.string (ky d) := fun e => hne i c (by injection e)
      exact ⟨by rw [has_put_other hn]; exact h1, by rw [atKey_put_other hn]; exact h2⟩
    · obtain rfl : i = ds.length := by omega
      rw [if_neg c, if_pos rfl]
      exact ⟨has_put_same hm hk _, atKey_put_same hm hk _ _⟩
  · by_cases c : s = ky d
    · exact ⟨ds.length, by simp, by rw [getD_snoc, if_neg (by omega), if_pos rfl, c]⟩
    · rw [has_put_other (fun e => c (by injection e))] at hs
      obtain ⟨i, hi, he⟩ := h.2 s hs
      exact ⟨i, by rw [List.length_append]; omega, by rw [getD_snoc, if_pos hi, he]⟩

theorem getD_snoc_v (l : List Value) (v : Value) (i : Nat) : (l ++ [v]).getD i undef = if i < l.length then l.getD i undef else if i = l.length then v else undef := by
  simp only [List.getD_eq_getElem?_getD]
  by_cases h : i < l.length
  · rw [if_pos h, List.getElem?_append_left h]
  · rw [if_neg h, List.getElem?_append_right (by omega)]
    by_cases h2 : i = l.length
    · simp [h2]
    · rw [if_neg h2, List.getElem?_eq_none (by simp; omega)]; rfl

/-- What a new node makes of an arena. -/
theorem arg_grow {T : TypeId} {ky : Nd → List UInt8} {F : Nat → Prop} {w w4 w6 w7 : World} {pb mb n : Nat} {nv nv' lv3 : Value} {lvs : List Value} {D : DataW Unit} {ds : List Nd} {d : Nd}
    (good : Good ds) (hlen : ds.length < 100000) (hoks : ∀ d ∈ ds, NdOk d) (hok : NdOk d) (hm : May ds d) (hf : find ds d = none) (hinj : ∀ i, i < ds.length → ky (ds.getD i nd0) ≠ ky d) (hT : T ≠ 3 ∧ T ≠ 65)
    (h2 : Blk w pb T [nv, .map (some mb)]) (h3 : Ownv 0 65 4 w nv ds.length (flat ds lvs)) (h4 : lvs.length = ds.length) (h5 : ∀ i, i < ds.length → OwnI 0 w (lvs.getD i undef) (ds.getD i nd0).l)
    (h6 : w.ownsMap Tryd.prog 9 (plainElem Tryd.prog 3) mb n D) (h7 : n ≤ ds.length) (h8 : Idx ky ds D) (h9 : F pb) (h10 : F mb) (h11 : ∀ b, Blks nv b → F b) (h12 : ∀ i, i < ds.length → ∀ b, Blks (lvs.getD i undef) b → F b)
    (hlt : ∀ b, F b → b < w.heap.size) (kw4 : Kept w w4) (t6 : Turn (fun b => Blks nv b ∨ b = pb) w4 w6) (g6 : Blk w6 pb T [nv', .map (some mb)])
    (o6 : Ownv 0 65 4 w6 nv' (ds.length + 1) (flat ds lvs ++ ndCells d lv3)) (hnv : ∀ b, Blks nv' b → Blks nv b ∨ w.heap.size ≤ b) (a6 : OwnI 0 w6 lv3 d.l) (hlv : ∀ b, Blks lv3 b → w.heap.size ≤ b)
    (own7 : w7.ownsMap Tryd.prog 9 (plainElem Tryd.prog 3) mb (n + 1) (D.put (.string (ky d)) (.lit (.int .i64 ds.length)))) (m6 : w6.ownsMap Tryd.prog 9 (plainElem Tryd.prog 3) mb n D) (t7 : Turn (fun b => b = mb) w6 w7) :
    ∃ F' : Nat → Prop, ArG T ky F' w7 (.pointer (some ⟨pb, 0, none⟩)) (ds ++ [d]) ∧ Turn F w w7 ∧ ∀ b, F' b → F b ∨ w.heap.size ≤ b := by
  have hn4 := h3.kept kw4
  have hg4 := h2.kept kw4
  refine ⟨fun b => F b ∨ (w.heap.size ≤ b ∧ b < w7.heap.size), ⟨good.snoc hm hf, ⟨pb, mb, n + 1, nv', lvs ++ [lv3], _, rfl, g6.turn t7 (ownsMap_notBlk' m6 g6), ?_, ?_, ?_, own7, ?_, h8.snoc m6.isMap hinj, .inl h9, .inl h10, ?_, ?_⟩, ?_, by simp; omega, fun x hx => (List.mem_append.1 hx).elim (hoks x) (fun e => by rw [List.mem_singleton.1 e]; exact hok)⟩, ?_, ?_⟩
  · rw [flat_snoc ds lvs h4, List.length_append, List.length_singleton]
    exact o6.turn t7 (fun b hb hc => ownsMap_notBlk m6 o6 (hc ▸ hb))
  · simp [h4]
  · intro i hi
    rw [List.length_append, List.length_singleton] at hi
    rw [getD_snoc, getD_snoc_v, h4]
    by_cases c : i < ds.length
    · rw [if_pos c, if_pos c]
      have x4 : OwnI 0 w4 _ _ := Ownv.kept (h5 i c) kw4
      have x6 : OwnI 0 w6 _ _ := x4.turn t6 (fun b hb hc => hc.elim (Ownv.apart x4 hn4 (by decide) hb) (fun e => Ownv.notBlk x4 hg4 hT.1.symm (e ▸ hb)))
      exact x6.turn t7 (fun b hb hc => ownsMap_notBlk m6 x6 (hc ▸ hb))
    · obtain rfl : i = ds.length := by omega
      rw [if_neg c, if_neg c, if_pos rfl, if_pos rfl]
      exact a6.turn t7 (fun b hb hc => ownsMap_notBlk m6 a6 (hc ▸ hb))
  · rw [List.length_append]; simp; exact h7
  · intro b hb
    rcases hnv b hb with c | c
    · exact .inl (h11 b c)
    · exact .inr ⟨c, Nat.lt_of_lt_of_le (o6.lt hb).1 t7.size⟩
  · intro i hi b hb
    rw [List.length_append, List.length_singleton] at hi
    rw [getD_snoc_v, h4] at hb
    by_cases c : i < ds.length
    · rw [if_pos c] at hb
      exact .inl (h12 i c b hb)
    · obtain rfl : i = ds.length := by omega
      rw [if_neg c, if_pos rfl] at hb
      exact .inr ⟨hlv b hb, Nat.lt_of_lt_of_le (Ownv.lt a6 hb).1 t7.size⟩
  · intro b hb
    have hs : w.heap.size ≤ w7.heap.size := Nat.le_trans (Nat.le_trans kw4.size t6.size) t7.size
    rcases hb with hb | hb
    · exact Nat.lt_of_lt_of_le (hlt b hb) hs
    · exact hb.2
  · exact (((kw4.turn F).trans t6 (fun x hx => .inl (hx.elim (h11 x) (fun e => e ▸ h9)))).trans t7 (fun x hx => .inl (hx ▸ h10)))
  · intro b hb
    exact hb.elim .inl (fun x => .inr x.1)
end Go.Proofs.YtdjfdobcjakmhaaDoor
end

section
/- What comes in: numbers, nodes. -/
set_option linter.unusedSimpArgs false
set_option linter.unusedVariables false
set_option maxRecDepth 100000
namespace Go.Proofs.YtdjfdobcjakmhaaDoor
open Go.RowKit Go.ChangeShapes Go.WideShapes Go.ChangeAt

theorem cells_of_ints {H : Type} {enc : TypeId × Value → H} {W : World} {base : Nat} {sp : Nat → Bool} {held : Bool} {fuel : Nat} {v : Value} {x : DataW H × List MemPlace} (h : DataW.trod enc Tryd.prog W base sp held fuel 40 [v] = some x) :
    ∃ zs : List Int, RdI W v zs ∧ ∀ z ∈ zs, I64 z := by
  rcases open_ints Tryd.underlying40 Tryd.underlying3 (by kernel_rfl) h with ⟨hcs, _⟩ | ⟨a, len, cap, zs, hcs, _, hl, hm, hz, _, hcell, hw⟩
  · simp only [List.cons.injEq, and_true] at hcs
    subst hcs
    exact ⟨[], RdI.nil W, fun z hz => by cases hz⟩
  · simp only [List.cons.injEq, and_true] at hcs
    subst hcs
    have hlz : len ≤ zs.length := by rw [hz]; split <;> omega
    have e : (zs.take len).length = len := by rw [List.length_take]; omega
    refine ⟨zs.take len, ?_, fun z hz' => bounds_i64 (hw z (List.mem_of_mem_take hz'))⟩
    unfold RdI
    rw [e]
    refine ⟨some a, cap, rfl, by simp [e]; omega, hl, hm, (fun h => by cases h), fun ad had j u hj => ?_⟩
    cases had
    have hjl : j < len := by
      have := (List.getElem?_eq_some_iff.1 hj).1
      simp at this; omega
    rw [hcell j (by omega), ← hj]
    simp [List.getElem?_take, hjl, List.getD, List.getElem?_eq_getElem (show j < zs.length by omega)]

theorem open_numbers {H : Type} {enc : TypeId × Value → H} {W : World} {base : Nat} {v : Value} {d : DataW H} {p : List MemPlace} (hv : Value.okWide Tryd.prog W .any base 40 v)
    (h : DataW.Trod enc Tryd.prog W 0 (fun _ => true) true 40 v d p) : ∃ zs : List Int, RdI W v zs ∧ ∀ z ∈ zs, I64 z := by
  obtain ⟨a, len, cap, rfl⟩ := okWide_slice Tryd.underlying40 hv
  obtain ⟨fuel, hf⟩ := h
  exact cells_of_ints hf

theorem Tryd.nodeStruct : ∃ fs : Array Field, Tryd.prog.underlying 65 = some (.struct fs) ∧ (fs[0]?.map fun f => (f.type, f.offset)) = some (3, 0) ∧ (fs[1]?.map fun f => (f.type, f.offset)) = some (3, 1) ∧
    (fs[2]?.map fun f => (f.type, f.offset)) = some (9, 2) ∧ (fs[3]?.map fun f => (f.type, f.offset)) = some (40, 3) := ⟨_, Tryd.underlying65, rfl, rfl, rfl, rfl⟩
theorem Tryd.nodeCells : Tryd.prog.cellsOf 65 = 4 := by kernel_rfl

/-- One node's cells. -/
theorem cells_of_node {H : Type} {enc : TypeId × Value → H} {W : World} {base : Nat} {sp : Nat → Bool} {held : Bool} {fuel : Nat} {cs : List Value} {x : DataW H × List MemPlace} (h : DataW.trod enc Tryd.prog W base sp held fuel 65 cs = some x) :
    ∃ (d : Nd) (lv : Value), cs = ndCells d lv ∧ RdI W lv d.l ∧ NdOk d := by
  obtain ⟨fs, hst, f0, f1, f2, f3⟩ := Tryd.nodeStruct
  obtain ⟨ys, m, rfl, hy, hl, hyl, hall⟩ := DataW.trod_struct hst h
  rw [Tryd.nodeCells] at hl
  obtain ⟨v0, v1, v2, v3, rfl⟩ : ∃ v0 v1 v2 v3, cs = [v0, v1, v2, v3] := by
    match cs, hl with
    | [a, b, c, d], _ => exact ⟨a, b, c, d, rfl⟩
  obtain ⟨g0, hg0, e0⟩ := Option.map_eq_some_iff.1 f0
  obtain ⟨g1, hg1, e1⟩ := Option.map_eq_some_iff.1 f1
  obtain ⟨g2, hg2, e2⟩ := Option.map_eq_some_iff.1 f2
  obtain ⟨g3, hg3, e3⟩ := Option.map_eq_some_iff.1 f3
  simp only [Prod.mk.injEq] at e0 e1 e2 e3
  have hsz : ∀ (j : Nat) (g : Field), fs[j]? = some g → ∃ y, ys[j]? = some y := fun j g hg => ⟨ys[j]'(by rw [hyl]; exact (Array.getElem?_eq_some_iff.1 hg).1), List.getElem?_eq_getElem _⟩
  obtain ⟨y0, hy0⟩ := hsz 0 g0 hg0
  obtain ⟨y1, hy1⟩ := hsz 1 g1 hg1
  obtain ⟨y2, hy2⟩ := hsz 2 g2 hg2
  obtain ⟨y3, hy3⟩ := hsz 3 g3 hg3
  have c1 : Tryd.prog.cellsOf 3 = 1 := by kernel_rfl
  have c2 : Tryd.prog.cellsOf 9 = 1 := by kernel_rfl
  have c3 : Tryd.prog.cellsOf 40 = 1 := by kernel_rfl
  have a0 := (hall 0 g0 hg0).trans hy0
  have a1 := (hall 1 g1 hg1).trans hy1
  have a2 := (hall 2 g2 hg2).trans hy2
  have a3 := (hall 3 g3 hg3).trans hy3
  rw [e0.1, e0.2, c1] at a0
  rw [e1.1, e1.2, c1] at a1
  rw [e2.1, e2.2, c2] at a2
  rw [e3.1, e3.2, c3] at a3
  simp only [List.drop_zero, List.drop_succ_cons, List.take_succ_cons, List.take_zero] at a0 a1 a2 a3
  obtain ⟨n0, q0, _, w0⟩ := DataW.trod_int Tryd.underlying3 a0
  obtain ⟨n1, q1, _, w1⟩ := DataW.trod_int Tryd.underlying3 a1
  obtain ⟨s, q2, _, w2⟩ := DataW.trod_string Tryd.underlying9 a2
  obtain ⟨zs, rd, h64⟩ := cells_of_ints a3
  simp only [List.cons.injEq, and_true] at q0 q1 q2
  subst q0 q1 q2
  refine ⟨⟨n0, n1, s.data.toList, zs⟩, v3, ?_, rd, ⟨bounds_i64 w0, bounds_i64 w1, ?_, h64⟩⟩
  · cases s; rfl
  · show s.data.toList.length ≤ maxLen
    have e : s.data.toList.length = s.size := Array.length_toList
    rw [e]; exact w2

/-- A slice of nodes that comes in. -/
theorem open_nodes {H : Type} {enc : TypeId × Value → H} {W : World} {base : Nat} {v : Value} {d : DataW H} {p : List MemPlace} (hv : Value.okWide Tryd.prog W .any base 70 v)
    (h : DataW.Trod enc Tryd.prog W 0 (fun _ => true) true 70 v d p) : ∃ ls : List Nd, RdNs W v ls ∧ ∀ d ∈ ls, NdOk d := by
  obtain ⟨a0, len0, cap0, rfl⟩ := okWide_slice Tryd.underlying70 hv
  obtain ⟨fuel, hf⟩ := h
  rcases Deep.open_slice Tryd.underlying70 hf with ⟨hcs, _⟩ | ⟨a, len, cap, m, n, D, Pl, hcs, _, hl, hm, hmm, _, hi⟩
  · simp [Value.cells] at hcs
    obtain ⟨rfl, rfl, rfl⟩ := hcs
    exact ⟨[], ⟨[], rfl, ⟨none, 0, rfl, rfl, Nat.le_refl _, Nat.zero_le _, fun _ => rfl, fun _ h => by cases h⟩, fun i hi => by simp at hi⟩, fun d hd => by cases hd⟩
  · simp [Value.cells] at hcs
    obtain ⟨rfl, rfl, rfl⟩ := hcs
    have hlm : len0 ≤ m := by rw [hmm]; split <;> omega
    have hel : ∀ i, ∃ (d : Nd) (lv : Value), i < len0 → (∀ j u, (ndCells d lv)[j]? = some u → W.cell? (a.add (i * 4 + j)) = some u) ∧ RdI W lv d.l ∧ NdOk d := by
      intro i
      by_cases c : i < len0
      · obtain ⟨cs', hc, ht⟩ := hi i (by omega)
        rw [Tryd.nodeCells] at hc
        obtain ⟨_, hcl, hat⟩ := World.cells?_some hc
        obtain ⟨d, lv, rfl, rd, ok⟩ := cells_of_node ht
        refine ⟨d, lv, fun _ => ⟨fun j u hj => ?_, rd, ok⟩⟩
        have hj4 : j < 4 := by
          have := (List.getElem?_eq_some_iff.1 hj).1
          simpa [ndCells] using this
        rw [← Go.Deep.add_add, hat j hj4, hj]
      · exact ⟨nd0, undef, fun h => absurd h c⟩
    obtain ⟨dd, ll, hdl⟩ : ∃ (dd : Nat → Nd) (ll : Nat → Value), ∀ i, i < len0 → (∀ j u, (ndCells (dd i) (ll i))[j]? = some u → W.cell? (a.add (i * 4 + j)) = some u) ∧ RdI W (ll i) (dd i).l ∧ NdOk (dd i) :=
      ⟨fun i => Classical.choose (hel i), fun i => Classical.choose (Classical.choose_spec (hel i)), fun i => Classical.choose_spec (Classical.choose_spec (hel i))⟩
    have gd : ∀ i, i < len0 → ((List.range len0).map dd).getD i nd0 = dd i := fun i hi => by simp [List.getD, List.getElem?_range hi]
    have gl : ∀ i, i < len0 → ((List.range len0).map ll).getD i undef = ll i := fun i hi => by simp [List.getD, List.getElem?_range hi]
    refine ⟨(List.range len0).map dd, ⟨(List.range len0).map ll, by simp, ?_, fun i hi => ?_⟩, fun d hd => ?_⟩
    · have el : ((List.range len0).map dd).length = len0 := by simp
      rw [el]
      refine ⟨some a, cap0, rfl, by rw [flat_length, el], hl, hm, (fun h => by cases h), fun ad had q u hq => ?_⟩
      cases had
      have hql : q < len0 * 4 := by
        have := (List.getElem?_eq_some_iff.1 hq).1
        rwa [flat_length, el] at this
      have hq2 : q = q / 4 * 4 + q % 4 := by omega
      have hi4 : q / 4 < len0 := by omega
      rw [hq2, flat_at _ _ (q / 4) (q % 4) (by rw [el]; exact hi4) (by omega), gd _ hi4, gl _ hi4] at hq
      rw [hq2]
      exact (hdl (q / 4) hi4).1 _ _ hq
    · have hi' : i < len0 := by simpa using hi
      rw [gd i hi', gl i hi']
      exact (hdl i hi').2.1
    · obtain ⟨i, hi, rfl⟩ := List.mem_map.1 hd
      exact (hdl i (List.mem_range.1 hi)).2.2
end Go.Proofs.YtdjfdobcjakmhaaDoor
end

section
/- Walks of package term: Len, has, New, allows. -/
set_option linter.unusedSimpArgs false
set_option linter.unusedVariables false
namespace Go.Proofs.YtdjfdobcjakmhaaDoor
open Go.RowKit Go.Maps

/-- The tables that the program reads. -/
structure Tabs (w : World) : Prop where
  pow : Lib.TabIs Tryd.prog w "internal/strconv.uint64pow10" .u64 Lib.pow10Tab
  kinds : ∀ o : Nat, o < 13 → w.cell? ⟨0, o * 3, none⟩ = some (.string (strB (kName o))) ∧ w.cell? ⟨0, o * 3 + 1, none⟩ = some (.int .i64 (kLeast o)) ∧ w.cell? ⟨0, o * 3 + 2, none⟩ = some (.int .i64 (kMost o))
theorem Tabs.kept {w w' : World} (h : Tabs w) (k : Kept w w') : Tabs w' := by
  refine ⟨Lib.tabBelow_of_tabIs h.pow w' k, fun o ho => ?_⟩
  obtain ⟨h1, h2, h3⟩ := h.kinds o ho
  have hb := World.block_lt_of_cell? _ _ h1
  exact ⟨(Below.cell k (p := ⟨0, o * 3, none⟩) hb).trans h1, (Below.cell k (p := ⟨0, o * 3 + 1, none⟩) hb).trans h2, (Below.cell k (p := ⟨0, o * 3 + 2, none⟩) hb).trans h3⟩

theorem arg_len {T : TypeId} {ky : Nd → List UInt8} {F : Nat → Prop} {w : World} {p : Value} {ds : List Nd} (h : ArG T ky F w p ds) :
    Calls Tryd.prog 29 #[p] w fun e w' => e = .returned (.int .i64 ds.length) ∧ w = w' := by
  obtain ⟨pb, mb, nv, rfl, c0, c1, hr⟩ := h.nodes
  obtain ⟨a, cap, rfl, _, _, _⟩ := hr.len
  go_enter Tryd.func29, Tryd.ntmps29
  go_wp2
  go_ret
  exact ⟨rfl, rfl⟩

theorem arg_has {T : TypeId} {ky : Nd → List UInt8} {F : Nat → Prop} {w : World} {p : Value} {ds : List Nd} (h : ArG T ky F w p ds) (t : Int) :
    Calls Tryd.prog 55 #[p, .int .i64 t] w fun e w' => e = .returned (.bool (decide (0 ≤ t ∧ t < ds.length))) ∧ w = w' := by
  by_cases h0 : 0 ≤ t
  · have hd : decide (t ≥ 0) = true := by simpa using h0
    go_enter Tryd.func55, Tryd.ntmps55
    go_wp2_with (go_at_call 29; refine (arg_len h).mono ?_; rintro e w' ⟨rfl, rfl⟩)
    go_ret
    exact ⟨by simp [h0], rfl⟩
  · go_enter Tryd.func55, Tryd.ntmps55
    go_wp2_with (go_at_call 29; refine (arg_len h).mono ?_; rintro e w' ⟨rfl, rfl⟩)
    go_ret
    exact ⟨by rw [decide_eq_false (p := 0 ≤ t) (by omega)]; rfl, rfl⟩
theorem arg_has_t {T : TypeId} {ky : Nd → List UInt8} {F : Nat → Prop} {w : World} {p : Value} {ds : List Nd} (h : ArG T ky F w p ds) {t : Int} (h0 : 0 ≤ t) (h1 : t < ds.length) :
    Calls Tryd.prog 55 #[p, .int .i64 t] w fun e w' => e = .returned (.bool true) ∧ w = w' :=
  (arg_has h t).mono fun e w' ⟨a, b⟩ => ⟨by rw [a, decide_eq_true ⟨h0, h1⟩], b⟩
theorem arg_has_f {T : TypeId} {ky : Nd → List UInt8} {F : Nat → Prop} {w : World} {p : Value} {ds : List Nd} (h : ArG T ky F w p ds) {t : Int} (h0 : ¬ (0 ≤ t ∧ t < ds.length)) :
    Calls Tryd.prog 55 #[p, .int .i64 t] w fun e w' => e = .returned (.bool false) ∧ w = w' :=
  (arg_has h t).mono fun e w' ⟨a, b⟩ => ⟨by rw [a, decide_eq_false h0], b⟩

/-- What a struct of an arena that was just made holds. -/
theorem arg_new {T : TypeId} {ky : Nd → List UInt8} (w : World) :
    ArG T ky (fun b => b = w.heap.size ∨ b = w.heap.size + 1) ((w.alloc (.map #[] 0)).alloc (.cells #[.slice none 0 0, .map (some w.heap.size)] T)) (.pointer (some ⟨w.heap.size + 1, 0, none⟩)) [] := by
  have hs : (w.alloc (.map #[] 0)).heap.size = w.heap.size + 1 := by simp
  refine ⟨Good.nil, ⟨w.heap.size + 1, w.heap.size, 0, .slice none 0 0, [], .map [], rfl, ?_, World.ownsRow_nil _ _ _ _, rfl, (fun i hi => by simp at hi), ?_, Nat.le_refl _, ⟨(fun i hi => by simp at hi), fun s hs => by simp [Maps.has] at hs⟩, .inr rfl, .inl rfl, (fun b hb => by cases hb), fun i hi => by simp at hi⟩, ?_, Nat.zero_le _, fun x hx => by cases hx⟩
  · have := heap_alloc_new (w.alloc (.map #[] 0)) (.cells #[.slice none 0 0, .map (some w.heap.size)] T)
    rw [hs] at this
    exact this
  · exact (World.ownsMap_made w _ _ _).alloc _
  · intro b hb
    rw [alloc_size, alloc_size]
    omega
theorem new_any (w : World) : Calls Tryd.prog 34 #[] w fun e w' => ∃ (F : Nat → Prop) (p : Value), e = .returned p ∧ Ar F w' p [] ∧ Kept w w' ∧ (∀ b, F b → w.heap.size ≤ b) ∧ p = .pointer (some ⟨w.heap.size + 1, 0, none⟩) := by
  have hmm := @run_makeMap Tryd.prog
  go_enter Tryd.func34, Tryd.ntmps34
  go_wp2
  go_ret
  exact ⟨fun b => b = w.heap.size ∨ b = w.heap.size + 1, .pointer (some ⟨w.heap.size + 1, 0, none⟩), rfl, arg_new w, ((Kept.refl w).alloc _).alloc _, fun b hb => (by omega), rfl⟩
end Go.Proofs.YtdjfdobcjakmhaaDoor
end

section
/- The tables that the rows list: what they hold when the call begins; a world that holds them. -/
set_option linter.unusedSimpArgs false
set_option linter.unusedVariables false
namespace Go.Proofs.YtdjfdobcjakmhaaDoor
open Go.RowKit Go.ChangeShapes Go.WideShapes

/-- What the rows list. -/
def laidAll : List (String × DataW Unit) := Rows.transcriptTagsRow.laid

theorem Tryd.kindStruct : ∃ fs : Array Field, Tryd.prog.underlying 112 = some (.struct fs) ∧ (fs[0]?.map fun f => (f.type, f.offset)) = some (9, 0) ∧ (fs[1]?.map fun f => (f.type, f.offset)) = some (3, 1) ∧ (fs[2]?.map fun f => (f.type, f.offset)) = some (3, 2) := ⟨_, Tryd.underlying112, rfl, rfl, rfl⟩
theorem Tryd.kindCells : Tryd.prog.cellsOf 112 = 3 := by kernel_rfl
theorem Tryd.kindsCells : Tryd.prog.cellsOf 113 = 39 := by kernel_rfl
theorem Tryd.strCells : Tryd.prog.cellsOf 9 = 1 := by kernel_rfl
theorem Tryd.intCells : Tryd.prog.cellsOf 3 = 1 := by kernel_rfl
theorem kinds_data : (Rows.laid_cassock_term_kinds : DataW Unit) = .agg (kTab.map fun x => .agg [.lit (.string x.1), .lit (.int .i64 x.2.1), .lit (.int .i64 x.2.2)]) := rfl

theorem kinds_cells {W : World} (h : Lib.VarReads Tryd.prog W "cassock/term.kinds" Rows.laid_cassock_term_kinds) :
    ∀ o : Nat, o < 13 → W.cell? ⟨0, o * 3, none⟩ = some (.string (strB (kName o))) ∧ W.cell? ⟨0, o * 3 + 1, none⟩ = some (.int .i64 (kLeast o)) ∧ W.cell? ⟨0, o * 3 + 2, none⟩ = some (.int .i64 (kMost o)) := by
  obtain ⟨g, t, cs, fuel, p, h1, h2, h3, h4⟩ := h
  have hg : Tryd.prog.globalNamed "cassock/term.kinds" = some 0 := by kernel_rfl
  have hty : (Tryd.prog.globals[(0 : Nat)]?).map (·.type) = some 113 := by kernel_rfl
  obtain rfl := Option.some.inj (hg.symm.trans h1)
  obtain rfl := Option.some.inj (hty.symm.trans h2)
  have hcell : ∀ i v, cs.toList[i]? = some v → W.cell? ⟨0, i, none⟩ = some v := fun i v hv => by
    rw [World.var?_cell hg h3 i]; simpa using hv
  rw [kinds_data] at h4
  obtain ⟨fs, hst, f0, f1, f2⟩ := Tryd.kindStruct
  cases fuel with
  | zero => simp [DataW.trod] at h4
  | succ fuel =>
    simp only [DataW.trod, Tryd.underlying113, Tryd.kindCells, Tryd.kindsCells] at h4
    split at h4
    · obtain ⟨xs, hm, hx⟩ := Option.map_eq_some_iff.1 h4
      have hxs : xs.map (·.1) = kTab.map fun x => (.agg [.lit (.string x.1), .lit (.int .i64 x.2.1), .lit (.int .i64 x.2.2)] : DataW Unit) := by
        have := congrArg Prod.fst hx
        simpa using this
      intro o ho
      obtain ⟨b, hb, hf⟩ := Lib.mapM_at hm o o (by simp [ho])
      have hd : b.1 = .agg [.lit (.string (kName o)), .lit (.int .i64 (kLeast o)), .lit (.int .i64 (kMost o))] := by
        have h5 : (xs.map (·.1))[o]? = some b.1 := by simp [hb]
        rw [hxs, List.getElem?_map] at h5
        have hk : kTab[o]? = some (kTab.getD o ([], 0, 0)) := by
          rw [List.getD_eq_getElem?_getD, List.getElem?_eq_getElem (by simpa [kTab] using ho)]; rfl
        rw [hk] at h5
        simp only [Option.map_some, Option.some.injEq] at h5
        rw [← h5]
        rfl
      obtain ⟨ys, m, rfl, hy, hl, hyl, hall⟩ := DataW.trod_struct hst hf
      have hys : ys.map (·.1) = [.lit (.string (kName o)), .lit (.int .i64 (kLeast o)), .lit (.int .i64 (kMost o))] := by
        have := congrArg Prod.fst hy
        rw [hd] at this
        simpa using this.symm
      have hget : ∀ j v, ((cs.toList.drop (o * 3)).take 3)[j]? = some v → W.cell? ⟨0, o * 3 + j, none⟩ = some v := fun j v hv => by
        refine hcell _ _ ?_
        rw [List.getElem?_take] at hv
        split at hv
        · rw [List.getElem?_drop] at hv; exact hv
        · cases hv
      obtain ⟨g0, hg0, e0⟩ := Option.map_eq_some_iff.1 f0
      obtain ⟨g1, hg1, e1⟩ := Option.map_eq_some_iff.1 f1
      obtain ⟨g2, hg2, e2⟩ := Option.map_eq_some_iff.1 f2
      simp only [Prod.mk.injEq] at e0 e1 e2
      have a0 := hall 0 g0 hg0
      have a1 := hall 1 g1 hg1
      have a2 := hall 2 g2 hg2
      rw [e0.1, e0.2, Tryd.strCells] at a0
      rw [e1.1, e1.2, Tryd.intCells] at a1
      rw [e2.1, e2.2, Tryd.intCells] at a2
      have hl3 : ys.length = 3 := by simpa using congrArg List.length hys
      obtain ⟨y0, y1, y2, rfl⟩ : ∃ y0 y1 y2, ys = [y0, y1, y2] := by
        match ys, hl3 with
        | [a, b, c], _ => exact ⟨a, b, c, rfl⟩
      simp only [List.map_cons, List.map_nil, List.cons.injEq, and_true] at hys
      obtain ⟨q0, q1, q2⟩ := hys
      simp only [List.getElem?_cons_zero, List.getElem?_cons_succ] at a0 a1 a2
      obtain ⟨s, c0, r0, _⟩ := DataW.trod_string Tryd.underlying9 a0
      obtain ⟨n1, c1, r1, _⟩ := DataW.trod_int Tryd.underlying3 a1
      obtain ⟨n2, c2, r2, _⟩ := DataW.trod_int Tryd.underlying3 a2
      rw [r0] at q0
      rw [r1] at q1
      rw [r2] at q2
      simp only [DataW.lit.injEq, Lit.string.injEq, Lit.int.injEq, true_and] at q0 q1 q2
      have hs : s = strB (kName o) := by
        cases s with
        | mk data => unfold strB; rw [← q0]
      subst hs q1 q2
      generalize (cs.toList.drop (o * 3)).take 3 = es at hget c0 c1 c2
      refine ⟨?_, ?_, ?_⟩
      · have := hget 0 (.string (strB (kName o))) (by have := congrArg (·[0]?) c0; simpa [List.getElem?_take, List.getElem?_drop] using this)
        exact this
      · exact hget 1 _ (by have := congrArg (·[0]?) c1; simpa [List.getElem?_take, List.getElem?_drop] using this)
      · exact hget 2 _ (by have := congrArg (·[0]?) c2; simpa [List.getElem?_take, List.getElem?_drop] using this)
    · cases h4

theorem pow_data : (Rows.laid_internal_strconv_uint64pow10 : DataW Unit) = Lib.tabData .u64 Lib.pow10Tab := rfl
theorem pow_tab {W : World} (h : Lib.VarReads Tryd.prog W "internal/strconv.uint64pow10" Rows.laid_internal_strconv_uint64pow10) : Lib.TabIs Tryd.prog W "internal/strconv.uint64pow10" .u64 Lib.pow10Tab := by
  obtain ⟨g, t, cs, fuel, p, h1, h2, h3, h4⟩ := h
  have hg : Tryd.prog.globalNamed "internal/strconv.uint64pow10" = some 1 := by kernel_rfl
  have hty : (Tryd.prog.globals[(1 : Nat)]?).map (·.type) = some 137 := by kernel_rfl
  obtain rfl := Option.some.inj (hg.symm.trans h1)
  obtain rfl := Option.some.inj (hty.symm.trans h2)
  rw [pow_data] at h4
  unfold Lib.TabIs
  rw [h3, ← Lib.cells_of_tab Tryd.underlying137 Tryd.underlying122 (by kernel_rfl) (by kernel_rfl) h4]

theorem tabs_of_laid {W : World} (h : laidMetH Tryd.prog laidAll W) : Tabs W := by
  have h' : laidMet Tryd.prog laidAll W := h
  exact ⟨pow_tab (Lib.laidMet.reads h' (by simp [laidAll, Rows.transcriptTagsRow])), kinds_cells (Lib.laidMet.reads h' (by simp [laidAll, Rows.transcriptTagsRow]))⟩

/-- A world that holds the tables. -/
noncomputable def laidWorld (os : Os) : World := World.laidAll Tryd.prog os laidAll
theorem laidWorld_met (os : Os) (args : Array Value) : laidMetH Tryd.prog laidAll ((laidWorld os).forCall (fun _ _ => 0) ⟨#[], args, []⟩).memory :=
  laidMet_laidAll args (by kernel_rfl) (by kernel_rfl)
theorem laidWorld_shaped (os : Os) (args : Array Value) : ((laidWorld os).forCall (fun _ _ => 0) ⟨#[], args, []⟩).Shaped Tryd.prog :=
  World.shaped_of_ZipB (by kernel_rfl) (by kernel_rfl)
end Go.Proofs.YtdjfdobcjakmhaaDoor
end

section
/- The variables that hold strconv's errors. -/
set_option linter.unusedSimpArgs false
set_option linter.unusedVariables false
namespace Go.Proofs.YtdjfdobcjakmhaaDoor
open Go.RowKit Go.Maps

/-- A variable that holds an error, or none. -/
def IsErr (w : World) (g : Nat) : Prop := ∃ v, w.cell? ⟨g, 0, none⟩ = some v ∧ (v = .nilIface ∨ ∃ te pe, v = .iface te pe)
theorem IsErr.kept {w w' : World} {g : Nat} (h : IsErr w g) (k : Kept w w') : IsErr w' g := by
  obtain ⟨v, h1, h2⟩ := h
  exact ⟨v, (Below.cell k (p := ⟨g, 0, none⟩) (World.block_lt_of_cell? _ _ h1)).trans h1, h2⟩
/-- The errors of strconv. -/
structure TabsE (w : World) : Prop where
  syn : IsErr w 2
  rng : IsErr w 3
theorem TabsE.kept {w w' : World} (h : TabsE w) (k : Kept w w') : TabsE w' := ⟨h.syn.kept k, h.rng.kept k⟩

end Go.Proofs.YtdjfdobcjakmhaaDoor
end

section
/- The variables that hold strconv's errors: what the rows list of them. -/
set_option linter.unusedSimpArgs false
set_option linter.unusedVariables false
namespace Go.Proofs.YtdjfdobcjakmhaaDoor
open Go.RowKit Go.ChangeShapes Go.WideShapes

theorem err_of_reads {W : World} {nm : String} {g : Nat} {t1 : String} {d1 : DataW Unit} (hg : Tryd.prog.globalNamed nm = some g) (hty : (Tryd.prog.globals[g]?).map (·.type) = some 105) (h : Lib.VarReads Tryd.prog W nm (.iface t1 d1)) : IsErr W g := by
  obtain ⟨g', t, cs, fuel, p, h1, h2, h3, h4⟩ := h
  obtain rfl := Option.some.inj (hg.symm.trans h1)
  obtain rfl := Option.some.inj (hty.symm.trans h2)
  obtain ⟨f1, u, v, hcs, hn, hx⟩ := iface_of_trod Tryd.underlying105 h4
  have h0 := World.var?_cell hg h3 0
  obtain ⟨l⟩ := cs
  obtain rfl : l = [.iface u v] := hcs
  exact ⟨_, by simpa using h0, .inr ⟨u, v, rfl⟩⟩
theorem tabsE_of_laid {W : World} (h : laidMetH Tryd.prog laidAll W) : TabsE W := by
  have h' : laidMet Tryd.prog laidAll W := h
  exact ⟨err_of_reads (nm := "strconv.ErrSyntax") (by kernel_rfl) (by kernel_rfl) (Lib.laidMet.reads h' (d := Rows.laid_strconv_ErrSyntax) (by simp [laidAll, Rows.transcriptTagsRow])), err_of_reads (nm := "strconv.ErrRange") (by kernel_rfl) (by kernel_rfl) (Lib.laidMet.reads h' (d := Rows.laid_strconv_ErrRange) (by simp [laidAll, Rows.transcriptTagsRow]))⟩
end Go.Proofs.YtdjfdobcjakmhaaDoor
end

section
/- Walks of package term: a node's text among others. -/
set_option linter.unusedSimpArgs false
set_option linter.unusedVariables false
namespace Go.Proofs.YtdjfdobcjakmhaaDoor
open Go.RowKit Go.Maps

theorem clone_any {w : World} {v : Value} {zs : List Int} (h : RdI w v zs) (hl : zs.length ≤ 10000000000) :
    Calls Tryd.prog 66 #[v] w fun e w' => ∃ v', e = .returned v' ∧ OwnI w.heap.size w' v' zs ∧ Kept w w' := by
  by_cases hp : 0 < zs.length
  · obtain ⟨b, off, cap, rfl, hc, hm, hb, hcell⟩ := h.addr hp
    refine (Tryd.slices_Clone_int b off zs.length cap zs w (Nat.le_refl _) (by omega) hcell).mono ?_
    rintro e w' ⟨v', rfl, ho, _, hk⟩
    exact ⟨v', rfl, by rw [List.take_length] at ho; exact ho, hk⟩
  · obtain rfl : zs = [] := List.eq_nil_of_length_eq_zero (by omega)
    obtain ⟨a, cap, rfl, h1, h2, h3⟩ := h.len
    cases a with
    | none =>
      refine (Tryd.slices_Clone_int_nil _ _ w).mono ?_
      rintro e w' ⟨rfl, rfl⟩
      exact ⟨_, rfl, OwnI.nil _ _, Kept.refl _⟩
    | some a =>
      refine (Tryd.slices_Clone_int_zero a cap w).mono ?_
      rintro e w' ⟨v', rfl, ho, _, hk⟩
      exact ⟨v', rfl, ho, hk⟩

/-- Bytes as numbers. -/
def toI (bs : List UInt8) : List Int := bs.map fun b => (b.toNat : Int)
theorem toI_length (bs : List UInt8) : (toI bs).length = bs.length := by simp [toI]
theorem toI_append (a b : List UInt8) : toI (a ++ b) = toI a ++ toI b := by simp [toI]
theorem toI_cells (bs : List UInt8) : (toI bs).map (Value.int .u8) = Lib.byteCells bs := by simp [toI, Lib.byteCells, Function.comp_def]
theorem strOf_toI (bs : List UInt8) : strOfNums (toI bs) = strB bs := by
  have h : (toI bs).map (fun n => UInt8.ofNat n.toNat) = bs := by
    unfold toI
    rw [List.map_map]
    conv => rhs; rw [← List.map_id bs]
    apply List.map_congr_left
    intro b _
    simp
  have h2 := strOf_toList (toI bs)
  rw [h] at h2
  cases hs : strOfNums (toI bs) with
  | mk data =>
    rw [hs, ByteArray.toList_eq] at h2
    unfold strB
    simp only at h2
    congr 1
    rw [← h2]
/-- v is a row of bytes of the call's own. -/
def OwnU (B : Nat) (w : World) (v : Value) (bs : List UInt8) : Prop := Own B 5 w v (toI bs)
theorem OwnU.below {B : Nat} {w w' : World} {v : Value} {bs : List UInt8} (h : OwnU B w v bs) (k : Kept w w') : OwnU B w' v bs := Own.kept h k
theorem strU {B : Nat} {w : World} {v : Value} {bs : List UInt8} (h : OwnU B w v bs) : (convert 91 9 v).run Tryd.prog w = .ok (.string (strB bs)) w := by
  rw [← strOf_toI]; exact strs0 (Own.rd h)

theorem itoa_len {i : Int} (h : I64 i) : (Lib.itoa i).length ≤ 21 := Lib.itoa_length_le i h.1 h.2

theorem appendInt_any {B : Nat} {w : World} {v : Value} {bs : List UInt8} (ho : OwnU B w v bs) (hB : B ≤ w.heap.size) (hl : bs.length ≤ 1000000) {i : Int} (hi : I64 i) (ht : Lib.TabBelow Tryd.prog B w "internal/strconv.uint64pow10" .u64 Lib.pow10Tab) :
    Calls Tryd.prog 72 #[v, .int .i64 i, .int .i64 10] w fun e w' => ∃ v', e = .returned v' ∧ OwnU B w' v' (bs ++ Lib.itoa i) ∧ Below B w w' := by
  unfold OwnU Own Ownv at ho
  rw [toI_cells, toI_length] at ho
  refine (Tryd.strconv_AppendInt_10 B bs.length i hi.1 hi.2 v (Lib.byteCells bs) w ho hB (by omega) ht).mono ?_
  rintro e w' ⟨v', rfl, h1, h2, _⟩
  refine ⟨v', rfl, ?_, h2⟩
  unfold OwnU Own Ownv
  rw [toI_cells, toI_length, List.length_append]
  simpa [Lib.byteCells] using h1

/-- append of bytes to bytes of the call's own: which blocks may turn. -/
theorem go_appbt {w : World} {ops : Array Oper} {rest : List Oper} {a : Act} {Q : Exit → Act → World → Prop} {d : Option Tmp} {ty : TypeId} {ps : String} {af : Array Edge} {s x : Operand}
    (B : Nat) (v : Value) (zs : List Int) (hs : a.eval s = v) (ho : Own B 5 w v zs) (u : Value) (news : List Int) (hx : a.eval x = u) (hr : Rd w u news)
    (hl : zs.length + news.length ≤ 140737488355328) (hB : B ≤ w.heap.size)
    (hK : ∀ v' w', Own B 5 w' v' (zs ++ news) → Turn (Blks v) w w' → (∀ b, Blks v' b → Blks v b ∨ w.heap.size ≤ b) → wpList Tryd.prog ops Q rest (a.put d v') w') :
    wpList Tryd.prog ops Q (⟨d, .call { callee := .builtin .append, args := #[s, x], argTypes := #[91, 91] }, ty, ps, af, none⟩ :: rest) a w := by
  obtain ⟨i0, hi, hz0, hz1, hz2⟩ := info_parts Tryd.info5
  refine go_app_at B 5 1 1 i0 (.int .u8 0) Tryd.underlying91 hi hz0 hz1 hz2 rfl (by decide) v zs.length (zs.map (Value.int .u8)) hs ho u news.length (news.map (Value.int .u8)) hx hr (ones_int .u8 news) (by unfold maxLen; omega) (by omega) hB ?_
  intro v' w' h1 h2 h3
  exact hK v' w' (by unfold Own; simpa using h1) h2 h3

/-- append of one byte, of a literal that was just laid. -/
theorem go_app1 {w : World} {ops : Array Oper} {rest : List Oper} {a : Act} {Q : Exit → Act → World → Prop} {d : Option Tmp} {ty : TypeId} {ps : String} {af : Array Edge} {s x : Operand}
    (B : Nat) (v : Value) (bs : List UInt8) (hs : a.eval s = v) (w0 : World) (c : UInt8) (z : Int) (hz : z = c.toNat) (hw : w = w0.alloc (.cells #[.int .u8 z] 5)) (ho : OwnU B w0 v bs) (hx : a.eval x = .slice (some ⟨w0.heap.size, 0, none⟩) 1 1)
    (hl : bs.length ≤ 1000000) (hB : B ≤ w0.heap.size)
    (hK : ∀ v' w', OwnU B w' v' (bs ++ [c]) → Turn (Blks v) w0 w' → Below B w0 w' → (∀ b, Blks v' b → Blks v b ∨ w0.heap.size ≤ b) → wpList Tryd.prog ops Q rest (a.put d v') w') :
    wpList Tryd.prog ops Q (⟨d, .call { callee := .builtin .append, args := #[s, x], argTypes := #[91, 91] }, ty, ps, af, none⟩ :: rest) a w := by
  subst hw hz
  have hr : Rd (w0.alloc (.cells #[.int .u8 c.toNat] 5)) (.slice (some ⟨w0.heap.size, 0, none⟩) 1 1) [(c.toNat : Int)] := (Own.lit [(c.toNat : Int)] (by simp)).rd
  refine go_appbt B v (toI bs) hs (Own.kept ho ((Kept.refl w0).alloc _)) _ [(c.toNat : Int)] hx hr (by rw [toI_length]; simp; omega) (by rw [alloc_size]; omega) ?_
  intro v' w' h1 h2 h3
  have ht : Turn (Blks v) w0 w' := (((Kept.refl w0).alloc _).turn _).trans h2 (fun x hx => .inl hx)
  refine hK v' w' ?_ ht (Turn.below (Below.refl B w0) ht (fun b hb => (Ownv.lt ho hb).2) hB) (fun b hb => (h3 b hb).imp id (fun c => by rw [alloc_size] at c; omega))
  unfold OwnU
  rw [toI_append]
  exact h1

theorem cell0_alloc (w : World) (cs : Array Value) (e : TypeId) (i : Nat) : (w.alloc (.cells cs e)).cell? ⟨w.heap.size, i, none⟩ = cs[i]? := cell_of_row _ w.heap.size i _ _ _ (heap_alloc_new w _)

theorem partsKey_len (l : List Int) (h : ∀ x ∈ l, I64 x) : (partsKey l).length ≤ 22 * l.length := by
  induction l with
  | nil => simp [partsKey]
  | cons x l ih =>
    rw [partsKey_cons]
    have := ih fun y hy => h y (List.mem_cons_of_mem _ hy)
    have := itoa_len (h x List.mem_cons_self)
    simp
    omega

set_option maxRecDepth 100000 in
set_option maxHeartbeats 4000000 in
theorem text_any {w : World} (ht : Tabs w) {v : Value} {d : Nd} (hd : RdN w v d) (hop : 1 ≤ d.op ∧ d.op ≤ 12) (hok : NdOk d) (hs : d.s.length ≤ 200) (hl : d.l.length ≤ 64) :
    Calls Tryd.prog 60 #[v] w fun e w' => e = .returned (.string (strB (key d))) ∧ Kept w w' := by
  obtain ⟨lv, rfl, hr⟩ := hd
  obtain ⟨op, n, s, l⟩ := d
  simp only at hr hop hs hl ⊢
  obtain ⟨h1, h2⟩ := hop
  have hn := hok.n
  have hll := hok.l
  simp only at hn hll
  have hT := Lib.tabBelow_of_tabIs ht.pow
  obtain ⟨o, rfl⟩ := Int.eq_ofNat_of_zero_le (show 0 ≤ op by omega)
  have hb8 : ((UInt8.ofNat o).toNat : Int) = (o : Int) := by rw [ofNat_small (by omega)]
  have hlit : ∀ W : World, OwnU W.heap.size (W.alloc (.cells #[.int .u8 (o : Int)] 5)) (.slice (some ⟨W.heap.size, 0, none⟩) 1 1) [UInt8.ofNat o] := fun W => by
    have := Own.lit (w := W) (toI [UInt8.ofNat o]) (by simp [toI])
    unfold OwnU
    simp only [toI, List.map_cons, List.map_nil, hb8] at this ⊢
    exact this
  have hE : strOfNums (toI []) = strB [] := strOf_toI []
  by_cases c1 : (o : Int) = 1
  · obtain rfl : o = 1 := by omega
    have H1 := hlit (w.alloc (.cells #[.int .i64 1, .int .i64 n, .string (strB s), lv] 65))
    have hsz := alloc_size w (.cells #[.int .i64 1, .int .i64 n, .string (strB s), lv] 65)
    have K1 : Kept w ((w.alloc (.cells #[.int .i64 1, .int .i64 n, .string (strB s), lv] 65)).alloc (.cells #[.int .u8 1] 5)) := ((Kept.refl w).alloc _).alloc _
    go_enter Tryd.func60, Tryd.ntmps60
    go_wp2_with fail
    rw [hsz] at H1
    refine (appendInt_any (bs := [UInt8.ofNat 1]) (B := w.heap.size) (Own.mono H1 (by omega)) K1.size (by simp) hn (hT.on K1)).mono ?_
    rintro e w1 ⟨v1, rfl, ho1, hb1⟩
    have hstr := strU ho1
    go_wp2
    go_ret
    exact ⟨rfl, Below.trans K1 hb1⟩
  · by_cases c2 : (o : Int) = 2
    · obtain rfl : o = 2 := by omega
      have H1 := hlit (w.alloc (.cells #[.int .i64 2, .int .i64 n, .string (strB s), lv] 65))
      have hsz := alloc_size w (.cells #[.int .i64 2, .int .i64 n, .string (strB s), lv] 65)
      have K1 : Kept w ((w.alloc (.cells #[.int .i64 2, .int .i64 n, .string (strB s), lv] 65)).alloc (.cells #[.int .u8 2] 5)) := ((Kept.refl w).alloc _).alloc _
      obtain ⟨i0, hi, hz0, hz1, hz2⟩ := info_parts Tryd.info5
      go_enter Tryd.func60, Tryd.ntmps60
      rw [hsz] at H1
      go_wp2_with (at_builtin; refine Lib.wpList_append_own_string _ rfl _ _ 91 9 rfl w.heap.size 5 i0 Tryd.underlying91 Tryd.underlying9 hi hz0 hz1 hz2 _ 1 _ rfl (Own.mono H1 (by omega)) (strB s) rfl (by rw [strB_size]; unfold maxLen; omega) (by rw [strB_size]; omega) K1.size ?_; intro v1 w1 ho1 hg1 _; refine Hid.out ?_)
      refine Lib.hid ?_
      have hb1 : Below w.heap.size w w1 := Below.grown K1 hg1 K1.size (fun k hk => by cases hk; show w.heap.size ≤ w.heap.size + 1; omega)
      have ho2 : OwnU w.heap.size w1 v1 (UInt8.ofNat 2 :: s) := by
        unfold OwnU Own Ownv
        rw [toI_cells, toI_length]
        have e1 : (UInt8.ofNat 2 :: s).length = 1 + (strB s).size := by rw [strB_size]; simp; omega
        rw [e1]
        exact ho1
      have hstr := strU ho2
      go_wp2
      go_ret
      exact ⟨rfl, hb1⟩
    · have hk : key ⟨(o : Int), n, s, l⟩ = UInt8.ofNat o :: partsKey l := by unfold key; rw [if_neg c1, if_neg c2]; rfl
      rw [hk]
      clear hk
      have d1 : ((o : Int) == 1) = false := by simpa using c1
      have d2 : ((o : Int) == 2) = false := by simpa using c2
      have hm : (o : Int) % 256 = (o : Int) := by omega
      have K0 : Kept w ((w.alloc (.cells #[.int .i64 (o : Int), .int .i64 n, .string (strB s), lv] 65)).alloc (.cells #[.int .u8 ((o : Int) % 256)] 5)) := ((Kept.refl w).alloc _).alloc _
      have H1 := hlit (w.alloc (.cells #[.int .i64 (o : Int), .int .i64 n, .string (strB s), lv] 65))
      have hsz := alloc_size w (.cells #[.int .i64 (o : Int), .int .i64 n, .string (strB s), lv] 65)
      rw [hsz] at H1
      have H2 : OwnU w.heap.size ((w.alloc (.cells #[.int .i64 (o : Int), .int .i64 n, .string (strB s), lv] 65)).alloc (.cells #[.int .u8 ((o : Int) % 256)] 5)) (.slice (some ⟨w.heap.size + 1, 0, none⟩) 1 1) [UInt8.ofNat o] := by rw [hm]; exact Own.mono H1 (Nat.le_succ _)
      clear hm
      obtain ⟨la, lc, rfl, l1, l2, l3⟩ := hr.len
      have HO := Shut.mk h2
      clear h2 c1 c2
      go_enter Tryd.func60, Tryd.ntmps60
      go_wp2
      go_loopw [3, 15] (fun b i wr => ∃ k : Nat, k ≤ l.length ∧ i = .int .i64 k ∧ OwnU w.heap.size wr b (UInt8.ofNat o :: partsKey (l.take k)) ∧ Kept w wr) (fun _ i _ => l.length - (intOf i).toNat)
      case atStart => exact ⟨0, Nat.zero_le _, rfl, H2, K0⟩
      case round =>
        obtain ⟨k, hk0, rfl, hown, hkept⟩ := hrel
        by_cases hlt : k < l.length
        · obtain ⟨rb, ro, rc, hrv, _, _, hrb, hcell⟩ := hr.addr (by omega)
          simp only [Value.slice.injEq] at hrv
          obtain ⟨rfl, _, rfl⟩ := hrv
          have hcw : wr.cell? ⟨rb, ro + k, none⟩ = some (.int .i64 (l.getD k 0)) := hkept.cell (p := ⟨rb, ro + k, none⟩) hrb |>.trans (hcell k hlt)
          clear hcell
          have hx64 : I64 (l.getD k 0) := hll _ (by rw [List.getD_eq_getElem?_getD, List.getElem?_eq_getElem hlt]; exact List.getElem_mem _)
          have hstep : partsKey (l.take (k + 1)) = partsKey (l.take k) ++ (Lib.itoa (l.getD k 0) ++ [44]) := by
            rw [List.take_succ_eq_append_getElem hlt, partsKey_snoc, List.getD_eq_getElem?_getD, List.getElem?_eq_getElem hlt]; rfl
          have hpl : (partsKey (l.take k)).length ≤ 22 * k := by
            have := partsKey_len (l.take k) (fun x hx => hll x (List.mem_of_mem_take hx))
            rw [List.length_take] at this
            omega
          have HS := Shut.mk hstep
          clear hstep
          generalize l.getD k 0 = x at hcw hx64 HS
          have hil := itoa_len hx64
          have hT1 := hT.on hkept
          go_wp2_with fail
          refine (appendInt_any hown hkept.size (by simp; omega) hx64 hT1).mono ?_
          rintro e w1 ⟨v1, rfl, ho1, hb1⟩
          have hk1 : Kept w w1 := Below.trans hkept hb1
          go_wp2_with (at_builtin; refine go_app1 w.heap.size v1 _ rfl w1 44 44 rfl rfl ho1 rfl (by simp; omega) hk1.size ?_; intro v2 w2 ho2 _ hb2 _)
          go_roundw
          case rel =>
            refine ⟨k + 1, hlt, rfl, ?_, Below.trans hk1 hb2⟩
            rw [HS.out]
            simpa using ho2
          case measure => simp [intOf]; omega
        · obtain rfl : k = l.length := by omega
          rw [List.take_length] at hown
          have hstr := strU hown
          go_wp2
          go_ret
          exact ⟨rfl, hkept⟩
end Go.Proofs.YtdjfdobcjakmhaaDoor
end

section
/- Walks of package term: keep. -/
set_option linter.unusedSimpArgs false
set_option linter.unusedVariables false
namespace Go.Proofs.YtdjfdobcjakmhaaDoor
open Go.RowKit Go.Maps

theorem sclone_any (s : ByteArray) (w : World) (hl : s.size ≤ 1000000) : Calls Tryd.prog 73 #[.string s] w fun e w' => e = .returned (.string s) ∧ Kept w w' := by
  go_enter Tryd.func73, Tryd.ntmps73
  go_wp2_with (go_at_call 80; refine (Tryd.stringslite_Clone s _ (by omega)).mono ?_; rintro e w' ⟨rfl, hk⟩)
  go_ret
  exact ⟨rfl, hk⟩

theorem Tryd.infoNode : (Tryd.prog.info? 65).map (fun i => (i.zero, i.size, i.bytes)) = some (some (.agg #[.int .i64 0, .int .i64 0, .string ⟨#[]⟩, .slice none 0 0]), 4, 56) := by kernel_rfl

theorem key_len {d : Nd} (hok : NdOk d) (hs : d.s.length ≤ 200) (hl : d.l.length ≤ 64) : (key d).length ≤ 2000 := by
  unfold key
  have h1 := itoa_len hok.n
  have h2 := partsKey_len d.l hok.l
  split
  · simp; omega
  · split
    · simp; omega
    · simp; omega

set_option maxRecDepth 100000 in
set_option maxHeartbeats 4000000 in
theorem keep_any {F : Nat → Prop} {w : World} {p : Value} {ds : List Nd} (h : Ar F w p ds) {v : Value} {d : Nd} (hd : RdN w v d) (hok : NdOk d) (hm : May ds d) (hf : find ds d = none) (hl0 : ¬ 100000 ≤ ds.length) :
    Calls Tryd.prog 61 #[p, v, .string (strB (key d))] w fun e w' => ∃ F' : Nat → Prop, e = .returned (.int .i64 ds.length) ∧ Ar F' w' p (ds ++ [d]) ∧ Turn F w w' ∧ (∀ b, F' b → F b ∨ w.heap.size ≤ b) := by
  obtain ⟨pb, mb, n, nv, lvs, D, rfl, h2, h3, h4, h5, h6, h7, h8, h9, h10, h11, h12⟩ := h.rep
  obtain ⟨lv, rfl, hr⟩ := hd
  have hlen := hm.len64
  have hs2 := hm.s0
  obtain ⟨op, nn, s, l⟩ := d
  simp only at hr hlen hs2 ⊢
  have e1 := strB_size s
  generalize hS : strB s = S at e1
  have HS := Shut.mk hS
  clear hS
  have HL := Shut.mk hl0
  have hl : ds.length < 10000000000 := by omega
  clear hl0
  have hkl := key_len hok hs2 hlen
  have hinj : ∀ i, i < ds.length → key (ds.getD i nd0) ≠ key ⟨op, nn, s, l⟩ := fun i hi e => find_none hf i hi (key_inj (h.good.may' hi) hm e)
  have HI := Shut.mk hinj
  clear hinj
  have hkey : keyOf Tryd.prog 9 (.string (strB (key ⟨op, nn, s, l⟩))) = some (.string (key ⟨op, nn, s, l⟩)) := WideMaps.keyOf_string_mk Tryd.underlying9 (by rw [strB_size]; unfold maxLen; omega)
  generalize hKy : strB (key ⟨op, nn, s, l⟩) = KY at hkey
  have HKY := Shut.mk hKy
  clear hKy
  have hmn : ∀ W : World, (binOp .eql 76 (.map (some mb)) (.map none)).run Tryd.prog W = .ok (.bool false) W := fun W => run_eql_map_nil W 76 _ _ (some mb) Tryd.underlying76
  go_enter Tryd.func61, Tryd.ntmps61
  go_wp2_with fail
  refine (sclone_any S _ (by omega)).mono ?_
  rintro e w1 ⟨rfl, k1⟩
  have b1 : Blk w1 w.heap.size 65 [.int .i64 op, .int .i64 nn, .string S, lv] := (Blk.new w _ _).kept k1
  have kw1 : Kept w w1 := ((Kept.refl w).alloc _).trans k1
  have c12 := b1.cell 2
  have c13 := b1.cell 3
  have f12 := b1.frozen 2
  simp only [List.getElem?_cons_succ, List.getElem?_cons_zero] at c12 c13
  go_wp2_with fail
  have b2 : Blk (w1.setCell ⟨w.heap.size, 2, none⟩ (.string S)) w.heap.size 65 [.int .i64 op, .int .i64 nn, .string S, lv] := b1.set 2 (.string S)
  have kw2 : Kept w (w1.setCell ⟨w.heap.size, 2, none⟩ (.string S)) := kw1.setCell (Nat.le_refl _) _
  generalize w1.setCell ⟨w.heap.size, 2, none⟩ (.string S) = w2 at b2 kw2 ⊢
  refine (clone_any (hr.kept kw2) (by omega)).mono ?_
  rintro e w3 ⟨lv3, rfl, o3, k3⟩
  obtain ⟨a3, cap3, rfl, _, _, _⟩ := (OwnI.rd o3).len
  have b3 : Blk w3 w.heap.size 65 [.int .i64 op, .int .i64 nn, .string S, lv] := b2.kept k3
  have kw3 : Kept w w3 := kw2.trans k3
  have c33 := b3.cell 3
  have f33 := b3.frozen 3
  simp only [List.getElem?_cons_succ, List.getElem?_cons_zero] at c33
  clear b1 c12 c13 f12 k1 k3
  obtain ⟨na, ncap, rfl, n1, n2, n3, n4, n5⟩ := h3.rdv
  have p0 := (h2.kept kw3).cell 0
  have p1 := (h2.kept kw3).cell 1
  simp only [List.getElem?_cons_succ, List.getElem?_cons_zero] at p0 p1
  have hpq : pb ≠ w.heap.size := Nat.ne_of_lt h2.lt
  have hmq : mb ≠ w.heap.size := Nat.ne_of_lt (h.lt mb h10)
  go_wp2
  have b4 : Blk (w3.setCell ⟨w.heap.size, 3, none⟩ (.slice a3 l.length cap3)) w.heap.size 65 [.int .i64 op, .int .i64 nn, .string S, (.slice a3 l.length cap3)] := b3.set 3 (.slice a3 l.length cap3)
  have kw4 : Kept w (w3.setCell ⟨w.heap.size, 3, none⟩ (.slice a3 l.length cap3)) := kw3.setCell (Nat.le_refl _) _
  have o4 : OwnI 0 (w3.setCell ⟨w.heap.size, 3, none⟩ (.slice a3 l.length cap3)) (.slice a3 l.length cap3) l := Ownv.setCell (Ownv.mono0 o3) (Ownv.notBlk o3 b3 (by decide)) _
  have hlv : ∀ b, Blks (.slice a3 l.length cap3) b → w.heap.size ≤ b := fun b hb => Nat.le_trans kw2.size (Ownv.lt o3 hb).2
  generalize w3.setCell ⟨w.heap.size, 3, none⟩ (.slice a3 l.length cap3) = w4 at b4 kw4 o4 ⊢
  have q0 := (h2.kept kw4).cell 0
  have q1 := (h2.kept kw4).cell 1
  have qf := (h2.kept kw4).frozen 0
  have c40 := b4.cell 0
  have c41 := b4.cell 1
  have c42 := b4.cell 2
  have c43 := b4.cell 3
  simp only [List.getElem?_cons_succ, List.getElem?_cons_zero] at q0 q1 c40 c41 c42 c43
  have hn4 := h3.kept kw4
  obtain ⟨i0, hi, hz0, hz1, hz2⟩ := info_parts Tryd.infoNode
  have hgb : Blk w4 pb 85 [.slice na ds.length ncap, .map (some mb)] := h2.kept kw4
  have hnb : ¬ Blks (.slice na ds.length ncap) pb := Ownv.notBlk hn4 hgb (by decide)
  have hnq : ¬ Blks (.slice na ds.length ncap) w.heap.size := fun hb => Nat.lt_irrefl _ (h3.lt hb).1
  have gb := hgb.lt
  have hcz : ∀ ob, (w4.alloc ob).cell? ⟨pb, 0, none⟩ = some (.slice na ds.length ncap) := fun ob => (hgb.kept ((Kept.refl w4).alloc ob)).cell 0
  have hfz : ∀ ob, (w4.alloc ob).frozen? ⟨pb, 0, none⟩ = false := fun ob => by
    have := (hgb.kept ((Kept.refl w4).alloc ob)).frozen 0
    exact this
  have hnb' : some pb ≠ (Value.slice na ds.length ncap).ownBlock := fun e => hnb e.symm
  have hnq' : some w.heap.size ≠ (Value.slice na ds.length ncap).ownBlock := fun e => hnq e.symm
  have qb := b4.lt
  go_region_law
    ((refine step_append_lies _ (by rfl) _ _ _ (by rfl) 0 65 i0 _ 4 56 Tryd.underlying70 hi hz0 hz1 hz2 rfl (by omega) (.slice na ds.length ncap) ds.length (flat ds lvs) (by rfl) ((hn4.alloc _).drew)
        ⟨w4.heap.size, 0, none⟩ 1 1 [.int .i64 op, .int .i64 nn, .string S, (.slice a3 l.length cap3)] (by rfl) (by rfl) (World.news_of_block (cs := #[.int .i64 op, .int .i64 nn, .string S, (.slice a3 l.length cap3)]) (t := 65) (fr := (0, 0)) (heap_alloc_new w4 _)) (by simp [Value.oneCell'])
        (by omega) (by unfold maxLen; omega) (by omega) (by omega) (w4.heap.size + 1) (by simp) ?_; intro gg cap w5 hown5 hgrow hat hlt; have hfz5 : w5.frozen? ⟨pb, 0, none⟩ = false := (hgrow.frozen_far ⟨pb, 0, none⟩ (by simp; omega) hnb').trans (hfz _); have hcz5 : w5.cell? ⟨pb, 0, none⟩ = some (.slice na ds.length ncap) := (hgrow.cell_far ⟨pb, 0, none⟩ (by simp; omega) hnb').trans (hcz _);
      have t5 : Turn (Blks (.slice na ds.length ncap)) w4 w5 := ((((Kept.refl w4).alloc (.cells #[.int .i64 op, .int .i64 nn, .string S, .slice a3 l.length cap3] 65)).drew).turn _).trans ((Grown.turn hgrow).mono fun b hb => hb.symm) (fun x hx => .inl hx)))
  all_goals
    have o6 : Ownv 0 65 4 (w5.setCell ⟨pb, 0, none⟩ (.slice (some ⟨gg, 0, none⟩) (ds.length + 1) cap)) (.slice (some ⟨gg, 0, none⟩) (ds.length + 1) cap) (ds.length + 1) (flat ds lvs ++ [.int .i64 op, .int .i64 nn, .string S, .slice a3 l.length cap3]) :=
      Ownv.setCell hown5 (Ownv.notBlk hown5 (hgb.turn t5 hnb) (by decide)) _
    have g6 : Blk (w5.setCell ⟨pb, 0, none⟩ (.slice (some ⟨gg, 0, none⟩) (ds.length + 1) cap)) pb 85 [.slice (some ⟨gg, 0, none⟩) (ds.length + 1) cap, .map (some mb)] := (hgb.turn t5 hnb).set 0 _
    have t6 : Turn (fun b => Blks (.slice na ds.length ncap) b ∨ b = pb) w4 (w5.setCell ⟨pb, 0, none⟩ (.slice (some ⟨gg, 0, none⟩) (ds.length + 1) cap)) :=
      (t5.mono fun b hb => .inl hb).trans (turn_setCell w5 _ _) (fun x hx => .inl (.inr hx))
    have m6 := ownsMap_turn (ownsMap_kept h6 kw4) t6 (fun hb => hb.elim (ownsMap_notBlk (ownsMap_kept h6 kw4) hn4) (fun e => ownsMap_notBlk' (ownsMap_kept h6 kw4) hgb e.symm))
    have a6 := o4.turn t6 (fun b hb hc => hc.elim (Ownv.apart o4 hn4 (by decide) hb) (fun e => Ownv.notBlk o4 hgb (by decide) (e ▸ hb)))
    generalize w5.setCell ⟨pb, 0, none⟩ (.slice (some ⟨gg, 0, none⟩) (ds.length + 1) cap) = w6 at o6 g6 t6 m6 a6 ⊢
    have z1 := g6.cell 1
    simp only [List.getElem?_cons_succ, List.getElem?_cons_zero] at z1
    have hlaw : Keyed Tryd.prog 9 := string_keyed Tryd.underlying9
    go_wp2_with (at_mapUpdate; refine wpList_mapUpdate_own _ rfl _ _ _ 76 rfl 9 3 hlaw Tryd.underlying76 (plainElem Tryd.prog 3) mb n D rfl m6 (by unfold maxLen; omega) _ _ (.string (key ⟨op, nn, s, l⟩)) rfl rfl hkey (.lit (.int .i64 ds.length)) [] (plainElem_int Tryd.underlying3 (WalkArith.wf_i64 (by omega))) ?_; intro w7 own7 hg7)
    go_ret
    obtain ⟨F', r1, r2, r3⟩ := arg_grow h.good (Nat.lt_of_not_le HL.out) h.oks hok hm hf HI.out (by decide) h2 h3 h4 h5 h6 h7 h8 h9 h10 h11 h12 h.lt kw4 t6 g6 (by unfold ndCells; rw [HS.out]; exact o6) (fun b hb => by
      obtain rfl : gg = b := by simpa [Blks, Value.ownBlock] using hb
      rcases hat with c | c
      · exact .inl c
      · have := kw4.size
        exact .inr (by omega)) a6 hlv own7 m6 ((Grown.turn hg7).mono fun b hb => by simpa using hb)
    exact ⟨F', rfl, r1, r2, r3⟩
end Go.Proofs.YtdjfdobcjakmhaaDoor
end

section
/- Walks of package term: allows. -/
set_option linter.unusedSimpArgs false
set_option linter.unusedVariables false
namespace Go.Proofs.YtdjfdobcjakmhaaDoor
open Go.RowKit Go.Maps

theorem bad1 {ds : List Nd} {d : Nd} (h : ¬ (1 ≤ d.op ∧ d.op ≤ 12)) : ¬ May ds d := fun m => h ⟨m.op1, m.op12⟩

set_option maxRecDepth 100000 in
set_option maxHeartbeats 2000000 in
theorem allows_bad1 {F : Nat → Prop} {w : World} {p : Value} {ds : List Nd} (h : Ar F w p ds) {v : Value} {d : Nd} (hd : RdN w v d) (hb : ¬ (1 ≤ d.op ∧ d.op ≤ 12)) :
    Calls Tryd.prog 59 #[p, v] w fun e w' => e = .returned (.bool false) ∧ Kept w w' := by
  obtain ⟨lv, rfl, hr⟩ := hd
  obtain ⟨op, n, s, l⟩ := d
  simp only at hr hb ⊢
  by_cases h1 : op < 1
  · go_enter Tryd.func59, Tryd.ntmps59
    go_wp2
    go_ret
    exact ⟨rfl, (Kept.refl w).alloc _⟩
  · go_enter Tryd.func59, Tryd.ntmps59
    go_wp2
    go_ret
    exact ⟨rfl, (Kept.refl w).alloc _⟩
set_option maxRecDepth 100000 in
set_option maxHeartbeats 2000000 in
theorem allows_bad2 {F : Nat → Prop} {w : World} {p : Value} {ds : List Nd} (h : Ar F w p ds) {v : Value} {d : Nd} (hd : RdN w v d) (hop : 1 ≤ d.op ∧ d.op ≤ 12) (hb : ¬ (0 ≤ d.n ∧ (d.n = 0 ∨ d.op = 1))) :
    Calls Tryd.prog 59 #[p, v] w fun e w' => e = .returned (.bool false) ∧ Kept w w' := by
  obtain ⟨lv, rfl, hr⟩ := hd
  obtain ⟨op, n, s, l⟩ := d
  simp only at hr hb hop ⊢
  obtain ⟨h1, h2⟩ := hop
  by_cases h3 : n < 0
  · go_enter Tryd.func59, Tryd.ntmps59
    go_wp2
    go_ret
    exact ⟨rfl, (Kept.refl w).alloc _⟩
  · have h4 : 0 < n := by omega
    have h5 : op ≠ 1 := by omega
    go_enter Tryd.func59, Tryd.ntmps59
    go_wp2
    go_ret
    exact ⟨rfl, (Kept.refl w).alloc _⟩
set_option maxRecDepth 100000 in
set_option maxHeartbeats 2000000 in
theorem allows_bad3 {F : Nat → Prop} {w : World} {p : Value} {ds : List Nd} (h : Ar F w p ds) {v : Value} {d : Nd} (hd : RdN w v d) (hop : 1 ≤ d.op ∧ d.op ≤ 12) (hn : 0 ≤ d.n ∧ (d.n = 0 ∨ d.op = 1)) (hb : ¬ (d.s.length ≤ 200 ∧ (d.s = [] ∨ d.op = 2))) :
    Calls Tryd.prog 59 #[p, v] w fun e w' => e = .returned (.bool false) ∧ Kept w w' := by
  obtain ⟨lv, rfl, hr⟩ := hd
  obtain ⟨op, n, s, l⟩ := d
  simp only at hr hb hop hn ⊢
  obtain ⟨h1, h2⟩ := hop
  obtain ⟨h3, h4⟩ := hn
  have e1 := strB_size s
  have e2 := strB_list s
  generalize strB s = S at e1 e2
  by_cases h5 : 200 < s.length
  · go_enter Tryd.func59, Tryd.ntmps59
    go_wp2
    all_goals (go_ret; exact ⟨rfl, (Kept.refl w).alloc _⟩)
  · have h6 : s.isEmpty = false := by
      cases s with
      | nil => exact absurd ⟨by omega, .inl rfl⟩ hb
      | cons => rfl
    have h7 : (op != 2) = true := by simpa using fun e => hb ⟨by omega, .inr e⟩
    go_enter Tryd.func59, Tryd.ntmps59
    go_wp2
    all_goals (go_ret; exact ⟨rfl, (Kept.refl w).alloc _⟩)


theorem bne_int {a b : Int} (h : a ≠ b) : (a != b) = true := by simpa using h
theorem beq_int {a b : Int} (h : a = b) : (a != b) = false := by simpa using h

set_option maxRecDepth 100000 in
set_option maxHeartbeats 4000000 in
theorem allows_bad4 {F : Nat → Prop} {w : World} {p : Value} {ds : List Nd} (h : Ar F w p ds) (ht : Tabs w) {v : Value} {d : Nd} (hd : RdN w v d) (hop : 1 ≤ d.op ∧ d.op ≤ 12) (hn : 0 ≤ d.n ∧ (d.n = 0 ∨ d.op = 1)) (hb : (d.s.length ≤ 200 ∧ (d.s = [] ∨ d.op = 2))) (hk : ¬ (kLeast d.op ≤ d.l.length ∧ (d.l.length : Int) ≤ kMost d.op)) :
    Calls Tryd.prog 59 #[p, v] w fun e w' => ∃ b : Bool, e = .returned (.bool b) ∧ (b = true ↔ May ds d) ∧ Kept w w' := by
  obtain ⟨lv, rfl, hr⟩ := hd
  obtain ⟨op, n, s, l⟩ := d
  simp only at hr hb hop hn hk ⊢
  have HP : Shut ((1 ≤ op ∧ op ≤ 12) ∧ (0 ≤ n ∧ (n = 0 ∨ op = 1)) ∧ s.length ≤ 200 ∧ (s = [] ∨ op = 2)) := ⟨⟨hop, hn, hb⟩⟩
  obtain ⟨h1, h2⟩ := hop
  obtain ⟨o, rfl⟩ := Int.eq_ofNat_of_zero_le (show 0 ≤ op by omega)
  have hcase : (n = 0 ∧ s = []) ∨ (0 < n ∧ ((o : Int) != 1) = false ∧ s = []) ∨ (n = 0 ∧ s.isEmpty = false ∧ ((o : Int) != 2) = false) := by
    obtain ⟨a1, a2⟩ := hn
    obtain ⟨b1, b2⟩ := hb
    by_cases c : n = 0
    · by_cases c' : s = []
      · exact .inl ⟨c, c'⟩
      · exact .inr (.inr ⟨c, by simpa using c', beq_int (b2.resolve_left c')⟩)
    · have c' := a2.resolve_left c
      exact .inr (.inl ⟨by omega, beq_int c', b2.resolve_right (by omega)⟩)
  have h5 : s.length ≤ 200 := hb.1
  clear hn hb
  obtain ⟨k0, k1, k2⟩ := ht.kinds o (by omega)
  have k1a : ∀ ob, (w.alloc ob).cell? ⟨0, o * 3 + 1, none⟩ = some (.int .i64 (kLeast o)) := fun ob => by rw [World.cell?_alloc_past _ _ _ (World.block_lt_of_cell? _ _ k1)]; exact k1
  have k2a : ∀ ob, (w.alloc ob).cell? ⟨0, o * 3 + 2, none⟩ = some (.int .i64 (kMost o)) := fun ob => by rw [World.cell?_alloc_past _ _ _ (World.block_lt_of_cell? _ _ k2)]; exact k2
  obtain ⟨la, lc, rfl, l1, l2, l3⟩ := hr.len
  have e1 := strB_size s
  have e2 := strB_list s
  generalize hS : strB s = S at e1 e2
  have HS := Shut.mk hS
  clear hS
  generalize hM : kLeast o = lea at k1 k1a
  generalize hN : kMost o = mos at k2 k2a
  have HM := Shut.mk hM
  have HN := Shut.mk hN
  clear hM hN
  have h13 : (o : Int) < 13 := by omega
  have h00 : (0 : Int) ≤ (o : Int) := by omega
  have hL : ((l.length : Nat) : Int) ≤ 9223372036854775807 := by unfold maxLen at l2; omega
  by_cases h7 : (l.length : Int) < lea
  · have hd : decide ((l.length : Int) < lea) = true := by simpa using h7
    have hng : ¬ May ds ⟨o, n, s, l⟩ := fun m => by have := m.least; simp only [HM.out] at this; omega
    rcases hcase with ⟨rfl, rfl⟩ | ⟨c1, c2, rfl⟩ | ⟨rfl, c1, c2⟩
    all_goals
      go_enter Tryd.func59, Tryd.ntmps59
      go_wp2
      go_quiet (fail)
      go_wp2
      go_ret
      exact ⟨false, rfl, ⟨(fun h => by cases h), fun m => absurd m hng⟩, ((Kept.refl w).alloc _).drewN _⟩
  · have hd : decide ((l.length : Int) < lea) = false := by simpa using h7
    by_cases h8 : mos < (l.length : Int)
    · have hd : decide (mos < (l.length : Int)) = true := by simpa using h8
      have hng : ¬ May ds ⟨o, n, s, l⟩ := fun m => by have := m.most; simp only [HN.out] at this; omega
      rcases hcase with ⟨rfl, rfl⟩ | ⟨c1, c2, rfl⟩ | ⟨rfl, c1, c2⟩
      all_goals
        go_enter Tryd.func59, Tryd.ntmps59
        go_wp2
        go_quiet (fail)
        go_wp2
        go_ret
        exact ⟨false, rfl, ⟨(fun h => by cases h), fun m => absurd m hng⟩, ((Kept.refl w).alloc _).drewN _⟩
    · exact absurd ⟨by rw [HM.out]; omega, by rw [HN.out]; omega⟩ hk
end Go.Proofs.YtdjfdobcjakmhaaDoor
end

section
/- Walks of package term: allows, whole. -/
set_option linter.unusedSimpArgs false
set_option linter.unusedVariables false
namespace Go.Proofs.YtdjfdobcjakmhaaDoor
open Go.RowKit Go.Maps

set_option maxRecDepth 100000 in
set_option maxHeartbeats 4000000 in
theorem allows_good {F : Nat → Prop} {w : World} {p : Value} {ds : List Nd} (h : Ar F w p ds) (ht : Tabs w) {v : Value} {d : Nd} (hd : RdN w v d) (hop : 1 ≤ d.op ∧ d.op ≤ 12) (hn : 0 ≤ d.n ∧ (d.n = 0 ∨ d.op = 1)) (hb : (d.s.length ≤ 200 ∧ (d.s = [] ∨ d.op = 2))) (hk : kLeast d.op ≤ d.l.length ∧ (d.l.length : Int) ≤ kMost d.op) :
    Calls Tryd.prog 59 #[p, v] w fun e w' => ∃ b : Bool, e = .returned (.bool b) ∧ (b = true ↔ May ds d) ∧ Kept w w' := by
  obtain ⟨lv, rfl, hr⟩ := hd
  obtain ⟨op, n, s, l⟩ := d
  simp only at hr hb hop hn hk ⊢
  have HP : Shut ((1 ≤ op ∧ op ≤ 12) ∧ (0 ≤ n ∧ (n = 0 ∨ op = 1)) ∧ s.length ≤ 200 ∧ (s = [] ∨ op = 2)) := ⟨⟨hop, hn, hb⟩⟩
  obtain ⟨h1, h2⟩ := hop
  obtain ⟨o, rfl⟩ := Int.eq_ofNat_of_zero_le (show 0 ≤ op by omega)
  have hcase : (n = 0 ∧ s = []) ∨ (0 < n ∧ ((o : Int) != 1) = false ∧ s = []) ∨ (n = 0 ∧ s.isEmpty = false ∧ ((o : Int) != 2) = false) := by
    obtain ⟨a1, a2⟩ := hn
    obtain ⟨b1, b2⟩ := hb
    by_cases c : n = 0
    · by_cases c' : s = []
      · exact .inl ⟨c, c'⟩
      · exact .inr (.inr ⟨c, by simpa using c', beq_int (b2.resolve_left c')⟩)
    · have c' := a2.resolve_left c
      exact .inr (.inl ⟨by omega, beq_int c', b2.resolve_right (by omega)⟩)
  have h5 : s.length ≤ 200 := hb.1
  clear hn hb
  obtain ⟨k0, k1, k2⟩ := ht.kinds o (by omega)
  have k1a : ∀ ob, (w.alloc ob).cell? ⟨0, o * 3 + 1, none⟩ = some (.int .i64 (kLeast o)) := fun ob => by rw [World.cell?_alloc_past _ _ _ (World.block_lt_of_cell? _ _ k1)]; exact k1
  have k2a : ∀ ob, (w.alloc ob).cell? ⟨0, o * 3 + 2, none⟩ = some (.int .i64 (kMost o)) := fun ob => by rw [World.cell?_alloc_past _ _ _ (World.block_lt_of_cell? _ _ k2)]; exact k2
  obtain ⟨la, lc, rfl, l1, l2, l3⟩ := hr.len
  have e1 := strB_size s
  have e2 := strB_list s
  generalize hS : strB s = S at e1 e2
  have HS := Shut.mk hS
  clear hS
  generalize hM : kLeast o = lea at k1 k1a
  generalize hN : kMost o = mos at k2 k2a
  have HM := Shut.mk hM
  have HN := Shut.mk hN
  clear hM hN
  have h13 : (o : Int) < 13 := by omega
  have h00 : (0 : Int) ≤ (o : Int) := by omega
  have hL : ((l.length : Nat) : Int) ≤ 9223372036854775807 := by unfold maxLen at l2; omega
  have HK := Shut.mk hk
  obtain ⟨hk1, hk2⟩ := hk
  have hd : decide ((l.length : Int) < lea) = false := by rw [HM.out] at hk1; simpa using hk1
  have hd2 : decide (mos < (l.length : Int)) = false := by rw [HN.out] at hk2; simpa using hk2
  clear hk1 hk2
  have hb0 : ∀ ob n, Ar F ((w.alloc ob).drewN n) p ds := fun ob n => ArG.kept h (((Kept.refl w).alloc ob).drewN n)
  have MM : Shut ((∀ x ∈ l, 0 ≤ x ∧ x < ds.length) → ((o : Int) = 6 → (ds.getD (l.getD 1 0).toNat nd0).op = 2) → May ds ⟨o, n, s, l⟩) :=
    ⟨fun a b => ⟨HP.out.1.1, HP.out.1.2, HP.out.2.1.1, HP.out.2.1.2, HP.out.2.2.1, HP.out.2.2.2, HK.out.1, HK.out.2, a, b⟩⟩
  rcases hcase with ⟨rfl, rfl⟩ | ⟨c1, c2, rfl⟩ | ⟨rfl, c1, c2⟩
  all_goals
    go_enter Tryd.func59, Tryd.ntmps59
    go_wp2
    go_quiet (fail)
    go_wp2
    go_loop [65] (fun s => ∃ k : Nat, (k ≤ l.length ∧ ∀ i, i < k → 0 ≤ l.getD i 0 ∧ l.getD i 0 < ds.length) ∧ s = .int .i64 k) (fun s => l.length - (intOf s).toNat)
    case atStart => exact ⟨0, ⟨Nat.zero_le _, fun i hi => absurd hi (Nat.not_lt_zero _)⟩, rfl⟩
    case round =>
      obtain ⟨k, ⟨hk0, hk1⟩, rfl⟩ := hrel
      by_cases hlt : k < l.length
      · obtain ⟨rb, ro, rc, hrv, _, _, hrb, hcell⟩ := hr.addr (by omega)
        simp only [Value.slice.injEq] at hrv
        obtain ⟨rfl, _, rfl⟩ := hrv
        have hcw : ∀ (ob : Obj) (n : Nat), ((w.alloc ob).drewN n).cell? ⟨rb, ro + k, none⟩ = some (.int .i64 (l.getD k 0)) := fun ob n => (((Kept.refl w).alloc ob).drewN n).cell (p := ⟨rb, ro + k, none⟩) hrb |>.trans (hcell k hlt)
        clear hcell
        generalize hx : l.getD k 0 = x at hcw
        have HX := Shut.mk hx
        clear hx
        have HK1 := Shut.mk hk1
        clear hk1
        by_cases hin : 0 ≤ x ∧ x < ds.length
        · obtain ⟨x0, x1⟩ := hin
          go_wp2_with (go_at_call 55; refine (arg_has_t (hb0 _ _) x0 x1).mono ?_; rintro e w' ⟨rfl, rfl⟩)
          go_round
          case rel => exact ⟨k + 1, ⟨hlt, fun i hi => by
            by_cases c : i < k
            · exact HK1.out i c
            · obtain rfl : i = k := by omega
              rw [HX.out]; exact ⟨x0, x1⟩⟩, rfl⟩
          case measure => simp [intOf]; omega
        · have HI := Shut.mk hin
          clear hin
          go_wp2_with (go_at_call 55; refine (arg_has_f (hb0 _ _) HI.out).mono ?_; rintro e w' ⟨rfl, rfl⟩)
          go_ret
          refine ⟨false, rfl, ⟨(fun h => by cases h), fun m => ?_⟩, ((Kept.refl w).alloc _).drewN _⟩
          exact absurd (m.all x (by rw [← HX.out, List.getD_eq_getElem?_getD, List.getElem?_eq_getElem hlt]; exact List.getElem_mem _)) HI.out
      · obtain rfl : k = l.length := by omega
        have HK1 := Shut.mk hk1
        clear hk1
        by_cases h6 : (o : Int) = 6
        · have hb6 := beq_int h6
          have hl3 : l.length = 3 := by
            have a := HK.out
            rw [h6] at a
            simp [kLeast, kMost, kTab] at a
            omega
          have hx1 := HK1.out 1 (by omega)
          obtain ⟨j, hj⟩ := Int.eq_ofNat_of_zero_le hx1.1
          have hjl : j < ds.length := by omega
          obtain ⟨pb, mb, nv, rfl, q0, q1, qn⟩ := ArG.nodes h
          obtain ⟨nb, noff, ncap, lvs, rfl, _, _, hnb, hnc, _⟩ := qn.addr (by omega)
          obtain ⟨nc, _, _, _⟩ := hnc j hjl
          obtain ⟨rb, ro, rc, hrv, _, _, hrb, hcell⟩ := hr.addr (by omega)
          simp only [Value.slice.injEq] at hrv
          obtain ⟨rfl, _, rfl⟩ := hrv
          have hc1 := hcell 1 (by omega)
          rw [hj] at hc1
          clear hcell hnc
          have q0a : ∀ ob, (w.alloc ob).cell? ⟨pb, 0, none⟩ = some (.slice (some ⟨nb, noff, none⟩) ds.length ncap) := fun ob => by rw [World.cell?_alloc_past _ _ _ (World.block_lt_of_cell? _ _ q0)]; exact q0
          have nca : ∀ ob, (w.alloc ob).cell? ⟨nb, noff + j * 4, none⟩ = some (.int .i64 (ds.getD j nd0).op) := fun ob => by rw [World.cell?_alloc_past _ _ _ (World.block_lt_of_cell? _ _ nc)]; exact nc
          have hca : ∀ ob, (w.alloc ob).cell? ⟨rb, ro + 1, none⟩ = some (.int .i64 (j : Int)) := fun ob => by rw [World.cell?_alloc_past _ _ _ (World.block_lt_of_cell? _ _ hc1)]; exact hc1
          have j0 : (0 : Int) ≤ (j : Int) := by omega
          have j1 : (j : Int) < (ds.length : Int) := by omega
          have l31 : (1 : Int) < (l.length : Int) := by omega
          have HL3 := Shut.mk hl3
          have H6 := Shut.mk h6
          have HJ := Shut.mk hj
          clear hl3 h6 hj hx1
          generalize hop' : (ds.getD j nd0).op = oj at nc nca
          have HO := Shut.mk hop'
          clear hop'
          go_wp2
          go_quiet (fail)
          go_wp2
          go_ret
          refine ⟨_, rfl, ⟨fun hh => ?_, fun m => ?_⟩, ?_⟩
          · exact MM.out (fun x hx => by
              obtain ⟨i, hi, e⟩ := List.mem_iff_getElem.1 hx
              have := HK1.out i hi
              rwa [List.getD_eq_getElem?_getD, List.getElem?_eq_getElem hi, Option.getD_some, e] at this) (fun e => by
              simp only [HJ.out, Int.toNat_natCast, HO.out]
              simpa using hh)
          · have := m.key H6.out
            simp only [HJ.out, Int.toNat_natCast, HO.out] at this
            simp [this]
          · exact (((Kept.refl w).alloc _).drewN _).drewN _
        · have hb6 := bne_int h6
          go_wp2
          go_quiet (fail)
          go_wp2
          go_ret
          refine ⟨true, rfl, ⟨fun _ => ?_, fun _ => rfl⟩, ?_⟩
          · exact MM.out (fun x hx => by
              obtain ⟨i, hi, e⟩ := List.mem_iff_getElem.1 hx
              have := HK1.out i hi
              rwa [List.getD_eq_getElem?_getD, List.getElem?_eq_getElem hi, Option.getD_some, e] at this) (fun e => absurd e h6)
          · exact (((Kept.refl w).alloc _).drewN _).drewN _

/-- allows tells whether a node may be. -/
theorem allows_any {F : Nat → Prop} {w : World} {p : Value} {ds : List Nd} (h : Ar F w p ds) (ht : Tabs w) {v : Value} {d : Nd} (hd : RdN w v d) :
    Calls Tryd.prog 59 #[p, v] w fun e w' => ∃ b : Bool, e = .returned (.bool b) ∧ (b = true ↔ May ds d) ∧ Kept w w' := by
  by_cases h1 : 1 ≤ d.op ∧ d.op ≤ 12
  · by_cases h2 : 0 ≤ d.n ∧ (d.n = 0 ∨ d.op = 1)
    · by_cases h3 : d.s.length ≤ 200 ∧ (d.s = [] ∨ d.op = 2)
      · by_cases h4 : kLeast d.op ≤ d.l.length ∧ (d.l.length : Int) ≤ kMost d.op
        · exact allows_good h ht hd h1 h2 h3 h4
        · exact allows_bad4 h ht hd h1 h2 h3 h4
      · exact (allows_bad3 h hd h1 h2 h3).mono fun e w' ⟨a, b⟩ => ⟨false, a, ⟨(fun x => by cases x), fun m => absurd ⟨m.s0, m.s1⟩ h3⟩, b⟩
    · exact (allows_bad2 h hd h1 h2).mono fun e w' ⟨a, b⟩ => ⟨false, a, ⟨(fun x => by cases x), fun m => absurd ⟨m.n0, m.n1⟩ h2⟩, b⟩
  · exact (allows_bad1 h hd h1).mono fun e w' ⟨a, b⟩ => ⟨false, a, ⟨(fun x => by cases x), fun m => absurd ⟨m.op1, m.op12⟩ h1⟩, b⟩
end Go.Proofs.YtdjfdobcjakmhaaDoor
end

section
/- Walks of package term: Make, List, Text. -/
set_option linter.unusedSimpArgs false
set_option linter.unusedVariables false
namespace Go.Proofs.YtdjfdobcjakmhaaDoor
open Go.RowKit Go.Maps

theorem zeroInt (w : World) : (zeroValue 3).run Tryd.prog w = .ok (.int .i64 0) w := by kernel_rfl

theorem idx_has {H : Type} {ky : Nd → List UInt8} {ds : List Nd} {D : DataW H} (h : Idx ky ds D) (hg : Good ds) {d : Nd} (hinj : ∀ i, i < ds.length → ky (ds.getD i nd0) = ky d → ds.getD i nd0 = d) :
    (Maps.has D (.string (ky d)) = false ∧ find ds d = none) ∨ ∃ i, i < ds.length ∧ Maps.has D (.string (ky d)) = true ∧ D.atKey (.string (ky d)) (.lit (.int .i64 0)) = .lit (.int .i64 i) ∧ find ds d = some i := by
  cases hh : Maps.has D (.string (ky d)) with
  | false =>
    refine .inl ⟨rfl, ?_⟩
    cases hf : find ds d with
    | none => rfl
    | some i =>
      obtain ⟨h1, h2⟩ := find_some hf
      have := (h.1 i h1).1
      rw [h2, hh] at this
      cases this
  | true =>
    obtain ⟨i, hi, he⟩ := h.2 _ hh
    have := hinj i hi he
    refine .inr ⟨i, hi, rfl, ?_, hg.findAt hi this⟩
    have := (h.1 i hi).2
    rw [he] at this
    exact this

set_option maxRecDepth 100000 in
set_option maxHeartbeats 4000000 in
theorem make_any {F : Nat → Prop} {w : World} {p : Value} {ds : List Nd} (h : Ar F w p ds) (ht : Tabs w) {v : Value} {d : Nd} (hd : RdN w v d) (hok : NdOk d) :
    Calls Tryd.prog 36 #[p, v] w fun e w' => ∃ F' : Nat → Prop, e = .returned (.tuple #[.int .i64 (mk ds d).2.1, .int .i64 (mk ds d).2.2]) ∧ Ar F' w' p (mk ds d).1 ∧ Turn F w w' ∧ (∀ b, F' b → F b ∨ w.heap.size ≤ b) := by
  obtain ⟨pb, mb, n, nv, lvs, D, rfl, h2, h3, h4, h5, h6, h7, h8, h9, h10, h11, h12⟩ := h.rep
  obtain ⟨lv, rfl, hr⟩ := hd
  obtain ⟨op, nn, s, l⟩ := d
  simp only at hr ⊢
  have hd1 : ∀ W, Kept w W → RdN W (.agg #[.int .i64 op, .int .i64 nn, .string (strB s), lv]) ⟨op, nn, s, l⟩ := fun W k => ⟨lv, rfl, hr.kept k⟩
  obtain ⟨la, lc, rfl, l1, l2, l3⟩ := hr.len
  have HH := Shut.mk h
  clear h
  go_enter Tryd.func36, Tryd.ntmps36
  go_wp2_with fail
  have k0 : Kept w (w.alloc (.cells #[.int .i64 op, .int .i64 nn, .string (strB s), .slice la l.length lc] 65)) := (Kept.refl w).alloc _
  have b0 := Blk.new w [.int .i64 op, .int .i64 nn, .string (strB s), .slice la l.length lc] 65
  generalize w.alloc (.cells #[.int .i64 op, .int .i64 nn, .string (strB s), .slice la l.length lc] 65) = w0 at k0 b0 ⊢
  refine (allows_any (ArG.kept HH.out k0) (ht.kept k0) (hd1 w0 k0)).mono ?_
  rintro e w1 ⟨b, rfl, hb, k1⟩
  have k01 := k0.trans k1
  have b1 := b0.kept k1
  cases b with
  | false =>
    have hng : ¬ May ds ⟨op, nn, s, l⟩ := fun m => by have := hb.2 m; cases this
    go_wp2
    go_ret2
    rw [mk_bad hng]
    exact ⟨F, rfl, ArG.kept HH.out k01, k01.turn F, fun b hb => .inl hb⟩
  | true =>
    have hm : May ds ⟨op, nn, s, l⟩ := hb.1 rfl
    have HM := Shut.mk hm
    have hs2 := hm.s0
    have hlen := hm.len64
    have hkl := key_len hok hs2 hlen
    have x0 := b1.cell 0
    have x1 := b1.cell 1
    have x2 := b1.cell 2
    have x3 := b1.cell 3
    simp only [List.getElem?_cons_succ, List.getElem?_cons_zero] at x0 x1 x2 x3
    clear hm hb
    go_wp2_with fail
    refine (text_any (ht.kept k01) (hd1 w1 k01) ⟨HM.out.op1, HM.out.op12⟩ hok hs2 hlen).mono ?_
    rintro e w2 ⟨rfl, k2⟩
    have k02 := k01.trans k2
    have b2 := b1.kept k2
    have m2 := ownsMap_kept h6 k02
    have q0 := (h2.kept k02).cell 0
    have q1 := (h2.kept k02).cell 1
    have y0 := b2.cell 0
    have y1 := b2.cell 1
    have y2 := b2.cell 2
    have y3 := b2.cell 3
    simp only [List.getElem?_cons_succ, List.getElem?_cons_zero] at q0 q1 y0 y1 y2 y3
    clear x0 x1 x2 x3
    obtain ⟨na, ncap, rfl, n1, n2, n3, n4, n5⟩ := h3.rdv
    have hkey : keyOf Tryd.prog 9 (.string (strB (key ⟨op, nn, s, l⟩))) = some (.string (key ⟨op, nn, s, l⟩)) := WideMaps.keyOf_string_mk Tryd.underlying9 (by rw [strB_size]; unfold maxLen; omega)
    have hlaw : Keyed Tryd.prog 9 := string_keyed Tryd.underlying9
    have hix := idx_has h8 HH.out.good (d := ⟨op, nn, s, l⟩) (fun i hi e => key_inj (HH.out.good.may' hi) HM.out e)
    have HKEY := Shut.mk hkey
    clear hkey
    generalize hKY : Value.string (strB (key ⟨op, nn, s, l⟩)) = KY at HKEY
    have HKY := Shut.mk hKY
    clear hKY
    rcases hix with ⟨hx1, hx2⟩ | ⟨i, hi, hx1, hx2, hx3⟩
    · have HX2 := Shut.mk hx2
      clear hx2
      by_cases hbig : 100000 ≤ ds.length
      · have HB := Shut.mk hbig
        have hdb : decide ((100000 : Int) ≤ (ds.length : Int)) = true := decide_eq_true (by omega)
        clear hbig
        go_wp2_with (at_lookup; refine wpList_lookup_own_ok_int _ rfl _ _ 76 rfl 9 3 .i64 hlaw Tryd.underlying76 Tryd.underlying3 (zeroInt _) mb n D rfl m2 _ _ rfl HKEY.out ?_; intro c hat hwc; rw [hx1])
        go_ret2
        rw [mk_full HM.out HX2.out HB.out]
        exact ⟨F, rfl, ArG.kept HH.out k02, k02.turn F, fun b hb => .inl hb⟩
      · have HB := Shut.mk hbig
        have hdb : decide ((100000 : Int) ≤ (ds.length : Int)) = false := decide_eq_false (by omega)
        clear hbig
        go_wp2_with (first | (at_lookup; refine wpList_lookup_own_ok_int _ rfl _ _ 76 rfl 9 3 .i64 hlaw Tryd.underlying76 Tryd.underlying3 (zeroInt _) mb n D rfl m2 _ _ rfl HKEY.out ?_; intro c hat hwc; rw [hx1]) | fail)
        rw [← HKY.out]
        refine (keep_any (ArG.kept HH.out k02) (hd1 w2 k02) hok HM.out HX2.out HB.out).mono ?_
        rintro e w3 ⟨F', rfl, r1, r2, r3⟩
        go_wp2
        go_ret2
        rw [mk_new HM.out HX2.out HB.out]
        have := k02.size
        exact ⟨F', rfl, r1, (k02.turn F).trans r2 (fun x hx => .inl hx), fun b hb => (r3 b hb).imp id (fun c => by omega)⟩
    · have HX3 := Shut.mk hx3
      clear hx3
      go_wp2_with (at_lookup; refine wpList_lookup_own_ok_int _ rfl _ _ 76 rfl 9 3 .i64 hlaw Tryd.underlying76 Tryd.underlying3 (zeroInt _) mb n D rfl m2 _ _ rfl HKEY.out ?_; intro c hat hwc; rw [hx1])
      rw [hx2] at hat
      simp only [DataW.lit.injEq, Lit.int.injEq, true_and] at hat
      go_ret2
      rw [mk_old HM.out HX3.out]
      exact ⟨F, by rw [← hat]; rfl, ArG.kept HH.out k02, k02.turn F, fun b hb => .inl hb⟩

theorem i64_lit {n : Int} (h : -9223372036854775808 ≤ n ∧ n ≤ 9223372036854775807) : I64 n := h
end Go.Proofs.YtdjfdobcjakmhaaDoor
end

section
/- What Make does to terms, again and again: plain facts. -/
set_option linter.unusedSimpArgs false
set_option linter.unusedVariables false
namespace Go.Proofs.YtdjfdobcjakmhaaDoor
open Go

/-! ## terms that are made -/
theorem mk_ext (ds : List Nd) (d : Nd) : ∃ r, (mk ds d).1 = ds ++ r := by
  by_cases hm : May ds d
  · cases hf : find ds d with
    | some i => rw [mk_old hm hf]; exact ⟨[], by simp⟩
    | none =>
      by_cases hl : 100000 ≤ ds.length
      · rw [mk_full hm hf hl]; exact ⟨[], by simp⟩
      · rw [mk_new hm hf hl]; exact ⟨[d], rfl⟩
  · rw [mk_bad hm]; exact ⟨[], by simp⟩
theorem getD_app {ds r : List Nd} {i : Nat} (h : i < ds.length) : (ds ++ r).getD i nd0 = ds.getD i nd0 := by
  simp only [List.getD_eq_getElem?_getD]
  rw [List.getElem?_append_left h]
/-- A term that Make told is there. -/
theorem mk_at {ds : List Nd} {d : Nd} (h : (mk ds d).2.2 = 0) : 0 ≤ (mk ds d).2.1 ∧ (mk ds d).2.1 < (mk ds d).1.length ∧ (mk ds d).1.getD (mk ds d).2.1.toNat nd0 = d := by
  by_cases hm : May ds d
  · cases hf : find ds d with
    | some i =>
      rw [mk_old hm hf]
      obtain ⟨h1, h2⟩ := find_some hf
      exact ⟨by simp, by simpa using h1, by simpa using h2⟩
    | none =>
      by_cases hl : 100000 ≤ ds.length
      · rw [mk_full hm hf hl] at h; simp at h
      · rw [mk_new hm hf hl]
        exact ⟨by simp, by simp; omega, by
          simp only [Int.toNat_natCast]
          rw [getD_snoc, if_neg (by omega), if_pos rfl]⟩
  · rw [mk_bad hm] at h; simp at h
/-- A node that is there is told again. -/
theorem mk_again {ds : List Nd} (hg : Good ds) {d : Nd} {i : Nat} (hi : i < ds.length) (h : ds.getD i nd0 = d) : mk ds d = (ds, (i : Int), 0) :=
  mk_old (h ▸ hg.may' hi) (hg.findAt hi h)
theorem mk_e (ds : List Nd) (d : Nd) : (mk ds d).2.2 = 0 ∨ (mk ds d).2.2 = 1 ∨ (mk ds d).2.2 = 2 := by
  by_cases hm : May ds d
  · cases hf : find ds d with
    | some i => rw [mk_old hm hf]; simp
    | none =>
      by_cases hl : 100000 ≤ ds.length
      · rw [mk_full hm hf hl]; simp
      · rw [mk_new hm hf hl]; simp
  · rw [mk_bad hm]; simp
theorem mk_t64 (ds : List Nd) (d : Nd) (hl : ds.length ≤ 100000) : 0 ≤ (mk ds d).2.1 ∧ (mk ds d).2.1 ≤ 200000 := by
  by_cases hm : May ds d
  · cases hf : find ds d with
    | some i =>
      have := (find_some hf).1
      rw [mk_old hm hf]
      exact ⟨by simp, by simp; omega⟩
    | none =>
      by_cases hl : 100000 ≤ ds.length
      · rw [mk_full hm hf hl]; simp
      · rw [mk_new hm hf hl]; exact ⟨by simp, by simp; omega⟩
  · rw [mk_bad hm]; simp


/-- The node of a term, or none. -/
def ndAt (ds : List Nd) (t : Int) : Nd := if 0 ≤ t ∧ t < ds.length then ds.getD t.toNat nd0 else nd0
def ndE (ds : List Nd) (t : Int) : Int := if 0 ≤ t ∧ t < ds.length then 0 else 4
end Go.Proofs.YtdjfdobcjakmhaaDoor
end

section
/- Walks: Node. -/
set_option linter.unusedSimpArgs false
set_option linter.unusedVariables false
namespace Go.Proofs.YtdjfdobcjakmhaaDoor
open Go.RowKit Go.Maps

set_option maxHeartbeats 4000000 in
set_option maxRecDepth 100000 in
theorem node_own {F : Nat → Prop} {w : World} {p : Value} {ds : List Nd} (h : Ar F w p ds) (t : Int) :
    Calls Tryd.prog 49 #[p, .int .i64 t] w fun e w' => ∃ lv, e = .returned (.tuple #[.agg #[.int .i64 (ndAt ds t).op, .int .i64 (ndAt ds t).n, .string (strB (ndAt ds t).s), lv], .int .i64 (ndE ds t)]) ∧ OwnI w.heap.size w' lv (ndAt ds t).l ∧ Kept w w' := by
  have HH := Shut.mk h
  by_cases hin : 0 ≤ t ∧ t < ds.length
  · have hE : ndE ds t = 0 := by unfold ndE; rw [if_pos hin]
    have hN : ndAt ds t = ds.getD t.toNat nd0 := by unfold ndAt; rw [if_pos hin]
    rw [hE, hN]
    clear hE hN
    obtain ⟨t0, t1⟩ := hin
    obtain ⟨j, rfl⟩ := Int.eq_ofNat_of_zero_le t0
    have hjl : j < ds.length := by omega
    rw [Int.toNat_natCast]
    obtain ⟨pb, mb, nv, rfl, q0, q1, hns⟩ := ArG.nodes h
    obtain ⟨nb, noff, ncap, lvs, rfl, _, _, hnb, hnc, hnl⟩ := hns.addr (by omega)
    obtain ⟨y0, y1, y2, y3⟩ := hnc j hjl
    have hlr := hnl j hjl
    have hll := (h.good.may' hjl).len64
    have hq := World.block_lt_of_cell? _ _ q0
    clear hnc hns h hnl
    generalize ds.getD j nd0 = d at y0 y1 y2 y3 hlr hll ⊢
    obtain ⟨op, n, s, l⟩ := d
    simp only at y0 y1 y2 y3 hlr hll ⊢
    obtain ⟨la, lc, hlv, l1, l2, l3⟩ := hlr.len
    rw [hlv] at y3 hlr
    clear hlv
    go_enter Tryd.func49, Tryd.ntmps49
    go_wp2_with (first | (go_at_call 55; refine (arg_has_t (ArG.kept HH.out ((Kept.refl w).alloc _)) t0 t1).mono ?_; rintro e w' ⟨rfl, rfl⟩) | fail)
    have k1 : Kept w ((w.alloc (.cells #[.int .i64 0, .int .i64 0, .string ⟨#[]⟩, .slice none 0 0] 65)).alloc (.cells #[.int .i64 op, .int .i64 n, .string (strB s), .slice la l.length lc] 65)) := ((Kept.refl w).alloc _).alloc _
    have hsz := alloc_size w (.cells #[.int .i64 0, .int .i64 0, .string ⟨#[]⟩, .slice none 0 0] 65)
    have a1 : Blk ((w.alloc (.cells #[.int .i64 0, .int .i64 0, .string ⟨#[]⟩, .slice none 0 0] 65)).alloc (.cells #[.int .i64 op, .int .i64 n, .string (strB s), .slice la l.length lc] 65)) w.heap.size 65 [.int .i64 0, .int .i64 0, .string ⟨#[]⟩, .slice none 0 0] :=
      (Blk.new w [.int .i64 0, .int .i64 0, .string ⟨#[]⟩, .slice none 0 0] 65).kept ((Kept.refl _).alloc _)
    have b1 := Blk.new (w.alloc (.cells #[.int .i64 0, .int .i64 0, .string ⟨#[]⟩, .slice none 0 0] 65)) [.int .i64 op, .int .i64 n, .string (strB s), .slice la l.length lc] 65
    rw [hsz] at b1
    generalize (w.alloc (.cells #[.int .i64 0, .int .i64 0, .string ⟨#[]⟩, .slice none 0 0] 65)).alloc (.cells #[.int .i64 op, .int .i64 n, .string (strB s), .slice la l.length lc] 65) = w1 at k1 a1 b1 ⊢
    refine (clone_any (hlr.kept k1) (by omega)).mono ?_
    rintro e w2 ⟨v2, rfl, o2, k2⟩
    obtain ⟨a2, cap2, rfl, _, _, _⟩ := (OwnI.rd o2).len
    have a2' := a1.kept k2
    have b2 := b1.kept k2
    have c20 := b2.cell 0
    have c21 := b2.cell 1
    have c22 := b2.cell 2
    have c23 := b2.cell 3
    have f23 := b2.frozen 3
    have d20 := a2'.cell 0
    have d21 := a2'.cell 1
    have d22 := a2'.cell 2
    have d23 := a2'.cell 3
    have g20 := a2'.frozen 0
    have g21 := a2'.frozen 1
    have g22 := a2'.frozen 2
    have g23 := a2'.frozen 3
    simp only [List.getElem?_cons_succ, List.getElem?_cons_zero] at c20 c21 c22 c23 d20 d21 d22 d23
    go_wp2
    have e1 : OwnI w1.heap.size (w2.setCell ⟨w.heap.size + 1, 3, none⟩ (.slice a2 l.length cap2)) (.slice a2 l.length cap2) l := Ownv.setCell o2 (Ownv.notBlk o2 b2 (by decide)) _
    have f1 : Blk (w2.setCell ⟨w.heap.size + 1, 3, none⟩ (.slice a2 l.length cap2)) w.heap.size 65 [.int .i64 0, .int .i64 0, .string ⟨#[]⟩, .slice none 0 0] := a2'.turn (turn_setCell _ _ _) (fun e => by simp at e)
    have k3 : Kept w (w2.setCell ⟨w.heap.size + 1, 3, none⟩ (.slice a2 l.length cap2)) := (k1.trans k2).setCell (by simp) _
    generalize w2.setCell ⟨w.heap.size + 1, 3, none⟩ (.slice a2 l.length cap2) = w3 at e1 f1 k3 ⊢
    have f5 := (((f1.set 0 (.int .i64 op)).set 1 (.int .i64 n)).set 2 (.string (strB s))).set 3 (.slice a2 l.length cap2)
    have e5 := Ownv.setCell (Ownv.setCell (Ownv.setCell (Ownv.setCell e1 (ad := ⟨w.heap.size, 0, none⟩) (Ownv.notBlk e1 f1 (by decide)) (.int .i64 op)) (ad := ⟨w.heap.size, 1, none⟩) (Ownv.notBlk e1 f1 (by decide)) (.int .i64 n)) (ad := ⟨w.heap.size, 2, none⟩) (Ownv.notBlk e1 f1 (by decide)) (.string (strB s))) (ad := ⟨w.heap.size, 3, none⟩) (Ownv.notBlk e1 f1 (by decide)) (.slice a2 l.length cap2)
    have k5 : Kept w ((((w3.setCell ⟨w.heap.size, 0, none⟩ (.int .i64 op)).setCell ⟨w.heap.size, 1, none⟩ (.int .i64 n)).setCell ⟨w.heap.size, 2, none⟩ (.string (strB s))).setCell ⟨w.heap.size, 3, none⟩ (.slice a2 l.length cap2)) := (((k3.setCell (Nat.le_refl _) _).setCell (Nat.le_refl _) _).setCell (Nat.le_refl _) _).setCell (Nat.le_refl _) _
    generalize (((w3.setCell ⟨w.heap.size, 0, none⟩ (.int .i64 op)).setCell ⟨w.heap.size, 1, none⟩ (.int .i64 n)).setCell ⟨w.heap.size, 2, none⟩ (.string (strB s))).setCell ⟨w.heap.size, 3, none⟩ (.slice a2 l.length cap2) = w5 at f5 e5 k5 ⊢
    have c0 := f5.cell 0
    have c1 := f5.cell 1
    have c2 := f5.cell 2
    have c3 := f5.cell 3
    simp only [List.set_cons_succ, List.set_cons_zero, List.getElem?_cons_succ, List.getElem?_cons_zero] at c0 c1 c2 c3
    refine bodyPost_ret (v := .tuple #[.agg #[.int .i64 op, .int .i64 n, .string (strB s), .slice a2 l.length cap2], .int .i64 0]) ?_ rfl ?_
    · have hr : Tryd.f49.results = #[.cell 4 65, .tmp 5] := rfl
      simp [results, hr]
      go_simp
    · exact ⟨_, rfl, Ownv.mono e5 k1.size, k5⟩
  · have hE : ndE ds t = 4 := by unfold ndE; rw [if_neg hin]
    have hN : ndAt ds t = nd0 := by unfold ndAt; rw [if_neg hin]
    rw [hE, hN]
    clear hE hN h
    go_enter Tryd.func49, Tryd.ntmps49
    go_wp2_with (go_at_call 55; refine (arg_has_f (ArG.kept HH.out ((Kept.refl w).alloc _)) hin).mono ?_; rintro e w' ⟨rfl, rfl⟩)
    have hb := Blk.new w [.int .i64 0, .int .i64 0, .string ⟨#[]⟩, .slice none 0 0] 65
    have c0 := hb.cell 0
    have c1 := hb.cell 1
    have c2 := hb.cell 2
    have c3 := hb.cell 3
    simp only [List.getElem?_cons_succ, List.getElem?_cons_zero] at c0 c1 c2 c3
    refine bodyPost_ret (v := .tuple #[.agg #[.int .i64 0, .int .i64 0, .string ⟨#[]⟩, .slice none 0 0], .int .i64 4]) ?_ rfl ?_
    · have hr : Tryd.f49.results = #[.cell 4 65, .tmp 5] := rfl
      simp [results, hr]
      go_simp
    · exact ⟨_, rfl, OwnI.nil _ _, (Kept.refl w).alloc _⟩
theorem node_any {F : Nat → Prop} {w : World} {p : Value} {ds : List Nd} (h : Ar F w p ds) (t : Int) :
    Calls Tryd.prog 49 #[p, .int .i64 t] w fun e w' => ∃ v, e = .returned (.tuple #[v, .int .i64 (ndE ds t)]) ∧ RdN w' v (ndAt ds t) ∧ Kept w w' :=
  (node_own h t).mono fun e w' ⟨lv, a, b, c⟩ => ⟨_, a, ⟨lv, rfl, OwnI.rd b⟩, c⟩

end Go.Proofs.YtdjfdobcjakmhaaDoor
end

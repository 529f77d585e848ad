/- Texts of one proof, put together: TermS, TermA, IntRow, TermT, TermR, Rising, RtP, RtQ, RtT, RtU, Rp0. -/
import Derived.Lib.ItoaNum
import Derived.Test.YtekmdklobejbeaaDoorMg01
import Derived.OwnWalk
import Derived.Deep.RegionHeldLaw
import Derived.Test.YtekmdklobejbeaaDoorMg03
section
/- Terms: what a node is, which may be, how it is found again; plain facts. Nothing here names a program. -/
set_option linter.unusedSimpArgs false
set_option linter.unusedVariables false
namespace Go.Proofs.YtekmdklobejbeaaDoor
open Go

/-- A node. -/
structure Nd where
  op : Int
  n : Int
  s : List UInt8
  l : List Int
  deriving DecidableEq

def nd0 : Nd := ⟨0, 0, [], []⟩

def kTab : List (List UInt8 × Int × Int) := [([], 0, 0), ([], 0, 0), ([], 0, 0), ([108, 105, 115, 116], 0, 64), ([104, 97, 115, 104], 1, 1), ([109, 105, 120], 2, 2), ([107, 101, 121], 3, 3), ([112, 117, 98], 1, 1),
  ([115, 101, 97, 108], 4, 4), ([101, 110, 99], 4, 4), ([115, 105, 103], 2, 2), ([109, 97, 99], 2, 2), ([98, 108, 105, 110, 100], 2, 2)]
def kName (op : Int) : List UInt8 := (kTab.getD op.toNat ([], 0, 0)).1
def kLeast (op : Int) : Int := (kTab.getD op.toNat ([], 0, 0)).2.1
def kMost (op : Int) : Int := (kTab.getD op.toNat ([], 0, 0)).2.2

/-- A node may be, where there are the terms ds. -/
structure May (ds : List Nd) (d : Nd) : Prop where
  op1 : 1 ≤ d.op
  op12 : d.op ≤ 12
  n0 : 0 ≤ d.n
  n1 : d.n = 0 ∨ d.op = 1
  s0 : d.s.length ≤ 200
  s1 : d.s = [] ∨ d.op = 2
  least : kLeast d.op ≤ d.l.length
  most : (d.l.length : Int) ≤ kMost d.op
  all : ∀ x ∈ d.l, 0 ≤ x ∧ x < ds.length
  key : d.op = 6 → (ds.getD (d.l.getD 1 0).toNat nd0).op = 2

theorem op_cases {o : Int} (h1 : 1 ≤ o) (h2 : o ≤ 12) : o = 1 ∨ o = 2 ∨ o = 3 ∨ o = 4 ∨ o = 5 ∨ o = 6 ∨ o = 7 ∨ o = 8 ∨ o = 9 ∨ o = 10 ∨ o = 11 ∨ o = 12 := by omega

theorem May.len64 {ds : List Nd} {d : Nd} (h : May ds d) : d.l.length ≤ 64 := by
  have := h.most
  rcases op_cases h.op1 h.op12 with e | e | e | e | e | e | e | e | e | e | e | e <;> rw [e] at this <;> simp [kMost, kTab] at this <;> (try rw [this]) <;> simp <;> omega
theorem May.nol {ds : List Nd} {d : Nd} (h : May ds d) (ho : d.op = 1 ∨ d.op = 2) : d.l = [] := by
  have := h.most
  rcases ho with e | e <;> rw [e] at this <;> simp [kMost, kTab] at this <;> exact this
theorem May.len3 {ds : List Nd} {d : Nd} (h : May ds d) (ho : d.op = 6) : d.l.length = 3 := by
  have h1 := h.most
  have h2 := h.least
  rw [ho] at h1 h2
  simp [kMost, kLeast, kTab] at h1 h2
  omega
theorem May.more {ds es : List Nd} {d : Nd} (h : May ds d) : May (ds ++ es) d :=
  { h with
    all := fun x hx => ⟨(h.all x hx).1, by have := (h.all x hx).2; rw [List.length_append]; omega⟩
    key := fun ho => by
      have hl := h.len3 ho
      have hx := h.all (d.l.getD 1 0) (by
        rw [List.getD_eq_getElem?_getD, List.getElem?_eq_getElem (show 1 < d.l.length by omega)]
        exact List.getElem_mem _)
      rw [← h.key ho]
      simp only [List.getD_eq_getElem?_getD]
      rw [List.getElem?_append_left (by simp only [List.getD_eq_getElem?_getD] at hx; omega)] }

/-! ## decimals -/
def isDig (c : UInt8) : Bool := decide (48 ≤ c.toNat) && decide (c.toNat ≤ 57)
def decVal (l : List UInt8) : Nat := l.foldl (fun a c => a * 10 + (c.toNat - 48)) 0

theorem dd_step {u : Nat} (h : ¬ u < 10) : Lib.decDigits u = Lib.decDigits (u / 10) ++ [UInt8.ofNat (48 + u % 10)] := by
  rw [Lib.decDigits, dif_neg h]
theorem ofNat_small {k : Nat} (h : k < 256) : (UInt8.ofNat k).toNat = k := by
  rw [UInt8.toNat_ofNat_of_lt' (by simpa using h)]
theorem dd_dig (u : Nat) : ∀ c ∈ Lib.decDigits u, isDig c = true := by
  induction u using Nat.strongRecOn with
  | ind u ih =>
    by_cases h : u < 10
    · rw [Lib.decDigits_one h]
      intro c hc
      obtain rfl : c = UInt8.ofNat (48 + u) := by simpa using hc
      simp [isDig, ofNat_small (show 48 + u < 256 by omega)]
      omega
    · rw [dd_step h]
      intro c hc
      rcases List.mem_append.1 hc with h1 | h1
      · exact ih _ (by omega) c h1
      · obtain rfl : c = UInt8.ofNat (48 + u % 10) := by simpa using h1
        simp only [isDig, ofNat_small (show 48 + u % 10 < 256 by omega)]
        simp
        omega
theorem dd_val (u : Nat) : decVal (Lib.decDigits u) = u := by
  induction u using Nat.strongRecOn with
  | ind u ih =>
    by_cases h : u < 10
    · rw [Lib.decDigits_one h]
      simp only [decVal, List.foldl_cons, List.foldl_nil, ofNat_small (show 48 + u < 256 by omega)]
      omega
    · have := ih (u / 10) (by omega)
      rw [dd_step h]
      unfold decVal at this ⊢
      rw [List.foldl_append, this]
      simp only [List.foldl_cons, List.foldl_nil, ofNat_small (show 48 + u % 10 < 256 by omega)]
      omega
theorem dd_inj {a b : Nat} (h : Lib.decDigits a = Lib.decDigits b) : a = b := by rw [← dd_val a, ← dd_val b, h]
theorem dd_pos (u : Nat) : 0 < (Lib.decDigits u).length := by
  by_cases h : u < 10
  · rw [Lib.decDigits_one h]; simp
  · rw [dd_step h]; simp

/-- Nothing, or no digit, comes first. -/
def NoDig (l : List UInt8) : Prop := ∀ c r, l = c :: r → isDig c = false
theorem noDig_nil : NoDig [] := fun c r h => by cases h
theorem noDig_cons {c : UInt8} (r : List UInt8) (h : isDig c = false) : NoDig (c :: r) := fun c' r' e => by cases e; exact h

theorem takeWhile_dig {x u : List UInt8} (hx : ∀ c ∈ x, isDig c = true) (hu : NoDig u) : (x ++ u).takeWhile isDig = x ∧ (x ++ u).dropWhile isDig = u := by
  induction x with
  | nil =>
    cases u with
    | nil => exact ⟨rfl, rfl⟩
    | cons c r =>
      have := hu c r rfl
      simp [List.takeWhile, List.dropWhile, this]
  | cons a x ih =>
    have h1 := hx a List.mem_cons_self
    obtain ⟨i1, i2⟩ := ih fun c hc => hx c (List.mem_cons_of_mem _ hc)
    simp only [List.cons_append, List.takeWhile_cons, List.dropWhile_cons, h1, if_true]
    exact ⟨by rw [i1], i2⟩

theorem dd_sep {a b : Nat} {u v : List UInt8} (hu : NoDig u) (hv : NoDig v) (h : Lib.decDigits a ++ u = Lib.decDigits b ++ v) : a = b ∧ u = v := by
  obtain ⟨h1, h2⟩ := takeWhile_dig (dd_dig a) hu
  obtain ⟨h3, h4⟩ := takeWhile_dig (dd_dig b) hv
  rw [h] at h1 h2
  exact ⟨dd_inj (h1.symm.trans h3), h2.symm.trans h4⟩
theorem itoa_of_nonneg {n : Int} (h : 0 ≤ n) : Lib.itoa n = Lib.decDigits n.toNat := by
  unfold Lib.itoa
  rw [if_neg (by omega)]
theorem itoa_sep {a b : Int} {u v : List UInt8} (ha : 0 ≤ a) (hb : 0 ≤ b) (hu : NoDig u) (hv : NoDig v) (h : Lib.itoa a ++ u = Lib.itoa b ++ v) : a = b ∧ u = v := by
  rw [itoa_of_nonneg ha, itoa_of_nonneg hb] at h
  obtain ⟨h1, h2⟩ := dd_sep hu hv h
  exact ⟨by omega, h2⟩

/-! ## a node's text among others: the program's -/
def partsKey (l : List Int) : List UInt8 := l.flatMap fun x => Lib.itoa x ++ [44]
def key (d : Nd) : List UInt8 := UInt8.ofNat d.op.toNat :: (if d.op = 1 then Lib.itoa d.n else if d.op = 2 then d.s else partsKey d.l)

theorem partsKey_cons (x : Int) (l : List Int) : partsKey (x :: l) = Lib.itoa x ++ 44 :: partsKey l := by simp [partsKey]
theorem partsKey_snoc (l : List Int) (x : Int) : partsKey (l ++ [x]) = partsKey l ++ (Lib.itoa x ++ [44]) := by simp [partsKey]
theorem partsKey_inj {l m : List Int} (hl : ∀ x ∈ l, 0 ≤ x) (hm : ∀ x ∈ m, 0 ≤ x) (h : partsKey l = partsKey m) : l = m := by
  induction l generalizing m with
  | nil =>
    cases m with
    | nil => rfl
    | cons y m => rw [partsKey_cons] at h; simp [partsKey] at h
  | cons x l ih =>
    cases m with
    | nil => rw [partsKey_cons] at h; simp [partsKey] at h
    | cons y m =>
      rw [partsKey_cons, partsKey_cons] at h
      obtain ⟨h1, h2⟩ := itoa_sep (hl x List.mem_cons_self) (hm y List.mem_cons_self) (noDig_cons _ (by decide)) (noDig_cons _ (by decide)) h
      simp only [List.cons.injEq, true_and] at h2
      rw [h1, ih (fun z hz => hl z (List.mem_cons_of_mem _ hz)) (fun z hz => hm z (List.mem_cons_of_mem _ hz)) h2]

theorem nd_ext {d e : Nd} (h1 : d.op = e.op) (h2 : d.n = e.n) (h3 : d.s = e.s) (h4 : d.l = e.l) : d = e := by
  cases d; cases e; simp_all

theorem key_inj {ds es : List Nd} {d e : Nd} (hd : May ds d) (he : May es e) (h : key d = key e) : d = e := by
  unfold key at h
  simp only [List.cons.injEq] at h
  obtain ⟨h1, h2⟩ := h
  have a1 := hd.op1; have a2 := hd.op12; have b1 := he.op1; have b2 := he.op12
  have ho : d.op = e.op := by
    have := congrArg UInt8.toNat h1
    rw [ofNat_small (by omega), ofNat_small (by omega)] at this
    omega
  rw [← ho] at h2
  by_cases c1 : d.op = 1
  · rw [if_pos c1, if_pos c1] at h2
    have hn : d.n = e.n := (itoa_sep (u := []) (v := []) hd.n0 he.n0 noDig_nil noDig_nil (by simpa using h2)).1
    have s1 : d.s = [] := hd.s1.resolve_right (by omega)
    have s2 : e.s = [] := he.s1.resolve_right (by omega)
    exact nd_ext ho hn (s1.trans s2.symm) ((hd.nol (.inl c1)).trans (he.nol (.inl (by omega))).symm)
  · have n1 : d.n = 0 := hd.n1.resolve_right c1
    have n2 : e.n = 0 := he.n1.resolve_right (by omega)
    rw [if_neg c1, if_neg c1] at h2
    by_cases c2 : d.op = 2
    · rw [if_pos c2, if_pos c2] at h2
      exact nd_ext ho (n1.trans n2.symm) h2 ((hd.nol (.inr c2)).trans (he.nol (.inr (by omega))).symm)
    · rw [if_neg c2, if_neg c2] at h2
      have s1 : d.s = [] := hd.s1.resolve_right c2
      have s2 : e.s = [] := he.s1.resolve_right (by omega)
      exact nd_ext ho (n1.trans n2.symm) (s1.trans s2.symm) (partsKey_inj (fun x hx => (hd.all x hx).1) (fun x hx => (he.all x hx).1) h2)

/-! ## a node's text among others: the document's -/
def partsKeyR (l : List Int) : List UInt8 := l.flatMap fun x => 32 :: Lib.itoa x
def keyR (d : Nd) : List UInt8 := Lib.itoa d.op ++ 32 :: (Lib.itoa d.n ++ 32 :: (Lib.itoa d.s.length ++ 32 :: (d.s ++ partsKeyR d.l)))
theorem partsKeyR_cons (x : Int) (l : List Int) : partsKeyR (x :: l) = 32 :: (Lib.itoa x ++ partsKeyR l) := by simp [partsKeyR]
theorem partsKeyR_snoc (l : List Int) (x : Int) : partsKeyR (l ++ [x]) = partsKeyR l ++ 32 :: Lib.itoa x := by simp [partsKeyR]
theorem noDig_partsR (l : List Int) : NoDig (partsKeyR l) := by
  cases l with
  | nil => exact noDig_nil
  | cons x l => rw [partsKeyR_cons]; exact noDig_cons _ (by decide)
theorem partsKeyR_inj {l m : List Int} (hl : ∀ x ∈ l, 0 ≤ x) (hm : ∀ x ∈ m, 0 ≤ x) (h : partsKeyR l = partsKeyR m) : l = m := by
  induction l generalizing m with
  | nil =>
    cases m with
    | nil => rfl
    | cons y m => rw [partsKeyR_cons] at h; simp [partsKeyR] at h
  | cons x l ih =>
    cases m with
    | nil => rw [partsKeyR_cons] at h; simp [partsKeyR] at h
    | cons y m =>
      rw [partsKeyR_cons, partsKeyR_cons] at h
      simp only [List.cons.injEq, true_and] at h
      obtain ⟨h1, h2⟩ := itoa_sep (hl x List.mem_cons_self) (hm y List.mem_cons_self) (noDig_partsR l) (noDig_partsR m) h
      rw [h1, ih (fun z hz => hl z (List.mem_cons_of_mem _ hz)) (fun z hz => hm z (List.mem_cons_of_mem _ hz)) h2]
theorem keyR_inj {ds es : List Nd} {d e : Nd} (hd : May ds d) (he : May es e) (h : keyR d = keyR e) : d = e := by
  unfold keyR at h
  have d1 := hd.op1; have e1 := he.op1
  obtain ⟨ho, h⟩ := itoa_sep (by omega) (by omega) (noDig_cons _ (by decide)) (noDig_cons _ (by decide)) h
  simp only [List.cons.injEq, true_and] at h
  obtain ⟨hn, h⟩ := itoa_sep hd.n0 he.n0 (noDig_cons _ (by decide)) (noDig_cons _ (by decide)) h
  simp only [List.cons.injEq, true_and] at h
  obtain ⟨hs, h⟩ := itoa_sep (by omega) (by omega) (noDig_cons _ (by decide)) (noDig_cons _ (by decide)) h
  simp only [List.cons.injEq, true_and] at h
  obtain ⟨hs', hl⟩ := List.append_inj h (by omega)
  exact nd_ext ho hn hs' (partsKeyR_inj (fun x hx => (hd.all x hx).1) (fun x hx => (he.all x hx).1) hl)

/-! ## an arena's terms -/
/-- The terms of an arena: each made of lesser ones, each once. -/
structure Good (ds : List Nd) : Prop where
  may : ∀ i, i < ds.length → May (ds.take i) (ds.getD i nd0)
  once : ∀ i j, i < ds.length → j < ds.length → ds.getD i nd0 = ds.getD j nd0 → i = j

theorem Good.nil : Good [] := ⟨fun i hi => by simp at hi, fun i j hi => by simp at hi⟩
theorem Good.may' {ds : List Nd} (h : Good ds) {i : Nat} (hi : i < ds.length) : May ds (ds.getD i nd0) := by
  have := (h.may i hi).more (es := ds.drop i)
  rwa [List.take_append_drop] at this
theorem Good.lesser {ds : List Nd} (h : Good ds) {i : Nat} (hi : i < ds.length) : ∀ x ∈ (ds.getD i nd0).l, 0 ≤ x ∧ x < i := fun x hx => by
  have := (h.may i hi).all x hx
  rw [List.length_take] at this
  omega
theorem getD_snoc (ds : List Nd) (d : Nd) (i : Nat) : (ds ++ [d]).getD i nd0 = if i < ds.length then ds.getD i nd0 else if i = ds.length then d else nd0 := by
  simp only [List.getD_eq_getElem?_getD]
  by_cases h : i < ds.length
  · rw [if_pos h, List.getElem?_append_left h]
  · rw [if_neg h, List.getElem?_append_right (by omega)]
    by_cases h2 : i = ds.length
    · simp [h2]
    · rw [if_neg h2, List.getElem?_eq_none (by simp; omega)]; rfl

/-- The number of the term that has this node. -/
def find (ds : List Nd) (d : Nd) : Option Nat := ds.findIdx? (fun e => decide (e = d))
theorem find_some {ds : List Nd} {d : Nd} {i : Nat} (h : find ds d = some i) : i < ds.length ∧ ds.getD i nd0 = d := by
  obtain ⟨h1, h2, _⟩ := List.findIdx?_eq_some_iff_getElem.1 h
  refine ⟨h1, ?_⟩
  rw [List.getD_eq_getElem?_getD, List.getElem?_eq_getElem h1]
  simpa using h2
theorem find_none {ds : List Nd} {d : Nd} (h : find ds d = none) : ∀ i, i < ds.length → ds.getD i nd0 ≠ d := by
  intro i hi e
  have := List.findIdx?_eq_none_iff.1 h (ds.getD i nd0) (by rw [List.getD_eq_getElem?_getD, List.getElem?_eq_getElem hi]; exact List.getElem_mem _)
  rw [e] at this
  simp at this
theorem Good.findAt {ds : List Nd} (h : Good ds) {d : Nd} {i : Nat} (hi : i < ds.length) (he : ds.getD i nd0 = d) : find ds d = some i := by
  cases hf : find ds d with
  | none => exact absurd he (find_none hf i hi)
  | some j =>
    obtain ⟨h1, h2⟩ := find_some hf
    rw [h.once j i h1 hi (h2.trans he.symm)]

theorem Good.snoc {ds : List Nd} (h : Good ds) {d : Nd} (hm : May ds d) (hf : find ds d = none) : Good (ds ++ [d]) := by
  refine ⟨fun i hi => ?_, fun i j hi hj he => ?_⟩
  · rw [getD_snoc]
    rw [List.length_append, List.length_singleton] at hi
    by_cases h1 : i < ds.length
    · rw [if_pos h1, List.take_append_of_le_length (by omega)]
      exact h.may i h1
    · obtain rfl : i = ds.length := by omega
      rw [if_neg h1, if_pos rfl, List.take_append_of_le_length (Nat.le_refl _), List.take_length]
      exact hm
  · rw [List.length_append, List.length_singleton] at hi hj
    rw [getD_snoc, getD_snoc] at he
    by_cases h1 : i < ds.length
    · rw [if_pos h1] at he
      by_cases h2 : j < ds.length
      · rw [if_pos h2] at he; exact h.once i j h1 h2 he
      · rw [if_neg h2, if_pos (by omega)] at he
        exact absurd he (find_none hf i h1)
    · rw [if_neg h1, if_pos (by omega)] at he
      by_cases h2 : j < ds.length
      · rw [if_pos h2] at he
        exact absurd he.symm (find_none hf j h2)
      · omega

/-- What Make does: the terms behind it, the term's number, the error. -/
noncomputable def mk (ds : List Nd) (d : Nd) : List Nd × Int × Int :=
  open Classical in
  if May ds d then
    match find ds d with
    | some i => (ds, i, 0)
    | none => if 100000 ≤ ds.length then (ds, 0, 2) else (ds ++ [d], ds.length, 0)
  else (ds, 0, 1)
theorem mk_bad {ds : List Nd} {d : Nd} (h : ¬ May ds d) : mk ds d = (ds, 0, 1) := by unfold mk; rw [if_neg h]
theorem mk_old {ds : List Nd} {d : Nd} (h : May ds d) {i : Nat} (hf : find ds d = some i) : mk ds d = (ds, (i : Int), 0) := by unfold mk; rw [if_pos h, hf]
theorem mk_full {ds : List Nd} {d : Nd} (h : May ds d) (hf : find ds d = none) (hl : 100000 ≤ ds.length) : mk ds d = (ds, 0, 2) := by unfold mk; rw [if_pos h, hf]; simp only [if_pos hl]
theorem mk_new {ds : List Nd} {d : Nd} (h : May ds d) (hf : find ds d = none) (hl : ¬ 100000 ≤ ds.length) : mk ds d = (ds ++ [d], (ds.length : Int), 0) := by unfold mk; rw [if_pos h, hf]; simp only [if_neg hl]
theorem good_mk {ds : List Nd} (h : Good ds) (d : Nd) : Good (mk ds d).1 := by
  by_cases hm : May ds d
  · cases hf : find ds d with
    | some i => rw [mk_old hm hf]; exact h
    | none =>
      by_cases hl : 100000 ≤ ds.length
      · rw [mk_full hm hf hl]; exact h
      · rw [mk_new hm hf hl]; exact h.snoc hm hf
  · rw [mk_bad hm]; exact h
theorem mk_le (ds : List Nd) (d : Nd) : ds.length ≤ (mk ds d).1.length ∧ (mk ds d).1.length ≤ ds.length + 1 := by
  by_cases hm : May ds d
  · cases hf : find ds d with
    | some i => rw [mk_old hm hf]; simp
    | none =>
      by_cases hl : 100000 ≤ ds.length
      · rw [mk_full hm hf hl]; simp
      · rw [mk_new hm hf hl]; simp
  · rw [mk_bad hm]; simp
end Go.Proofs.YtekmdklobejbeaaDoor
end

section
/- Nodes in memory; an arena in memory. -/
set_option linter.unusedSimpArgs false
set_option linter.unusedVariables false
namespace Go.Proofs.YtekmdklobejbeaaDoor
open Go.RowKit Go.Maps

def strB (s : List UInt8) : ByteArray := ⟨s.toArray⟩
theorem strB_toList (s : List UInt8) : (strB s).data.toList = s := rfl
theorem strB_list (s : List UInt8) : (strB s).toList = s := by rw [ByteArray.toList_eq]; rfl
theorem strB_size (s : List UInt8) : (strB s).size = s.length := by simp [strB, ByteArray.size]

/-- The cells of a node whose parts are the slice lv. -/
def ndCells (d : Nd) (lv : Value) : List Value := [.int .i64 d.op, .int .i64 d.n, .string (strB d.s), lv]
/-- The cells of many. -/
def flat : List Nd → List Value → List Value
  | [], _ => []
  | d :: ds, lvs => ndCells d (lvs.headD undef) ++ flat ds lvs.tail
theorem flat_length (ds : List Nd) (lvs : List Value) : (flat ds lvs).length = ds.length * 4 := by
  induction ds generalizing lvs with
  | nil => rfl
  | cons d ds ih => simp [flat, ndCells, ih]; omega
theorem flat_at (ds : List Nd) (lvs : List Value) (i j : Nat) (hi : i < ds.length) (hj : j < 4) : (flat ds lvs)[i * 4 + j]? = (ndCells (ds.getD i nd0) (lvs.getD i undef))[j]? := by
  induction ds generalizing lvs i with
  | nil => simp at hi
  | cons d ds ih =>
    cases i with
    | zero =>
      simp only [flat, Nat.zero_mul, Nat.zero_add]
      rw [List.getElem?_append_left (by simp [ndCells]; omega)]
      cases lvs <;> rfl
    | succ i =>
      simp only [flat]
      rw [List.getElem?_append_right (by simp [ndCells]; omega)]
      have e : (i + 1) * 4 + j - (ndCells d (lvs.headD undef)).length = i * 4 + j := by simp [ndCells]; omega
      rw [e, ih lvs.tail i (by simpa using hi)]
      cases lvs <;> simp
theorem flat_snoc (ds : List Nd) (lvs : List Value) (h : lvs.length = ds.length) (d : Nd) (lv : Value) : flat (ds ++ [d]) (lvs ++ [lv]) = flat ds lvs ++ ndCells d lv := by
  induction ds generalizing lvs with
  | nil =>
    cases lvs with
    | nil => simp [flat]
    | cons => simp at h
  | cons e ds ih =>
    cases lvs with
    | nil => simp at h
    | cons v lvs => simp [flat, ih lvs (by simpa using h)]

/-- An argument that is a node. -/
def RdN (w : World) (v : Value) (d : Nd) : Prop := ∃ lv, v = .agg #[.int .i64 d.op, .int .i64 d.n, .string (strB d.s), lv] ∧ RdI w lv d.l
/-- Nodes whose numbers are int's. -/
structure NdOk (d : Nd) : Prop where
  op : I64 d.op
  n : I64 d.n
  s : d.s.length ≤ maxLen
  l : ∀ x ∈ d.l, I64 x

/-- v is a slice of nodes. -/
def RdNs (w : World) (v : Value) (ds : List Nd) : Prop :=
  ∃ lvs : List Value, lvs.length = ds.length ∧ Rdv 4 w v ds.length (flat ds lvs) ∧ ∀ i, i < ds.length → RdI w (lvs.getD i undef) (ds.getD i nd0).l

theorem RdNs.kept {w w' : World} {v : Value} {ds : List Nd} (h : RdNs w v ds) (k : Kept w w') : RdNs w' v ds := by
  obtain ⟨lvs, h1, h2, h3⟩ := h
  exact ⟨lvs, h1, h2.kept k, fun i hi => (h3 i hi).kept k⟩

/-- What the map of an arena says: at the text of each node its number; of no other text anything. -/
def Idx {H : Type} (key : Nd → List UInt8) (ds : List Nd) (D : DataW H) : Prop :=
  (∀ i, i < ds.length → Maps.has D (.string (key (ds.getD i nd0))) = true ∧ D.atKey (.string (key (ds.getD i nd0))) (.lit (.int .i64 0)) = .lit (.int .i64 i)) ∧
  ∀ s, Maps.has D (.string s) = true → ∃ i, i < ds.length ∧ key (ds.getD i nd0) = s

theorem RdNs.len {w : World} {v : Value} {ds : List Nd} (h : RdNs w v ds) : ∃ a cap, v = .slice a ds.length cap ∧ ds.length ≤ cap ∧ cap ≤ maxLen ∧ (a = none → cap = 0) := by
  obtain ⟨lvs, _, ⟨a, cap, rfl, _, h2, h3, h4, _⟩, _⟩ := h
  exact ⟨a, cap, rfl, h2, h3, h4⟩

/-- A slice of nodes that is not empty: its address, its cells. -/
theorem RdNs.addr {w : World} {v : Value} {ds : List Nd} (h : RdNs w v ds) (hp : 0 < ds.length) :
    ∃ b off cap, ∃ lvs : List Value, v = .slice (some ⟨b, off, none⟩) ds.length cap ∧ ds.length ≤ cap ∧ cap ≤ maxLen ∧ b < w.heap.size ∧
      (∀ i, i < ds.length → w.cell? ⟨b, off + i * 4, none⟩ = some (.int .i64 (ds.getD i nd0).op) ∧ w.cell? ⟨b, off + i * 4 + 1, none⟩ = some (.int .i64 (ds.getD i nd0).n) ∧
        w.cell? ⟨b, off + i * 4 + 2, none⟩ = some (.string (strB (ds.getD i nd0).s)) ∧ w.cell? ⟨b, off + i * 4 + 3, none⟩ = some (lvs.getD i undef)) ∧
      ∀ i, i < ds.length → RdI w (lvs.getD i undef) (ds.getD i nd0).l := by
  obtain ⟨lvs, hvs, ⟨ao, cap, rfl, hl, hc, hm, hno, hcell⟩, hr⟩ := h
  cases ao with
  | none => have := hno rfl; omega
  | some ad =>
    obtain ⟨b, off, spot⟩ := ad
    have h0 := hcell _ rfl 0 (.int .i64 (ds.getD 0 nd0).op) (by have := flat_at ds lvs 0 0 hp (by omega); simpa [ndCells] using this)
    obtain rfl : spot = none := by simpa [Addr.add] using World.cell?_spot h0
    have hg : ∀ i j u, i < ds.length → j < 4 → (ndCells (ds.getD i nd0) (lvs.getD i undef))[j]? = some u → w.cell? ⟨b, off + i * 4 + j, none⟩ = some u := by
      intro i j u hi hj hu
      have := hcell _ rfl (i * 4 + j) u ((flat_at ds lvs i j hi hj).trans hu)
      rw [Addr.add_lit] at this
      rwa [Nat.add_assoc]
    exact ⟨b, off, cap, lvs, rfl, hc, hm, World.block_lt_of_cell? _ _ h0, fun i hi => ⟨hg i 0 _ hi (by omega) rfl, hg i 1 _ hi (by omega) rfl, hg i 2 _ hi (by omega) rfl, hg i 3 _ hi (by omega) rfl⟩, hr⟩

theorem ownsMap_kept {H : Type} {w w' : World} {P : Program} {k : TypeId} {R : Value → Option (DataW H × List MemPlace)} {b n : Nat} {D : DataW H} (h : w.ownsMap P k R b n D) (t : Kept w w') : w'.ownsMap P k R b n D :=
  ownsMap_turn h (t.turn (fun _ => False)) (fun x => x)

/-- At the text of a node that is new, the map says its number. -/
theorem Idx.snoc {H : Type} {ky : Nd → List UInt8} {ds : List Nd} {D : DataW H} (h : Idx ky ds D) (hm : Maps.IsMap D) {d : Nd} (hne : ∀ i, i < ds.length → ky (ds.getD i nd0) ≠ ky d) :
    Idx ky (ds ++ [d]) (D.put (.string (ky d)) (.lit (.int .i64 ds.length))) := by
  have hk : WideAt.IsKeyLit (.string (ky d)) := by first | trivial | exact (by decide) | simp [WideAt.IsKeyLit]
  refine ⟨fun i hi => ?_, fun s hs => ?_⟩
  · rw [List.length_append, List.length_singleton] at hi
    rw [getD_snoc]
    by_cases c : i < ds.length
    · rw [if_pos c]
      obtain ⟨h1, h2⟩ := h.1 i c
      have hn : (Lit.string (ky (ds.getD i nd0))) ≠ Lit.string (ky d) := fun e => hne i c (by injection e)
      exact ⟨by rw [has_put_other hn]; exact h1, by rw [atKey_put_other hn]; exact h2⟩
    · obtain rfl : i = ds.length := by omega
      rw [if_neg c, if_pos rfl]
      exact ⟨has_put_same hm hk _, atKey_put_same hm hk _ _⟩
  · by_cases c : s = ky d
    · exact ⟨ds.length, by simp, by rw [getD_snoc, if_neg (by omega), if_pos rfl, c]⟩
    · rw [has_put_other (fun e => c (by injection e))] at hs
      obtain ⟨i, hi, he⟩ := h.2 s hs
      exact ⟨i, by rw [List.length_append]; omega, by rw [getD_snoc, if_pos hi, he]⟩

theorem getD_snoc_v (l : List Value) (v : Value) (i : Nat) : (l ++ [v]).getD i undef = if i < l.length then l.getD i undef else if i = l.length then v else undef := by
  simp only [List.getD_eq_getElem?_getD]
  by_cases h : i < l.length
  · rw [if_pos h, List.getElem?_append_left h]
  · rw [if_neg h, List.getElem?_append_right (by omega)]
    by_cases h2 : i = l.length
    · simp [h2]
    · rw [if_neg h2, List.getElem?_eq_none (by simp; omega)]; rfl

end Go.Proofs.YtekmdklobejbeaaDoor
end

section
/- Rows of numbers, numbers as keys. -/
set_option linter.unusedSimpArgs false
set_option linter.unusedVariables false
namespace Go.Proofs.YtekmdklobejbeaaDoor
open Go.RowKit Go.Maps

theorem i64_wf {x : Int} (h : I64 x) : (Lit.int .i64 x).wf = true := WalkArith.wf_i64 h
theorem keyInt {x : Int} (h : I64 x) : keyOf Tryd.prog 3 (.int .i64 x) = some (.int .i64 x) := keyOf_int_mk Tryd.underlying3 (i64_wf h)
theorem isKeyInt {x : Int} (h : I64 x) : WideAt.IsKeyLit (.int .i64 x) := by first | trivial | exact i64_wf h | simpa [WideAt.IsKeyLit] using i64_wf h
end Go.Proofs.YtekmdklobejbeaaDoor
end

section
/- A term's text: what Show is to write. Nothing here names a program. -/
set_option linter.unusedSimpArgs false
set_option linter.unusedVariables false
namespace Go.Proofs.YtekmdklobejbeaaDoor
open Go

def esc (s : List UInt8) : List UInt8 := s.flatMap fun c => if c = 34 ∨ c = 92 then [92, c] else [c]
def joinC : List (List UInt8) → List UInt8
  | [] => []
  | [x] => x
  | x :: y :: r => x ++ 44 :: joinC (y :: r)
/-- A node's text, where f tells its parts'. -/
def one (f : Int → List UInt8) (d : Nd) : List UInt8 :=
  if d.op = 1 then 35 :: Lib.itoa d.n else if d.op = 2 then 34 :: (esc d.s ++ [34]) else kName d.op ++ 40 :: (joinC (d.l.map f) ++ [41])
def stepS (acc : List (List UInt8)) (d : Nd) : List (List UInt8) := acc ++ [one (fun x => acc.getD x.toNat []) d]
/-- All terms' texts. -/
def shws (ds : List Nd) : List (List UInt8) := ds.foldl stepS []
/-- The text of a term. -/
def shw (ds : List Nd) (t : Int) : List UInt8 := (shws ds).getD t.toNat []

theorem shws_pre (ds : List Nd) : ∀ acc : List (List UInt8), ∃ r, ds.foldl stepS acc = acc ++ r ∧ r.length = ds.length := by
  induction ds with
  | nil => exact fun acc => ⟨[], by simp, rfl⟩
  | cons d ds ih =>
    intro acc
    obtain ⟨r, h1, h2⟩ := ih (stepS acc d)
    refine ⟨one (fun x => acc.getD x.toNat []) d :: r, ?_, by simp [h2]⟩
    rw [List.foldl_cons, h1]
    simp [stepS]
theorem shws_append (a b : List Nd) : ∃ r, shws (a ++ b) = shws a ++ r ∧ r.length = b.length := by
  unfold shws
  rw [List.foldl_append]
  exact shws_pre b _
theorem shws_length (ds : List Nd) : (shws ds).length = ds.length := by
  obtain ⟨r, h1, h2⟩ := shws_pre ds []
  unfold shws
  rw [h1]
  simpa using h2
theorem shw_more {ds : List Nd} (es : List Nd) {t : Int} (h : t.toNat < ds.length) : shw (ds ++ es) t = shw ds t := by
  obtain ⟨r, h1, _⟩ := shws_append ds es
  unfold shw
  rw [h1]
  simp only [List.getD_eq_getElem?_getD]
  rw [List.getElem?_append_left (by rw [shws_length]; exact h)]
theorem one_congr {f g : Int → List UInt8} {d : Nd} (h : ∀ x ∈ d.l, f x = g x) : one f d = one g d := by
  unfold one
  rw [List.map_congr_left h]
/-- What a term's text is. -/
theorem shw_eq {ds : List Nd} (hg : Good ds) {t : Int} (h0 : 0 ≤ t) (h1 : t < ds.length) : shw ds t = one (shw ds) (ds.getD t.toNat nd0) := by
  obtain ⟨i, rfl⟩ := Int.eq_ofNat_of_zero_le h0
  have hi : i < ds.length := by omega
  simp only [Int.toNat_natCast]
  have hsplit : ds = ds.take i ++ (ds.getD i nd0 :: ds.drop (i + 1)) := by
    rw [List.getD_eq_getElem?_getD, List.getElem?_eq_getElem hi, Option.getD_some, List.getElem_cons_drop hi, List.take_append_drop]
  have htl : (ds.take i).length = i := by rw [List.length_take]; omega
  have key1 : shw ds (i : Int) = one (fun x => (shws (ds.take i)).getD x.toNat []) (ds.getD i nd0) := by
    have e : shws ds = (ds.drop (i + 1)).foldl stepS (stepS (shws (ds.take i)) (ds.getD i nd0)) := by
      conv => lhs; rw [hsplit]
      unfold shws
      rw [List.foldl_append, List.foldl_cons]
    obtain ⟨r, h2, _⟩ := shws_pre (ds.drop (i + 1)) (stepS (shws (ds.take i)) (ds.getD i nd0))
    unfold shw
    rw [e, h2]
    simp only [Int.toNat_natCast, stepS, List.append_assoc, List.getD_eq_getElem?_getD]
    rw [List.getElem?_append_right (by rw [shws_length, htl]; omega), shws_length, htl]
    simp
  rw [key1]
  refine one_congr fun x hx => ?_
  obtain ⟨x0, x1⟩ := hg.lesser hi x hx
  have : shw (ds.take i ++ ds.drop i) x = shw (ds.take i) x := shw_more _ (by rw [htl]; omega)
  rw [List.take_append_drop] at this
  rw [this]
  rfl

theorem joinC_snoc (l : List (List UInt8)) (x : List UInt8) : joinC (l ++ [x]) = if l = [] then x else joinC l ++ 44 :: x := by
  induction l with
  | nil => rfl
  | cons a l ih =>
    cases l with
    | nil => rfl
    | cons b l =>
      simp only [List.cons_append, joinC] at ih ⊢
      rw [ih]
      simp
theorem joinC_take_le (l : List (List UInt8)) (k : Nat) : (joinC (l.take k)).length ≤ (joinC l).length := by
  induction l generalizing k with
  | nil => simp [joinC]
  | cons a l ih =>
    cases k with
    | zero => simp [joinC]
    | succ k =>
      cases l with
      | nil => simp [joinC]
      | cons b l =>
        cases k with
        | zero => simp [joinC]
        | succ k =>
          have := ih (k + 1)
          simp only [List.take_succ_cons, joinC, List.length_append, List.length_cons] at this ⊢
          omega
theorem joinC_step (l : List Int) (f : Int → List UInt8) {k : Nat} (h : k < l.length) :
    joinC ((l.take (k + 1)).map f) = joinC ((l.take k).map f) ++ ((if k = 0 then [] else [44]) ++ f (l.getD k 0)) := by
  rw [List.take_succ_eq_append_getElem h, List.map_append, List.map_cons, List.map_nil, joinC_snoc, List.getD_eq_getElem?_getD, List.getElem?_eq_getElem h]
  by_cases c : k = 0
  · subst c
    simp [joinC]
  · have : ¬ (l.take k).map f = [] := by
      intro e
      have := congrArg List.length e
      rw [List.length_map, List.length_take, List.length_nil] at this
      omega
    rw [if_neg this, if_neg c]
    simp

/-- What is written behind old: all of x, or more than may be shown, where all of x is more, too. -/
def Out (old x new : List UInt8) : Prop := new = old ++ x ∨ (4000 < new.length ∧ 4000 < old.length + x.length)
theorem esc_snoc (s : List UInt8) (c : UInt8) : esc (s ++ [c]) = esc s ++ (if c = 34 ∨ c = 92 then [92, c] else [c]) := by simp [esc]
theorem esc_len (s : List UInt8) : (esc s).length ≤ 2 * s.length := by
  induction s with
  | nil => simp [esc]
  | cons c s ih =>
    have e : esc (c :: s) = (if c = 34 ∨ c = 92 then [92, c] else [c]) ++ esc s := by simp [esc]
    rw [e, List.length_append]
    have : (if c = 34 ∨ c = 92 then [92, c] else [c]).length ≤ 2 := by split <;> simp
    simp
    omega
theorem kName_len (o : Int) : (kName o).length ≤ 5 := by
  unfold kName
  rcases Nat.lt_or_ge o.toNat 13 with h | h
  · generalize o.toNat = n at h
    have : n = 0 ∨ n = 1 ∨ n = 2 ∨ n = 3 ∨ n = 4 ∨ n = 5 ∨ n = 6 ∨ n = 7 ∨ n = 8 ∨ n = 9 ∨ n = 10 ∨ n = 11 ∨ n = 12 := by omega
    rcases this with e | e | e | e | e | e | e | e | e | e | e | e | e <;> subst e <;> simp [kTab]
  · rw [List.getD_eq_getElem?_getD, List.getElem?_eq_none (by simp [kTab]; omega)]
    simp
end Go.Proofs.YtekmdklobejbeaaDoor
end

section
/- What a term is made of: plain facts. Nothing here names a program. -/
set_option linter.unusedSimpArgs false
set_option linter.unusedVariables false
namespace Go.Proofs.YtekmdklobejbeaaDoor
open Go

/-- x is in t. -/
inductive Reach (ds : List Nd) (t : Int) : Int → Prop
  | refl : 0 ≤ t → t < ds.length → Reach ds t t
  | step {x y : Int} : Reach ds t x → y ∈ (ds.getD x.toNat nd0).l → Reach ds t y

theorem Reach.bound {ds : List Nd} (hg : Good ds) {t x : Int} (h : Reach ds t x) : 0 ≤ x ∧ x ≤ t ∧ t < ds.length ∧ 0 ≤ t := by
  induction h with
  | refl h0 h1 => exact ⟨h0, Int.le_refl _, h1, h0⟩
  | step h1 h2 ih =>
    obtain ⟨a, b, c, d⟩ := ih
    have := hg.lesser (i := _) (by omega) _ h2
    omega
theorem Reach.trans {ds : List Nd} {t x y : Int} (h : Reach ds t x) (k : Reach ds x y) : Reach ds t y := by
  induction k with
  | refl _ _ => exact h
  | step _ h2 ih => exact .step ih h2

/-- The numbers of a list are all that t is made of, each once. -/
def Parts (ds : List Nd) (t : Int) (ks : List Int) : Prop := ks.Nodup ∧ ∀ x, x ∈ ks ↔ Reach ds t x
theorem Parts.length {ds : List Nd} {t : Int} {ks ls : List Int} (h : Parts ds t ks) (k : Parts ds t ls) : ks.length = ls.length :=
  ((List.perm_ext_iff_of_nodup h.1 k.1).2 fun x => (h.2 x).trans (k.2 x).symm).length_eq

theorem mem_getD {l : List Int} {k : Nat} (h : k < l.length) : l.getD k 0 ∈ l := by
  rw [List.getD_eq_getElem?_getD, List.getElem?_eq_getElem h]
  exact List.getElem_mem _
/-- What the search has: what is still to be gone through, and what was met. -/
structure Dfs (ds : List Nd) (t : Int) (zs ks : List Int) : Prop where
  met : ∀ z ∈ zs, z ∈ ks
  in' : ∀ x ∈ ks, Reach ds t x
  all : ∀ x ∈ ks, x ∉ zs → ∀ y ∈ (ds.getD x.toNat nd0).l, y ∈ ks
  top : t ∈ ks
  once : ks.Nodup
theorem Dfs.start {ds : List Nd} {t : Int} (h0 : 0 ≤ t) (h1 : t < ds.length) : Dfs ds t [t] [t] :=
  ⟨fun z hz => hz, fun x hx => by rw [List.mem_singleton.1 hx]; exact .refl h0 h1, fun x hx hn => absurd hx hn, by simp, by simp⟩
theorem Dfs.done {ds : List Nd} {t : Int} {ks : List Int} (h : Dfs ds t [] ks) : Parts ds t ks := by
  refine ⟨h.once, fun x => ⟨h.in' x, fun hr => ?_⟩⟩
  induction hr with
  | refl _ _ => exact h.top
  | step h1 h2 ih => exact h.all _ ih (by simp) _ h2
/-- .. while the parts of x are gone through: so many of them. -/
structure Dfs2 (ds : List Nd) (t x : Int) (k : Nat) (zs ks : List Int) : Prop where
  met : ∀ z ∈ zs, z ∈ ks
  in' : ∀ x ∈ ks, Reach ds t x
  all : ∀ u ∈ ks, u ∉ zs → u ≠ x → ∀ y ∈ (ds.getD u.toNat nd0).l, y ∈ ks
  own : ∀ i, i < k → (ds.getD x.toNat nd0).l.getD i 0 ∈ ks
  top : t ∈ ks
  x : x ∈ ks
  once : ks.Nodup
theorem Dfs.pop {ds : List Nd} {t : Int} {zs ks : List Int} (h : Dfs ds t zs ks) (hp : 0 < zs.length) : Dfs2 ds t (zs.getD (zs.length - 1) 0) 0 (zs.take (zs.length - 1)) ks := by
  have hx : zs.getD (zs.length - 1) 0 ∈ zs := by
    rw [List.getD_eq_getElem?_getD, List.getElem?_eq_getElem (show zs.length - 1 < zs.length by omega)]
    exact List.getElem_mem _
  refine ⟨fun z hz => h.met z (List.mem_of_mem_take hz), h.in', fun u hu hn hne y hy => h.all u hu (fun hz => ?_) y hy, fun i hi => absurd hi (Nat.not_lt_zero _), h.top, h.met _ hx, h.once⟩
  have e : zs = zs.take (zs.length - 1) ++ [zs.getD (zs.length - 1) 0] := by
    rw [List.getD_eq_getElem?_getD, List.getElem?_eq_getElem (show zs.length - 1 < zs.length by omega), Option.getD_some]
    have := List.take_succ_eq_append_getElem (l := zs) (i := zs.length - 1) (by omega)
    rw [← this, Nat.sub_add_cancel hp, List.take_length]
  rw [e] at hz
  rcases List.mem_append.1 hz with c | c
  · exact hn c
  · exact hne (List.mem_singleton.1 c)
theorem Dfs2.old {ds : List Nd} {t x : Int} {k : Nat} {zs ks : List Int} (h : Dfs2 ds t x k zs ks) (hm : (ds.getD x.toNat nd0).l.getD k 0 ∈ ks) : Dfs2 ds t x (k + 1) zs ks :=
  ⟨h.met, h.in', h.all, fun i hi => by
    by_cases c : i < k
    · exact h.own i c
    · obtain rfl : i = k := by omega
      exact hm, h.top, h.x, h.once⟩
theorem Dfs2.new {ds : List Nd} {t x : Int} {k : Nat} {zs ks : List Int} (h : Dfs2 ds t x k zs ks) (hk : k < (ds.getD x.toNat nd0).l.length) (hm : (ds.getD x.toNat nd0).l.getD k 0 ∉ ks) :
    Dfs2 ds t x (k + 1) (zs ++ [(ds.getD x.toNat nd0).l.getD k 0]) ((ds.getD x.toNat nd0).l.getD k 0 :: ks) := by
  have hmem : (ds.getD x.toNat nd0).l.getD k 0 ∈ (ds.getD x.toNat nd0).l := mem_getD hk
  refine ⟨fun z hz => ?_, fun u hu => ?_, fun u hu hn hne y hy => ?_, fun i hi => ?_, List.mem_cons_of_mem _ h.top, List.mem_cons_of_mem _ h.x, List.nodup_cons.2 ⟨hm, h.once⟩⟩
  · rcases List.mem_append.1 hz with c | c
    · exact List.mem_cons_of_mem _ (h.met z c)
    · rw [List.mem_singleton.1 c]; exact List.mem_cons_self
  · rcases List.mem_cons.1 hu with c | c
    · rw [c]; exact .step (h.in' x h.x) hmem
    · exact h.in' u c
  · rcases List.mem_cons.1 hu with c | c
    · exact absurd (List.mem_append.2 (.inr (List.mem_singleton.2 c))) hn
    · exact List.mem_cons_of_mem _ (h.all u c (fun hz => hn (List.mem_append.2 (.inl hz))) hne y hy)
  · by_cases c : i < k
    · exact List.mem_cons_of_mem _ (h.own i c)
    · obtain rfl : i = k := by omega
      exact List.mem_cons_self
theorem Dfs2.done {ds : List Nd} {t x : Int} {zs ks : List Int} (h : Dfs2 ds t x (ds.getD x.toNat nd0).l.length zs ks) : Dfs ds t zs ks :=
  ⟨h.met, h.in', fun u hu hn y hy => by
    by_cases c : u = x
    · subst c
      obtain ⟨i, hi, e⟩ := List.mem_iff_getElem.1 hy
      have := h.own i hi
      rwa [List.getD_eq_getElem?_getD, List.getElem?_eq_getElem hi, Option.getD_some, e] at this
    · exact h.all u hu hn c y hy, h.top, h.once⟩

theorem nodup_le (n : Nat) : ∀ ks : List Int, ks.Nodup → (∀ x ∈ ks, 0 ≤ x ∧ x < n) → ks.length ≤ n := by
  induction n with
  | zero =>
    intro ks _ hb
    cases ks with
    | nil => simp
    | cons x ks => have := hb x List.mem_cons_self; omega
  | succ n ih =>
    intro ks h hb
    have h1 := ih (ks.erase (n : Int)) (h.erase _) (fun x hx => by
      obtain ⟨a, b⟩ := (List.Nodup.mem_erase_iff h).1 hx
      have := hb x b
      omega)
    by_cases c : (n : Int) ∈ ks
    · rw [List.length_erase_of_mem c] at h1; omega
    · rw [List.erase_of_not_mem c] at h1; omega

/-! ## atoms -/
/-- The numbers of all atoms in t, rising. -/
def Atoms (ds : List Nd) (t : Int) (l : List Int) : Prop := l.Pairwise (· < ·) ∧ ∀ n, n ∈ l ↔ ∃ x, Reach ds t x ∧ (ds.getD x.toNat nd0).op = 1 ∧ (ds.getD x.toNat nd0).n = n
theorem sorted_unique {l m : List Int} (hl : l.Pairwise (· < ·)) (hm : m.Pairwise (· < ·)) (h : ∀ x, x ∈ l ↔ x ∈ m) : l = m := by
  induction l generalizing m with
  | nil =>
    cases m with
    | nil => rfl
    | cons y m => exact absurd ((h y).2 List.mem_cons_self) (by simp)
  | cons x l ih =>
    cases m with
    | nil => exact absurd ((h x).1 List.mem_cons_self) (by simp)
    | cons y m =>
      obtain ⟨hl1, hl2⟩ := List.pairwise_cons.1 hl
      obtain ⟨hm1, hm2⟩ := List.pairwise_cons.1 hm
      have e : x = y := by
        rcases List.mem_cons.1 ((h x).1 List.mem_cons_self) with c | c
        · exact c
        · rcases List.mem_cons.1 ((h y).2 List.mem_cons_self) with c' | c'
          · exact c'.symm
          · have := hm1 x c; have := hl1 y c'; omega
      subst e
      rw [ih hl2 hm2 fun z => ⟨fun hz => ?_, fun hz => ?_⟩]
      · rcases List.mem_cons.1 ((h z).1 (List.mem_cons_of_mem _ hz)) with c | c
        · subst c; have := hl1 z hz; omega
        · exact c
      · rcases List.mem_cons.1 ((h z).2 (List.mem_cons_of_mem _ hz)) with c | c
        · subst c; have := hm1 z hz; omega
        · exact c
theorem Atoms.unique {ds : List Nd} {t : Int} {l m : List Int} (h : Atoms ds t l) (k : Atoms ds t m) : l = m :=
  sorted_unique h.1 k.1 fun x => (h.2 x).trans (k.2 x).symm
end Go.Proofs.YtekmdklobejbeaaDoor
end

section
/- The document's Rising. -/
set_option linter.unusedSimpArgs false
set_option linter.unusedVariables false
namespace Go.Proofs.YtekmdklobejbeaaDoor
open Go.RowKit Go.Maps

/-- append to numbers of the call's own, at an operation: what is appended may be none. -/
theorem wp_appi {w : World} {o : Oper} {a : Act} {K : Act → World → Prop} {Q : Exit → Act → World → Prop} (s x : Operand)
    (ho : o.op = .call { callee := .builtin .append, args := #[s, x], argTypes := #[25, 25] })
    (B : Nat) (v : Value) (zs : List Int) (hs : a.eval s = v) (hw : OwnI B w v zs) (u : Value) (news : List Int) (hx : a.eval x = u) (hr : RdI w u news)
    (hl : zs.length + news.length ≤ 10000000000) (hB : B ≤ w.heap.size)
    (hK : ∀ v' w', OwnI B w' v' (zs ++ news) → Turn (Blks v) w w' → (∀ b, Blks v' b → Blks v b ∨ w.heap.size ≤ b) → K (a.put o.dst v') w') : o.wp Tryd.prog a w K Q := by
  obtain ⟨i0, hi, hz0, hz1, hz2⟩ := info_parts Tryd.infoInt
  obtain ⟨ao, cap, hu, hl', hc, hm, hno, hcell⟩ := hr
  cases ao with
  | none =>
    have e0 := hno rfl
    have em : news.length = 0 := by omega
    obtain rfl : news = [] := List.eq_nil_of_length_eq_zero em
    subst e0
    have hrun := run_append_owned_none (P := Tryd.prog) (w := w) B 25 o.type 3 i0 1 Tryd.underlying25 hi v zs.length (zs.map (Value.int .i64)) hw
    have hx' : a.eval x = .slice none 0 0 := hx.trans hu
    unfold Oper.wp
    simp [execOp, ho, resolve, invoke, builtin, hs, hx', hrun, Result.andThen]
    exact hK v w (by simpa using hw) (Turn.refl _ _) (fun b hb => .inl hb)
  | some ad =>
    obtain ⟨v', w', hrun, h2, h3, h4, h5⟩ := run_append_own_at (P := Tryd.prog) w B 25 o.type 3 i0 (.int .i64 0) 1 8 Tryd.underlying25 hi hz0 hz1 hz2 rfl (by decide) v zs.length (zs.map (Value.int .i64)) hw ad news.length cap (news.map (Value.int .i64)) hl' (hcell ad rfl) (ones_int .i64 news) (by unfold maxLen; omega) (by omega) hB
    have hx' : a.eval x = .slice (some ad) news.length cap := hx.trans hu
    unfold Oper.wp execOp
    simp only [ho, resolve, invoke, builtin, Sem.run_bind, Sem.run_pure, Result.andThen_ok, List.map_toArray, List.map_cons, List.map_nil, hs, hx', hrun]
    refine hK v' w' (by unfold OwnI; rw [List.length_append, List.map_append]; exact h2) ((Grown.turn h3).mono fun b hb => hb.symm) (fun b hb => ?_)
    rcases h5 with h | h
    · exact .inl (h.symm.trans hb)
    · rw [Blks, h] at hb
      simp only [Option.some.injEq] at hb
      exact .inr (by omega)

theorem mem_take_at {us : List Int} {k : Nat} {x : Int} (h : x ∈ us.take k) : ∃ j, j < k ∧ j < us.length ∧ us.getD j 0 = x := by
  obtain ⟨j, hj, e⟩ := List.mem_iff_getElem.1 h
  rw [List.length_take] at hj
  refine ⟨j, by omega, by omega, ?_⟩
  rw [← e, List.getElem_take, List.getD_eq_getElem?_getD, List.getElem?_eq_getElem (by omega)]
  rfl
theorem mem_drop_at {us : List Int} {k : Nat} {x : Int} (h : x ∈ us.drop k) : ∃ j, k ≤ j ∧ j < us.length ∧ us.getD j 0 = x := by
  obtain ⟨j, hj, e⟩ := List.mem_iff_getElem.1 h
  rw [List.length_drop] at hj
  refine ⟨k + j, by omega, by omega, ?_⟩
  rw [← e, List.getElem_drop, List.getD_eq_getElem?_getD, List.getElem?_eq_getElem (by omega)]
  rfl
theorem ins_sorted {us : List Int} {n : Int} {k : Nat} (hs : us.Pairwise (· < ·)) (ha : ∀ j, k ≤ j → j < us.length → n < us.getD j 0) (hb : ∀ j, j < k → j < us.length → us.getD j 0 < n) :
    (us.take k ++ [n] ++ us.drop k).Pairwise (· < ·) := by
  have ht : (us.take k).Pairwise (· < ·) := hs.sublist (List.take_sublist _ _)
  have hd : (us.drop k).Pairwise (· < ·) := hs.sublist (List.drop_sublist _ _)
  have l1 : ∀ x ∈ us.take k, x < n := fun x hx => by
    obtain ⟨j, a, b, c⟩ := mem_take_at hx
    rw [← c]; exact hb j a b
  have l2 : ∀ x ∈ us.drop k, n < x := fun x hx => by
    obtain ⟨j, a, b, c⟩ := mem_drop_at hx
    rw [← c]; exact ha j a b
  rw [List.pairwise_append]
  refine ⟨?_, hd, fun x hx y hy => ?_⟩
  · rw [List.pairwise_append]
    exact ⟨ht, List.pairwise_singleton _ _, fun x hx y hy => by rw [List.mem_singleton.1 hy]; exact l1 x hx⟩
  · rcases List.mem_append.1 hx with h | h
    · exact Int.lt_trans (l1 x h) (l2 y hy)
    · rw [List.mem_singleton.1 h]; exact l2 y hy
theorem ins_mem {us zs : List Int} {n : Int} {k m : Nat} (hm : ∀ x, x ∈ us ↔ x ∈ zs.take m) (hml : m < zs.length) (hn : zs.getD m 0 = n) (x : Int) : x ∈ us.take k ++ [n] ++ us.drop k ↔ x ∈ zs.take (m + 1) := by
  have e : zs[m] = n := by rw [← hn, List.getD_eq_getElem?_getD, List.getElem?_eq_getElem hml]; rfl
  have e2 : x ∈ zs.take (m + 1) ↔ x ∈ us ∨ x = n := by rw [List.take_succ_eq_append_getElem hml, List.mem_append, ← hm x, e, List.mem_singleton]
  rw [e2]
  have : x ∈ us ↔ x ∈ us.take k ∨ x ∈ us.drop k := by
    rw [← List.mem_append, List.take_append_drop]
  rw [this]
  simp only [List.mem_append, List.mem_singleton]
  constructor
  · rintro ((h | h) | h)
    · exact .inl (.inl h)
    · exact .inr h
    · exact .inl (.inr h)
  · rintro ((h | h) | h)
    · exact .inl (.inl h)
    · exact .inr h
    · exact .inl (.inr h)
theorem ins_len {us : List Int} {n : Int} {k : Nat} : (us.take k ++ [n] ++ us.drop k).length = us.length + 1 := by
  simp only [List.length_append, List.length_take, List.length_drop, List.length_singleton]; omega
theorem below_at {us : List Int} {n : Int} {q : Nat} (hs : us.Pairwise (· < ·)) (hq : q < us.length) (h : us.getD q 0 < n) : ∀ j, j < q + 1 → j < us.length → us.getD j 0 < n := fun j h1 h2 => by
  by_cases c : j = q
  · rw [c]; exact h
  · have := List.pairwise_iff_getElem.1 hs j q h2 hq (by omega)
    rw [List.getD_eq_getElem?_getD, List.getElem?_eq_getElem hq] at h
    rw [List.getD_eq_getElem?_getD, List.getElem?_eq_getElem h2]
    simp only [Option.getD_some] at h ⊢
    omega
theorem RdI.take {w : World} {g o c n : Nat} {us : List Int} (h : RdI w (.slice (some ⟨g, o, none⟩) n c) us) (k : Nat) (hk : k ≤ us.length) : RdI w (.slice (some ⟨g, o, none⟩) k c) (us.take k) := by
  obtain ⟨a, cap, hv, h1, h2, h3, h4, h5⟩ := h
  simp only [Value.slice.injEq] at hv
  obtain ⟨rfl, rfl, rfl⟩ := hv
  have hl : (us.take k).length = k := by rw [List.length_take]; omega
  unfold RdI
  rw [hl]
  refine ⟨_, _, rfl, by rw [List.length_map, hl, Nat.mul_one], by omega, h3, h4, fun ad had j u hj => h5 ad had j u ?_⟩
  have hjk : j < k := by
    have := (List.getElem?_eq_some_iff.1 hj).1
    simp at this; omega
  rw [← hj, List.getElem?_map, List.getElem?_map, List.getElem?_take, if_pos hjk]
theorem RdI.drop {w : World} {g o c n : Nat} {us : List Int} (h : RdI w (.slice (some ⟨g, o, none⟩) n c) us) (k : Nat) (hk : k ≤ us.length) : RdI w (.slice (some ⟨g, o + k, none⟩) (us.length - k) (c - k)) (us.drop k) := by
  obtain ⟨a, cap, hv, h1, h2, h3, h4, h5⟩ := h
  simp only [Value.slice.injEq] at hv
  obtain ⟨rfl, rfl, rfl⟩ := hv
  have hl : (us.drop k).length = us.length - k := List.length_drop
  unfold RdI
  rw [hl]
  refine ⟨_, _, rfl, by rw [List.length_map, hl, Nat.mul_one], by omega, by omega, (fun e => by cases e), fun ad had j u hj => ?_⟩
  cases had
  have := h5 ⟨g, o, none⟩ rfl (k + j) u (by rw [← hj, List.getElem?_map, List.getElem?_map, List.getElem?_drop])
  rw [Addr.add_lit] at this ⊢
  rw [← this, Nat.add_assoc]

theorem RdI.dropIf {w : World} {g c n : Nat} {us : List Int} (h : RdI w (.slice (some ⟨g, 0, none⟩) n c) us) (k : Nat) (hk : k ≤ us.length) (hc : us.length ≤ c) :
    RdI w (.slice (if c = k then some ⟨g, 0, none⟩ else some ⟨g, k, none⟩) (us.length - k) (c - k)) (us.drop k) := by
  by_cases e : c = k
  · rw [if_pos e]
    have hd : us.drop k = [] := List.drop_eq_nil_of_le (by omega)
    have hm := h.len
    obtain ⟨_, _, hv, _, h2, _⟩ := hm
    simp only [Value.slice.injEq] at hv
    rw [hd]
    refine ⟨_, _, by rw [show us.length - k = 0 by omega]; rfl, rfl, Nat.zero_le _, by omega, (fun e => by cases e), fun ad had j u hj => by cases hj⟩
  · rw [if_neg e]
    have := h.drop k hk
    rwa [Nat.zero_add] at this

theorem OwnI.form {B : Nat} {w : World} {v : Value} {us : List Int} (h : OwnI B w v us) : (us = [] ∧ v = .slice none 0 0) ∨ ∃ g c, v = .slice (some ⟨g, 0, none⟩) us.length c ∧ us.length ≤ c ∧ c ≤ maxLen := by
  obtain ⟨h1, h2⟩ := h
  rcases h2 with ⟨e, h3⟩ | ⟨g, c, cur, hv, _, _, hn, hm, _⟩
  · exact .inl ⟨List.eq_nil_of_length_eq_zero h3, e⟩
  · exact .inr ⟨g, c, hv, hn, hm⟩

theorem step_appi {w : World} {ops : Array Oper} {o : Oper} {a : Act} {K : Act → World → Prop} {Q : Exit → Act → World → Prop} {E : Prop} (s x : Operand) (hgd : o.guard = none)
    (ho : o.op = .call { callee := .builtin .append, args := #[s, x], argTypes := #[25, 25] })
    (B : Nat) (v : Value) (zs : List Int) (hs : a.eval s = v) (hw : OwnI B w v zs) (u : Value) (news : List Int) (hx : a.eval x = u) (hr : RdI w u news)
    (hl : zs.length + news.length ≤ 10000000000) (hB : B ≤ w.heap.size)
    (hK : ∀ v' w', OwnI B w' v' (zs ++ news) → Turn (Blks v) w w' → (∀ b, Blks v' b → Blks v b ∨ w.heap.size ≤ b) → K (a.put o.dst v') w') :
    if Region.wanted o (yielded ops a.tmps) = true then Oper.wp Tryd.prog o a w K Q else E := by
  have hw' : Region.wanted o (yielded ops a.tmps) = true := by simp [Region.wanted, hgd]
  rw [if_pos hw']
  exact wp_appi s x ho B v zs hs hw u news hx hr hl hB hK

end Go.Proofs.YtekmdklobejbeaaDoor
end

section
/- Nodes of the call's own of which one is an argument's; zero nodes at the end; Unmerged that grow. -/
set_option linter.unusedSimpArgs false
set_option linter.unusedVariables false
namespace Go.Proofs.YtekmdklobejbeaaDoor
open Go.RowKit
open Rt

def zero6 : Array Value := #[.int .i64 0, .int .i64 0, .int .i64 0, .int .i64 0, .int .i64 0, .slice none 0 0]
theorem zero6_flat (m : Nat) : (Builtin.zeroCells zero6 m).toList = tflat (List.replicate m tn0) (List.replicate m (.slice none 0 0)) := by
  refine List.ext_getElem? fun q => ?_
  have hlz : (Builtin.zeroCells zero6 m).toList.length = m * 6 := by rw [Array.length_toList, size_zeroCells]; rfl
  by_cases hq : q < m * 6
  · have e : q = q / 6 * 6 + q % 6 := by omega
    have h6 : q % 6 < 6 := by omega
    have hi : q / 6 < m := by omega
    have h1 : (Builtin.zeroCells zero6 m).toList[q]? = some (zero6[q % 6]!) := by
      rw [Array.getElem?_toList]
      unfold Builtin.zeroCells
      rw [Array.getElem?_map, Array.getElem?_range, if_pos (by simpa [zero6] using hq)]
      rfl
    rw [h1]
    rw [e]
    generalize q / 6 = i at hi
    generalize q % 6 = j at h6
    rw [tflat_at _ _ i j (by rw [List.length_replicate]; exact hi) h6]
    have hnd : nd (List.replicate m tn0) i = tn0 := by unfold nd; rw [List.getD_eq_getElem?_getD, List.getElem?_replicate_of_lt hi]; rfl
    have hlv : (List.replicate m (Value.slice none 0 0)).getD i undef = .slice none 0 0 := by rw [List.getD_eq_getElem?_getD, List.getElem?_replicate_of_lt hi]; rfl
    rw [hnd, hlv, show (i * 6 + j) % 6 = j by omega]
    have : j = 0 ∨ j = 1 ∨ j = 2 ∨ j = 3 ∨ j = 4 ∨ j = 5 := by omega
    rcases this with rfl | rfl | rfl | rfl | rfl | rfl <;> rfl
  · rw [List.getElem?_eq_none (by rw [hlz]; omega), List.getElem?_eq_none (by rw [tflat_length, List.length_replicate]; omega)]
theorem tflat_append (ds es : List TN) (ls ks : List Value) (h : ls.length = ds.length) : tflat (ds ++ es) (ls ++ ks) = tflat ds ls ++ tflat es ks := by
  induction ds generalizing ls with
  | nil => cases ls with
    | nil => rfl
    | cons _ _ => cases h
  | cons d ds ih => cases ls with
    | nil => cases h
    | cons v ls =>
      show tnCells d v ++ tflat (ds ++ es) (ls ++ ks) = (tnCells d v ++ tflat ds ls) ++ tflat es ks
      rw [ih ls (by simpa using h), List.append_assoc]
theorem nd_rep {m i : Nat} : nd (List.replicate m tn0) i = tn0 := by
  unfold nd
  rw [List.getD_eq_getElem?_getD, List.getElem?_replicate]
  split <;> rfl
theorem nd_app {ds es : List TN} {i : Nat} : nd (ds ++ es) i = if i < ds.length then nd ds i else nd es (i - ds.length) := by
  unfold nd
  by_cases c : i < ds.length
  · rw [if_pos c, List.getD_eq_getElem?_getD, List.getElem?_append_left c, ← List.getD_eq_getElem?_getD]
  · rw [if_neg c, List.getD_eq_getElem?_getD, List.getElem?_append_right (by omega), ← List.getD_eq_getElem?_getD]
theorem lv_app {ls ks : List Value} {i : Nat} : (ls ++ ks).getD i undef = if i < ls.length then ls.getD i undef else ks.getD (i - ls.length) undef := by
  by_cases c : i < ls.length
  · rw [if_pos c, List.getD_eq_getElem?_getD, List.getElem?_append_left c, ← List.getD_eq_getElem?_getD]
  · rw [if_neg c, List.getD_eq_getElem?_getD, List.getElem?_append_right (by omega), ← List.getD_eq_getElem?_getD]
theorem lv_rep {m i : Nat} (h : i < m) : (List.replicate m (Value.slice none 0 0)).getD i undef = .slice none 0 0 := by
  rw [List.getD_eq_getElem?_getD, List.getElem?_replicate_of_lt h]; rfl
/-- Zero nodes behind those of the call's own. -/
theorem OwnT.zeros {B : Nat} {w w' : World} {v v' : Value} {ds : List TN} {lvs : List Value} (h : OwnT B w v ds lvs) (m : Nat)
    (ho : Ownv B 43 6 w' v' (ds.length + m) (tflat ds lvs ++ (Builtin.zeroCells zero6 m).toList)) (ht : Turn (Blks v) w w') :
    OwnT B w' v' (ds ++ List.replicate m tn0) (lvs ++ List.replicate m (.slice none 0 0)) := by
  have hl := h.len
  have hun : ∀ i, i < ds.length + m → OwnI B w' ((lvs ++ List.replicate m (Value.slice none 0 0)).getD i undef) (nd (ds ++ List.replicate m tn0) i).un := fun i hi => by
    rw [nd_app, lv_app, hl]
    by_cases c : i < ds.length
    · rw [if_pos c, if_pos c]
      exact Ownv.turn (h.un i c) ht fun b hb hv => Ownv.apart (h.un i c) h.row (by decide) hb hv
    · rw [if_neg c, if_neg c, nd_rep, lv_rep (by omega)]
      exact OwnI.nil _ _
  refine ⟨?_, by simp [hl], fun i hi => ?_, fun i j hi hj hij b => ?_⟩
  · rw [List.length_append, List.length_replicate, tflat_append _ _ _ _ hl, ← zero6_flat]
    exact ho
  · rw [List.length_append, List.length_replicate] at hi
    exact hun i hi
  · rw [List.length_append, List.length_replicate] at hi hj
    rw [lv_app, lv_app, hl]
    by_cases c : i < ds.length
    · rw [if_pos c]
      by_cases c2 : j < ds.length
      · rw [if_pos c2]; exact h.apart i j c c2 hij b
      · rw [if_neg c2, lv_rep (by omega)]
        exact fun _ hb => by cases hb
    · rw [if_neg c, lv_rep (by omega)]
      exact fun hb => by cases hb
/-- Nodes that lie in a row g of the call's own; all Unmerged but that of the place q are the call's own, each for itself, apart from the row pv; that of q is none. -/
structure MixT (B g cap q : Nat) (pv : Value) (pl : List Int) (w : World) (ds : List TN) (lvs : List Value) : Prop where
  row : Ownv B 43 6 w (.slice (some ⟨g, 0, none⟩) ds.length cap) ds.length (tflat ds lvs)
  len : lvs.length = ds.length
  un : ∀ i, i < ds.length → i ≠ q → OwnI B w (lvs.getD i undef) (nd ds i).un
  apart : ∀ i j, i < ds.length → j < ds.length → i ≠ q → j ≠ q → i ≠ j → ∀ b, Blks (lvs.getD i undef) b → ¬ Blks (lvs.getD j undef) b
  emp : (nd ds q).un = []
  at' : ∀ W, RdI W (lvs.getD q undef) []
  pth : OwnI B w pv pl
  pap : ∀ i, i < ds.length → i ≠ q → ∀ b, Blks (lvs.getD i undef) b → ¬ Blks pv b
theorem MixT.rd {B g cap q : Nat} {pv : Value} {pl : List Int} {w : World} {ds : List TN} {lvs : List Value} (h : MixT B g cap q pv pl w ds lvs) : RdTs w (.slice (some ⟨g, 0, none⟩) ds.length cap) ds :=
  ⟨lvs, h.len, Ownv.rdv h.row, fun i hi => by
    by_cases c : i = q
    · rw [c, h.emp]; exact h.at' w
    · exact OwnI.rd (h.un i hi c)⟩
theorem MixT.kept {B g cap q : Nat} {pv : Value} {pl : List Int} {w w' : World} {ds : List TN} {lvs : List Value} (h : MixT B g cap q pv pl w ds lvs) (k : Kept w w') : MixT B g cap q pv pl w' ds lvs :=
  ⟨Ownv.kept h.row k, h.len, fun i hi hq => Ownv.kept (h.un i hi hq) k, h.apart, h.emp, h.at', Ownv.kept h.pth k, h.pap⟩
theorem MixT.cells {B g cap q : Nat} {pv : Value} {pl : List Int} {w : World} {us : List TN} {lvs : List Value} (h : MixT B g cap q pv pl w us lvs) {x : Nat} (hx : x < us.length) :
    TnAt w g (x * 6) (nd us x) (lvs.getD x undef) ∧ ∀ q, w.frozen? ⟨g, q, none⟩ = false := by
  have hat := fun j hj => (tflat_at us lvs x j hx hj)
  refine ⟨⟨?_, ?_, ?_, ?_, ?_, ?_⟩, fun q => Ownv.free h.row q⟩
  · exact Ownv.cell0 h.row (x * 6) ((hat 0 (by omega)).trans rfl)
  · exact Ownv.cell0 h.row (x * 6 + 1) ((hat 1 (by omega)).trans rfl)
  · exact Ownv.cell0 h.row (x * 6 + 2) ((hat 2 (by omega)).trans rfl)
  · exact Ownv.cell0 h.row (x * 6 + 3) ((hat 3 (by omega)).trans rfl)
  · exact Ownv.cell0 h.row (x * 6 + 4) ((hat 4 (by omega)).trans rfl)
  · exact Ownv.cell0 h.row (x * 6 + 5) ((hat 5 (by omega)).trans rfl)
/-- The leaf q is written. -/
theorem OwnT.mix {B g cap : Nat} {w w' : World} {ds : List TN} {lvs : List Value} (h : OwnT B w (.slice (some ⟨g, 0, none⟩) ds.length cap) ds lvs) {q : Nat} (hq : q < ds.length) (d : TN) (lv : Value) (hd : d.un = []) (hlv : ∀ W, RdI W lv [])
    {pv : Value} {pl : List Int} (k : Kept (put6 w g (q * 6) d lv) w') (hp : OwnI w.heap.size w' pv pl) : MixT B g cap q pv pl w' (ds.set q d) (lvs.set q lv) := by
  have ht := put6_turn w g (q * 6) d lv
  have hrow := (((((h.row.put (i := q * 6) (by omega) (.int .i64 d.kd)).put (i := q * 6 + 1) (by omega) (.int .i64 d.id)).put (i := q * 6 + 2) (by omega) (.int .i64 d.enc)).put (i := q * 6 + 3) (by omega) (.int .i64 d.sig)).put (i := q * 6 + 4) (by omega) (.int .i64 d.hash)).put (i := q * 6 + 5) (by omega) lv
  rw [tflat_set h.len hq] at hrow
  have hB : B ≤ w.heap.size := by have := Ownv.lt h.row (b := g) rfl; omega
  refine ⟨by rw [List.length_set]; exact Ownv.kept hrow k, by simp [h.len], fun i hi hne => ?_, fun i j hi hj hiq hjq hij => ?_, by rw [nd_set hq, if_pos rfl]; exact hd, by rw [lv_set (by rw [h.len]; exact hq), if_pos rfl]; exact hlv, Ownv.mono hp hB, fun i hi hne b hb hb2 => ?_⟩
  · rw [List.length_set] at hi
    rw [nd_set hq, lv_set (by rw [h.len]; exact hq), if_neg hne, if_neg hne]
    exact Ownv.kept (Ownv.turn (h.un i hi) ht fun b hb e => by
      subst e
      exact Ownv.apart (h.un i hi) h.row (by decide) hb rfl) k
  · rw [List.length_set] at hi hj
    rw [lv_set (by rw [h.len]; exact hq), lv_set (by rw [h.len]; exact hq), if_neg hiq, if_neg hjq]
    exact h.apart i j hi hj hij
  · rw [List.length_set] at hi
    rw [lv_set (by rw [h.len]; exact hq), if_neg hne] at hb
    have h1 := (Ownv.lt (h.un i hi) hb).1
    have h2 := (Ownv.lt hp hb2).2
    omega
theorem tflat_set5 {ds : List TN} {lvs : List Value} (hl : lvs.length = ds.length) {x : Nat} (hx : x < ds.length) (us : List Int) (lv : Value) :
    (tflat ds lvs).set (x * 6 + 5) lv = tflat (ds.set x { nd ds x with un := us }) (lvs.set x lv) := by
  refine List.ext_getElem? fun q => ?_
  by_cases hq : q < ds.length * 6
  · have e : q = q / 6 * 6 + q % 6 := by omega
    have h6 : q % 6 < 6 := by omega
    have hi : q / 6 < ds.length := by omega
    generalize q / 6 = i at e hi
    generalize q % 6 = j at e h6
    subst e
    rw [tflat_at (ds.set x _) (lvs.set x lv) i j (by simpa using hi) h6, nd_set hx, lv_set (by omega)]
    simp only [List.getElem?_set, List.length_set, tflat_length]
    by_cases c : i = x
    · subst c
      rw [if_pos rfl, if_pos rfl]
      have : j = 0 ∨ j = 1 ∨ j = 2 ∨ j = 3 ∨ j = 4 ∨ j = 5 := by omega
      rcases this with rfl | rfl | rfl | rfl | rfl | rfl
      · rw [if_neg (by omega)]; exact tflat_at ds lvs i 0 hi (by omega)
      · rw [if_neg (by omega)]; exact tflat_at ds lvs i 1 hi (by omega)
      · rw [if_neg (by omega)]; exact tflat_at ds lvs i 2 hi (by omega)
      · rw [if_neg (by omega)]; exact tflat_at ds lvs i 3 hi (by omega)
      · rw [if_neg (by omega)]; exact tflat_at ds lvs i 4 hi (by omega)
      · rw [if_pos rfl, if_pos (by omega)]; rfl
    · rw [if_neg c, if_neg c, if_neg (by omega)]
      exact tflat_at ds lvs i j hi h6
  · rw [List.getElem?_eq_none (by rw [List.length_set, tflat_length]; omega), List.getElem?_eq_none (by rw [tflat_length]; simp; omega)]
/-- The Unmerged of one node is grown. -/
theorem MixT.step {B g cap q : Nat} {pv : Value} {pl : List Int} {w w1 w2 w3 : World} {ds : List TN} {lvs : List Value} (h : MixT B g cap q pv pl w ds lvs) {x : Nat} (hx : x < ds.length) (hq : x ≠ q)
    (k1 : Kept w w1) (t2 : Turn (Blks (lvs.getD x undef)) w1 w2) (k3 : Kept w2 w3) {u : Value} {us : List Int} (hu : OwnI w2.heap.size w3 u us) :
    MixT B g cap q pv pl (w3.setCell ⟨g, x * 6 + 5, none⟩ u) (ds.set x { nd ds x with un := us }) (lvs.set x u) := by
  have hB : B ≤ w.heap.size ∧ g < w.heap.size := by have := Ownv.lt h.row (b := g) rfl; omega
  have hsz : w.heap.size ≤ w2.heap.size := Nat.le_trans k1.size t2.size
  have hgx : ¬ Blks (lvs.getD x undef) g := fun hb => Ownv.apart (h.un x hx hq) h.row (by decide) hb rfl
  have hrow : Ownv B 43 6 w3 (.slice (some ⟨g, 0, none⟩) ds.length cap) ds.length (tflat ds lvs) := Ownv.kept (Ownv.turn (Ownv.kept h.row k1) t2 (fun b hb => by
    have e : g = b := Option.some.inj (show some g = some b from hb)
    rw [← e]; exact hgx)) k3
  have hint : ∀ {v : Value} {zs : List Int}, OwnI B w v zs → (∀ b, Blks v b → ¬ Blks (lvs.getD x undef) b) → OwnI B (w3.setCell ⟨g, x * 6 + 5, none⟩ u) v zs := fun ho hn =>
    Ownv.setCell (ad := ⟨g, x * 6 + 5, none⟩) (Ownv.kept (Ownv.turn (Ownv.kept ho k1) t2 hn) k3) (fun hb => Ownv.apart ho h.row (by decide) hb rfl) u
  have hlx : x < lvs.length := by rw [h.len]; exact hx
  have hqs : (nd (ds.set x { nd ds x with un := us }) q).un = [] := by rw [nd_set hx, if_neg (Ne.symm hq)]; exact h.emp
  refine ⟨?_, by simp [h.len], fun i hi hne => ?_, fun i j hi hj hiq hjq hij b hb hb2 => ?_, hqs, by rw [lv_set hlx, if_neg (Ne.symm hq)]; exact h.at', hint h.pth (fun b hb hb2 => h.pap x hx hq b hb2 hb), fun i hi hne b hb hb2 => ?_⟩
  · rw [List.length_set, ← tflat_set5 h.len hx us u]
    exact hrow.put (by omega) u
  · rw [List.length_set] at hi
    rw [nd_set hx, lv_set hlx]
    by_cases c : i = x
    · rw [if_pos c, if_pos c]
      exact Ownv.setCell (Ownv.mono hu (by omega)) (fun hb => by have := (Ownv.lt hu hb).2; have hh : w2.heap.size ≤ g := this; omega) u
    · rw [if_neg c, if_neg c]
      exact hint (h.un i hi hne) (h.apart i x hi hx hne hq c)
  · rw [List.length_set] at hi hj
    rw [lv_set hlx] at hb hb2
    by_cases c : i = x
    · rw [if_pos c] at hb
      rw [if_neg (by omega)] at hb2
      have h1 := (Ownv.lt hu hb).2
      have h2 := (Ownv.lt (h.un j hj hjq) hb2).1
      omega
    · rw [if_neg c] at hb
      by_cases c2 : j = x
      · rw [if_pos c2] at hb2
        have h1 := (Ownv.lt hu hb2).2
        have h2 := (Ownv.lt (h.un i hi hiq) hb).1
        omega
      · rw [if_neg c2] at hb2
        exact h.apart i j hi hj hiq hjq hij b hb hb2
  · rw [List.length_set] at hi
    rw [lv_set hlx] at hb
    by_cases c : i = x
    · rw [if_pos c] at hb
      have h1 := (Ownv.lt hu hb).2
      have h2 := (Ownv.lt h.pth hb2).1
      omega
    · rw [if_neg c] at hb
      exact h.pap i hi hne b hb hb2
theorem MixT.cell3 {B g cap q : Nat} {pv : Value} {pl : List Int} {w w1 w2 w3 : World} {ds : List TN} {lvs : List Value} (h : MixT B g cap q pv pl w ds lvs) {x : Nat} (hx : x < ds.length) (hq : x ≠ q)
    (k1 : Kept w w1) (t2 : Turn (Blks (lvs.getD x undef)) w1 w2) (k3 : Kept w2 w3) : w3.cell? ⟨g, x * 6 + 5, none⟩ = some (lvs.getD x undef) ∧ w3.frozen? ⟨g, x * 6 + 5, none⟩ = false := by
  have hgx : ¬ Blks (lvs.getD x undef) g := fun hb => Ownv.apart (h.un x hx hq) h.row (by decide) hb rfl
  have hrow : Ownv B 43 6 w3 (.slice (some ⟨g, 0, none⟩) ds.length cap) ds.length (tflat ds lvs) := Ownv.kept (Ownv.turn (Ownv.kept h.row k1) t2 (fun b hb => by
    have e : g = b := Option.some.inj (show some g = some b from hb)
    rw [← e]; exact hgx)) k3
  exact ⟨Ownv.cell0 hrow (x * 6 + 5) ((tflat_at ds lvs x 5 hx (by omega)).trans rfl), Ownv.free hrow _⟩
end Go.Proofs.YtekmdklobejbeaaDoor
end

section
/- Walks of the document's answer: Add (written by gen_add.py). -/
set_option linter.unusedSimpArgs false
set_option linter.unusedVariables false
namespace Go.Proofs.YtekmdklobejbeaaDoor
open Go.RowKit
open Rt

theorem path_fresh {n i j : Nat} (hn : n ∈ Mth.fulls) (hi : i < n) (hj : j < (Mth.path (2 * i) n).length) :
    (Mth.path (2 * i) n).getD j 0 ∉ (Mth.path (2 * i) n).take j ∧ (Mth.path (2 * i) n).getD j 0 ≠ 2 * i ∧ (Mth.path (2 * i) n).getD j 0 < 2 * n - 1 := by
  have hb := fulls_bd hn
  have hi2 : 2 * i < 2 * n - 1 := by omega
  have hp := Mth.path_of hn hi2
  have hl0 : Mth.lvl (2 * i) = 0 := (Mth.top_at hn hi2).leaf (by omega) |>.1
  have hpl : (Mth.path (2 * i) n).length = _ := hp.len
  have hlv : ∀ c, c < (Mth.path (2 * i) n).length → Mth.lvl ((Mth.path (2 * i) n).getD c 0) = c + 1 ∧ (Mth.path (2 * i) n).getD c 0 < 2 * n - 1 := fun c hc => by
    have h1 : (Mth.path (2 * i) n).getD c 0 = Mth.itr (c + 1) (2 * i) := (hp.at' c (by omega)).1
    have h5 := (hp.at' c (by omega)).2.2
    have st := Mth.step_at hn h5.1 h5.2.1
    rw [h1, Mth.itr_succ]
    exact ⟨by rw [st.up]; omega, st.inP⟩
  have h0 := hlv j hj
  refine ⟨fun hm => ?_, fun e => ?_, h0.2⟩
  · obtain ⟨c, hc, hg⟩ := List.getElem_of_mem hm
    rw [List.length_take] at hc
    have h1 := (hlv c (by omega)).1
    rw [List.getElem_take] at hg
    rw [List.getD_eq_getElem?_getD, List.getElem?_eq_getElem (by omega)] at h1
    have h1 : Mth.lvl (Mth.path (2 * i) n)[c] = c + 1 := h1
    rw [hg, h0.1] at h1
    omega
  · have h1 := h0.1
    rw [e, hl0] at h1
    omega
/-- The first leaf that is not there; n: all are. -/
def fr (t : List TN) (n : Nat) : Nat := ((List.range n).find? fun i => !lk t i).getD n
theorem fr_of {t : List TN} {n k : Nat} (hk : k ≤ n) (hall : ∀ j, j < k → lk t j = true) (h : k = n ∨ lk t k = false) : fr t n = k := by
  unfold fr
  by_cases e : k = n
  · subst e
    rw [List.find?_eq_none.2 (fun x hx => by rw [hall x (List.mem_range.1 hx)]; decide)]
    rfl
  · have hl : lk t k = false := h.resolve_left e
    rw [List.find?_range_eq_some.2 ⟨by rw [hl]; rfl, List.mem_range.2 (by omega), fun j hj => by rw [hall j hj]; rfl⟩]
    rfl
/-- What Add answers. -/
def addE (t : List TN) (l : TN) : Int := bif chkB t && leafB l then (bif Nat.beq (fr t (lvs t.length)) (lvs t.length) && Nat.beq (lvs t.length) 256 then 2 else 0) else 1
def addI (t : List TN) (l : TN) : Int := bif decide (addE t l = 0) then ((fr t (lvs t.length) : Nat) : Int) else 0
def addT (t : List TN) (l : TN) : List TN :=
  bif decide (addE t l = 0) then (bif Nat.beq (fr t (lvs t.length)) (lvs t.length) then tab (t.length + 2 * lvs t.length) (addG (t ++ List.replicate (2 * lvs t.length) tn0) (lvs t.length) l) else tab t.length (addG t (fr t (lvs t.length)) l)) else []
def AddPost (w : World) (ts : List TN) (i er : Int) (e : Ending) (w' : World) : Prop := ∃ v, e = .returned (.tuple #[v, .int .i64 i, .int .i64 er]) ∧ RdTs w' v ts ∧ (∀ b, Blks v b → w.heap.size ≤ b) ∧ Kept w w'
theorem may_ris {t : List TN} {n : Nat} (m : MayN t n) : ∀ x, x < t.length → (nd t x).kd = 2 → (nd t x).un.Pairwise (· < ·) := fun x hx h2 => by
  have hx' : x < 2 * n - 1 := by rw [← m.len]; exact hx
  by_cases ho : x % 2 = 0
  · have := (m.leaf x hx' (by omega) ho).1
    omega
  · exact (m.par x hx' (by omega) (by omega)).2.2.2.1
theorem may_un2 {t : List TN} {n : Nat} (m : MayN t n) : ∀ x, x < t.length → (nd t x).un.length ≤ 1000 := fun x hx => by
  have := may_un m (nd t x) (by rw [nd_get hx]; exact List.getElem_mem hx)
  exact this
theorem fulls_dbl {n : Nat} (h : n ∈ Mth.fulls) (h2 : n ≠ 256) : 2 * n ∈ Mth.fulls ∧ n ≤ 128 := by
  have : ∀ m ∈ Mth.fulls, m ≠ 256 → 2 * m ∈ Mth.fulls ∧ m ≤ 128 := by decide +kernel
  exact this n h h2
theorem ones_zero6 (m : Nat) : ∀ u ∈ (Builtin.zeroCells (Value.agg zero6).cells m).toList, u.oneCell' = true := by
  intro u hu
  obtain ⟨i, hi, rfl⟩ := List.getElem_of_mem hu
  have h : (Builtin.zeroCells zero6 m).toList[i]? = some (zero6[i % 6]!) := by
    rw [Array.getElem?_toList]
    unfold Builtin.zeroCells
    have hi' : i < m * 6 := by
      have : i < (Builtin.zeroCells zero6 m).toList.length := hi
      rw [Array.length_toList, size_zeroCells] at this
      exact this
    rw [Array.getElem?_map, Array.getElem?_range, if_pos (by simpa [zero6] using hi')]
    rfl
  have h2 : (Builtin.zeroCells (Value.agg zero6).cells m).toList[i] = zero6[i % 6]! := Option.some.inj ((List.getElem?_eq_getElem hi).symm.trans h)
  rw [h2]
  have : i % 6 = 0 ∨ i % 6 = 1 ∨ i % 6 = 2 ∨ i % 6 = 3 ∨ i % 6 = 4 ∨ i % 6 = 5 := by omega
  rcases this with e | e | e | e | e | e <;> rw [e] <;> rfl
theorem go_appz {w : World} {ops : Array Oper} {rest : List Oper} {a : Act} {Q : Exit → Act → World → Prop} {d : Option Tmp} {ty : TypeId} {ps : String} {af : Array Edge} {s x : Operand}
    (B : Nat) (v : Value) (ds : List TN) (lvs : List Value) (hs : a.eval s = v) (ho : OwnT B w v ds lvs) (h0 : 0 < ds.length) (m : Nat) (hm0 : 0 < m) (hx : a.eval x = .int .i64 m) (hl : ds.length + m ≤ 1000000) (hB : B ≤ w.heap.size)
    (hK : ∀ v' w', OwnT B w' v' (ds ++ List.replicate m tn0) (lvs ++ List.replicate m (.slice none 0 0)) → Turn (Blks v) w w' → wpList Tryd.prog ops Q rest (a.put d v') w') :
    wpList Tryd.prog ops Q (⟨d, .call { callee := .builtin .append, args := #[s, x], argTypes := #[22, 3] }, ty, ps, af, none⟩ :: rest) a w := by
  obtain ⟨i0, hi, hz0, hz1, hz2⟩ := info_parts Tryd.infoTN
  refine go_app_make B 43 6 64 .i64 i0 (.agg zero6) Tryd.underlying22 Tryd.underlying3 hi hz0 hz1 hz2 rfl (by decide) ones_zero6 v ds.length (tflat ds lvs) hs ho.row h0 m hm0 hx (by unfold maxLen; omega) (by omega) hB ?_
  intro v' w' ho' ht _
  exact hK v' w' (ho.zeros m ho' ht) ht
end Go.Proofs.YtekmdklobejbeaaDoor
end

section
/- Plain facts of what Add answers. -/
set_option linter.unusedSimpArgs false
set_option linter.unusedVariables false
namespace Go.Proofs.YtekmdklobejbeaaDoor
open Go.RowKit
open Rt

theorem nd_zeros {t : List TN} {m x : Nat} : nd (t ++ List.replicate m tn0) x = nd t x := by
  rw [nd_app]
  by_cases c : x < t.length
  · rw [if_pos c]
  · rw [if_neg c, nd_rep, nd_out (by omega)]
theorem addG_grow {t : List TN} {n : Nat} {l : TN} (m : MayN t n) : tab (t.length + 2 * n) (addG (t ++ List.replicate (2 * n) tn0) n l) = tab (4 * n - 1) (growG t n l) := by
  have hb := fulls_bd m.hn
  have hlen := m.len
  refine tn_ext (by rw [tab_len, tab_len]; omega) fun x hx => ?_
  rw [tab_len] at hx
  rw [tab_nd hx, tab_nd (by omega)]
  unfold addG growG
  rw [nd_zeros]
  by_cases c : x = 2 * n
  · rw [if_pos c, if_pos c]
  · rw [if_neg c, if_neg c, if_neg (fun q => ?_)]
    have hxn : x < 2 * n - 1 := by
      cases Nat.lt_or_ge x (2 * n - 1) with
      | inl h => exact h
      | inr hge =>
        have := q.2
        rw [nd_out (by omega)] at this
        cases this
    have h1 := hi_le m.hn hxn
    have h2 := (Mth.hasB_iff.1 q.1).2
    omega
theorem fr_spec (t : List TN) (n : Nat) : fr t n ≤ n ∧ (∀ j, j < fr t n → lk t j = true) ∧ (fr t n = n ∨ lk t (fr t n) = false) := by
  have hx : ∀ b, ∃ k, k ≤ b ∧ (∀ j, j < k → lk t j = true) ∧ (k = b ∨ lk t k = false) := by
    intro b
    induction b with
    | zero => exact ⟨0, Nat.le_refl _, fun j h => absurd h (Nat.not_lt_zero _), .inl rfl⟩
    | succ b ih =>
      obtain ⟨k, h1, h2, h3⟩ := ih
      cases h3 with
      | inr h => exact ⟨k, by omega, h2, .inr h⟩
      | inl h =>
        cases hl : lk t b with
        | true => exact ⟨b + 1, Nat.le_refl _, fun j hj => by
            by_cases c : j = b
            · rw [c]; exact hl
            · exact h2 j (by omega), .inl rfl⟩
        | false => exact ⟨b, by omega, by rw [← h]; exact h2, .inr hl⟩
  obtain ⟨k, h1, h2, h3⟩ := hx n
  rw [fr_of h1 h2 h3]
  exact ⟨h1, h2, h3⟩
/-- What Add answers may be. -/
structure AddOk (t : List TN) (l : TN) (u : List TN) (i n m : Nat) : Prop where
  was : Rt.May t n
  may : Rt.May u m
  lt : i < m
  first : ∀ j, j < i → lk t j = true
  free : lk t i = false
  leaf : nd u (2 * i) = l
  others : ∀ j, j ≠ i → nd u (2 * j) = nd t (2 * j)
theorem add_ok {t : List TN} {l : TN} (h : addE t l = 0) : ∃ i n m : Nat, addI t l = (i : Int) ∧ AddOk t l (addT t l) i n m := by
  have hi : addI t l = ((fr t (lvs t.length) : Nat) : Int) := by unfold addI; rw [h]; rfl
  have ht : addT t l = bif Nat.beq (fr t (lvs t.length)) (lvs t.length) then tab (t.length + 2 * lvs t.length) (addG (t ++ List.replicate (2 * lvs t.length) tn0) (lvs t.length) l) else tab t.length (addG t (fr t (lvs t.length)) l) := by unfold addT; rw [h]; rfl
  unfold addE at h
  cases hc : chkB t with
  | false => rw [hc] at h; cases h
  | true =>
    cases hl : leafB l with
    | false => rw [hc, hl] at h; cases h
    | true =>
      rw [hc, hl] at h
      have hm := chkB_may.1 hc
      have hlf := leafB_iff.1 hl
      generalize lvs t.length = n at h hi ht hm
      obtain ⟨f1, f2, f3⟩ := fr_spec t n
      have hb := fulls_bd hm.mn.hn
      have hlen := hm.mn.len
      generalize fr t n = k at h hi ht f1 f2 f3
      by_cases c : k = n
      · subst c
        rw [Nat.beq_refl] at h ht
        have h256 : k ≠ 256 := fun e => by rw [e] at h; cases h
        obtain ⟨hd1, hd2⟩ := fulls_dbl hm.mn.hn h256
        have ht : addT t l = tab (4 * k - 1) (growG t k l) := ht.trans (addG_grow hm.mn)
        have hmay := grow_may (l := l) hm.mn hd1 hlf
        rw [← ht] at hmay
        have hself : nd (addT t l) (2 * k) = l := by rw [ht, tab_nd (by omega)]; unfold growG; rw [if_pos rfl]
        have hoth : ∀ j, j ≠ k → nd (addT t l) (2 * j) = nd t (2 * j) := fun j hj => by
          rw [ht]
          by_cases cj : 2 * j < 4 * k - 1
          · rw [tab_nd cj]; unfold growG; rw [if_neg (by omega)]
          · rw [nd_out (by rw [tab_len]; omega), nd_out (by omega)]
        have hlk : lk (addT t l) k = true := by unfold lk; rw [hself, hlf.1]; rfl
        exact ⟨k, k, 2 * k, hi, hm, ⟨hmay, ⟨k, by omega, hlk⟩, .inr ⟨k, by omega, by omega, hlk⟩⟩, by omega, f2, by unfold lk; rw [nd_out (by omega)]; rfl, hself, hoth⟩
      · have hlt : k < n := by omega
        have hbq : Nat.beq k n = false := by
          cases e : Nat.beq k n with
          | false => rfl
          | true => exact absurd (Nat.eq_of_beq_eq_true e) c
        rw [hbq] at ht
        have ht : addT t l = tab (2 * n - 1) (addG t k l) := by rw [← hlen]; exact ht
        have hmay := addG_may (l := l) hm.mn hlt hlf
        rw [← ht] at hmay
        have hself : nd (addT t l) (2 * k) = l := by rw [ht, tab_nd (by omega)]; unfold addG; rw [if_pos rfl]
        have hlk : lk (addT t l) k = true := by unfold lk; rw [hself, hlf.1]; rfl
        have hoth : ∀ j, j ≠ k → nd (addT t l) (2 * j) = nd t (2 * j) := fun j hj => by
          rw [ht]
          by_cases cj : 2 * j < 2 * n - 1
          · rw [tab_nd cj]
            unfold addG
            rw [if_neg (by omega)]
            by_cases c2 : (nd t (2 * j)).kd = 2
            · have h9 := (hm.mn.leaf (2 * j) cj (by omega) (by omega)).1
              omega
            · rw [if_neg (fun q => c2 q.2)]
          · rw [nd_out (by rw [tab_len]; omega), nd_out (by omega)]
        have hkeep : ∀ j, lk t j = true → lk (addT t l) j = true := fun j hj => by
          by_cases cj : j = k
          · rw [cj]; exact hlk
          · unfold lk at hj ⊢; rw [hoth j cj]; exact hj
        refine ⟨k, n, n, hi, hm, ⟨hmay, ⟨k, hlt, hlk⟩, ?_⟩, hlt, f2, f3.resolve_left c, hself, hoth⟩
        rcases hm.right with h1 | ⟨j, a, b, hj⟩
        · exact .inl h1
        · exact .inr ⟨j, a, b, hkeep j hj⟩
end Go.Proofs.YtekmdklobejbeaaDoor
end

section
/- Plain facts of what Update and Remove answer. -/
set_option linter.unusedSimpArgs false
set_option linter.unusedVariables false
namespace Go.Proofs.YtekmdklobejbeaaDoor
open Go.RowKit
open Rt

theorem nd_take {u : List TN} {k x : Nat} (h : x < k) : nd (u.take k) x = nd u x := by
  unfold nd
  rw [List.getD_eq_getElem?_getD, List.getElem?_take, if_pos h, ← List.getD_eq_getElem?_getD]
theorem take_tab {u : List TN} {k : Nat} (h : k ≤ u.length) : u.take k = tab k (nd u) := by
  refine tn_ext (by rw [List.length_take, tab_len]; omega) fun x hx => ?_
  rw [List.length_take] at hx
  rw [nd_take (by omega), tab_nd (by omega)]
/-- A leaf that is not there is zero. -/
theorem not_lk {t : List TN} {n j : Nat} (m : MayN t n) (h : lk t j = false) : nd t (2 * j) = tn0 := by
  by_cases c : 2 * j < 2 * n - 1
  · by_cases h0 : (nd t (2 * j)).kd = 0
    · exact m.blank _ c h0
    · have := (m.leaf _ c h0 (by omega)).1
      unfold lk at h
      exact absurd this (of_decide_eq_false h)
  · exact nd_out (by rw [m.len]; omega)
theorem trunc_ok (f : Nat) : ∀ (u : List TN) (n : Nat), MayN u n → (∃ i, i < n ∧ lk u i = true) → n ≤ 2 ^ f → ∃ m : Nat, m ≤ n ∧ Rt.May (truncF f u n) m ∧ ∀ j, nd (truncF f u n) (2 * j) = nd u (2 * j) := by
  induction f with
  | zero =>
    intro u n m h hn
    have hb := fulls_bd m.hn
    exact ⟨n, Nat.le_refl _, ⟨m, h, .inl (by omega)⟩, fun _ => rfl⟩
  | succ f ih =>
    intro u n m h hn
    unfold truncF
    cases hc : (decide (1 < n) && !someB u (n / 2) n) with
    | false =>
      refine ⟨n, Nat.le_refl _, ⟨m, h, ?_⟩, fun _ => rfl⟩
      by_cases c : 1 < n
      · rw [decide_eq_true c, Bool.true_and] at hc
        have hs : someB u (n / 2) n = true := by simpa using hc
        obtain ⟨i, a, b, d⟩ := someB_true.1 hs
        exact .inr ⟨i, a, b, d⟩
      · have hb := fulls_bd m.hn
        exact .inl (by omega)
    | true =>
      rw [Bool.and_eq_true] at hc
      have h1 : 1 < n := of_decide_eq_true hc.1
      have hs : someB u (n / 2) n = false := by have := hc.2; simpa using this
      obtain ⟨g1, g2⟩ := half_fulls m.hn h1
      have hnone : ∀ i, n / 2 ≤ i → i < n → lk u i = false := fun i a b => by
        cases hl : lk u i with
        | false => rfl
        | true => rw [someB_true.2 ⟨i, a, b, hl⟩] at hs; cases hs
      have hm2 : MayN u (2 * (n / 2)) := by rw [← g2]; exact m
      have hmh := half_may hm2 g1
      rw [← take_tab (by rw [m.len]; omega)] at hmh
      have hlk : ∀ i, i < n / 2 → lk (u.take (2 * (n / 2) - 1)) i = lk u i := fun i hi => by unfold lk; rw [nd_take (by omega)]
      obtain ⟨i, hi, hl⟩ := h
      have hi2 : i < n / 2 := by
        cases Nat.lt_or_ge i (n / 2) with
        | inl q => exact q
        | inr q => rw [hnone i q hi] at hl; cases hl
      obtain ⟨k, k1, k2, k3⟩ := ih (u.take (2 * (n / 2) - 1)) (n / 2) hmh ⟨i, hi2, by rw [hlk i hi2]; exact hl⟩ (by rw [Nat.pow_succ] at hn; omega)
      refine ⟨k, by omega, k2, fun j => ?_⟩
      show nd (truncF f (u.take (2 * (n / 2) - 1)) (n / 2)) (2 * j) = nd u (2 * j)
      rw [k3 j]
      by_cases c : 2 * j < 2 * (n / 2) - 1
      · exact nd_take c
      · rw [nd_out (by rw [List.length_take]; omega)]
        by_cases c2 : j < n
        · exact (not_lk m (hnone j (by omega) c2)).symm
        · exact (nd_out (by rw [m.len]; omega)).symm
theorem updG_even {t : List TN} {n i j : Nat} {l : TN} (m : MayN t n) (hi : i < n) : nd (tab t.length (updG t i l)) (2 * j) = if j = i then l else nd t (2 * j) := by
  have hb := fulls_bd m.hn
  have hlen := m.len
  by_cases c : 2 * j < t.length
  · rw [tab_nd c]
    unfold updG blkG
    by_cases e : j = i
    · rw [if_pos e, if_pos (by rw [e])]
    · rw [if_neg e, if_neg (by omega), hasB_leaf (by omega), decide_eq_false (by omega)]
      rfl
  · rw [nd_out (by rw [tab_len]; omega), if_neg (by omega), nd_out (by omega)]
/-- What Update answers may be. -/
structure UpdOk (t : List TN) (l : TN) (u : List TN) (i n : Nat) : Prop where
  was : Rt.May t n
  may : Rt.May u n
  lt : i < n
  there : lk t i = true
  leaf : nd u (2 * i) = l
  others : ∀ j, j ≠ i → nd u (2 * j) = nd t (2 * j)
theorem upd_ok {t : List TN} {l : TN} {i : Int} (h : updE t i l = 0) : ∃ j n : Nat, i = (j : Int) ∧ UpdOk t l (updT t i l) j n := by
  unfold updE at h
  cases hl : leafB l with
  | false => rw [hl] at h; cases h
  | true =>
    rw [hl] at h
    have hth : thI t i = 0 := h
    have hlf := leafB_iff.1 hl
    obtain ⟨n, j, rfl, hj, hm, hlk⟩ := thI_ok hth
    have ht : updT t j l = tab t.length (updG t j l) := by unfold updT; rw [hl, hth]; rfl
    have hmay := updG_may (i := j) (l := l) hm.mn hj (.inr hlf)
    rw [← hm.mn.len, ← ht] at hmay
    have hev := fun q => updG_even (j := q) (l := l) hm.mn hj
    rw [← ht] at hev
    have hlu : ∀ q, lk t q = true → lk (updT t j l) q = true := fun q hq => by
      unfold lk at hq ⊢
      rw [hev q]
      by_cases c : q = j
      · rw [if_pos c, hlf.1]; rfl
      · rw [if_neg c]; exact hq
    refine ⟨j, n, rfl, hm, ⟨hmay, ⟨j, hj, hlu j hlk⟩, ?_⟩, hj, hlk, by rw [hev j, if_pos rfl], fun q hq => by rw [hev q, if_neg hq]⟩
    rcases hm.right with h1 | ⟨q, a, b, hq⟩
    · exact .inl h1
    · exact .inr ⟨q, a, b, hlu q hq⟩
/-- What Remove answers may be. -/
structure RemOk (t : List TN) (u : List TN) (i n m : Nat) : Prop where
  was : Rt.May t n
  may : Rt.May u m
  lt : i < n
  le : m ≤ n
  there : lk t i = true
  gone : lk u i = false
  others : ∀ j, j ≠ i → nd u (2 * j) = nd t (2 * j)
theorem rem_ok {t : List TN} {i : Int} (h : remE t i = 0) : ∃ j n m : Nat, i = (j : Int) ∧ RemOk t (remT t i) j n m := by
  unfold remE at h
  by_cases hth : thI t i = 0
  · rw [decide_eq_true hth] at h
    obtain ⟨n, j, rfl, hj, hm, hlk⟩ := thI_ok hth
    have hll := lvs_of hm.mn.hn
    rw [← hm.mn.len] at hll
    have h : errI (someB (blkT t j) 0 (lvs t.length)) = 0 := h
    rw [hll] at h
    have hs : someB (blkT t j) 0 n = true := by
      cases e : someB (blkT t j) 0 n with
      | true => rfl
      | false => rw [e] at h; cases h
    have ht : remT t j = truncF 9 (blkT t j) n := by
      unfold remT
      rw [decide_eq_true hth]
      show (bif someB (blkT t j) 0 (lvs t.length) then truncF 9 (blkT t j) (lvs t.length) else []) = _
      rw [hll, hs]; rfl
    have hmay := updG_may (i := j) (l := tn0) hm.mn hj (.inl rfl)
    rw [← hm.mn.len] at hmay
    have hev := fun q => updG_even (j := q) (l := tn0) hm.mn hj
    obtain ⟨q, _, q1, q2⟩ := someB_true.1 hs
    have hb := fulls_bd hm.mn.hn
    obtain ⟨m, m1, m2, m3⟩ := trunc_ok 9 (blkT t j) n hmay ⟨q, q1, q2⟩ (by omega)
    rw [← ht] at m2 m3
    refine ⟨j, n, m, rfl, hm, m2, hj, m1, hlk, ?_, fun k hk => ?_⟩
    · unfold lk
      rw [m3 j]
      show decide ((nd (tab t.length (updG t j tn0)) (2 * j)).kd = 1) = false
      rw [hev j, if_pos rfl]; rfl
    · rw [m3 k]
      show nd (tab t.length (updG t j tn0)) (2 * k) = _
      rw [hev k, if_neg hk]
  · rw [decide_eq_false hth] at h
    exact absurd h hth
end Go.Proofs.YtekmdklobejbeaaDoor
end

section
/- What the program's own Check, needed, .. say, plainly: the same as the document's. -/
set_option linter.unusedVariables false
namespace Go.Proofs.YtekmdklobejbeaaDoor
open Rt

theorem nbeq_false {a b : Nat} (h : a ≠ b) : Nat.beq a b = false := by
  cases e : Nat.beq a b with
  | false => rfl
  | true => exact absurd (Nat.eq_of_beq_eq_true e) h
/-- Unmerged are leaves under the node, rising. -/
def unfB (t : List TN) (h : Nat) : Int → List Int → Bool
  | _, [] => true
  | least, i :: r => !(decide (i < least) || decide ((h : Int) ≤ i) || !lk t i.toNat) && unfB t h (i + 1) r
def parB (d : TN) : Bool := d.kd == 2 && d.id == 0 && d.sig == 0
def fitB (t : List TN) (x : Nat) : Bool :=
  bif (nd t x).kd == 0 then sameNB (nd t x) tn0 else bif Nat.beq (x % 2) 0 then leafB (nd t x) else parB (nd t x) && unfB t (Mth.hi x) (Mth.lo x : Nat) (nd t x).un
theorem unfB_iff {t : List TN} {h : Nat} {us : List Int} {least : Int} : unfB t h least us = true ↔ us.Pairwise (· < ·) ∧ (∀ i ∈ us, least ≤ i) ∧ ∀ i ∈ us, i < (h : Int) ∧ lk t i.toNat = true := by
  induction us generalizing least with
  | nil => exact ⟨fun _ => ⟨List.Pairwise.nil, fun i hi => absurd hi List.not_mem_nil, fun i hi => absurd hi List.not_mem_nil⟩, fun _ => rfl⟩
  | cons a us ih =>
    show (!(decide (a < least) || decide ((h : Int) ≤ a) || !lk t a.toNat) && unfB t h (a + 1) us) = true ↔ _
    rw [Bool.and_eq_true, Bool.not_eq_true', Bool.or_eq_false_iff, Bool.or_eq_false_iff, decide_eq_false_iff_not, decide_eq_false_iff_not, Bool.not_eq_false', ih, List.pairwise_cons]
    constructor
    · rintro ⟨⟨⟨h1, h2⟩, h3⟩, h5, h6, h7⟩
      refine ⟨⟨fun i hi => ?_, h5⟩, fun i hi => ?_, fun i hi => ?_⟩
      · have := h6 i hi; omega
      · rcases List.mem_cons.1 hi with rfl | hi
        · omega
        · have := h6 i hi; omega
      · rcases List.mem_cons.1 hi with rfl | hi
        · exact ⟨by omega, h3⟩
        · exact h7 i hi
    · rintro ⟨⟨h1, h2⟩, h3, h4⟩
      have ha := h4 a List.mem_cons_self
      have hl := h3 a List.mem_cons_self
      exact ⟨⟨⟨by omega, by omega⟩, ha.2⟩, h2, fun i hi => by have := h1 i hi; omega, fun i hi => h4 i (List.mem_cons_of_mem _ hi)⟩
/-- A node has a leaf as not merged. -/
def hasU (t : List TN) (x i : Nat) : Bool := decide ((i : Int) ∈ (nd t x).un)
/-- What is asked of the Parents above a leaf, the lowest first. -/
def agF (t : List TN) (i : Nat) : Bool → List Nat → Bool
  | _, [] => true
  | b, x :: r => bif (nd t x).kd == 2 then (b || !hasU t x i) && agF t i (hasU t x i) r else agF t i b r
theorem agF_iff {t : List TN} {i : Nat} {p : List Nat} {b : Bool} : agF t i b p = true ↔ (p.Pairwise fun z x => (nd t z).kd = 2 → (nd t x).kd = 2 → hasU t x i = true → hasU t z i = true) ∧ (b = false → ∀ x ∈ p, (nd t x).kd = 2 → hasU t x i = false) := by
  induction p generalizing b with
  | nil => exact ⟨fun _ => ⟨List.Pairwise.nil, fun _ x hx => absurd hx List.not_mem_nil⟩, fun _ => rfl⟩
  | cons x r ih =>
    show (bif (nd t x).kd == 2 then (b || !hasU t x i) && agF t i (hasU t x i) r else agF t i b r) = true ↔ _
    rw [List.pairwise_cons]
    cases hk : ((nd t x).kd == 2) with
    | true =>
      have hk2 : (nd t x).kd = 2 := by simpa using hk
      show ((b || !hasU t x i) && agF t i (hasU t x i) r) = true ↔ _
      rw [Bool.and_eq_true, ih]
      constructor
      · rintro ⟨h1, h2, h3⟩
        refine ⟨⟨fun y hy _ hy2 hy3 => ?_, h2⟩, fun hb y hy hy2 => ?_⟩
        · cases e : hasU t x i with
          | true => rfl
          | false => rw [h3 e y hy hy2] at hy3; cases hy3
        · rw [hb, Bool.false_or, Bool.not_eq_true'] at h1
          rcases List.mem_cons.1 hy with rfl | hy
          · exact h1
          · exact h3 h1 y hy hy2
      · rintro ⟨⟨h1, h2⟩, h3⟩
        refine ⟨?_, h2, fun e y hy hy2 => ?_⟩
        · cases b with
          | true => rfl
          | false => rw [h3 rfl x List.mem_cons_self hk2]; rfl
        · cases e2 : hasU t y i with
          | false => rfl
          | true => rw [h1 y hy hk2 hy2 e2] at e; cases e
    | false =>
      have hk2 : (nd t x).kd ≠ 2 := by simpa using hk
      show agF t i b r = true ↔ _
      rw [ih]
      constructor
      · rintro ⟨h2, h3⟩
        refine ⟨⟨fun y hy h => absurd h hk2, h2⟩, fun hb y hy hy2 => ?_⟩
        rcases List.mem_cons.1 hy with rfl | hy
        · exact absurd hy2 hk2
        · exact h3 hb y hy hy2
      · rintro ⟨⟨h1, h2⟩, h3⟩
        exact ⟨h2, fun hb y hy hy2 => h3 hb y (List.mem_cons_of_mem _ hy) hy2⟩
/-- Of two nodes above a leaf the lower one is under the other one. -/
def pwB : List Nat → Bool
  | [] => true
  | z :: r => r.all (fun x => Mth.underB z x && !Nat.beq z x) && pwB r
theorem pwB_pw {l : List Nat} (h : pwB l = true) : l.Pairwise fun z x => Mth.underB z x = true ∧ z ≠ x := by
  induction l with
  | nil => exact List.Pairwise.nil
  | cons z r ih =>
    have h : (r.all (fun x => Mth.underB z x && !Nat.beq z x) && pwB r) = true := h
    rw [Bool.and_eq_true, List.all_eq_true] at h
    refine List.pairwise_cons.2 ⟨fun x hx => ?_, ih h.2⟩
    have := h.1 x hx
    rw [Bool.and_eq_true] at this
    exact ⟨this.1, fun e => by rw [e, Nat.beq_refl] at this; cases this.2⟩
theorem pathB_all : Mth.allB (fun n x => Nat.ble 1 (x % 2) || pwB (Mth.path x n)) = true := by decide +kernel
theorem path_pw {n i : Nat} (hn : n ∈ Mth.fulls) (hi : i < n) : (Mth.path (2 * i) n).Pairwise fun z x => Mth.underB z x = true ∧ z ≠ x := by
  have h := Mth.allB_at pathB_all hn (show 2 * i < 2 * n - 1 by omega)
  rw [Bool.or_eq_true] at h
  rcases h with h | h
  · have := Nat.le_of_ble_eq_true h; omega
  · exact pwB_pw h
theorem under_lvl {z x : Nat} (h : Mth.underB z x = true) : Mth.lvl z ≤ Mth.lvl x := by
  unfold Mth.underB at h
  rw [Bool.and_eq_true] at h
  exact Nat.le_of_ble_eq_true h.2
/-- The Parents above a leaf agree, just if each that has it as not merged is covered. -/
theorem agree_iff {t : List TN} {n i : Nat} (hn : n ∈ Mth.fulls) (hlen : t.length = 2 * n - 1) (hi : i < n) (hev : (nd t (2 * i)).kd ≠ 2) :
    agF t i true (Mth.path (2 * i) n) = true ↔ ∀ x, x < 2 * n - 1 → (nd t x).kd = 2 → Mth.hasB x i = true → hasU t x i = true → coverB t x i = true := by
  have hpm := fun x hx => path_mem (x := x) hn hi hx
  have hpw := path_pw hn hi
  have hb := fulls_bd hn
  have hpl : ∀ x ∈ Mth.path (2 * i) n, x < 2 * n - 1 := fun x hx => by
    obtain ⟨k, hk, hg⟩ := List.getElem_of_mem hx
    have := (path_fresh (j := k) hn hi hk).2.2
    rw [List.getD_eq_getElem?_getD, List.getElem?_eq_getElem hk, hg] at this
    exact this
  have hul : ∀ z, z < 2 * n - 1 → Mth.underB (2 * i) z = Mth.hasB z i := fun z hz => Mth.under_leaf hn (by omega) hz
  rw [agF_iff]
  generalize Mth.path (2 * i) n = p at hpm hpw hpl
  constructor
  · rintro ⟨hp, _⟩ x hx hx2 hxi hxu
    refine coverB_true fun z hz => covZ_false.2 fun h2 h3 h4 h5 => ?_
    rw [hlen] at hz
    rw [hul z hz] at h4
    have hx0 : x ≠ 2 * i := fun e => hev (e ▸ hx2)
    have hz0 : z ≠ 2 * i := fun e => hev (e ▸ h2)
    obtain ⟨a, ha, hga⟩ := List.getElem_of_mem ((hpm z hz).2 ⟨h4, hz0⟩)
    obtain ⟨b, hb', hgb⟩ := List.getElem_of_mem ((hpm x hx).2 ⟨hxi, hx0⟩)
    have key : hasU t z i = true := by
      rcases Nat.lt_trichotomy a b with h | h | h
      · have := List.pairwise_iff_getElem.1 hp a b ha hb' h
        rw [hga, hgb] at this
        exact this h2 hx2 hxu
      · subst h
        rw [hga] at hgb
        exact absurd hgb h3
      · have := (List.pairwise_iff_getElem.1 hpw b a hb' ha h).1
        rw [hga, hgb] at this
        have e1 := under_lvl this
        have e2 := under_lvl h5
        have i1 := itr_node (by omega : x < 511) hxi
        have i2 := itr_node (by omega : z < 511) h4
        rw [show Mth.lvl x = Mth.lvl z by omega, i2] at i1
        exact absurd i1 h3
    exact of_decide_eq_true key
  · intro h
    refine ⟨?_, fun hf => by cases hf⟩
    refine List.Pairwise.imp_of_mem (fun {z x} hz hx hzx hz2 hx2 hxu => ?_) hpw
    have hzl := hpl z hz
    have hxl := hpl x hx
    have h1 := (hpm x hxl).1 hx
    have h2 := (hpm z hzl).1 hz
    have hc := h x hxl hx2 h1.1 hxu
    have h3 : covZ t x i z = false := by
      have := List.all_eq_true.1 hc z (List.mem_range.2 (by omega))
      simpa using this
    exact decide_eq_true (covZ_false.1 h3 hz2 hzx.2 (by rw [hul z hzl]; exact h2.1) hzx.1)
/-- Members' last one. -/
def ndd (l : List Int) : Nat := bif Nat.beq l.length 0 then 0 else Mth.size ((l.getD (l.length - 1) 0).toNat + 1)
theorem mem_last (t : List TN) (n : Nat) : (memK t n = [] ∧ ∀ i, i < n → lk t i = false) ∨ ∃ L, L < n ∧ lk t L = true ∧ (∀ j, L < j → j < n → lk t j = false) ∧ 0 < (memK t n).length ∧ (memK t n).getD ((memK t n).length - 1) 0 = (L : Int) := by
  induction n with
  | zero => exact .inl ⟨rfl, fun i hi => absurd hi (Nat.not_lt_zero _)⟩
  | succ n ih =>
    rw [memK_succ]
    cases hl : lk t n with
    | true =>
      refine .inr ⟨n, by omega, hl, fun j h1 h2 => absurd h1 (by omega), ?_, ?_⟩
      · show 0 < (memK t n ++ [(n : Int)]).length
        simp
      · show (memK t n ++ [(n : Int)]).getD ((memK t n ++ [(n : Int)]).length - 1) 0 = n
        rw [List.length_append, List.length_singleton, Nat.add_sub_cancel, List.getD_eq_getElem?_getD, List.getElem?_append_right (Nat.le_refl _), Nat.sub_self]; rfl
    | false =>
      show (memK t n ++ [] = [] ∧ _) ∨ ∃ L, L < n + 1 ∧ lk t L = true ∧ (∀ j, L < j → j < n + 1 → lk t j = false) ∧ 0 < (memK t n ++ []).length ∧ (memK t n ++ []).getD ((memK t n ++ []).length - 1) 0 = (L : Int)
      rw [List.append_nil]
      rcases ih with ⟨h1, h2⟩ | ⟨L, h1, h2, h3, h4⟩
      · exact .inl ⟨h1, fun i hi => by
          by_cases c : i = n
          · rw [c]; exact hl
          · exact h2 i (by omega)⟩
      · exact .inr ⟨L, by omega, h2, fun j a b => by
          by_cases c : j = n
          · rw [c]; exact hl
          · exact h3 j a (by omega), h4⟩
theorem size_all : (List.range 257).all (fun m => Mth.fulls.all fun n => Nat.beq m 0 || Nat.blt n m || (Nat.beq (Mth.size m) n == (Nat.beq n 1 || Nat.blt (n / 2) m))) = true := by decide +kernel
theorem size_at {m n : Nat} (hm : 1 ≤ m) (hmn : m ≤ n) (hn : n ∈ Mth.fulls) : Mth.size m = n ↔ (n = 1 ∨ n / 2 < m) := by
  have hb := fulls_bd hn
  have h := List.all_eq_true.1 (List.all_eq_true.1 size_all m (List.mem_range.2 (by omega))) n hn
  rw [Bool.or_eq_true, Bool.or_eq_true] at h
  rcases h with (h | h) | h
  · have := Nat.eq_of_beq_eq_true h; omega
  · have := Nat.le_of_ble_eq_true h; omega
  · have h := eq_of_beq h
    constructor
    · intro e
      rw [e, Nat.beq_refl] at h
      have h := h.symm
      rw [Bool.or_eq_true] at h
      exact h.imp Nat.eq_of_beq_eq_true Nat.le_of_ble_eq_true
    · intro e
      have : (Nat.beq n 1 || Nat.blt (n / 2) m) = true := by
        rw [Bool.or_eq_true]
        exact e.imp (fun e => by rw [e]; rfl) (fun e => Nat.ble_eq_true_of_le e)
      rw [this] at h
      exact Nat.eq_of_beq_eq_true h
theorem ndd_iff {t : List TN} {n : Nat} (hn : n ∈ Mth.fulls) : ndd (memK t n) = n ↔ ((∃ i, i < n ∧ lk t i = true) ∧ (n = 1 ∨ ∃ i, n / 2 ≤ i ∧ i < n ∧ lk t i = true)) := by
  have hb := fulls_bd hn
  rcases mem_last t n with ⟨h1, h2⟩ | ⟨L, h1, h2, h3, h4, h5⟩
  · rw [h1]
    constructor
    · intro e
      have e : 0 = n := e
      omega
    · rintro ⟨⟨i, a, b⟩, _⟩
      rw [h2 i a] at b; cases b
  · have e : ndd (memK t n) = Mth.size (L + 1) := by
      unfold ndd
      rw [nbeq_false (by omega), h5, Int.toNat_natCast]; rfl
    rw [e, size_at (by omega) (by omega) hn]
    constructor
    · intro h
      exact ⟨⟨L, h1, h2⟩, h.imp id fun h => ⟨L, by omega, h1, h2⟩⟩
    · rintro ⟨_, h⟩
      refine h.imp id fun ⟨i, a, b, c⟩ => ?_
      by_cases q : L < i
      · rw [h3 i q b] at c; cases c
      · omega
/-- What the program's Check tells. -/
def shpB (t : List TN) : Bool := !Nat.beq (lvs t.length) 0
def fitsB (t : List TN) : Bool := (List.range t.length).all fun x => fitB t x
def agreeB (t : List TN) (n : Nat) : Bool := (List.range n).all fun i => agF t i true (Mth.path (2 * i) n)
def needB (t : List TN) (n : Nat) : Bool := Nat.beq (ndd (memK t n)) n
theorem fit_iff {t : List TN} {n x : Nat} (hn : n ∈ Mth.fulls) (hlen : t.length = 2 * n - 1) (hx : x < 2 * n - 1) : fitB t x = true ↔
    ((nd t x).kd = 0 → nd t x = tn0) ∧ ((nd t x).kd ≠ 0 → x % 2 = 0 → (nd t x).kd = 1 ∧ (nd t x).un = []) ∧
    ((nd t x).kd ≠ 0 → x % 2 = 1 → (nd t x).kd = 2 ∧ (nd t x).id = 0 ∧ (nd t x).sig = 0 ∧ (nd t x).un.Pairwise (· < ·) ∧ ∀ i ∈ (nd t x).un, ((Mth.lo x : Nat) : Int) ≤ i ∧ i < (Mth.hi x : Int) ∧ lk t i.toNat = true) := by
  by_cases h0 : (nd t x).kd = 0
  · have e : fitB t x = sameNB (nd t x) tn0 := by unfold fitB; rw [show ((nd t x).kd == 0) = true by rw [h0]; rfl]; rfl
    rw [e, sameNB_iff]
    exact ⟨fun h => ⟨fun _ => h, fun h1 => absurd h0 h1, fun h1 => absurd h0 h1⟩, fun h => h.1 h0⟩
  · have hq : ((nd t x).kd == 0) = false := by rw [beq_eq_false_iff_ne]; exact h0
    by_cases h1 : x % 2 = 0
    · have e : fitB t x = leafB (nd t x) := by unfold fitB; rw [hq, h1]; rfl
      rw [e, leafB_iff]
      exact ⟨fun h => ⟨fun h2 => absurd h2 h0, fun _ _ => h, fun _ h2 => by omega⟩, fun h => h.2.1 h0 h1⟩
    · have e : fitB t x = (parB (nd t x) && unfB t (Mth.hi x) (Mth.lo x : Nat) (nd t x).un) := by unfold fitB; rw [hq, show x % 2 = 1 by omega]; rfl
      rw [e, Bool.and_eq_true, unfB_iff]
      unfold parB
      rw [Bool.and_eq_true, Bool.and_eq_true, beq_iff_eq, beq_iff_eq, beq_iff_eq]
      constructor
      · rintro ⟨⟨⟨a, b⟩, c⟩, d, f, g⟩
        exact ⟨fun h => absurd h h0, fun _ h => absurd h h1, fun _ _ => ⟨a, b, c, d, fun i hi => ⟨f i hi, g i hi⟩⟩⟩
      · rintro ⟨_, _, h⟩
        obtain ⟨a, b, c, d, f⟩ := h h0 (by omega)
        exact ⟨⟨⟨a, b⟩, c⟩, d, fun i hi => (f i hi).1, fun i hi => (f i hi).2⟩
theorem fits_may {t : List TN} {n : Nat} (hn : n ∈ Mth.fulls) (hlen : t.length = 2 * n - 1) : (fitsB t = true ∧ agreeB t n = true) ↔ ∀ x, x < 2 * n - 1 → nodeB t x = true := by
  have hb := fulls_bd hn
  constructor
  · rintro ⟨hf, ha⟩ x hx
    have hfit := fun x (hx : x < 2 * n - 1) => (fit_iff hn hlen hx).1 (List.all_eq_true.1 hf x (List.mem_range.2 (by omega)))
    obtain ⟨a, b, c⟩ := hfit x hx
    refine (nodeB_iff hn hlen hx).2 ⟨a, b, fun h0 h1 => ?_⟩
    obtain ⟨c1, c2, c3, c4, c5⟩ := c h0 h1
    refine ⟨c1, c2, c3, c4, fun i hi => ?_⟩
    obtain ⟨d1, d2, d3⟩ := c5 i hi
    have hhi := hi_le hn hx
    obtain ⟨j, rfl⟩ : ∃ j : Nat, i = j := ⟨i.toNat, by omega⟩
    rw [Int.toNat_natCast] at d3
    refine ⟨j, rfl, by omega, by omega, d3, fun z hz h2 h3 h4 h5 => ?_⟩
    have hj : j < n := by omega
    have hag := (agree_iff hn hlen hj (by unfold lk at d3; have := of_decide_eq_true d3; omega)).1 (List.all_eq_true.1 ha j (List.mem_range.2 hj)) x hx c1 (Mth.hasB_iff.2 ⟨by omega, by omega⟩) (decide_eq_true hi)
    have h6 : covZ t x j z = false := by
      have := List.all_eq_true.1 hag z (List.mem_range.2 (by omega))
      simpa using this
    exact covZ_false.1 h6 h2 h3 (by rw [Mth.under_leaf hn (by omega) hz]; exact h4) h5
  · intro h
    have hnd := fun x (hx : x < 2 * n - 1) => (nodeB_iff hn hlen hx).1 (h x hx)
    refine ⟨List.all_eq_true.2 fun x hx => ?_, List.all_eq_true.2 fun i hi => ?_⟩
    · have hx2 : x < 2 * n - 1 := by rw [← hlen]; exact List.mem_range.1 hx
      obtain ⟨a, b, c⟩ := hnd x hx2
      refine (fit_iff hn hlen hx2).2 ⟨a, b, fun h0 h1 => ?_⟩
      obtain ⟨c1, c2, c3, c4, c5⟩ := c h0 h1
      refine ⟨c1, c2, c3, c4, fun i hi => ?_⟩
      obtain ⟨j, rfl, d1, d2, d3, _⟩ := c5 i hi
      exact ⟨by omega, by omega, by rw [Int.toNat_natCast]; exact d3⟩
    · have hi2 := List.mem_range.1 hi
      have hev : (nd t (2 * i)).kd ≠ 2 := fun e => by
        have := ((hnd (2 * i) (by omega)).2.1 (by omega) (by omega)).1
        omega
      refine (agree_iff hn hlen hi2 hev).2 fun x hx hx2 hxi hxu => ?_
      have ho : x % 2 = 1 := by
        by_cases e : x % 2 = 0
        · have := ((hnd x hx).2.1 (by omega) e).1; omega
        · omega
      obtain ⟨c1, c2, c3, c4, c5⟩ := (hnd x hx).2.2 (by omega) ho
      obtain ⟨j, hj, d1, d2, d3, d4⟩ := c5 i (of_decide_eq_true hxu)
      refine coverB_true fun z hz => covZ_false.2 fun h2 h3 h4 h5 => ?_
      rw [hlen] at hz
      exact d4 z hz h2 h3 (by rw [← show i = j by omega, ← Mth.under_leaf hn (by omega) hz]; exact h4) h5
/-- The program's Check and the document's. -/
def pchkB (t : List TN) : Bool := shpB t && fitsB t && agreeB t (lvs t.length) && needB t (lvs t.length)
theorem pchk_eq (t : List TN) : pchkB t = chkB t := by
  rw [Bool.eq_iff_iff, chkB_may]
  unfold pchkB shpB
  rw [Bool.and_eq_true, Bool.and_eq_true, Bool.and_eq_true, Bool.not_eq_true']
  have hsp := lvs_spec t.length
  generalize lvs t.length = n at hsp
  constructor
  · rintro ⟨⟨⟨h0, h1⟩, h2⟩, h3⟩
    obtain ⟨hn, hlen⟩ : n ∈ Mth.fulls ∧ t.length = 2 * n - 1 := by
      rcases hsp with ⟨a, b⟩ | ⟨a, _⟩
      · exact ⟨a, b.symm⟩
      · rw [a] at h0; cases h0
    have hnd := fun x (hx : x < 2 * n - 1) => (nodeB_iff hn hlen hx).1 ((fits_may hn hlen).1 ⟨h1, h2⟩ x hx)
    obtain ⟨a, b⟩ := (ndd_iff hn).1 (Nat.eq_of_beq_eq_true h3)
    exact ⟨⟨hn, hlen, fun x hx h => (hnd x hx).1 h, fun x hx h1 h2 => (hnd x hx).2.1 h1 h2, fun x hx h1 h2 => (hnd x hx).2.2 h1 h2⟩, a, b⟩
  · rintro ⟨m, a, b⟩
    have hb := fulls_bd m.hn
    have hnd := fun x (hx : x < 2 * n - 1) => (nodeB_iff m.hn m.len hx).2 ⟨m.blank x hx, m.leaf x hx, m.par x hx⟩
    obtain ⟨h1, h2⟩ := (fits_may m.hn m.len).2 hnd
    exact ⟨⟨⟨nbeq_false (by omega), h1⟩, h2⟩, by unfold needB; rw [(ndd_iff m.hn).2 ⟨a, b⟩]; exact Nat.beq_refl _⟩
/-- What is left of a tree from which a leaf has gone. -/
theorem trunc_take (f : Nat) : ∀ (u : List TN) (n L : Nat), n ∈ Mth.fulls → u.length = 2 * n - 1 → L < n → lk u L = true → (∀ j, L < j → j < n → lk u j = false) → n ≤ 2 ^ f →
    truncF f u n = u.take (2 * Mth.size (L + 1) - 1) ∧ Mth.size (L + 1) ≤ n ∧ Mth.size (L + 1) ∈ Mth.fulls := by
  induction f with
  | zero =>
    intro u n L hn hlen hL hl hall hf
    have hb := fulls_bd hn
    have hs : Mth.size (L + 1) = n := (size_at (by omega) (by omega) hn).2 (.inl (by omega))
    rw [hs]
    exact ⟨(List.take_of_length_le (l := u) (by omega)).symm, Nat.le_refl _, hn⟩
  | succ f ih =>
    intro u n L hn hlen hL hl hall hf
    have hb := fulls_bd hn
    show (bif decide (1 < n) && !someB u (n / 2) n then truncF f (u.take (2 * (n / 2) - 1)) (n / 2) else u) = _ ∧ _
    cases hc : (decide (1 < n) && !someB u (n / 2) n) with
    | true =>
      rw [Bool.and_eq_true] at hc
      have h1 : 1 < n := of_decide_eq_true hc.1
      have hs : someB u (n / 2) n = false := by have := hc.2; simpa using this
      obtain ⟨g1, g2⟩ := half_fulls hn h1
      have hL2 : L < n / 2 := by
        cases Nat.lt_or_ge L (n / 2) with
        | inl h => exact h
        | inr h => rw [someB_true.2 ⟨L, h, hL, hl⟩] at hs; cases hs
      have hlk : ∀ i, i < n / 2 → lk (u.take (2 * (n / 2) - 1)) i = lk u i := fun i hi => by unfold lk; rw [nd_take (by omega)]
      obtain ⟨k1, k2, k3⟩ := ih (u.take (2 * (n / 2) - 1)) (n / 2) L g1 (by rw [List.length_take]; omega) hL2 (by rw [hlk L hL2]; exact hl) (fun j a b => by rw [hlk j b]; exact hall j a (by omega)) (by rw [Nat.pow_succ] at hf; omega)
      refine ⟨?_, by omega, k3⟩
      show truncF f (u.take (2 * (n / 2) - 1)) (n / 2) = _
      rw [k1, List.take_take, Nat.min_eq_left (by omega)]
    | false =>
      have hs : Mth.size (L + 1) = n := by
        refine (size_at (by omega) (by omega) hn).2 ?_
        by_cases c : 1 < n
        · rw [decide_eq_true c, Bool.true_and] at hc
          have hs : someB u (n / 2) n = true := by simpa using hc
          obtain ⟨i, a, b, d⟩ := someB_true.1 hs
          by_cases q : L < i
          · rw [hall i q b] at d; cases d
          · exact .inr (by omega)
        · exact .inl (by omega)
      rw [hs]
      exact ⟨(List.take_of_length_le (l := u) (by omega)).symm, Nat.le_refl _, hn⟩
end Go.Proofs.YtekmdklobejbeaaDoor
end

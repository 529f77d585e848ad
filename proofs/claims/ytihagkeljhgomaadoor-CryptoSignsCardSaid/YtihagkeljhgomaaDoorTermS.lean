/- Terms: what a node is, which may be, how it is found again; plain facts. Nothing here names a program. -/
import Derived.Lib.ItoaNum
set_option linter.unusedSimpArgs false
set_option linter.unusedVariables false
namespace Go.Proofs.YtihagkeljhgomaaDoor
open Go

/-- A node. -/
structure Nd where
  op : Int
  n : Int
  s : List UInt8
  l : List Int
  deriving DecidableEq

def nd0 : Nd := ⟨0, 0, [], []⟩

def kTab : List (List UInt8 × Int × Int) := [([], 0, 0), ([], 0, 0), ([], 0, 0), ([108, 105, 115, 116], 0, 64), ([104, 97, 115, 104], 1, 1), ([109, 105, 120], 2, 2), ([107, 101, 121], 3, 3), ([112, 117, 98], 1, 1),
  ([115, 101, 97, 108], 4, 4), ([101, 110, 99], 4, 4), ([115, 105, 103], 2, 2), ([109, 97, 99], 2, 2), ([98, 108, 105, 110, 100], 2, 2)]
def kName (op : Int) : List UInt8 := (kTab.getD op.toNat ([], 0, 0)).1
def kLeast (op : Int) : Int := (kTab.getD op.toNat ([], 0, 0)).2.1
def kMost (op : Int) : Int := (kTab.getD op.toNat ([], 0, 0)).2.2

/-- A node may be, where there are the terms ds. -/
structure May (ds : List Nd) (d : Nd) : Prop where
  op1 : 1 ≤ d.op
  op12 : d.op ≤ 12
  n0 : 0 ≤ d.n
  n1 : d.n = 0 ∨ d.op = 1
  s0 : d.s.length ≤ 200
  s1 : d.s = [] ∨ d.op = 2
  least : kLeast d.op ≤ d.l.length
  most : (d.l.length : Int) ≤ kMost d.op
  all : ∀ x ∈ d.l, 0 ≤ x ∧ x < ds.length
  key : d.op = 6 → (ds.getD (d.l.getD 1 0).toNat nd0).op = 2

theorem op_cases {o : Int} (h1 : 1 ≤ o) (h2 : o ≤ 12) : o = 1 ∨ o = 2 ∨ o = 3 ∨ o = 4 ∨ o = 5 ∨ o = 6 ∨ o = 7 ∨ o = 8 ∨ o = 9 ∨ o = 10 ∨ o = 11 ∨ o = 12 := by omega

theorem May.len64 {ds : List Nd} {d : Nd} (h : May ds d) : d.l.length ≤ 64 := by
  have := h.most
  rcases op_cases h.op1 h.op12 with e | e | e | e | e | e | e | e | e | e | e | e <;> rw [e] at this <;> simp [kMost, kTab] at this <;> (try rw [this]) <;> simp <;> omega
theorem May.nol {ds : List Nd} {d : Nd} (h : May ds d) (ho : d.op = 1 ∨ d.op = 2) : d.l = [] := by
  have := h.most
  rcases ho with e | e <;> rw [e] at this <;> simp [kMost, kTab] at this <;> exact this
theorem May.len3 {ds : List Nd} {d : Nd} (h : May ds d) (ho : d.op = 6) : d.l.length = 3 := by
  have h1 := h.most
  have h2 := h.least
  rw [ho] at h1 h2
  simp [kMost, kLeast, kTab] at h1 h2
  omega
theorem May.more {ds es : List Nd} {d : Nd} (h : May ds d) : May (ds ++ es) d :=
  { h with
    all := fun x hx => ⟨(h.all x hx).1, by have := (h.all x hx).2; rw [List.length_append]; omega⟩
    key := fun ho => by
      have hl := h.len3 ho
      have hx := h.all (d.l.getD 1 0) (by
        rw [List.getD_eq_getElem?_getD, List.getElem?_eq_getElem (show 1 < d.l.length by omega)]
        exact List.getElem_mem _)
      rw [← h.key ho]
      simp only [List.getD_eq_getElem?_getD]
      rw [List.getElem?_append_left (by simp only [List.getD_eq_getElem?_getD] at hx; omega)] }

/-! ## decimals -/
def isDig (c : UInt8) : Bool := decide (48 ≤ c.toNat) && decide (c.toNat ≤ 57)
def decVal (l : List UInt8) : Nat := l.foldl (fun a c => a * 10 + (c.toNat - 48)) 0

theorem dd_step {u : Nat} (h : ¬ u < 10) : Lib.decDigits u = Lib.decDigits (u / 10) ++ [UInt8.ofNat (48 + u % 10)] := by
  rw [Lib.decDigits, dif_neg h]
theorem ofNat_small {k : Nat} (h : k < 256) : (UInt8.ofNat k).toNat = k := by
  rw [UInt8.toNat_ofNat_of_lt' (by simpa using h)]
theorem dd_dig (u : Nat) : ∀ c ∈ Lib.decDigits u, isDig c = true := by
  induction u using Nat.strongRecOn with
  | ind u ih =>
    by_cases h : u < 10
    · rw [Lib.decDigits_one h]
      intro c hc
      obtain rfl : c = UInt8.ofNat (48 + u) := by simpa using hc
      simp [isDig, ofNat_small (show 48 + u < 256 by omega)]
      omega
    · rw [dd_step h]
      intro c hc
      rcases List.mem_append.1 hc with h1 | h1
      · exact ih _ (by omega) c h1
      · obtain rfl : c = UInt8.ofNat (48 + u % 10) := by simpa using h1
        simp only [isDig, ofNat_small (show 48 + u % 10 < 256 by omega)]
        simp
        omega
theorem dd_val (u : Nat) : decVal (Lib.decDigits u) = u := by
  induction u using Nat.strongRecOn with
  | ind u ih =>
    by_cases h : u < 10
    · rw [Lib.decDigits_one h]
      simp only [decVal, List.foldl_cons, List.foldl_nil, ofNat_small (show 48 + u < 256 by omega)]
      omega
    · have := ih (u / 10) (by omega)
      rw [dd_step h]
      unfold decVal at this ⊢
      rw [List.foldl_append, this]
      simp only [List.foldl_cons, List.foldl_nil, ofNat_small (show 48 + u % 10 < 256 by omega)]
      omega
theorem dd_inj {a b : Nat} (h : Lib.decDigits a = Lib.decDigits b) : a = b := by rw [← dd_val a, ← dd_val b, h]
theorem dd_pos (u : Nat) : 0 < (Lib.decDigits u).length := by
  by_cases h : u < 10
  · rw [Lib.decDigits_one h]; simp
  · rw [dd_step h]; simp

/-- Nothing, or no digit, comes first. -/
def NoDig (l : List UInt8) : Prop := ∀ c r, l = c :: r → isDig c = false
theorem noDig_nil : NoDig [] := fun c r h => by cases h
theorem noDig_cons {c : UInt8} (r : List UInt8) (h : isDig c = false) : NoDig (c :: r) := fun c' r' e => by cases e; exact h

theorem takeWhile_dig {x u : List UInt8} (hx : ∀ c ∈ x, isDig c = true) (hu : NoDig u) : (x ++ u).takeWhile isDig = x ∧ (x ++ u).dropWhile isDig = u := by
  induction x with
  | nil =>
    cases u with
    | nil => exact ⟨rfl, rfl⟩
    | cons c r =>
      have := hu c r rfl
      simp [List.takeWhile, List.dropWhile, this]
  | cons a x ih =>
    have h1 := hx a List.mem_cons_self
    obtain ⟨i1, i2⟩ := ih fun c hc => hx c (List.mem_cons_of_mem _ hc)
    simp only [List.cons_append, List.takeWhile_cons, List.dropWhile_cons, h1, if_true]
    exact ⟨by rw [i1], i2⟩

theorem dd_sep {a b : Nat} {u v : List UInt8} (hu : NoDig u) (hv : NoDig v) (h : Lib.decDigits a ++ u = Lib.decDigits b ++ v) : a = b ∧ u = v := by
  obtain ⟨h1, h2⟩ := takeWhile_dig (dd_dig a) hu
  obtain ⟨h3, h4⟩ := takeWhile_dig (dd_dig b) hv
  rw [h] at h1 h2
  exact ⟨dd_inj (h1.symm.trans h3), h2.symm.trans h4⟩
theorem itoa_of_nonneg {n : Int} (h : 0 ≤ n) : Lib.itoa n = Lib.decDigits n.toNat := by
  unfold Lib.itoa
  rw [if_neg (by omega)]
theorem itoa_sep {a b : Int} {u v : List UInt8} (ha : 0 ≤ a) (hb : 0 ≤ b) (hu : NoDig u) (hv : NoDig v) (h : Lib.itoa a ++ u = Lib.itoa b ++ v) : a = b ∧ u = v := by
  rw [itoa_of_nonneg ha, itoa_of_nonneg hb] at h
  obtain ⟨h1, h2⟩ := dd_sep hu hv h
  exact ⟨by omega, h2⟩

/-! ## a node's text among others: the program's -/
def partsKey (l : List Int) : List UInt8 := l.flatMap fun x => Lib.itoa x ++ [44]
def key (d : Nd) : List UInt8 := UInt8.ofNat d.op.toNat :: (if d.op = 1 then Lib.itoa d.n else if d.op = 2 then d.s else partsKey d.l)

theorem partsKey_cons (x : Int) (l : List Int) : partsKey (x :: l) = Lib.itoa x ++ 44 :: partsKey l := by simp [partsKey]
theorem partsKey_snoc (l : List Int) (x : Int) : partsKey (l ++ [x]) = partsKey l ++ (Lib.itoa x ++ [44]) := by simp [partsKey]
theorem partsKey_inj {l m : List Int} (hl : ∀ x ∈ l, 0 ≤ x) (hm : ∀ x ∈ m, 0 ≤ x) (h : partsKey l = partsKey m) : l = m := by
  induction l generalizing m with
  | nil =>
    cases m with
    | nil => rfl
    | cons y m => rw [partsKey_cons] at h; simp [partsKey] at h
  | cons x l ih =>
    cases m with
    | nil => rw [partsKey_cons] at h; simp [partsKey] at h
    | cons y m =>
      rw [partsKey_cons, partsKey_cons] at h
      obtain ⟨h1, h2⟩ := itoa_sep (hl x List.mem_cons_self) (hm y List.mem_cons_self) (noDig_cons _ (by decide)) (noDig_cons _ (by decide)) h
      simp only [List.cons.injEq, true_and] at h2
      rw [h1, ih (fun z hz => hl z (List.mem_cons_of_mem _ hz)) (fun z hz => hm z (List.mem_cons_of_mem _ hz)) h2]

theorem nd_ext {d e : Nd} (h1 : d.op = e.op) (h2 : d.n = e.n) (h3 : d.s = e.s) (h4 : d.l = e.l) : d = e := by
  cases d; cases e; simp_all

theorem key_inj {ds es : List Nd} {d e : Nd} (hd : May ds d) (he : May es e) (h : key d = key e) : d = e := by
  unfold key at h
  simp only [List.cons.injEq] at h
  obtain ⟨h1, h2⟩ := h
  have a1 := hd.op1; have a2 := hd.op12; have b1 := he.op1; have b2 := he.op12
  have ho : d.op = e.op := by
    have := congrArg UInt8.toNat h1
    rw [ofNat_small (by omega), ofNat_small (by omega)] at this
    omega
  rw [← ho] at h2
  by_cases c1 : d.op = 1
  · rw [if_pos c1, if_pos c1] at h2
    have hn : d.n = e.n := (itoa_sep (u := []) (v := []) hd.n0 he.n0 noDig_nil noDig_nil (by simpa using h2)).1
    have s1 : d.s = [] := hd.s1.resolve_right (by omega)
    have s2 : e.s = [] := he.s1.resolve_right (by omega)
    exact nd_ext ho hn (s1.trans s2.symm) ((hd.nol (.inl c1)).trans (he.nol (.inl (by omega))).symm)
  · have n1 : d.n = 0 := hd.n1.resolve_right c1
    have n2 : e.n = 0 := he.n1.resolve_right (by omega)
    rw [if_neg c1, if_neg c1] at h2
    by_cases c2 : d.op = 2
    · rw [if_pos c2, if_pos c2] at h2
      exact nd_ext ho (n1.trans n2.symm) h2 ((hd.nol (.inr c2)).trans (he.nol (.inr (by omega))).symm)
    · rw [if_neg c2, if_neg c2] at h2
      have s1 : d.s = [] := hd.s1.resolve_right c2
      have s2 : e.s = [] := he.s1.resolve_right (by omega)
      exact nd_ext ho (n1.trans n2.symm) (s1.trans s2.symm) (partsKey_inj (fun x hx => (hd.all x hx).1) (fun x hx => (he.all x hx).1) h2)

/-! ## a node's text among others: the document's -/
def partsKeyR (l : List Int) : List UInt8 := l.flatMap fun x => 32 :: Lib.itoa x
def keyR (d : Nd) : List UInt8 := Lib.itoa d.op ++ 32 :: (Lib.itoa d.n ++ 32 :: (Lib.itoa d.s.length ++ 32 :: (d.s ++ partsKeyR d.l)))
theorem partsKeyR_cons (x : Int) (l : List Int) : partsKeyR (x :: l) = 32 :: (Lib.itoa x ++ partsKeyR l) := by simp [partsKeyR]
theorem partsKeyR_snoc (l : List Int) (x : Int) : partsKeyR (l ++ [x]) = partsKeyR l ++ 32 :: Lib.itoa x := by simp [partsKeyR]
theorem noDig_partsR (l : List Int) : NoDig (partsKeyR l) := by
  cases l with
  | nil => exact noDig_nil
  | cons x l => rw [partsKeyR_cons]; exact noDig_cons _ (by decide)
theorem partsKeyR_inj {l m : List Int} (hl : ∀ x ∈ l, 0 ≤ x) (hm : ∀ x ∈ m, 0 ≤ x) (h : partsKeyR l = partsKeyR m) : l = m := by
  induction l generalizing m with
  | nil =>
    cases m with
    | nil => rfl
    | cons y m => rw [partsKeyR_cons] at h; simp [partsKeyR] at h
  | cons x l ih =>
    cases m with
    | nil => rw [partsKeyR_cons] at h; simp [partsKeyR] at h
    | cons y m =>
      rw [partsKeyR_cons, partsKeyR_cons] at h
      simp only [List.cons.injEq, true_and] at h
      obtain ⟨h1, h2⟩ := itoa_sep (hl x List.mem_cons_self) (hm y List.mem_cons_self) (noDig_partsR l) (noDig_partsR m) h
      rw [h1, ih (fun z hz => hl z (List.mem_cons_of_mem _ hz)) (fun z hz => hm z (List.mem_cons_of_mem _ hz)) h2]
theorem keyR_inj {ds es : List Nd} {d e : Nd} (hd : May ds d) (he : May es e) (h : keyR d = keyR e) : d = e := by
  unfold keyR at h
  have d1 := hd.op1; have e1 := he.op1
  obtain ⟨ho, h⟩ := itoa_sep (by omega) (by omega) (noDig_cons _ (by decide)) (noDig_cons _ (by decide)) h
  simp only [List.cons.injEq, true_and] at h
  obtain ⟨hn, h⟩ := itoa_sep hd.n0 he.n0 (noDig_cons _ (by decide)) (noDig_cons _ (by decide)) h
  simp only [List.cons.injEq, true_and] at h
  obtain ⟨hs, h⟩ := itoa_sep (by omega) (by omega) (noDig_cons _ (by decide)) (noDig_cons _ (by decide)) h
  simp only [List.cons.injEq, true_and] at h
  obtain ⟨hs', hl⟩ := List.append_inj h (by omega)
  exact nd_ext ho hn hs' (partsKeyR_inj (fun x hx => (hd.all x hx).1) (fun x hx => (he.all x hx).1) hl)

/-! ## an arena's terms -/
/-- The terms of an arena: each made of lesser ones, each once. -/
structure Good (ds : List Nd) : Prop where
  may : ∀ i, i < ds.length → May (ds.take i) (ds.getD i nd0)
  once : ∀ i j, i < ds.length → j < ds.length → ds.getD i nd0 = ds.getD j nd0 → i = j

theorem Good.nil : Good [] := ⟨fun i hi => by simp at hi, fun i j hi => by simp at hi⟩
theorem Good.may' {ds : List Nd} (h : Good ds) {i : Nat} (hi : i < ds.length) : May ds (ds.getD i nd0) := by
  have := (h.may i hi).more (es := ds.drop i)
  rwa [List.take_append_drop] at this
theorem Good.lesser {ds : List Nd} (h : Good ds) {i : Nat} (hi : i < ds.length) : ∀ x ∈ (ds.getD i nd0).l, 0 ≤ x ∧ x < i := fun x hx => by
  have := (h.may i hi).all x hx
  rw [List.length_take] at this
  omega
theorem getD_snoc (ds : List Nd) (d : Nd) (i : Nat) : (ds ++ [d]).getD i nd0 = if i < ds.length then ds.getD i nd0 else if i = ds.length then d else nd0 := by
  simp only [List.getD_eq_getElem?_getD]
  by_cases h : i < ds.length
  · rw [if_pos h, List.getElem?_append_left h]
  · rw [if_neg h, List.getElem?_append_right (by omega)]
    by_cases h2 : i = ds.length
    · simp [h2]
    · rw [if_neg h2, List.getElem?_eq_none (by simp; omega)]; rfl

/-- The number of the term that has this node. -/
def find (ds : List Nd) (d : Nd) : Option Nat := ds.findIdx? (fun e => decide (e = d))
theorem find_some {ds : List Nd} {d : Nd} {i : Nat} (h : find ds d = some i) : i < ds.length ∧ ds.getD i nd0 = d := by
  obtain ⟨h1, h2, _⟩ := List.findIdx?_eq_some_iff_getElem.1 h
  refine ⟨h1, ?_⟩
  rw [List.getD_eq_getElem?_getD, List.getElem?_eq_getElem h1]
  simpa using h2
theorem find_none {ds : List Nd} {d : Nd} (h : find ds d = none) : ∀ i, i < ds.length → ds.getD i nd0 ≠ d := by
  intro i hi e
  have := List.findIdx?_eq_none_iff.1 h (ds.getD i nd0) (by rw [List.getD_eq_getElem?_getD, List.getElem?_eq_getElem hi]; exact List.getElem_mem _)
  rw [e] at this
  simp at this
theorem Good.findAt {ds : List Nd} (h : Good ds) {d : Nd} {i : Nat} (hi : i < ds.length) (he : ds.getD i nd0 = d) : find ds d = some i := by
  cases hf : find ds d with
  | none => exact absurd he (find_none hf i hi)
  | some j =>
    obtain ⟨h1, h2⟩ := find_some hf
    rw [h.once j i h1 hi (h2.trans he.symm)]

theorem Good.snoc {ds : List Nd} (h : Good ds) {d : Nd} (hm : May ds d) (hf : find ds d = none) : Good (ds ++ [d]) := by
  refine ⟨fun i hi => ?_, fun i j hi hj he => ?_⟩
  · rw [getD_snoc]
    rw [List.length_append, List.length_singleton] at hi
    by_cases h1 : i < ds.length
    · rw [if_pos h1, List.take_append_of_le_length (by omega)]
      exact h.may i h1
    · obtain rfl : i = ds.length := by omega
      rw [if_neg h1, if_pos rfl, List.take_append_of_le_length (Nat.le_refl _), List.take_length]
      exact hm
  · rw [List.length_append, List.length_singleton] at hi hj
    rw [getD_snoc, getD_snoc] at he
    by_cases h1 : i < ds.length
    · rw [if_pos h1] at he
      by_cases h2 : j < ds.length
      · rw [if_pos h2] at he; exact h.once i j h1 h2 he
      · rw [if_neg h2, if_pos (by omega)] at he
        exact absurd he (find_none hf i h1)
    · rw [if_neg h1, if_pos (by omega)] at he
      by_cases h2 : j < ds.length
      · rw [if_pos h2] at he
        exact absurd he.symm (find_none hf j h2)
      · omega

/-- What Make does: the terms behind it, the term's number, the error. -/
noncomputable def mk (ds : List Nd) (d : Nd) : List Nd × Int × Int :=
  open Classical in
  if May ds d then
    match find ds d with
    | some i => (ds, i, 0)
    | none => if 100000 ≤ ds.length then (ds, 0, 2) else (ds ++ [d], ds.length, 0)
  else (ds, 0, 1)
theorem mk_bad {ds : List Nd} {d : Nd} (h : ¬ May ds d) : mk ds d = (ds, 0, 1) := by unfold mk; rw [if_neg h]
theorem mk_old {ds : List Nd} {d : Nd} (h : May ds d) {i : Nat} (hf : find ds d = some i) : mk ds d = (ds, (i : Int), 0) := by unfold mk; rw [if_pos h, hf]
theorem mk_full {ds : List Nd} {d : Nd} (h : May ds d) (hf : find ds d = none) (hl : 100000 ≤ ds.length) : mk ds d = (ds, 0, 2) := by unfold mk; rw [if_pos h, hf]; simp only [if_pos hl]
theorem mk_new {ds : List Nd} {d : Nd} (h : May ds d) (hf : find ds d = none) (hl : ¬ 100000 ≤ ds.length) : mk ds d = (ds ++ [d], (ds.length : Int), 0) := by unfold mk; rw [if_pos h, hf]; simp only [if_neg hl]
theorem good_mk {ds : List Nd} (h : Good ds) (d : Nd) : Good (mk ds d).1 := by
  by_cases hm : May ds d
  · cases hf : find ds d with
    | some i => rw [mk_old hm hf]; exact h
    | none =>
      by_cases hl : 100000 ≤ ds.length
      · rw [mk_full hm hf hl]; exact h
      · rw [mk_new hm hf hl]; exact h.snoc hm hf
  · rw [mk_bad hm]; exact h
theorem mk_le (ds : List Nd) (d : Nd) : ds.length ≤ (mk ds d).1.length ∧ (mk ds d).1.length ≤ ds.length + 1 := by
  by_cases hm : May ds d
  · cases hf : find ds d with
    | some i => rw [mk_old hm hf]; simp
    | none =>
      by_cases hl : 100000 ≤ ds.length
      · rw [mk_full hm hf hl]; simp
      · rw [mk_new hm hf hl]; simp
  · rw [mk_bad hm]; simp
end Go.Proofs.YtihagkeljhgomaaDoor

/- A term's text: what Show is to write. Nothing here names a program. -/
import Derived.Test.YtdhdgbihalfgeaaDoorTermS
set_option linter.unusedSimpArgs false
set_option linter.unusedVariables false
namespace Go.Proofs.YtdhdgbihalfgeaaDoor
open Go

def esc (s : List UInt8) : List UInt8 := s.flatMap fun c => if c = 34 ∨ c = 92 then [92, c] else [c]
def joinC : List (List UInt8) → List UInt8
  | [] => []
  | [x] => x
  | x :: y :: r => x ++ 44 :: joinC (y :: r)
/-- A node's text, where f tells its parts'. -/
def one (f : Int → List UInt8) (d : Nd) : List UInt8 :=
  if d.op = 1 then 35 :: Lib.itoa d.n else if d.op = 2 then 34 :: (esc d.s ++ [34]) else kName d.op ++ 40 :: (joinC (d.l.map f) ++ [41])
def stepS (acc : List (List UInt8)) (d : Nd) : List (List UInt8) := acc ++ [one (fun x => acc.getD x.toNat []) d]
/-- All terms' texts. -/
def shws (ds : List Nd) : List (List UInt8) := ds.foldl stepS []
/-- The text of a term. -/
def shw (ds : List Nd) (t : Int) : List UInt8 := (shws ds).getD t.toNat []

theorem shws_pre (ds : List Nd) : ∀ acc : List (List UInt8), ∃ r, ds.foldl stepS acc = acc ++ r ∧ r.length = ds.length := by
  induction ds with
  | nil => exact fun acc => ⟨[], by simp, rfl⟩
  | cons d ds ih =>
    intro acc
    obtain ⟨r, h1, h2⟩ := ih (stepS acc d)
    refine ⟨one (fun x => acc.getD x.toNat []) d :: r, ?_, by simp [h2]⟩
    rw [List.foldl_cons, h1]
    simp [stepS]
theorem shws_append (a b : List Nd) : ∃ r, shws (a ++ b) = shws a ++ r ∧ r.length = b.length := by
  unfold shws
  rw [List.foldl_append]
  exact shws_pre b _
theorem shws_length (ds : List Nd) : (shws ds).length = ds.length := by
  obtain ⟨r, h1, h2⟩ := shws_pre ds []
  unfold shws
  rw [h1]
  simpa using h2
theorem shw_more {ds : List Nd} (es : List Nd) {t : Int} (h : t.toNat < ds.length) : shw (ds ++ es) t = shw ds t := by
  obtain ⟨r, h1, _⟩ := shws_append ds es
  unfold shw
  rw [h1]
  simp only [List.getD_eq_getElem?_getD]
  rw [List.getElem?_append_left (by rw [shws_length]; exact h)]
theorem one_congr {f g : Int → List UInt8} {d : Nd} (h : ∀ x ∈ d.l, f x = g x) : one f d = one g d := by
  unfold one
  rw [List.map_congr_left h]
/-- What a term's text is. -/
theorem shw_eq {ds : List Nd} (hg : Good ds) {t : Int} (h0 : 0 ≤ t) (h1 : t < ds.length) : shw ds t = one (shw ds) (ds.getD t.toNat nd0) := by
  obtain ⟨i, rfl⟩ := Int.eq_ofNat_of_zero_le h0
  have hi : i < ds.length := by omega
  simp only [Int.toNat_natCast]
  have hsplit : ds = ds.take i ++ (ds.getD i nd0 :: ds.drop (i + 1)) := by
    rw [List.getD_eq_getElem?_getD, List.getElem?_eq_getElem hi, Option.getD_some, List.getElem_cons_drop hi, List.take_append_drop]
  have htl : (ds.take i).length = i := by rw [List.length_take]; omega
  have key1 : shw ds (i : Int) = one (fun x => (shws (ds.take i)).getD x.toNat []) (ds.getD i nd0) := by
    have e : shws ds = (ds.drop (i + 1)).foldl stepS (stepS (shws (ds.take i)) (ds.getD i nd0)) := by
      conv => lhs; rw [hsplit]
      unfold shws
      rw [List.foldl_append, List.foldl_cons]
    obtain ⟨r, h2, _⟩ := shws_pre (ds.drop (i + 1)) (stepS (shws (ds.take i)) (ds.getD i nd0))
    unfold shw
    rw [e, h2]
    simp only [Int.toNat_natCast, stepS, List.append_assoc, List.getD_eq_getElem?_getD]
    rw [List.getElem?_append_right (by rw [shws_length, htl]; omega), shws_length, htl]
    simp
  rw [key1]
  refine one_congr fun x hx => ?_
  obtain ⟨x0, x1⟩ := hg.lesser hi x hx
  have : shw (ds.take i ++ ds.drop i) x = shw (ds.take i) x := shw_more _ (by rw [htl]; omega)
  rw [List.take_append_drop] at this
  rw [this]
  rfl

theorem joinC_snoc (l : List (List UInt8)) (x : List UInt8) : joinC (l ++ [x]) = if l = [] then x else joinC l ++ 44 :: x := by
  induction l with
  | nil => rfl
  | cons a l ih =>
    cases l with
    | nil => rfl
    | cons b l =>
      simp only [List.cons_append, joinC] at ih ⊢
      rw [ih]
      simp
theorem joinC_take_le (l : List (List UInt8)) (k : Nat) : (joinC (l.take k)).length ≤ (joinC l).length := by
  induction l generalizing k with
  | nil => simp [joinC]
  | cons a l ih =>
    cases k with
    | zero => simp [joinC]
    | succ k =>
      cases l with
      | nil => simp [joinC]
      | cons b l =>
        cases k with
        | zero => simp [joinC]
        | succ k =>
          have := ih (k + 1)
          simp only [List.take_succ_cons, joinC, List.length_append, List.length_cons] at this ⊢
          omega
theorem joinC_step (l : List Int) (f : Int → List UInt8) {k : Nat} (h : k < l.length) :
    joinC ((l.take (k + 1)).map f) = joinC ((l.take k).map f) ++ ((if k = 0 then [] else [44]) ++ f (l.getD k 0)) := by
  rw [List.take_succ_eq_append_getElem h, List.map_append, List.map_cons, List.map_nil, joinC_snoc, List.getD_eq_getElem?_getD, List.getElem?_eq_getElem h]
  by_cases c : k = 0
  · subst c
    simp [joinC]
  · have : ¬ (l.take k).map f = [] := by
      intro e
      have := congrArg List.length e
      rw [List.length_map, List.length_take, List.length_nil] at this
      omega
    rw [if_neg this, if_neg c]
    simp

/-- What is written behind old: all of x, or more than may be shown, where all of x is more, too. -/
def Out (old x new : List UInt8) : Prop := new = old ++ x ∨ (4000 < new.length ∧ 4000 < old.length + x.length)
theorem esc_snoc (s : List UInt8) (c : UInt8) : esc (s ++ [c]) = esc s ++ (if c = 34 ∨ c = 92 then [92, c] else [c]) := by simp [esc]
theorem esc_len (s : List UInt8) : (esc s).length ≤ 2 * s.length := by
  induction s with
  | nil => simp [esc]
  | cons c s ih =>
    have e : esc (c :: s) = (if c = 34 ∨ c = 92 then [92, c] else [c]) ++ esc s := by simp [esc]
    rw [e, List.length_append]
    have : (if c = 34 ∨ c = 92 then [92, c] else [c]).length ≤ 2 := by split <;> simp
    simp
    omega
theorem kName_len (o : Int) : (kName o).length ≤ 5 := by
  unfold kName
  rcases Nat.lt_or_ge o.toNat 13 with h | h
  · generalize o.toNat = n at h
    have : n = 0 ∨ n = 1 ∨ n = 2 ∨ n = 3 ∨ n = 4 ∨ n = 5 ∨ n = 6 ∨ n = 7 ∨ n = 8 ∨ n = 9 ∨ n = 10 ∨ n = 11 ∨ n = 12 := by omega
    rcases this with e | e | e | e | e | e | e | e | e | e | e | e | e <;> subst e <;> simp [kTab]
  · rw [List.getD_eq_getElem?_getD, List.getElem?_eq_none (by simp [kTab]; omega)]
    simp
end Go.Proofs.YtdhdgbihalfgeaaDoor

/- Texts of one proof, put together: DedS, ScH, ScS, IntRow, DedA, TermR, Rising, DedB, DedC, NodesAt. -/
import Derived.Test.YtekieioffaafaaaDoorMg03
import Derived.Test.YtekieioffaafaaaDoorMg01
import Derived.Test.YtekieioffaafaaaDoorMg02
import Derived.OwnWalk
import Derived.Test.YtekieioffaafaaaDoorMg14
import Derived.Deep.RegionHeld3
import Derived.StillTailTactics
import Derived.Test.YtekieioffaafaaaDoorMg04
import Derived.Deep.RegionHeldLaw
import Derived.Deep.RegionLaw
section
/- What can be derived: the rules, the least that has them; how what is to be gone through comes to it. Plain facts; nothing here names a program. -/
set_option linter.unusedSimpArgs false
set_option linter.unusedVariables false
namespace Go.Proofs.YtekieioffaafaaaDoor
open Go

/-- The node of a term. -/
def nd (ds : List Nd) (t : Int) : Nd := ds.getD t.toNat nd0
/-- A rule: once all of src can be derived, all of to can. -/
structure Rl where
  src : List Int
  to : List Int
def rl0 : Rl := ⟨[], []⟩

/-- The secret key of a Seal of a Pub. -/
def sealedTo (ds : List Nd) (d : Nd) : Option Int := if d.op = 8 then (if (nd ds (d.l.getD 0 0)).op = 7 then some ((nd ds (d.l.getD 0 0)).l.getD 0 0) else none) else none
/-- The Sig of a key and a message, if there is one. -/
def sigAt (ds : List Nd) (k m : Int) : Option Int := (find ds ⟨10, 0, [], [k, m]⟩).map Int.ofNat

def openRules (ds : List Nd) (t : Int) (d : Nd) : List Rl :=
  if d.op = 3 then [⟨[t], d.l⟩]
  else if d.op = 8 then (match sealedTo ds d with | some sk => [⟨[t, sk], (d.l.drop 1).take 2⟩] | none => [])
  else if d.op = 9 then [⟨[t, d.l.getD 0 0], d.l.drop 1⟩]
  else if d.op = 12 then [⟨[t, d.l.getD 1 0], d.l.take 1⟩]
  else if d.op = 10 then ⟨[t], d.l.drop 1⟩ :: (if (nd ds (d.l.getD 1 0)).op = 12 then (match sigAt ds (d.l.getD 0 0) ((nd ds (d.l.getD 1 0)).l.getD 0 0) with | some s => [⟨[t, (nd ds (d.l.getD 1 0)).l.getD 1 0], [s]⟩] | none => []) else [])
  else []
def rulesAt (ds : List Nd) (t : Nat) : List Rl :=
  (if (ds.getD t nd0).op = 1 then [] else [⟨(ds.getD t nd0).l, [(t : Int)]⟩]) ++ openRules ds t (ds.getD t nd0)
def rules (ds : List Nd) : List Rl := (List.range ds.length).flatMap (rulesAt ds)

/-- What can be derived of l. -/
inductive Der (ds : List Nd) (l : List Int) : Int → Prop
  | base {t : Int} : t ∈ l → Der ds l t
  | step {t : Int} (r : Rl) : r ∈ rules ds → (∀ x ∈ r.src, Der ds l x) → t ∈ r.to → Der ds l t

theorem Der.mono {ds : List Nd} {l m : List Int} (h : ∀ x ∈ l, Der ds m x) {t : Int} (k : Der ds l t) : Der ds m t := by
  induction k with
  | base h1 => exact h _ h1
  | step r h1 _ h3 ih => exact .step r h1 ih h3

/-! ## what the parts of terms are -/
theorem nd_of {ds : List Nd} {t : Nat} : nd ds (t : Int) = ds.getD t nd0 := by simp [nd]
theorem isT_nat {ds : List Nd} {t : Int} (h : IsT ds t) : ∃ n : Nat, t = n ∧ n < ds.length := ⟨t.toNat, by have := h.1; omega, by have := h.1; have := h.2; omega⟩
theorem Good.mayT {ds : List Nd} (hg : Good ds) {t : Int} (h : IsT ds t) : May ds (nd ds t) := by
  obtain ⟨n, rfl, hn⟩ := isT_nat h
  rw [nd_of]; exact hg.may' hn
theorem Good.lessT {ds : List Nd} (hg : Good ds) {t : Int} (h : IsT ds t) : ∀ x ∈ (nd ds t).l, 0 ≤ x ∧ x < t := by
  obtain ⟨n, rfl, hn⟩ := isT_nat h
  rw [nd_of]
  exact fun x hx => by have := hg.lesser hn x hx; omega
theorem Good.partT {ds : List Nd} (hg : Good ds) {t : Int} (h : IsT ds t) : ∀ x ∈ (nd ds t).l, IsT ds x := fun x hx => by
  have h1 := hg.lessT h x hx
  exact ⟨h1.1, by have := h.2; omega⟩
theorem May.lenOf {ds : List Nd} {d : Nd} (h : May ds d) {o n : Int} (ho : d.op = o) (h1 : kLeast o = n) (h2 : kMost o = n) : (d.l.length : Int) = n := by
  have a := h.least
  have b := h.most
  rw [ho] at a b
  omega
theorem getD_mem {l : List Int} {i : Nat} (h : i < l.length) : l.getD i 0 ∈ l := by
  rw [List.getD_eq_getElem?_getD, List.getElem?_eq_getElem h]; exact List.getElem_mem h
theorem May.p1 {ds : List Nd} {d : Nd} (h : May ds d) (ho : d.op = 7 ∨ d.op = 4) : d.l.length = 1 := by
  rcases ho with ho | ho
  · have := h.lenOf (n := 1) ho (by decide) (by decide); omega
  · have := h.lenOf (n := 1) ho (by decide) (by decide); omega
theorem May.p2 {ds : List Nd} {d : Nd} (h : May ds d) (ho : d.op = 10 ∨ d.op = 12) : d.l.length = 2 := by
  rcases ho with ho | ho
  · have := h.lenOf (n := 2) ho (by decide) (by decide); omega
  · have := h.lenOf (n := 2) ho (by decide) (by decide); omega
theorem May.p4 {ds : List Nd} {d : Nd} (h : May ds d) (ho : d.op = 8 ∨ d.op = 9) : d.l.length = 4 := by
  rcases ho with ho | ho
  · have := h.lenOf (n := 4) ho (by decide) (by decide); omega
  · have := h.lenOf (n := 4) ho (by decide) (by decide); omega
theorem sealed_some {ds : List Nd} {d : Nd} {sk : Int} (h : sealedTo ds d = some sk) : d.op = 8 ∧ (nd ds (d.l.getD 0 0)).op = 7 ∧ sk = (nd ds (d.l.getD 0 0)).l.getD 0 0 := by
  unfold sealedTo at h
  split at h
  · split at h
    · exact ⟨by assumption, by assumption, (Option.some.inj h).symm⟩
    · cases h
  · cases h
theorem sig_some {ds : List Nd} {k m s : Int} (h : sigAt ds k m = some s) : IsT ds s ∧ nd ds s = ⟨10, 0, [], [k, m]⟩ := by
  unfold sigAt at h
  obtain ⟨i, hi, rfl⟩ := Option.map_eq_some_iff.1 h
  obtain ⟨h1, h2⟩ := find_some hi
  refine ⟨⟨by simp, by simpa using h1⟩, ?_⟩
  rw [show Int.ofNat i = (i : Int) from rfl, nd_of]; exact h2
/-- A Sig is its key and its message. -/
theorem Good.sigEq {ds : List Nd} (hg : Good ds) {t : Int} (h : IsT ds t) (ho : (nd ds t).op = 10) : nd ds t = ⟨10, 0, [], [(nd ds t).l.getD 0 0, (nd ds t).l.getD 1 0]⟩ := by
  have m := hg.mayT h
  have hl := m.p2 (.inl ho)
  refine nd_ext ho (m.n1.resolve_right (by omega)) (m.s1.resolve_right (by omega)) ?_
  generalize (nd ds t).l = l at hl
  match l, hl with
  | [a, b], _ => rfl
theorem Good.sigAt_eq {ds : List Nd} (hg : Good ds) {t : Int} (h : IsT ds t) (ho : (nd ds t).op = 10) : sigAt ds ((nd ds t).l.getD 0 0) ((nd ds t).l.getD 1 0) = some t := by
  have e := hg.sigEq h ho
  obtain ⟨n, rfl, hn⟩ := isT_nat h
  unfold sigAt
  rw [← e, hg.findAt hn nd_of.symm]; rfl

/-- What the rules of a term say are terms. -/
theorem openRules_terms {ds : List Nd} (hg : Good ds) {t : Int} (h : IsT ds t) : ∀ r ∈ openRules ds t (nd ds t), (∀ x ∈ r.src, IsT ds x) ∧ (∀ x ∈ r.to, IsT ds x) ∧ r.src ≠ [] := by
  have hp := hg.partT h
  have m := hg.mayT h
  intro r hr
  unfold openRules at hr
  split at hr
  · obtain rfl := List.mem_singleton.1 hr
    exact ⟨fun x hx => by rw [List.mem_singleton.1 hx]; exact h, hp, by simp⟩
  split at hr
  · split at hr
    · rename_i ho _ sk hs
      obtain ⟨h1, h2, h3⟩ := sealed_some hs
      obtain rfl := List.mem_singleton.1 hr
      have l4 := m.p4 (.inl ho)
      have hk : IsT ds ((nd ds t).l.getD 0 0) := hp _ (getD_mem (by omega))
      have mk := hg.mayT hk
      have hks : IsT ds sk := by rw [h3]; exact hg.partT hk _ (getD_mem (by have := mk.p1 (.inl h2); omega))
      refine ⟨fun x hx => ?_, fun x hx => hp x (List.mem_of_mem_drop (List.mem_of_mem_take hx)), by simp⟩
      simp only [List.mem_cons, List.not_mem_nil, or_false] at hx
      rcases hx with rfl | rfl
      · exact h
      · exact hks
    · cases hr
  split at hr
  · rename_i ho
    obtain rfl := List.mem_singleton.1 hr
    have l4 := m.p4 (.inr ho)
    refine ⟨fun x hx => ?_, fun x hx => hp x (List.mem_of_mem_drop hx), by simp⟩
    simp only [List.mem_cons, List.not_mem_nil, or_false] at hx
    rcases hx with rfl | rfl
    · exact h
    · exact hp _ (getD_mem (by omega))
  split at hr
  · rename_i ho
    obtain rfl := List.mem_singleton.1 hr
    have l2 := m.p2 (.inr ho)
    refine ⟨fun x hx => ?_, fun x hx => hp x (List.mem_of_mem_take hx), by simp⟩
    simp only [List.mem_cons, List.not_mem_nil, or_false] at hx
    rcases hx with rfl | rfl
    · exact h
    · exact hp _ (getD_mem (by omega))
  split at hr
  · rename_i ho
    have l2 := m.p2 (.inl ho)
    rcases List.mem_cons.1 hr with rfl | hr
    · exact ⟨fun x hx => by rw [List.mem_singleton.1 hx]; exact h, fun x hx => hp x (List.mem_of_mem_drop hx), by simp⟩
    · split at hr
      · rename_i hb
        split at hr
        · rename_i s hs
          obtain rfl := List.mem_singleton.1 hr
          have hm : IsT ds ((nd ds t).l.getD 1 0) := hp _ (getD_mem (by omega))
          have mm := hg.mayT hm
          refine ⟨fun x hx => ?_, fun x hx => by rw [List.mem_singleton.1 hx]; exact (sig_some hs).1, by simp⟩
          simp only [List.mem_cons, List.not_mem_nil, or_false] at hx
          rcases hx with rfl | rfl
          · exact h
          · exact hg.partT hm _ (getD_mem (by have := mm.p2 (.inr hb); omega))
        · cases hr
      · cases hr
  · cases hr
theorem rulesAt_terms {ds : List Nd} (hg : Good ds) {t : Nat} (h : t < ds.length) : ∀ r ∈ rulesAt ds t, (∀ x ∈ r.src, IsT ds x) ∧ (∀ x ∈ r.to, IsT ds x) := by
  have hT : IsT ds (t : Int) := ⟨by omega, by omega⟩
  intro r hr
  unfold rulesAt at hr
  rcases List.mem_append.1 hr with hr | hr
  · split at hr
    · cases hr
    · obtain rfl := List.mem_singleton.1 hr
      exact ⟨by rw [← nd_of]; exact hg.partT hT, fun x hx => by rw [List.mem_singleton.1 hx]; exact hT⟩
  · rw [← nd_of] at hr
    obtain ⟨a, b, _⟩ := openRules_terms hg hT r hr
    exact ⟨a, b⟩
theorem rules_mem {ds : List Nd} {r : Rl} : r ∈ rules ds ↔ ∃ t, t < ds.length ∧ r ∈ rulesAt ds t := by
  unfold rules
  simp only [List.mem_flatMap, List.mem_range]
theorem rules_terms {ds : List Nd} (hg : Good ds) {r : Rl} (hr : r ∈ rules ds) : (∀ x ∈ r.src, IsT ds x) ∧ (∀ x ∈ r.to, IsT ds x) := by
  obtain ⟨t, ht, h⟩ := rules_mem.1 hr
  exact rulesAt_terms hg ht r h
theorem Der.isT {ds : List Nd} (hg : Good ds) {l : List Int} (hl : ∀ x ∈ l, IsT ds x) {t : Int} (h : Der ds l t) : IsT ds t := by
  cases h with
  | base h => exact hl _ h
  | step r h1 h2 h3 => exact (rules_terms hg h1).2 _ h3

/-! ## what can be derived is closed -/
theorem Der.made {ds : List Nd} {l : List Int} {t : Int} (ht : IsT ds t) (ho : (nd ds t).op ≠ 1) (h : ∀ x ∈ (nd ds t).l, Der ds l x) : Der ds l t := by
  obtain ⟨n, rfl, hn⟩ := isT_nat ht
  refine .step ⟨(nd ds (n : Int)).l, [(n : Int)]⟩ (rules_mem.2 ⟨n, hn, ?_⟩) h (by simp)
  unfold rulesAt
  rw [nd_of] at ho ⊢
  rw [if_neg ho]
  simp
theorem Der.opened {ds : List Nd} {l : List Int} {t x : Int} (ht : IsT ds t) {r : Rl} (hr : r ∈ openRules ds t (nd ds t)) (h : ∀ x ∈ r.src, Der ds l x) (hx : x ∈ r.to) : Der ds l x := by
  obtain ⟨n, rfl, hn⟩ := isT_nat ht
  refine .step r (rules_mem.2 ⟨n, hn, ?_⟩) h hx
  unfold rulesAt
  rw [nd_of] at hr
  exact List.mem_append_right _ hr

/-! ## what is still to be gone through -/
def know1 (s : List Bool × List Int) (t : Int) : List Bool × List Int := if s.1.getD t.toNat false = true then s else (s.1.set t.toNat true, s.2 ++ [t])
def know (s : List Bool × List Int) (l : List Int) : List Bool × List Int := l.foldl know1 s
theorem know_take (s : List Bool × List Int) (l : List Int) (k : Nat) (h : k < l.length) : know s (l.take (k + 1)) = know1 (know s (l.take k)) (l.getD k 0) := by
  unfold know
  rw [List.take_succ_eq_append_getElem h, List.foldl_append, List.getD_eq_getElem?_getD, List.getElem?_eq_getElem h]
  rfl

/-- P was gone through, E is being, td is to be; these, and no others, are known, and all are good. -/
structure WL (n : Nat) (G : Int → Prop) (P E : List Int) (s : List Bool × List Int) : Prop where
  len : s.1.length = n
  mem : ∀ x : Int, 0 ≤ x → x < n → (s.1.getD x.toNat false = true ↔ x ∈ P ++ E ++ s.2)
  rng : ∀ x ∈ P ++ E ++ s.2, 0 ≤ x ∧ x < n
  nodup : (P ++ E ++ s.2).Nodup
  good : ∀ x ∈ P ++ E ++ s.2, G x

theorem getD_set_b (l : List Bool) (i j : Nat) (b : Bool) : (l.set i b).getD j false = if i = j ∧ i < l.length then b else l.getD j false := by
  simp only [List.getD_eq_getElem?_getD, List.getElem?_set]
  by_cases h : i = j
  · subst h
    by_cases h2 : i < l.length
    · simp [h2]
    · simp [h2]
  · simp [h]

theorem WL.know1 {n : Nat} {G : Int → Prop} {P E : List Int} {s : List Bool × List Int} (h : WL n G P E s) {t : Int} (h0 : 0 ≤ t) (h1 : t < n) (hg : G t) :
    WL n G P E (know1 s t) ∧ t ∈ P ++ E ++ (YtekieioffaafaaaDoor.know1 s t).2 ∧ ∀ x, x ∈ P ++ E ++ s.2 → x ∈ P ++ E ++ (YtekieioffaafaaaDoor.know1 s t).2 := by
  unfold YtekieioffaafaaaDoor.know1
  by_cases c : s.1.getD t.toNat false = true
  · rw [if_pos c]
    exact ⟨h, (h.mem t h0 h1).1 c, fun x hx => hx⟩
  · rw [if_neg c]
    have hn : t ∉ P ++ E ++ s.2 := fun hm => c ((h.mem t h0 h1).2 hm)
    have e : P ++ E ++ (s.2 ++ [t]) = (P ++ E ++ s.2) ++ [t] := by simp
    refine ⟨⟨by simp [h.len], fun x hx0 hx1 => ?_, fun x hx => ?_, ?_, fun x hx => ?_⟩, by simp, fun x hx => by simp only at hx ⊢; rw [e]; exact List.mem_append_left _ hx⟩
    · rw [getD_set_b, e, List.mem_append, List.mem_singleton]
      by_cases ct : x = t
      · subst ct
        rw [if_pos ⟨rfl, by rw [h.len]; omega⟩]
        simp
      · rw [if_neg (by omega)]
        rw [h.mem x hx0 hx1]
        simp [ct]
    · simp only at hx
      rw [e, List.mem_append, List.mem_singleton] at hx
      rcases hx with hx | rfl
      · exact h.rng x hx
      · exact ⟨h0, h1⟩
    · show (P ++ E ++ (s.2 ++ [t])).Nodup
      rw [e, List.nodup_append]
      exact ⟨h.nodup, by simp, fun x hx y hy => by rw [List.mem_singleton.1 hy]; exact fun e => hn (e ▸ hx)⟩
    · simp only at hx
      rw [e, List.mem_append, List.mem_singleton] at hx
      rcases hx with hx | rfl
      · exact h.good x hx
      · exact hg
theorem WL.know {n : Nat} {G : Int → Prop} {P E : List Int} {s : List Bool × List Int} (h : WL n G P E s) (l : List Int) (hl : ∀ x ∈ l, (0 ≤ x ∧ x < (n : Int)) ∧ G x) :
    WL n G P E (know s l) ∧ (∀ x ∈ l, x ∈ P ++ E ++ (YtekieioffaafaaaDoor.know s l).2) ∧ ∀ x, x ∈ P ++ E ++ s.2 → x ∈ P ++ E ++ (YtekieioffaafaaaDoor.know s l).2 := by
  induction l generalizing s with
  | nil => exact ⟨h, (fun x hx => by cases hx), fun x hx => hx⟩
  | cons a l ih =>
    have ha := hl a List.mem_cons_self
    obtain ⟨h1, h2, h3⟩ := h.know1 ha.1.1 ha.1.2 ha.2
    obtain ⟨i1, i2, i3⟩ := ih h1 (fun x hx => hl x (List.mem_cons_of_mem _ hx))
    refine ⟨i1, fun x hx => ?_, fun x hx => i3 x (h3 x hx)⟩
    rcases List.mem_cons.1 hx with rfl | hx
    · exact i3 _ h2
    · exact i2 x hx
theorem nodup_leN {l m : List Nat} (h : l.Nodup) (hs : ∀ x ∈ l, x ∈ m) : l.length ≤ m.length := by
  induction l generalizing m with
  | nil => simp
  | cons a l ih =>
    have h1 := List.nodup_cons.1 h
    have hm := hs a List.mem_cons_self
    have := ih h1.2 (m := m.erase a) (fun x hx => by
      refine (List.mem_erase_of_ne (fun (e : x = a) => h1.1 (e ▸ hx))).2 (hs x (List.mem_cons_of_mem _ hx)))
    rw [List.length_erase_of_mem hm] at this
    have := List.length_pos_of_mem hm
    simp only [List.length_cons]
    omega
theorem WL.lenle {n : Nat} {G : Int → Prop} {P E : List Int} {s : List Bool × List Int} (h : WL n G P E s) : (P ++ E ++ s.2).length ≤ n := by
  have h1 : ((P ++ E ++ s.2).map Int.toNat).Nodup := by
    refine List.nodup_iff_pairwise_ne.2 ?_
    rw [List.pairwise_map]
    refine List.Pairwise.imp_of_mem (R := fun a b => a ≠ b) ?_ (List.nodup_iff_pairwise_ne.1 h.nodup)
    intro a b ha hb hne e
    have := (h.rng a ha).1; have := (h.rng b hb).1
    omega
  have h2 : (P ++ E ++ s.2).map Int.toNat ⊆ List.range n := fun x hx => by
    obtain ⟨y, hy, rfl⟩ := List.mem_map.1 hx
    have := h.rng y hy
    rw [List.mem_range]; omega
  have := nodup_leN h1 h2
  simpa using this

/-- Which rules wait for each term. -/
structure Waits (n : Nat) (rs : List Rl) (ws : List (List Int)) : Prop where
  len : ws.length = n
  rng : ∀ x, x < n → ∀ i ∈ ws.getD x [], 0 ≤ i ∧ i < rs.length
  cnt : ∀ x, x < n → ∀ i, i < rs.length → (ws.getD x []).count (i : Int) = (rs.getD i rl0).src.count (x : Int)
  few : ∀ x, x < n → (ws.getD x []).length ≤ (rs.map fun r => r.src.length).sum

/-- What is missing of each rule's, behind P and some of those (w) that wait for what is gone through. -/
structure Miss (rs : List Rl) (ms : List Int) (P w : List Int) (K : Int → Prop) : Prop where
  len : ms.length = rs.length
  cnt : ∀ i, i < rs.length → ms.getD i 0 + (w.count (i : Int) : Int) = ((rs.getD i rl0).src.countP (fun x => !P.contains x) : Int)
  done : ∀ i, i < rs.length → ms.getD i 0 = 0 → ∀ y ∈ (rs.getD i rl0).to, K y

theorem countP_snoc (l P : List Int) (t : Int) (h : t ∉ P) : l.countP (fun x => !P.contains x) = l.countP (fun x => !(P ++ [t]).contains x) + l.count t := by
  induction l with
  | nil => simp
  | cons a l ih =>
    rw [List.countP_cons, List.countP_cons, List.count_cons, ih]
    by_cases c : a = t
    · subst c
      simp [h]
      omega
    · by_cases d : a ∈ P
      · simp [c, d]
      · simp [c, d]; omega
theorem countP_zero {l P : List Int} (h : l.countP (fun x => !P.contains x) = 0) : ∀ x ∈ l, x ∈ P := fun x hx => by
  have := List.countP_eq_zero.1 h x hx
  simpa using this
theorem getD_set_i (l : List Int) (i j : Nat) (b : Int) : (l.set i b).getD j 0 = if i = j ∧ i < l.length then b else l.getD j 0 := by
  simp only [List.getD_eq_getElem?_getD, List.getElem?_set]
  by_cases h : i = j
  · subst h
    by_cases h2 : i < l.length
    · simp [h2]
    · simp [h2]
  · simp [h]

/-- Ahead of all. -/
theorem Miss.start {rs : List Rl} {ms : List Int} {K : Int → Prop} (hl : ms.length = rs.length) (hm : ∀ i, i < rs.length → ms.getD i 0 = ((rs.getD i rl0).src.length : Int)) (hs : ∀ r ∈ rs, r.src ≠ []) : Miss rs ms [] [] K := by
  refine ⟨hl, fun i hi => ?_, fun i hi h => ?_⟩
  · rw [hm i hi]
    have : (rs.getD i rl0).src.countP (fun x => !([] : List Int).contains x) = (rs.getD i rl0).src.length := by
      rw [List.countP_eq_length]; simp
    rw [this]; simp
  · rw [hm i hi] at h
    have hr : rs.getD i rl0 ∈ rs := by rw [List.getD_eq_getElem?_getD, List.getElem?_eq_getElem hi]; exact List.getElem_mem hi
    have := hs _ hr
    cases hc : (rs.getD i rl0).src with
    | nil => exact absurd hc this
    | cons a b => rw [hc] at h; simp at h; omega
theorem Miss.mono {rs : List Rl} {ms P w : List Int} {K L : Int → Prop} (h : Miss rs ms P w K) (hk : ∀ x, K x → L x) : Miss rs ms P w L := ⟨h.len, h.cnt, fun i hi h0 y hy => hk y (h.done i hi h0 y hy)⟩
/-- One that waits hears of it. -/
theorem Miss.hear {rs : List Rl} {ms P w : List Int} {K L : Int → Prop} (h : Miss rs ms P w K) {i : Nat} (hi : i < rs.length) (hk : ∀ x, K x → L x) (hd : ms.getD i 0 - 1 = 0 → ∀ y ∈ (rs.getD i rl0).to, L y) :
    Miss rs (ms.set i (ms.getD i 0 - 1)) P (w ++ [(i : Int)]) L := by
  refine ⟨by simp [h.len], fun j hj => ?_, fun j hj => ?_⟩
  · rw [getD_set_i, List.count_append, List.count_singleton]
    have := h.cnt j hj
    by_cases c : i = j
    · subst c
      rw [if_pos ⟨rfl, by rw [h.len]; exact hi⟩, if_pos (by simp)]
      omega
    · rw [if_neg (fun e => c e.1)]
      have : ((i : Int) == (j : Int)) = false := by rw [beq_eq_false_iff_ne]; omega
      rw [this]
      simpa using h.cnt j hj
  · rw [getD_set_i]
    by_cases c : i = j
    · subst c
      rw [if_pos ⟨rfl, by rw [h.len]; exact hi⟩]
      exact hd
    · rw [if_neg (fun e => c e.1)]
      exact fun h0 y hy => hk y (h.done j hj h0 y hy)
/-- All that wait for t have heard of it. -/
theorem Miss.over {n : Nat} {rs : List Rl} {ms P : List Int} {K : Int → Prop} {ws : List (List Int)} {t : Nat} (hw : Waits n rs ws) (ht : t < n) (h : Miss rs ms P (ws.getD t []) K) (hn : (t : Int) ∉ P) : Miss rs ms (P ++ [(t : Int)]) [] K := by
  refine ⟨h.len, fun i hi => ?_, h.done⟩
  have h1 := h.cnt i hi
  rw [hw.cnt t ht i hi, countP_snoc _ P t hn] at h1
  simp
  simp at h1
  omega
/-- Who hears of the last that was missing has all. -/
theorem Miss.all {n : Nat} {rs : List Rl} {ms P : List Int} {K : Int → Prop} {ws : List (List Int)} {t k : Nat} (hw : Waits n rs ws) (ht : t < n) (hn : (t : Int) ∉ P) (hk : k < (ws.getD t []).length) (h : Miss rs ms P ((ws.getD t []).take k) K) {i : Nat} (hi : i < rs.length) (he : (ws.getD t []).getD k 0 = (i : Int)) (h0 : ms.getD i 0 - 1 = 0) : ∀ x ∈ (rs.getD i rl0).src, x ∈ P ++ [(t : Int)] := by
  have h1 := h.cnt i hi
  have h2 : (((ws.getD t []).take (k + 1)).count (i : Int)) ≤ (ws.getD t []).count (i : Int) := by
    exact (List.take_sublist _ _).count_le _
  rw [List.take_succ_eq_append_getElem hk, List.count_append, List.count_singleton] at h2
  have he' : (ws.getD t [])[k] = (i : Int) := by
    rw [List.getD_eq_getElem?_getD, List.getElem?_eq_getElem hk, Option.getD_some] at he
    exact he
  rw [he'] at h2
  simp only [beq_self_eq_true, if_true] at h2
  rw [hw.cnt t ht i hi, ] at h2
  rw [countP_snoc _ P t hn] at h1
  refine countP_zero ?_
  omega

/-- At the end: what is known is what can be derived. -/
theorem derived_all {ds : List Nd} {l : List Int} {rs : List Rl} {ms P : List Int} {s : List Bool × List Int} (hg : Good ds) (hl : ∀ x ∈ l, IsT ds x)
    (h : WL ds.length (Der ds l) P [] s) (he : s.2 = []) (hm : Miss rs ms P [] (fun x => x ∈ P ++ [] ++ s.2)) (hb : ∀ x ∈ l, x ∈ P ++ [] ++ s.2)
    (hr : ∀ r ∈ rules ds, (r.src = [] ∧ ∀ x ∈ r.to, x ∈ P ++ [] ++ s.2) ∨ r ∈ rs) : ∀ t : Nat, t < ds.length → (s.1.getD t false = true ↔ Der ds l (t : Int)) := by
  have key : ∀ x, Der ds l x → x ∈ P ++ [] ++ s.2 := by
   intro x hd
   induction hd with
   | base h1 => exact hb _ h1
   | step r h1 _ h3 ih =>
     rcases hr r h1 with ⟨_, h4⟩ | h4
     · exact h4 _ h3
     · obtain ⟨i, hi, rfl⟩ := List.getElem_of_mem h4
       have e : rs.getD i rl0 = rs[i] := by rw [List.getD_eq_getElem?_getD, List.getElem?_eq_getElem hi]; rfl
       rw [← e] at h3 ih
       refine hm.done i hi ?_ _ h3
       have hc := hm.cnt i hi
       have hz : (rs.getD i rl0).src.countP (fun x => !P.contains x) = 0 := by
         rw [List.countP_eq_zero]
         intro x hx
         have := ih x hx
         rw [he] at this
         simpa using this
       rw [hz] at hc
       simpa using hc
  intro t ht
  have hmem := h.mem (t : Int) (by omega) (by omega)
  rw [Int.toNat_natCast] at hmem
  rw [hmem]
  exact ⟨fun hx => h.good _ hx, key _⟩
end Go.Proofs.YtekieioffaafaaaDoor
end

section
/- What can be derived of an epoch's secrets; plain facts. Nothing here names a program. -/
set_option linter.unusedSimpArgs false
set_option linter.unusedVariables false
namespace Go.Proofs.YtekieioffaafaaaDoor
open Go

/-- What can be had of the Atoms that A tells and of the trees that E tells: a secret key's Pub always. -/
inductive Ok (A : Int → Bool) (E : Tr → Prop) : Tr → Prop
  | exc {T : Tr} : E T → Ok A E T
  | atom {n : Int} {s : List UInt8} {l : List Tr} : A n = true → Ok A E (.mk 1 n s l)
  | pub {n : Int} {s : List UInt8} {l : List Tr} : Ok A E (.mk 7 n s l)
  | made {op n : Int} {s : List UInt8} {l : List Tr} : op ≠ 1 → (∀ x ∈ l, Ok A E x) → Ok A E (.mk op n s l)
theorem Ok.parts {A : Int → Bool} {E : Tr → Prop} {op n : Int} {s : List UInt8} {l : List Tr} (h : Ok A E (.mk op n s l)) (h1 : op ≠ 1) (h7 : op ≠ 7) (hE : ¬ E (.mk op n s l)) : ∀ x ∈ l, Ok A E x := by
  cases h with
  | exc h => exact absurd h hE
  | atom h => exact absurd rfl h1
  | pub => exact absurd rfl h7
  | made _ h => exact h
theorem Der.closed' {ds : List Nd} {l : List Int} (S : Int → Prop) (h0 : ∀ x ∈ l, S x) (hr : ∀ r ∈ rules ds, (∀ x ∈ r.src, S x) → ∀ x ∈ r.to, S x) {t : Int} (h : Der ds l t) : S t := by
  induction h with
  | base h1 => exact h0 _ h1
  | step r h1 _ h3 ih => exact hr r h1 ih _ h3
/-- Where none of E can be opened, no more can be had. -/
theorem ok_closed {A : Int → Bool} {E : Tr → Prop} {ds : List Nd} (hg : Good ds) (hE : ∀ T, E T → ∃ n s l, T = .mk 6 n s l) {l : List Int} (hl : ∀ x ∈ l, IsT ds x ∧ Ok A E (den ds x)) {t : Int} (h : Der ds l t) : Ok A E (den ds t) := by
  have hden : ∀ t, IsT ds t → den ds t = .mk (nd ds t).op (nd ds t).n (nd ds t).s ((nd ds t).l.map (den ds)) := fun t ht => den_is hg ⟨ht.1, ht.2, rfl⟩
  have hparts : ∀ t, IsT ds t → Ok A E (den ds t) → (nd ds t).op ≠ 1 → (nd ds t).op ≠ 7 → (nd ds t).op ≠ 6 → ∀ x ∈ (nd ds t).l, IsT ds x ∧ Ok A E (den ds x) := fun t ht ho h1 h7 h6 x hx => by
    rw [hden t ht] at ho
    refine ⟨hg.partT ht x hx, ho.parts h1 h7 (fun he => ?_) _ (List.mem_map.2 ⟨x, hx, rfl⟩)⟩
    obtain ⟨n, s, l, e⟩ := hE _ he
    injection e with e _ _ _
    exact h6 e
  refine (Der.closed' (fun t => IsT ds t ∧ Ok A E (den ds t)) hl (fun r hr hs x hx => ⟨(rules_terms hg hr).2 x hx, ?_⟩) h).2
  obtain ⟨t, ht, hr⟩ := rules_mem.1 hr
  have hT : IsT ds (t : Int) := ⟨by omega, by omega⟩
  unfold rulesAt at hr
  rw [← nd_of] at hr
  rcases List.mem_append.1 hr with hr | hr
  · split at hr
    · cases hr
    · rename_i h1
      obtain rfl := List.mem_singleton.1 hr
      rw [List.mem_singleton.1 hx, hden _ hT]
      refine .made h1 fun y hy => ?_
      obtain ⟨z, hz, rfl⟩ := List.mem_map.1 hy
      exact (hs z hz).2
  · unfold openRules at hr
    split at hr
    · rename_i h3
      obtain rfl := List.mem_singleton.1 hr
      exact (hparts t hT (hs _ (by simp)).2 (by omega) (by omega) (by omega) x hx).2
    · split at hr
      · rename_i h8
        split at hr
        · obtain rfl := List.mem_singleton.1 hr
          exact (hparts t hT (hs _ (by simp)).2 (by omega) (by omega) (by omega) x (List.mem_of_mem_drop (List.mem_of_mem_take hx))).2
        · cases hr
      · split at hr
        · rename_i h9
          obtain rfl := List.mem_singleton.1 hr
          exact (hparts t hT (hs _ (by simp)).2 (by omega) (by omega) (by omega) x (List.mem_of_mem_drop hx)).2
        · split at hr
          · rename_i h12
            obtain rfl := List.mem_singleton.1 hr
            exact (hparts t hT (hs _ (by simp)).2 (by omega) (by omega) (by omega) x (List.mem_of_mem_take hx)).2
          · split at hr
            · rename_i h10
              rcases List.mem_cons.1 hr with rfl | hr
              · exact (hparts t hT (hs _ (by simp)).2 (by omega) (by omega) (by omega) x (List.mem_of_mem_drop hx)).2
              · split at hr
                · rename_i hb12
                  split at hr
                  · rename_i s he
                    obtain rfl := List.mem_singleton.1 hr
                    obtain rfl := List.mem_singleton.1 hx
                    obtain ⟨hsT, hsd⟩ := sig_some he
                    have hp := hparts t hT (hs _ (by simp)).2 (by omega) (by omega) (by omega)
                    have hl2 := (hg.mayT hT).p2 (.inl h10)
                    have h0 := hp _ (getD_mem (l := (nd ds (t : Int)).l) (i := 0) (by omega))
                    have h1 := hp _ (getD_mem (l := (nd ds (t : Int)).l) (i := 1) (by omega))
                    have hl3 := (hg.mayT h1.1).p2 (.inr hb12)
                    have h2 := hparts _ h1.1 h1.2 (by omega) (by omega) (by omega) _ (getD_mem (l := (nd ds ((nd ds (t : Int)).l.getD 1 0)).l) (i := 0) (by omega))
                    rw [hden _ hsT, hsd]
                    refine .made (show (10 : Int) ≠ 1 by decide) fun y hy => ?_
                    simp only [List.map_cons, List.map_nil, List.mem_cons, List.not_mem_nil, or_false] at hy
                    rcases hy with rfl | rfl
                    · exact h0.2
                    · exact h2.2
                  · cases hr
                · cases hr
            · cases hr
/-- What can be made of the Atoms that A tells. -/
inductive Mde (A : Int → Bool) : Tr → Prop
  | atom {n : Int} {s : List UInt8} {l : List Tr} : A n = true → Mde A (.mk 1 n s l)
  | made {op n : Int} {s : List UInt8} {l : List Tr} : op ≠ 1 → (∀ x ∈ l, Mde A x) → Mde A (.mk op n s l)
theorem mde_der {A : Int → Bool} {ds : List Nd} (hg : Good ds) {l : List Int} (hA : ∀ n, A n = true → ∀ s, Is ds s ⟨1, n, [], []⟩ → s ∈ l) : ∀ (k : Nat) (t : Int), t.toNat < k → IsT ds t → Mde A (den ds t) → Der ds l t := by
  intro k
  induction k with
  | zero => intro t h; omega
  | succ k ih =>
    intro t hk ht hm
    have hi : Is ds t (nd ds t) := ⟨ht.1, ht.2, rfl⟩
    have hmay := hg.mayT ht
    have hless := hi.less hg
    have hpt := hg.partT ht
    rw [den_is hg hi] at hm
    unfold trN at hm
    by_cases h1 : (nd ds t).op = 1
    · have hd : nd ds t = ⟨1, (nd ds t).n, [], []⟩ := by
        have e1 := hmay.lenOf h1 (n := 0) (by simp [kLeast, kTab]) (by simp [kMost, kTab])
        have e2 : (nd ds t).l = [] := List.length_eq_zero_iff.1 (by omega)
        have e3 := hmay.s1
        rcases e3 with e3 | e3
        · exact nd_ext h1 rfl e3 e2
        · omega
      have hn : A (nd ds t).n = true := by
        generalize (nd ds t).n = m at *
        generalize (nd ds t).op = o at *
        cases hm with
        | atom h => exact h
        | made h _ => exact absurd h1 h
      rw [hd] at hi
      exact .base (hA _ hn t hi)
    · refine Der.made ht h1 fun x hx => ih x (by have := hless x hx; have := (hpt x hx).1; omega) (hpt x hx) ?_
      generalize hq : (nd ds t).l.map (den ds) = q at *
      have hmem : den ds x ∈ q := by rw [← hq]; exact List.mem_map.2 ⟨x, hx, rfl⟩
      generalize (nd ds t).op = o at *
      cases hm with
      | atom h => exact absurd rfl h1
      | made _ h => exact h _ hmem
end Go.Proofs.YtekieioffaafaaaDoor
end

section
/- What can be derived of an epoch: plain facts of ScheduleHides. Nothing here names a program. -/
set_option linter.unusedSimpArgs false
set_option linter.unusedVariables false
namespace Go.Proofs.YtekieioffaafaaaDoor
open Go

/-- The labels of an epoch's secrets, in the order of Inner. -/
def labs : List (List UInt8) := [joinerS, welcomeS, epochS, senderS, encryptionS, exporterS, confirmS, membershipS, resumptionS, initS]
theorem labs_ne : ∀ i, i < 10 → ∀ k, k < 10 → i ≠ k → labs.getD i [] ≠ labs.getD k [] := by decide
/-- The secrets of an epoch with one of these labels. -/
def exE (ep : Tr) (Ls : List (List UInt8)) (T : Tr) : Prop := ∃ L ∈ Ls, T = derT ep L
theorem exE_op {ep : Tr} {Ls : List (List UInt8)} : ∀ T, exE ep Ls T → ∃ n s l, T = .mk 6 n s l := fun T ⟨L, _, h⟩ => ⟨_, _, _, h⟩
theorem exE_atom {ep : Tr} {Ls : List (List UInt8)} {n : Int} : ¬ exE ep Ls (atomT n) := fun ⟨L, _, h⟩ => by
  unfold atomT derT keyT at h
  injection h with h _ _ _
  exact absurd h (by decide)
theorem exE_mix {ep : Tr} {Ls : List (List UInt8)} {a b : Tr} : ¬ exE ep Ls (mixT a b) := fun ⟨L, _, h⟩ => by
  unfold mixT derT keyT at h
  injection h with h _ _ _
  exact absurd h (by decide)
theorem exE_key {ep : Tr} {Ls : List (List UInt8)} {s c : Tr} {M : List UInt8} (hM : M ∉ Ls) : ¬ exE ep Ls (keyT s M c) := fun ⟨L, hL, h⟩ => by
  obtain ⟨_, rfl, _⟩ := keyT_inj h
  exact hM hL
theorem nok_atom {A : Int → Bool} {ep : Tr} {Ls : List (List UInt8)} {n : Int} (h : A n = false) : ¬ Ok A (exE ep Ls) (atomT n) := fun k => by
  have hE : ¬ exE ep Ls (atomT n) := exE_atom
  unfold atomT at k hE
  cases k with
  | exc k => exact hE k
  | atom k => rw [h] at k; cases k
  | made k _ => exact k rfl
theorem ok_mix {A : Int → Bool} {ep : Tr} {Ls : List (List UInt8)} {a b : Tr} (h : Ok A (exE ep Ls) (mixT a b)) : Ok A (exE ep Ls) a ∧ Ok A (exE ep Ls) b := by
  have := Ok.parts h (by decide) (by decide) exE_mix
  exact ⟨this _ (by simp), this _ (by simp)⟩
theorem ok_key {A : Int → Bool} {ep : Tr} {Ls : List (List UInt8)} {s c : Tr} {M : List UInt8} (hM : M ∉ Ls) (h : Ok A (exE ep Ls) (keyT s M c)) : Ok A (exE ep Ls) s := Ok.parts h (by decide) (by decide) (exE_key hM) _ (by simp)
theorem nok_inner {A : Int → Bool} {Ls : List (List UInt8)} {i c x p : Tr} (hn : ¬ (Ok A (exE (epochT (joinT i c x) p x) Ls) i ∧ Ok A (exE (epochT (joinT i c x) p x) Ls) c)) (hj : joinerS ∉ Ls) (he : epochS ∉ Ls) {m : Nat} (hm : m < 10) (hl : labs.getD m [] ∉ Ls) :
    ¬ Ok A (exE (epochT (joinT i c x) p x) Ls) ((innerT (joinT i c x) p x).getD m tr0) := by
  have hJ : ¬ Ok A (exE (epochT (joinT i c x) p x) Ls) (joinT i c x) := fun h => hn (ok_mix (ok_key hj h))
  have hM : ¬ Ok A (exE (epochT (joinT i c x) p x) Ls) (mixT (joinT i c x) p) := fun h => hJ (ok_mix h).1
  have hE : ¬ Ok A (exE (epochT (joinT i c x) p x) Ls) (epochT (joinT i c x) p x) := fun h => hM (ok_key he h)
  have hc : m = 0 ∨ m = 1 ∨ m = 2 ∨ m = 3 ∨ m = 4 ∨ m = 5 ∨ m = 6 ∨ m = 7 ∨ m = 8 ∨ m = 9 := by omega
  rcases hc with rfl | rfl | rfl | rfl | rfl | rfl | rfl | rfl | rfl | rfl
  · exact hJ
  · exact fun h => hM (ok_key hl h)
  · exact hE
  all_goals exact fun h => hE (ok_key hl h)
/-- Two atoms of three, and what is public: none of the secrets follows. -/
theorem hide_one {ds : List Nd} (hg : Good ds) {X : Ep} {p : Tr} (hX : EpD (joinT (atomT 0) (atomT 1) (atomT 2)) p (atomT 2) ds X) (ha : ∀ n : Int, 0 ≤ n → n < 10 → Den (atomT n) ds n) {b : Int} (hb : b = 0 ∨ b = 1) {m : Nat} (hm : m < 10) : ¬ Der ds [b, 2, 4, X.external] (X.inner.getD m 0) := fun hd => by
  let A : Int → Bool := fun n => n == b || n == 2 || n == 4
  have hE : ∀ T, exE (epochT (joinT (atomT 0) (atomT 1) (atomT 2)) p (atomT 2)) [] T → ∃ n s l, T = .mk 6 n s l := exE_op
  have hA : ∀ n : Int, 0 ≤ n → n < 10 → A n = true → IsT ds n ∧ Ok A (exE (epochT (joinT (atomT 0) (atomT 1) (atomT 2)) p (atomT 2)) []) (den ds n) := fun n h0 h1 h => by
    refine ⟨(ha n h0 h1).1, ?_⟩
    rw [(ha n h0 h1).2]
    exact .atom h
  have := ok_closed hg hE (l := [b, 2, 4, X.external]) (fun x hx => by
    simp only [List.mem_cons, List.not_mem_nil, or_false] at hx
    rcases hx with rfl | rfl | rfl | rfl
    · exact hA _ (by omega) (by omega) (by simp [A])
    · exact hA _ (by omega) (by omega) (by simp [A])
    · exact hA _ (by omega) (by omega) (by simp [A])
    · refine ⟨hX.2.1, ?_⟩
      rw [hX.2.2]
      exact .pub) hd
  rw [(hX.at hm).2] at this
  refine nok_inner (fun ⟨h0, h1⟩ => ?_) List.not_mem_nil List.not_mem_nil hm List.not_mem_nil this
  rcases hb with rfl | rfl
  · exact nok_atom (by simp [A]) h1
  · exact nok_atom (by simp [A]) h0
/-- With one of those that are derived of Epoch no other one follows. -/
theorem hide_two {ds : List Nd} (hg : Good ds) {X : Ep} {p : Tr} (hX : EpD (joinT (atomT 0) (atomT 1) (atomT 2)) p (atomT 2) ds X) (ha : ∀ n : Int, 0 ≤ n → n < 10 → Den (atomT n) ds n) {k m : Nat} (hk3 : 3 ≤ k) (hk : k < 10) (hm : m < 10) : Der ds [X.inner.getD k 0, 0, 2] (X.inner.getD m 0) ↔ m = k := by
  constructor
  · intro hd
    refine Classical.byContradiction fun hne => ?_
    let A : Int → Bool := fun n => n == 0 || n == 2
    have hA : ∀ n : Int, 0 ≤ n → n < 10 → A n = true → IsT ds n ∧ Ok A (exE (epochT (joinT (atomT 0) (atomT 1) (atomT 2)) p (atomT 2)) [labs.getD k []]) (den ds n) := fun n h0 h1 h => by
      refine ⟨(ha n h0 h1).1, ?_⟩
      rw [(ha n h0 h1).2]
      exact .atom h
    have := ok_closed hg exE_op (A := A) (E := exE (epochT (joinT (atomT 0) (atomT 1) (atomT 2)) p (atomT 2)) [labs.getD k []]) (l := [X.inner.getD k 0, 0, 2]) (fun x hx => by
      simp only [List.mem_cons, List.not_mem_nil, or_false] at hx
      rcases hx with rfl | rfl | rfl
      · refine ⟨(hX.at hk).1, ?_⟩
        rw [(hX.at hk).2]
        refine .exc ⟨labs.getD k [], by simp, ?_⟩
        have hc : k = 3 ∨ k = 4 ∨ k = 5 ∨ k = 6 ∨ k = 7 ∨ k = 8 ∨ k = 9 := by omega
        rcases hc with rfl | rfl | rfl | rfl | rfl | rfl | rfl <;> rfl
      · exact hA _ (by omega) (by omega) (by simp [A])
      · exact hA _ (by omega) (by omega) (by simp [A])) hd
    rw [(hX.at hm).2] at this
    have hl : ∀ i, i < 10 → i ≠ k → labs.getD i [] ∉ [labs.getD k []] := fun i hi hne h => labs_ne i hi k hk hne (List.mem_singleton.1 h)
    exact nok_inner (fun ⟨h0, h1⟩ => nok_atom (by simp [A]) h1) (hl 0 (by omega) (by omega)) (hl 2 (by omega) (by omega)) hm (hl m hm hne) this
  · rintro rfl
    exact .base (by simp)
theorem mde_key {A : Int → Bool} {s c : Tr} {M : List UInt8} (hs : Mde A s) (hc : Mde A c) : Mde A (keyT s M c) := .made (by decide) fun x hx => by
  simp only [List.mem_cons, List.not_mem_nil, or_false] at hx
  rcases hx with rfl | rfl | rfl
  · exact hs
  · exact .made (by decide) (fun x hx => by cases hx)
  · exact hc
theorem mde_mix {A : Int → Bool} {a b : Tr} (ha : Mde A a) (hb : Mde A b) : Mde A (mixT a b) := .made (by decide) fun x hx => by
  simp only [List.mem_cons, List.not_mem_nil, or_false] at hx
  rcases hx with rfl | rfl
  · exact ha
  · exact hb
theorem mde_none {A : Int → Bool} : Mde A noneT := .made (by decide) (fun x hx => by cases hx)
/-- With all of it every secret follows. -/
theorem have_all {ds : List Nd} (hg : Good ds) {X : Ep} {L : List Tr} (hL : L = [] ∨ L = [atomT 4]) (hX : EpD (joinT (atomT 0) (atomT 1) (atomT 2)) (pskT L) (atomT 2) ds X) (ha : ∀ n : Int, 0 ≤ n → n < 10 → Den (atomT n) ds n) : Der ds [0, 1, 2, 4] X.init := by
  let A : Int → Bool := fun n => n == 0 || n == 1 || n == 2 || n == 4
  have h9 := hX.at (i := 9) (by decide)
  have a0 : Mde A (atomT 0) := .atom (by simp [A])
  have a1 : Mde A (atomT 1) := .atom (by simp [A])
  have a2 : Mde A (atomT 2) := .atom (by simp [A])
  have a4 : Mde A (atomT 4) := .atom (by simp [A])
  have hp : Mde A (pskT L) := by
    rcases hL with rfl | rfl
    · exact mde_none
    · exact mde_mix mde_none a4
  have hn : Mde A (listT []) := .made (by decide) (fun x hx => by cases hx)
  refine mde_der hg (A := A) (fun n hn s hs => ?_) (X.init.toNat + 1) X.init (Nat.lt_succ_self _) h9.1 ?_
  · have h4 : n = 0 ∨ n = 1 ∨ n = 2 ∨ n = 4 := by
      simp only [A, Bool.or_eq_true, beq_iff_eq] at hn
      omega
    obtain ⟨l, hi, hl⟩ := den_inv hg (ha n (by omega) (by omega))
    obtain rfl := hl.nil_inv
    rw [hs.same hg hi]
    rcases h4 with rfl | rfl | rfl | rfl <;> simp
  · have e : den ds X.init = derT (epochT (joinT (atomT 0) (atomT 1) (atomT 2)) (pskT L) (atomT 2)) initS := h9.2
    rw [e]
    exact mde_key (mde_key (mde_mix (mde_key (mde_mix a0 a1) a2) hp) a2) hn
end Go.Proofs.YtekieioffaafaaaDoor
end

section
/- Rows of numbers, numbers as keys. -/
set_option linter.unusedSimpArgs false
set_option linter.unusedVariables false
namespace Go.Proofs.YtekieioffaafaaaDoor
open Go.RowKit Go.Maps

theorem i64_wf {x : Int} (h : I64 x) : (Lit.int .i64 x).wf = true := WalkArith.wf_i64 h
theorem keyInt {x : Int} (h : I64 x) : keyOf Tryd.prog 3 (.int .i64 x) = some (.int .i64 x) := keyOf_int_mk Tryd.underlying3 (i64_wf h)
theorem isKeyInt {x : Int} (h : I64 x) : WideAt.IsKeyLit (.int .i64 x) := by first | trivial | exact i64_wf h | simpa [WideAt.IsKeyLit] using i64_wf h
end Go.Proofs.YtekieioffaafaaaDoor
end

section
/- Rows of the call's own that are written; truth values in slices; what is known and what is to be gone through, in memory. -/
set_option linter.unusedSimpArgs false
set_option linter.unusedVariables false
namespace Go.Proofs.YtekieioffaafaaaDoor
open Go.RowKit Go.Maps

/-- The block that a slice lies in, if it is not empty. -/
def VB (v : Value) (b : Nat) : Prop := ∃ off sp n cap, 0 < n ∧ v = .slice (some ⟨b, off, sp⟩) n cap
theorem VB.of {b off n cap c : Nat} (h : VB (.slice (some ⟨b, off, none⟩) n cap) c) : c = b := by
  obtain ⟨o, s, n', c', _, h⟩ := h
  simp only [Value.slice.injEq, Option.some.injEq, Addr.mk.injEq] at h
  exact h.1.1.symm
/-- What a slice reads as hangs on its block alone. -/
theorem Rdv.same {size : Nat} {w w' : World} {v : Value} {n : Nat} {xs : List Value} (h : Rdv size w v n xs) (k : ∀ b, VB v b → w'.heap[b]? = w.heap[b]?) : Rdv size w' v n xs := by
  obtain ⟨a, cap, rfl, h1, h2, h3, h4, h5⟩ := h
  refine ⟨a, cap, rfl, h1, h2, h3, h4, fun ad had j u hj => ?_⟩
  subst had
  have hb : w'.heap[(ad.add j).block]? = w.heap[(ad.add j).block]? := k _ ⟨ad.off, ad.spot, n, cap, (by
    have := (List.getElem?_eq_some_iff.1 hj).1
    rw [h1] at this
    rcases Nat.eq_zero_or_pos n with c | c
    · subst c; simp at this
    · exact c), by unfold Addr.add; split <;> rfl⟩
  exact (World.cell?_of_block hb).trans (h5 ad rfl j u hj)
theorem Rdv.lt {size : Nat} {w : World} {v : Value} {n : Nat} {xs : List Value} (h : Rdv size w v n xs) (hp : 0 < n * size) {b : Nat} (hb : VB v b) : b < w.heap.size := by
  obtain ⟨a, cap, rfl, h1, h2, h3, h4, h5⟩ := h
  obtain ⟨off, sp, n', c', _, e⟩ := hb
  simp only [Value.slice.injEq] at e
  obtain ⟨rfl, _, _⟩ := e
  have hx : 0 < xs.length := by rw [h1]; exact hp
  have := World.block_lt_of_cell? _ _ (h5 _ rfl 0 xs[0] (List.getElem?_eq_getElem hx))
  simpa [Addr.add] using this
theorem RdI.same {w w' : World} {v : Value} {zs : List Int} (h : RdI w v zs) (k : ∀ b, VB v b → w'.heap[b]? = w.heap[b]?) : RdI w' v zs := Rdv.same h k
theorem RdI.turn {F : Nat → Prop} {w w' : World} {v : Value} {zs : List Int} (h : RdI w v zs) (k : Turn F w w') (hF : ∀ b, VB v b → ¬ F b) : RdI w' v zs := by
  by_cases hp : 0 < zs.length
  · exact h.same fun b hb => k.block b (Rdv.lt h (by omega) hb) (hF b hb)
  · have : zs = [] := List.eq_nil_of_length_eq_zero (by omega)
    subst this
    obtain ⟨a, cap, rfl, h1, h2, h3, h4, h5⟩ := h
    exact ⟨a, cap, rfl, h1, h2, h3, h4, fun ad had j u hj => by simp at hj⟩

/-! ## rows that are written -/
theorem Ownv.put {B : Nat} {e : TypeId} {size : Nat} {w : World} {g n cap : Nat} {xs : List Value} (h : Ownv B e size w (.slice (some ⟨g, 0, none⟩) n cap) n xs) (i : Nat) (hi : i < n * size) (u : Value) :
    Ownv B e size (w.setCell ⟨g, i, none⟩ u) (.slice (some ⟨g, 0, none⟩) n cap) n (xs.set i u) := by
  refine ⟨by rw [List.length_set]; exact h.1, ?_⟩
  rcases h.2 with ⟨hh, _⟩ | ⟨g', cap', cur, hv, hb, hg, hn, hm, hs, ht⟩
  · cases hh
  · simp only [Value.slice.injEq, Option.some.injEq, Addr.mk.injEq] at hv
    obtain ⟨⟨rfl, _⟩, _, rfl⟩ := hv
    have hc : i < cur.size := by
      rw [hs]
      exact Nat.lt_of_lt_of_le hi (Nat.mul_le_mul_right _ hn)
    refine .inr ⟨g, cap, cur.setIfInBounds i u, rfl, hb, ?_, hn, hm, by simp [hs], ?_⟩
    · simp [World.setCell, Array.getElem?_modify, hg]
    · rw [← ht]
      simp [List.take_set]
theorem Ownv.row {B : Nat} {e : TypeId} {size : Nat} {w : World} {v : Value} {n : Nat} {xs : List Value} (h : Ownv B e size w v n xs) (hp : 0 < n) :
    ∃ g cap, v = .slice (some ⟨g, 0, none⟩) n cap ∧ n ≤ cap ∧ cap ≤ maxLen ∧ B ≤ g ∧ g < w.heap.size ∧ (∀ i, i < n * size → w.cell? ⟨g, i, none⟩ = some (xs.getD i undef)) ∧ ∀ i, w.frozen? ⟨g, i, none⟩ = false := by
  rcases h.2 with ⟨hh, h0⟩ | ⟨g, cap, cur, hv, hb, hg, hn, hm, hs, ht⟩
  · omega
  · refine ⟨g, cap, hv, hn, hm, hb, (Array.getElem?_eq_some_iff.1 hg).1, fun i hi => ?_, fun i => by simp [World.frozen?, hg]⟩
    have hx : i < xs.length := by rw [h.1]; exact hi
    have hc : i < cur.size := by rw [hs]; exact Nat.lt_of_lt_of_le hi (Nat.mul_le_mul_right _ hn)
    have e1 : xs.getD i undef = cur[i] := by
      rw [List.getD_eq_getElem?_getD, ← ht, List.getElem?_take, if_pos hi]
      simp [hc]
    rw [e1]
    simp [World.cell?, hg, hc]
theorem Ownv.cut {B : Nat} {e : TypeId} {size : Nat} {w : World} {g n m cap : Nat} {xs : List Value} (h : Ownv B e size w (.slice (some ⟨g, 0, none⟩) n cap) n xs) (hm : m ≤ n) :
    Ownv B e size w (.slice (some ⟨g, 0, none⟩) m cap) m (xs.take (m * size)) := by
  have hms : m * size ≤ n * size := Nat.mul_le_mul_right _ hm
  refine ⟨by rw [List.length_take, h.1]; omega, ?_⟩
  rcases h.2 with ⟨hh, _⟩ | ⟨g', cap', cur, hv, hb, hg, hn, hm', hs, ht⟩
  · cases hh
  · simp only [Value.slice.injEq, Option.some.injEq, Addr.mk.injEq] at hv
    obtain ⟨⟨rfl, _⟩, _, rfl⟩ := hv
    refine .inr ⟨g, cap, cur, rfl, hb, hg, Nat.le_trans hm hn, hm', hs, ?_⟩
    rw [← ht, List.take_take, Nat.min_eq_left hms]
/-- A cell written elsewhere. -/
theorem Ownv.puts {B : Nat} {e : TypeId} {size : Nat} {w : World} {v : Value} {n : Nat} {xs : List Value} (h : Ownv B e size w v n xs) (g i : Nat) (u : Value) (hn : ¬ Blks v g) : Ownv B e size (w.setCell ⟨g, i, none⟩ u) v n xs :=
  Ownv.setCell h hn u

/-! ## truth values -/
def RdB (w : World) (v : Value) (bs : List Bool) : Prop := Rdv 1 w v bs.length (bs.map Value.bool)
theorem getD_map_bool (bs : List Bool) (i : Nat) (h : i < bs.length) : (bs.map Value.bool).getD i undef = .bool (bs.getD i false) := by
  simp [List.getD, List.getElem?_eq_getElem h]
theorem getD_map_int (zs : List Int) (i : Nat) (h : i < zs.length) : (zs.map (Value.int .i64)).getD i undef = .int .i64 (zs.getD i 0) := by
  simp [List.getD, List.getElem?_eq_getElem h]
theorem OwnB.row {B : Nat} {w : World} {v : Value} {bs : List Bool} (h : OwnB B w v bs) (hp : 0 < bs.length) :
    ∃ g cap, v = .slice (some ⟨g, 0, none⟩) bs.length cap ∧ bs.length ≤ cap ∧ cap ≤ maxLen ∧ B ≤ g ∧ g < w.heap.size ∧ (∀ i, i < bs.length → w.cell? ⟨g, i, none⟩ = some (.bool (bs.getD i false))) ∧ ∀ i, w.frozen? ⟨g, i, none⟩ = false := by
  obtain ⟨g, cap, hv, h1, h2, h3, h4, h5, h6⟩ := Ownv.row h hp
  exact ⟨g, cap, hv, h1, h2, h3, h4, fun i hi => by rw [h5 i (by omega), getD_map_bool bs i hi], h6⟩
theorem OwnB.put {B : Nat} {w : World} {g cap : Nat} {bs : List Bool} {n : Nat} (hn : n = bs.length) (h : OwnB B w (.slice (some ⟨g, 0, none⟩) n cap) bs) (i : Nat) (hi : i < bs.length) (b : Bool) :
    OwnB B (w.setCell ⟨g, i, none⟩ (.bool b)) (.slice (some ⟨g, 0, none⟩) n cap) (bs.set i b) := by
  subst hn
  have := Ownv.put h i (by omega) (.bool b)
  unfold OwnB
  rw [List.length_set, List.map_set]
  exact this
theorem OwnI.row {B : Nat} {w : World} {v : Value} {zs : List Int} (h : OwnI B w v zs) (hp : 0 < zs.length) :
    ∃ g cap, v = .slice (some ⟨g, 0, none⟩) zs.length cap ∧ zs.length ≤ cap ∧ cap ≤ maxLen ∧ B ≤ g ∧ g < w.heap.size ∧ (∀ i, i < zs.length → w.cell? ⟨g, i, none⟩ = some (.int .i64 (zs.getD i 0))) ∧ ∀ i, w.frozen? ⟨g, i, none⟩ = false := by
  obtain ⟨g, cap, hv, h1, h2, h3, h4, h5, h6⟩ := Ownv.row h hp
  exact ⟨g, cap, hv, h1, h2, h3, h4, fun i hi => by rw [h5 i (by omega), getD_map_int zs i hi], h6⟩

/-! ## what is known, what is to be gone through -/
structure KnS (F : Nat → Prop) (kb tb : Nat) (w : World) (s : List Bool × List Int) : Prop where
  rep : ∃ kv tv, Blk w kb 112 [kv] ∧ OwnB 0 w kv s.1 ∧ Blk w tb 22 [tv] ∧ OwnI 0 w tv s.2 ∧ F kb ∧ F tb ∧ (∀ b, Blks kv b → F b) ∧ (∀ b, Blks tv b → F b)
  lt : ∀ b, F b → b < w.heap.size
theorem KnS.same {F : Nat → Prop} {kb tb : Nat} {w w' : World} {s : List Bool × List Int} (h : KnS F kb tb w s) (k : Same F w w') (hl : w.heap.size ≤ w'.heap.size) : KnS F kb tb w' s := by
  obtain ⟨kv, tv, h1, h2, h3, h4, h5, h6, h7, h8⟩ := h.rep
  exact ⟨⟨kv, tv, h1.same (k.mono fun b e => by rw [e]; exact h5), Ownv.same h2 (k.mono h7), h3.same (k.mono fun b e => by rw [e]; exact h6), Ownv.same h4 (k.mono h8), h5, h6, h7, h8⟩, fun b hb => Nat.lt_of_lt_of_le (h.lt b hb) hl⟩
theorem KnS.turn {F G : Nat → Prop} {kb tb : Nat} {w w' : World} {s : List Bool × List Int} (h : KnS F kb tb w s) (k : Turn G w w') (hd : ∀ b, F b → ¬ G b) : KnS F kb tb w' s := h.same (k.same h.lt hd) k.size
theorem KnS.kept {F : Nat → Prop} {kb tb : Nat} {w w' : World} {s : List Bool × List Int} (h : KnS F kb tb w s) (k : Kept w w') : KnS F kb tb w' s := h.same (k.same h.lt) k.size
theorem lit1 (w : World) (t : Int) : OwnI 0 (w.alloc (.cells #[.int .i64 t] 3)) (.slice (some ⟨w.heap.size, 0, none⟩) 1 1) [t] :=
  Ownv.lit (B := 0) 3 (w := w) [.int .i64 t] (Nat.zero_le _) (by unfold maxLen; simp)

theorem Blk.ne {w : World} {g g' : Nat} {e e' : TypeId} {xs ys : List Value} (h : Blk w g e xs) (k : Blk w g' e' ys) (hne : e ≠ e') : g ≠ g' := fun hh => by
  subst hh
  unfold Blk at h k
  rw [h] at k
  simp only [Option.some.injEq, Obj.cells.injEq] at k
  exact hne k.2.1
/-- What derived's know leaves. -/
def KnowPost (F : Nat → Prop) (kb tb : Nat) (w : World) (s : List Bool × List Int) (e : Ending) (w' : World) : Prop :=
  e = .returned (.tuple #[]) ∧ ∃ F', KnS F' kb tb w' s ∧ Turn F w w' ∧ ∀ b, F' b → F b ∨ w.heap.size ≤ b
theorem know_len (s : List Bool × List Int) (l : List Int) : (know s l).1.length = s.1.length := by
  induction l generalizing s with
  | nil => rfl
  | cons a l ih =>
    show (know (know1 s a) l).1.length = _
    rw [ih]
    unfold know1
    split <;> simp
theorem know_td (s : List Bool × List Int) (l : List Int) : (know s l).2.length ≤ s.2.length + l.length := by
  induction l generalizing s with
  | nil => simp [know]
  | cons a l ih =>
    have := ih (know1 s a)
    show (know (know1 s a) l).2.length ≤ _
    have h2 : (know1 s a).2.length ≤ s.2.length + 1 := by
      unfold know1
      split <;> simp
    simp only [List.length_cons]
    omega

set_option maxHeartbeats 4000000 in
set_option maxRecDepth 100000 in
theorem know_any {F : Nat → Prop} {kb tb : Nat} {w : World} {s : List Bool × List Int} (h : KnS F kb tb w s) {v : Value} {l : List Int} (hd : RdI w v l) (hv : ∀ b, VB v b → ¬ F b) (hl : ∀ x ∈ l, 0 ≤ x ∧ x < (s.1.length : Int)) (hs : s.2.length + l.length ≤ 1000000000) :
    Calls Tryd.prog 79 #[v, .pointer (some ⟨kb, 0, none⟩), .pointer (some ⟨tb, 0, none⟩)] w (KnowPost F kb tb w (know s l)) := by
  obtain ⟨la, lc, rfl, l1, l2, l3⟩ := hd.len
  have l63 : ((l.length : Nat) : Int) ≤ 9223372036854775807 := by unfold maxLen at l2; omega
  go_enter Tryd.func79, Tryd.ntmps79
  go_wp2
  go_loopw [8] (fun i wr => ∃ k : Nat, k ≤ l.length ∧ i = .int .i64 k ∧ Turn F w wr ∧ ∃ F', KnS F' kb tb wr (know s (l.take k)) ∧ ∀ b, F' b → F b ∨ w.heap.size ≤ b) (fun i _ => l.length - (intOf i).toNat)
  case atStart => exact ⟨0, Nat.zero_le _, rfl, Turn.refl _ _, F, h, fun b hb => .inl hb⟩
  case round =>
    obtain ⟨k, hk0, rfl, ht, F', hk, hF⟩ := hrel
    have HF := Shut.mk hF
    clear hF
    by_cases hlt : k < l.length
    · have hxr := hl _ (getD_mem hlt)
      obtain ⟨rb, ro, rc, hrv, _, _, hrb, hcl⟩ := hd.addr (by omega)
      simp only [Value.slice.injEq] at hrv
      obtain ⟨rfl, _, rfl⟩ := hrv
      have hnb : ¬ F rb := hv rb ⟨ro, none, _, _, by omega, rfl⟩
      have x1 : wr.cell? ⟨rb, ro + k, none⟩ = some (.int .i64 (l.getD k 0)) := (World.cell?_of_block (ht.block rb hrb hnb)).trans (hcl k hlt)
      clear hcl
      have htk := know_take s l k hlt
      have hkl := know_len s (l.take k)
      have hkt := know_td s (l.take k)
      rw [List.length_take] at hkt
      generalize hst : know s (l.take k) = st at hk htk hkl hkt
      generalize hx : l.getD k 0 = x at x1 hxr htk
      obtain ⟨x0, x63⟩ := hxr
      obtain ⟨n, rfl⟩ := Int.eq_ofNat_of_zero_le x0
      have hnl : n < st.1.length := by omega
      obtain ⟨kv, tv, q1, q2, q3, q4, q5, q6, q7, q8⟩ := hk.rep
      obtain ⟨kg, kc, rfl, k1, k2, k3, k4, k5, k6⟩ := q2.row (by omega)
      have c1 := q1.cell 0
      have c3 := q3.cell 0
      have f3 := q3.frozen 0
      simp only [List.getElem?_cons_zero] at c1 c3
      have cn := k5 n hnl
      have fn := k6 n
      have HTK := Shut.mk htk
      have HST := Shut.mk hst
      have HX := Shut.mk hx
      have HKL := Shut.mk hkl
      have HKT := Shut.mk hkt
      clear htk hst hx hkl hkt k5 k6
      have hq := hk
      cases hb : st.1.getD n false with
      | true =>
        rw [hb] at cn
        have HB := Shut.mk hb
        clear hb
        go_wp2
        go_roundw
        case rel => exact ⟨k + 1, hlt, rfl, ht, F', by rw [HTK.out]; unfold know1; rw [Int.toNat_natCast, if_pos HB.out]; exact hq, HF.out⟩
        case measure => simp [intOf]; omega
      | false =>
        rw [hb] at cn
        have HB := Shut.mk hb
        clear hb
        have o1 := q2.put rfl n hnl true
        have t1 := turn_setCell wr ⟨kg, n, none⟩ (.bool true)
        have nkt : ¬ Blks tv kg := fun hh => Ownv.apart q2 q4 (by decide) rfl hh
        have o2 : OwnI 0 (wr.setCell ⟨kg, n, none⟩ (.bool true)) tv st.2 := Ownv.turn q4 t1 (fun b hb e => nkt (by rw [← show b = kg from e]; exact hb))
        have nk1 : kb ≠ kg := fun e => Ownv.notBlk q2 q1 (by decide) (e ▸ rfl)
        have nk3 : tb ≠ kg := fun e => Ownv.notBlk q2 q3 (by decide) (e ▸ rfl)
        have b1 := q1.turn t1 nk1
        have b3 := q3.turn t1 nk3
        have s1 := size_setCell wr ⟨kg, n, none⟩ (.bool true)
        have hl1 : ∀ b, F' b → b < (wr.setCell ⟨kg, n, none⟩ (.bool true)).heap.size := fun b hb => by rw [s1]; exact hk.lt b hb
        have c3b := b3.cell 0
        simp only [List.getElem?_cons_zero] at c3b
        generalize hW1 : wr.setCell ⟨kg, n, none⟩ (.bool true) = w1 at o1 t1 o2 b1 b3 s1 hl1 c3b
        have S1 := Shut.mk s1
        clear s1
        have k12 : Kept w1 (w1.alloc (.cells #[.int .i64 (n : Int)] 3)) := (Kept.refl w1).alloc _
        go_wp2_with (at_builtin; refine go_appi 0 tv st.2 rfl (Ownv.kept o2 k12) _ [(n : Int)] rfl (OwnI.rd (lit1 w1 n)) (by have := HKT.out; simp; omega) (Nat.zero_le _) ?_; intro v6 w6 o6 t6 l6; obtain ⟨a6, p6, hv6, _, _, _⟩ := (OwnI.rd o6).len; simp only [List.length_append, List.length_cons, List.length_nil, Nat.zero_add] at hv6; subst hv6; have b6 := (b3.kept k12).turn t6 (fun hb => Ownv.notBlk (Ownv.kept o2 k12) (b3.kept k12) (by decide) hb); have c6 := b6.cell 0; have f6 := b6.frozen 0; simp only [List.getElem?_cons_zero] at c6)
        go_roundw
        case rel =>
          have hT : Turn F w (w6.setCell ⟨tb, 0, none⟩ (.slice a6 (st.2.length + 1) p6)) := (((ht.trans t1 (fun b hb => HF.out b (by rw [show b = kg from hb]; exact q7 kg rfl))).kept k12).trans t6 (fun b hb => HF.out b (q8 b hb))).trans (turn_setCell w6 ⟨tb, 0, none⟩ _) (fun b hb => HF.out b (by rw [show b = tb from hb]; exact q6))
          have hs1 : w.heap.size ≤ w1.heap.size := by rw [S1.out]; exact ht.size
          have tS := turn_setCell w6 ⟨tb, 0, none⟩ (.slice a6 (st.2.length + 1) p6)
          have e1 := ((b1.kept k12).turn t6 (fun hb => Ownv.notBlk (Ownv.kept o2 k12) (b1.kept k12) (by decide) hb)).turn tS (Blk.ne q1 q3 (by decide))
          have e2 : OwnB 0 _ _ _ := Ownv.turn (Ownv.turn (Ownv.kept o1 k12) t6 (fun b hb hc => Ownv.apart (Ownv.kept o1 k12) (Ownv.kept o2 k12) (by decide) hb hc)) tS (fun b hb hc => nk3 (by rw [show b = tb from hc] at hb; exact (Option.some.inj hb).symm))
          have e3 := b6.set 0 (.slice a6 (st.2.length + 1) p6)
          have e4 : OwnI 0 _ _ _ := Ownv.setCell o6 (ad := ⟨tb, 0, none⟩) (Ownv.notBlk o6 b6 (by decide)) (.slice a6 (st.2.length + 1) p6)
          refine ⟨k + 1, hlt, rfl, hT, fun b => F' b ∨ (w.heap.size ≤ b ∧ b < (w6.setCell ⟨tb, 0, none⟩ (.slice a6 (st.2.length + 1) p6)).heap.size), ?_, fun b hb => hb.elim (HF.out b) (fun c => .inr c.1)⟩
          rw [HTK.out, know1, Int.toNat_natCast, if_neg (by rw [HB.out]; simp)]
          refine ⟨⟨_, _, e1, e2, e3, e4, .inl q5, .inl q6, fun b hb => .inl (q7 b hb), fun b hb => ?_⟩, fun b hb => hb.elim (fun c => ?_) (fun c => c.2)⟩
          · rcases l6 b hb with c | c
            · exact .inl (q8 b c)
            · exact .inr ⟨by have := k12.size; omega, (Ownv.lt e4 hb).1⟩
          · have h1 := hk.lt b c
            have h2 := S1.out
            have h3 := k12.size
            have h4 := t6.size
            rw [size_setCell]; omega
        case measure => simp [intOf]; omega
    · obtain rfl : k = l.length := by omega
      rw [List.take_length] at hk
      go_wp2
      go_end0
      exact ⟨rfl, F', hk, ht, HF.out⟩
end Go.Proofs.YtekieioffaafaaaDoor
end

section
/- What a term is made of: plain facts. Nothing here names a program. -/
set_option linter.unusedSimpArgs false
set_option linter.unusedVariables false
namespace Go.Proofs.YtekieioffaafaaaDoor
open Go

/-- x is in t. -/
inductive Reach (ds : List Nd) (t : Int) : Int → Prop
  | refl : 0 ≤ t → t < ds.length → Reach ds t t
  | step {x y : Int} : Reach ds t x → y ∈ (ds.getD x.toNat nd0).l → Reach ds t y

theorem Reach.bound {ds : List Nd} (hg : Good ds) {t x : Int} (h : Reach ds t x) : 0 ≤ x ∧ x ≤ t ∧ t < ds.length ∧ 0 ≤ t := by
  induction h with
  | refl h0 h1 => exact ⟨h0, Int.le_refl _, h1, h0⟩
  | step h1 h2 ih =>
    obtain ⟨a, b, c, d⟩ := ih
    have := hg.lesser (i := _) (by omega) _ h2
    omega
theorem Reach.trans {ds : List Nd} {t x y : Int} (h : Reach ds t x) (k : Reach ds x y) : Reach ds t y := by
  induction k with
  | refl _ _ => exact h
  | step _ h2 ih => exact .step ih h2

/-- The numbers of a list are all that t is made of, each once. -/
def Parts (ds : List Nd) (t : Int) (ks : List Int) : Prop := ks.Nodup ∧ ∀ x, x ∈ ks ↔ Reach ds t x
theorem Parts.length {ds : List Nd} {t : Int} {ks ls : List Int} (h : Parts ds t ks) (k : Parts ds t ls) : ks.length = ls.length :=
  ((List.perm_ext_iff_of_nodup h.1 k.1).2 fun x => (h.2 x).trans (k.2 x).symm).length_eq

theorem mem_getD {l : List Int} {k : Nat} (h : k < l.length) : l.getD k 0 ∈ l := by
  rw [List.getD_eq_getElem?_getD, List.getElem?_eq_getElem h]
  exact List.getElem_mem _
/-- What the search has: what is still to be gone through, and what was met. -/
structure Dfs (ds : List Nd) (t : Int) (zs ks : List Int) : Prop where
  met : ∀ z ∈ zs, z ∈ ks
  in' : ∀ x ∈ ks, Reach ds t x
  all : ∀ x ∈ ks, x ∉ zs → ∀ y ∈ (ds.getD x.toNat nd0).l, y ∈ ks
  top : t ∈ ks
  once : ks.Nodup
theorem Dfs.start {ds : List Nd} {t : Int} (h0 : 0 ≤ t) (h1 : t < ds.length) : Dfs ds t [t] [t] :=
  ⟨fun z hz => hz, fun x hx => by rw [List.mem_singleton.1 hx]; exact .refl h0 h1, fun x hx hn => absurd hx hn, by simp, by simp⟩
theorem Dfs.done {ds : List Nd} {t : Int} {ks : List Int} (h : Dfs ds t [] ks) : Parts ds t ks := by
  refine ⟨h.once, fun x => ⟨h.in' x, fun hr => ?_⟩⟩
  induction hr with
  | refl _ _ => exact h.top
  | step h1 h2 ih => exact h.all _ ih (by simp) _ h2
/-- .. while the parts of x are gone through: so many of them. -/
structure Dfs2 (ds : List Nd) (t x : Int) (k : Nat) (zs ks : List Int) : Prop where
  met : ∀ z ∈ zs, z ∈ ks
  in' : ∀ x ∈ ks, Reach ds t x
  all : ∀ u ∈ ks, u ∉ zs → u ≠ x → ∀ y ∈ (ds.getD u.toNat nd0).l, y ∈ ks
  own : ∀ i, i < k → (ds.getD x.toNat nd0).l.getD i 0 ∈ ks
  top : t ∈ ks
  x : x ∈ ks
  once : ks.Nodup
theorem Dfs.pop {ds : List Nd} {t : Int} {zs ks : List Int} (h : Dfs ds t zs ks) (hp : 0 < zs.length) : Dfs2 ds t (zs.getD (zs.length - 1) 0) 0 (zs.take (zs.length - 1)) ks := by
  have hx : zs.getD (zs.length - 1) 0 ∈ zs := by
    rw [List.getD_eq_getElem?_getD, List.getElem?_eq_getElem (show zs.length - 1 < zs.length by omega)]
    exact List.getElem_mem _
  refine ⟨fun z hz => h.met z (List.mem_of_mem_take hz), h.in', fun u hu hn hne y hy => h.all u hu (fun hz => ?_) y hy, fun i hi => absurd hi (Nat.not_lt_zero _), h.top, h.met _ hx, h.once⟩
  have e : zs = zs.take (zs.length - 1) ++ [zs.getD (zs.length - 1) 0] := by
    rw [List.getD_eq_getElem?_getD, List.getElem?_eq_getElem (show zs.length - 1 < zs.length by omega), Option.getD_some]
    have := List.take_succ_eq_append_getElem (l := zs) (i := zs.length - 1) (by omega)
    rw [← this, Nat.sub_add_cancel hp, List.take_length]
  rw [e] at hz
  rcases List.mem_append.1 hz with c | c
  · exact hn c
  · exact hne (List.mem_singleton.1 c)
theorem Dfs2.old {ds : List Nd} {t x : Int} {k : Nat} {zs ks : List Int} (h : Dfs2 ds t x k zs ks) (hm : (ds.getD x.toNat nd0).l.getD k 0 ∈ ks) : Dfs2 ds t x (k + 1) zs ks :=
  ⟨h.met, h.in', h.all, fun i hi => by
    by_cases c : i < k
    · exact h.own i c
    · obtain rfl : i = k := by omega
      exact hm, h.top, h.x, h.once⟩
theorem Dfs2.new {ds : List Nd} {t x : Int} {k : Nat} {zs ks : List Int} (h : Dfs2 ds t x k zs ks) (hk : k < (ds.getD x.toNat nd0).l.length) (hm : (ds.getD x.toNat nd0).l.getD k 0 ∉ ks) :
    Dfs2 ds t x (k + 1) (zs ++ [(ds.getD x.toNat nd0).l.getD k 0]) ((ds.getD x.toNat nd0).l.getD k 0 :: ks) := by
  have hmem : (ds.getD x.toNat nd0).l.getD k 0 ∈ (ds.getD x.toNat nd0).l := mem_getD hk
  refine ⟨fun z hz => ?_, fun u hu => ?_, fun u hu hn hne y hy => ?_, fun i hi => ?_, List.mem_cons_of_mem _ h.top, List.mem_cons_of_mem _ h.x, List.nodup_cons.2 ⟨hm, h.once⟩⟩
  · rcases List.mem_append.1 hz with c | c
    · exact List.mem_cons_of_mem _ (h.met z c)
    · rw [List.mem_singleton.1 c]; exact List.mem_cons_self
  · rcases List.mem_cons.1 hu with c | c
    · rw [c]; exact .step (h.in' x h.x) hmem
    · exact h.in' u c
  · rcases List.mem_cons.1 hu with c | c
    · exact absurd (List.mem_append.2 (.inr (List.mem_singleton.2 c))) hn
    · exact List.mem_cons_of_mem _ (h.all u c (fun hz => hn (List.mem_append.2 (.inl hz))) hne y hy)
  · by_cases c : i < k
    · exact List.mem_cons_of_mem _ (h.own i c)
    · obtain rfl : i = k := by omega
      exact List.mem_cons_self
theorem Dfs2.done {ds : List Nd} {t x : Int} {zs ks : List Int} (h : Dfs2 ds t x (ds.getD x.toNat nd0).l.length zs ks) : Dfs ds t zs ks :=
  ⟨h.met, h.in', fun u hu hn y hy => by
    by_cases c : u = x
    · subst c
      obtain ⟨i, hi, e⟩ := List.mem_iff_getElem.1 hy
      have := h.own i hi
      rwa [List.getD_eq_getElem?_getD, List.getElem?_eq_getElem hi, Option.getD_some, e] at this
    · exact h.all u hu hn c y hy, h.top, h.once⟩

theorem nodup_le (n : Nat) : ∀ ks : List Int, ks.Nodup → (∀ x ∈ ks, 0 ≤ x ∧ x < n) → ks.length ≤ n := by
  induction n with
  | zero =>
    intro ks _ hb
    cases ks with
    | nil => simp
    | cons x ks => have := hb x List.mem_cons_self; omega
  | succ n ih =>
    intro ks h hb
    have h1 := ih (ks.erase (n : Int)) (h.erase _) (fun x hx => by
      obtain ⟨a, b⟩ := (List.Nodup.mem_erase_iff h).1 hx
      have := hb x b
      omega)
    by_cases c : (n : Int) ∈ ks
    · rw [List.length_erase_of_mem c] at h1; omega
    · rw [List.erase_of_not_mem c] at h1; omega

/-! ## atoms -/
/-- The numbers of all atoms in t, rising. -/
def Atoms (ds : List Nd) (t : Int) (l : List Int) : Prop := l.Pairwise (· < ·) ∧ ∀ n, n ∈ l ↔ ∃ x, Reach ds t x ∧ (ds.getD x.toNat nd0).op = 1 ∧ (ds.getD x.toNat nd0).n = n
theorem sorted_unique {l m : List Int} (hl : l.Pairwise (· < ·)) (hm : m.Pairwise (· < ·)) (h : ∀ x, x ∈ l ↔ x ∈ m) : l = m := by
  induction l generalizing m with
  | nil =>
    cases m with
    | nil => rfl
    | cons y m => exact absurd ((h y).2 List.mem_cons_self) (by simp)
  | cons x l ih =>
    cases m with
    | nil => exact absurd ((h x).1 List.mem_cons_self) (by simp)
    | cons y m =>
      obtain ⟨hl1, hl2⟩ := List.pairwise_cons.1 hl
      obtain ⟨hm1, hm2⟩ := List.pairwise_cons.1 hm
      have e : x = y := by
        rcases List.mem_cons.1 ((h x).1 List.mem_cons_self) with c | c
        · exact c
        · rcases List.mem_cons.1 ((h y).2 List.mem_cons_self) with c' | c'
          · exact c'.symm
          · have := hm1 x c; have := hl1 y c'; omega
      subst e
      rw [ih hl2 hm2 fun z => ⟨fun hz => ?_, fun hz => ?_⟩]
      · rcases List.mem_cons.1 ((h z).1 (List.mem_cons_of_mem _ hz)) with c | c
        · subst c; have := hl1 z hz; omega
        · exact c
      · rcases List.mem_cons.1 ((h z).2 (List.mem_cons_of_mem _ hz)) with c | c
        · subst c; have := hm1 z hz; omega
        · exact c
theorem Atoms.unique {ds : List Nd} {t : Int} {l m : List Int} (h : Atoms ds t l) (k : Atoms ds t m) : l = m :=
  sorted_unique h.1 k.1 fun x => (h.2 x).trans (k.2 x).symm
end Go.Proofs.YtekieioffaafaaaDoor
end

section
/- The document's Rising. -/
set_option linter.unusedSimpArgs false
set_option linter.unusedVariables false
namespace Go.Proofs.YtekieioffaafaaaDoor
open Go.RowKit Go.Maps

/-- append to numbers of the call's own, at an operation: what is appended may be none. -/
theorem wp_appi {w : World} {o : Oper} {a : Act} {K : Act → World → Prop} {Q : Exit → Act → World → Prop} (s x : Operand)
    (ho : o.op = .call { callee := .builtin .append, args := #[s, x], argTypes := #[22, 22] })
    (B : Nat) (v : Value) (zs : List Int) (hs : a.eval s = v) (hw : OwnI B w v zs) (u : Value) (news : List Int) (hx : a.eval x = u) (hr : RdI w u news)
    (hl : zs.length + news.length ≤ 10000000000) (hB : B ≤ w.heap.size)
    (hK : ∀ v' w', OwnI B w' v' (zs ++ news) → Turn (Blks v) w w' → (∀ b, Blks v' b → Blks v b ∨ w.heap.size ≤ b) → K (a.put o.dst v') w') : o.wp Tryd.prog a w K Q := by
  obtain ⟨i0, hi, hz0, hz1, hz2⟩ := info_parts Tryd.infoInt
  obtain ⟨ao, cap, hu, hl', hc, hm, hno, hcell⟩ := hr
  cases ao with
  | none =>
    have e0 := hno rfl
    have em : news.length = 0 := by omega
    obtain rfl : news = [] := List.eq_nil_of_length_eq_zero em
    subst e0
    have hrun := run_append_owned_none (P := Tryd.prog) (w := w) B 22 o.type 3 i0 1 Tryd.underlying22 hi v zs.length (zs.map (Value.int .i64)) hw
    have hx' : a.eval x = .slice none 0 0 := hx.trans hu
    unfold Oper.wp
    simp [execOp, ho, resolve, invoke, builtin, hs, hx', hrun, Result.andThen]
    exact hK v w (by simpa using hw) (Turn.refl _ _) (fun b hb => .inl hb)
  | some ad =>
    obtain ⟨v', w', hrun, h2, h3, h4, h5⟩ := run_append_own_at (P := Tryd.prog) w B 22 o.type 3 i0 (.int .i64 0) 1 8 Tryd.underlying22 hi hz0 hz1 hz2 rfl (by decide) v zs.length (zs.map (Value.int .i64)) hw ad news.length cap (news.map (Value.int .i64)) hl' (hcell ad rfl) (ones_int .i64 news) (by unfold maxLen; omega) (by omega) hB
    have hx' : a.eval x = .slice (some ad) news.length cap := hx.trans hu
    unfold Oper.wp execOp
    simp only [ho, resolve, invoke, builtin, Sem.run_bind, Sem.run_pure, Result.andThen_ok, List.map_toArray, List.map_cons, List.map_nil, hs, hx', hrun]
    refine hK v' w' (by unfold OwnI; rw [List.length_append, List.map_append]; exact h2) ((Grown.turn h3).mono fun b hb => hb.symm) (fun b hb => ?_)
    rcases h5 with h | h
    · exact .inl (h.symm.trans hb)
    · rw [Blks, h] at hb
      simp only [Option.some.injEq] at hb
      exact .inr (by omega)

theorem mem_take_at {us : List Int} {k : Nat} {x : Int} (h : x ∈ us.take k) : ∃ j, j < k ∧ j < us.length ∧ us.getD j 0 = x := by
  obtain ⟨j, hj, e⟩ := List.mem_iff_getElem.1 h
  rw [List.length_take] at hj
  refine ⟨j, by omega, by omega, ?_⟩
  rw [← e, List.getElem_take, List.getD_eq_getElem?_getD, List.getElem?_eq_getElem (by omega)]
  rfl
theorem mem_drop_at {us : List Int} {k : Nat} {x : Int} (h : x ∈ us.drop k) : ∃ j, k ≤ j ∧ j < us.length ∧ us.getD j 0 = x := by
  obtain ⟨j, hj, e⟩ := List.mem_iff_getElem.1 h
  rw [List.length_drop] at hj
  refine ⟨k + j, by omega, by omega, ?_⟩
  rw [← e, List.getElem_drop, List.getD_eq_getElem?_getD, List.getElem?_eq_getElem (by omega)]
  rfl
theorem ins_sorted {us : List Int} {n : Int} {k : Nat} (hs : us.Pairwise (· < ·)) (ha : ∀ j, k ≤ j → j < us.length → n < us.getD j 0) (hb : ∀ j, j < k → j < us.length → us.getD j 0 < n) :
    (us.take k ++ [n] ++ us.drop k).Pairwise (· < ·) := by
  have ht : (us.take k).Pairwise (· < ·) := hs.sublist (List.take_sublist _ _)
  have hd : (us.drop k).Pairwise (· < ·) := hs.sublist (List.drop_sublist _ _)
  have l1 : ∀ x ∈ us.take k, x < n := fun x hx => by
    obtain ⟨j, a, b, c⟩ := mem_take_at hx
    rw [← c]; exact hb j a b
  have l2 : ∀ x ∈ us.drop k, n < x := fun x hx => by
    obtain ⟨j, a, b, c⟩ := mem_drop_at hx
    rw [← c]; exact ha j a b
  rw [List.pairwise_append]
  refine ⟨?_, hd, fun x hx y hy => ?_⟩
  · rw [List.pairwise_append]
    exact ⟨ht, List.pairwise_singleton _ _, fun x hx y hy => by rw [List.mem_singleton.1 hy]; exact l1 x hx⟩
  · rcases List.mem_append.1 hx with h | h
    · exact Int.lt_trans (l1 x h) (l2 y hy)
    · rw [List.mem_singleton.1 h]; exact l2 y hy
theorem ins_mem {us zs : List Int} {n : Int} {k m : Nat} (hm : ∀ x, x ∈ us ↔ x ∈ zs.take m) (hml : m < zs.length) (hn : zs.getD m 0 = n) (x : Int) : x ∈ us.take k ++ [n] ++ us.drop k ↔ x ∈ zs.take (m + 1) := by
  have e : zs[m] = n := by rw [← hn, List.getD_eq_getElem?_getD, List.getElem?_eq_getElem hml]; rfl
  have e2 : x ∈ zs.take (m + 1) ↔ x ∈ us ∨ x = n := by rw [List.take_succ_eq_append_getElem hml, List.mem_append, ← hm x, e, List.mem_singleton]
  rw [e2]
  have : x ∈ us ↔ x ∈ us.take k ∨ x ∈ us.drop k := by
    rw [← List.mem_append, List.take_append_drop]
  rw [this]
  simp only [List.mem_append, List.mem_singleton]
  constructor
  · rintro ((h | h) | h)
    · exact .inl (.inl h)
    · exact .inr h
    · exact .inl (.inr h)
  · rintro ((h | h) | h)
    · exact .inl (.inl h)
    · exact .inr h
    · exact .inl (.inr h)
theorem ins_len {us : List Int} {n : Int} {k : Nat} : (us.take k ++ [n] ++ us.drop k).length = us.length + 1 := by
  simp only [List.length_append, List.length_take, List.length_drop, List.length_singleton]; omega
theorem below_at {us : List Int} {n : Int} {q : Nat} (hs : us.Pairwise (· < ·)) (hq : q < us.length) (h : us.getD q 0 < n) : ∀ j, j < q + 1 → j < us.length → us.getD j 0 < n := fun j h1 h2 => by
  by_cases c : j = q
  · rw [c]; exact h
  · have := List.pairwise_iff_getElem.1 hs j q h2 hq (by omega)
    rw [List.getD_eq_getElem?_getD, List.getElem?_eq_getElem hq] at h
    rw [List.getD_eq_getElem?_getD, List.getElem?_eq_getElem h2]
    simp only [Option.getD_some] at h ⊢
    omega
theorem RdI.take {w : World} {g o c n : Nat} {us : List Int} (h : RdI w (.slice (some ⟨g, o, none⟩) n c) us) (k : Nat) (hk : k ≤ us.length) : RdI w (.slice (some ⟨g, o, none⟩) k c) (us.take k) := by
  obtain ⟨a, cap, hv, h1, h2, h3, h4, h5⟩ := h
  simp only [Value.slice.injEq] at hv
  obtain ⟨rfl, rfl, rfl⟩ := hv
  have hl : (us.take k).length = k := by rw [List.length_take]; omega
  unfold RdI
  rw [hl]
  refine ⟨_, _, rfl, by rw [List.length_map, hl, Nat.mul_one], by omega, h3, h4, fun ad had j u hj => h5 ad had j u ?_⟩
  have hjk : j < k := by
    have := (List.getElem?_eq_some_iff.1 hj).1
    simp at this; omega
  rw [← hj, List.getElem?_map, List.getElem?_map, List.getElem?_take, if_pos hjk]
theorem RdI.drop {w : World} {g o c n : Nat} {us : List Int} (h : RdI w (.slice (some ⟨g, o, none⟩) n c) us) (k : Nat) (hk : k ≤ us.length) : RdI w (.slice (some ⟨g, o + k, none⟩) (us.length - k) (c - k)) (us.drop k) := by
  obtain ⟨a, cap, hv, h1, h2, h3, h4, h5⟩ := h
  simp only [Value.slice.injEq] at hv
  obtain ⟨rfl, rfl, rfl⟩ := hv
  have hl : (us.drop k).length = us.length - k := List.length_drop
  unfold RdI
  rw [hl]
  refine ⟨_, _, rfl, by rw [List.length_map, hl, Nat.mul_one], by omega, by omega, (fun e => by cases e), fun ad had j u hj => ?_⟩
  cases had
  have := h5 ⟨g, o, none⟩ rfl (k + j) u (by rw [← hj, List.getElem?_map, List.getElem?_map, List.getElem?_drop])
  rw [Addr.add_lit] at this ⊢
  rw [← this, Nat.add_assoc]

theorem RdI.dropIf {w : World} {g c n : Nat} {us : List Int} (h : RdI w (.slice (some ⟨g, 0, none⟩) n c) us) (k : Nat) (hk : k ≤ us.length) (hc : us.length ≤ c) :
    RdI w (.slice (if c = k then some ⟨g, 0, none⟩ else some ⟨g, k, none⟩) (us.length - k) (c - k)) (us.drop k) := by
  by_cases e : c = k
  · rw [if_pos e]
    have hd : us.drop k = [] := List.drop_eq_nil_of_le (by omega)
    have hm := h.len
    obtain ⟨_, _, hv, _, h2, _⟩ := hm
    simp only [Value.slice.injEq] at hv
    rw [hd]
    refine ⟨_, _, by rw [show us.length - k = 0 by omega]; rfl, rfl, Nat.zero_le _, by omega, (fun e => by cases e), fun ad had j u hj => by cases hj⟩
  · rw [if_neg e]
    have := h.drop k hk
    rwa [Nat.zero_add] at this

theorem OwnI.form {B : Nat} {w : World} {v : Value} {us : List Int} (h : OwnI B w v us) : (us = [] ∧ v = .slice none 0 0) ∨ ∃ g c, v = .slice (some ⟨g, 0, none⟩) us.length c ∧ us.length ≤ c ∧ c ≤ maxLen := by
  obtain ⟨h1, h2⟩ := h
  rcases h2 with ⟨e, h3⟩ | ⟨g, c, cur, hv, _, _, hn, hm, _⟩
  · exact .inl ⟨List.eq_nil_of_length_eq_zero h3, e⟩
  · exact .inr ⟨g, c, hv, hn, hm⟩

theorem step_appi {w : World} {ops : Array Oper} {o : Oper} {a : Act} {K : Act → World → Prop} {Q : Exit → Act → World → Prop} {E : Prop} (s x : Operand) (hgd : o.guard = none)
    (ho : o.op = .call { callee := .builtin .append, args := #[s, x], argTypes := #[22, 22] })
    (B : Nat) (v : Value) (zs : List Int) (hs : a.eval s = v) (hw : OwnI B w v zs) (u : Value) (news : List Int) (hx : a.eval x = u) (hr : RdI w u news)
    (hl : zs.length + news.length ≤ 10000000000) (hB : B ≤ w.heap.size)
    (hK : ∀ v' w', OwnI B w' v' (zs ++ news) → Turn (Blks v) w w' → (∀ b, Blks v' b → Blks v b ∨ w.heap.size ≤ b) → K (a.put o.dst v') w') :
    if Region.wanted o (yielded ops a.tmps) = true then Oper.wp Tryd.prog o a w K Q else E := by
  have hw' : Region.wanted o (yielded ops a.tmps) = true := by simp [Region.wanted, hgd]
  rw [if_pos hw']
  exact wp_appi s x ho B v zs hs hw u news hx hr hl hB hK

end Go.Proofs.YtekieioffaafaaaDoor
end

section
/- The rules and who waits for them, in memory; what derived's second function literal does. -/
set_option linter.unusedSimpArgs false
set_option linter.unusedVariables false
namespace Go.Proofs.YtekieioffaafaaaDoor
open Go.RowKit Go.Maps

/-! ## who waits -/
structure WtS (F : Nat → Prop) (wb : Nat) (w : World) (ws : List (List Int)) : Prop where
  rep : ∃ (wv : Value) (wvs : List Value), Blk w wb 51 [wv] ∧ Ownv 0 22 1 w wv ws.length wvs ∧ (∀ i, i < ws.length → OwnI 0 w (wvs.getD i undef) (ws.getD i [])) ∧
    (∀ i j, i < ws.length → j < ws.length → i ≠ j → ∀ b, Blks (wvs.getD i undef) b → ¬ Blks (wvs.getD j undef) b) ∧ F wb ∧ (∀ b, Blks wv b → F b) ∧ ∀ i, i < ws.length → ∀ b, Blks (wvs.getD i undef) b → F b
  lt : ∀ b, F b → b < w.heap.size
theorem WtS.same {F : Nat → Prop} {wb : Nat} {w w' : World} {ws : List (List Int)} (h : WtS F wb w ws) (k : Same F w w') (hl : w.heap.size ≤ w'.heap.size) : WtS F wb w' ws := by
  obtain ⟨wv, wvs, h1, h2, h3, h4, h5, h6, h7⟩ := h.rep
  exact ⟨⟨wv, wvs, h1.same (k.mono fun b e => by rw [e]; exact h5), Ownv.same h2 (k.mono h6), fun i hi => Ownv.same (h3 i hi) (k.mono (h7 i hi)), h4, h5, h6, h7⟩, fun b hb => Nat.lt_of_lt_of_le (h.lt b hb) hl⟩
theorem WtS.turn {F G : Nat → Prop} {wb : Nat} {w w' : World} {ws : List (List Int)} (h : WtS F wb w ws) (k : Turn G w w') (hd : ∀ b, F b → ¬ G b) : WtS F wb w' ws := h.same (k.same h.lt hd) k.size

/-! ## the rules -/
def flatR : List Int → List Value → List Value
  | [], _ => []
  | m :: ms, tvs => .int .i64 m :: tvs.headD undef :: flatR ms tvs.tail
theorem flatR_length (ms : List Int) (tvs : List Value) : (flatR ms tvs).length = ms.length * 2 := by
  induction ms generalizing tvs with
  | nil => rfl
  | cons d ds ih => simp [flatR, ih]; omega
theorem flatR_at (ms : List Int) (tvs : List Value) (i : Nat) (hi : i < ms.length) : (flatR ms tvs).getD (i * 2) undef = .int .i64 (ms.getD i 0) ∧ (flatR ms tvs).getD (i * 2 + 1) undef = tvs.getD i undef := by
  induction ms generalizing tvs i with
  | nil => simp at hi
  | cons d ds ih =>
    cases i with
    | zero => cases tvs <;> simp [flatR]
    | succ i =>
      have e : (i + 1) * 2 = i * 2 + 1 + 1 := by omega
      obtain ⟨h1, h2⟩ := ih tvs.tail i (by simpa using hi)
      simp only [flatR]
      rw [e]
      simp only [List.getD_cons_succ]
      refine ⟨h1, ?_⟩
      rw [h2]
      cases tvs <;> simp
theorem flatR_snoc (ms : List Int) (tvs : List Value) (h : tvs.length = ms.length) (m : Int) (tv : Value) : flatR (ms ++ [m]) (tvs ++ [tv]) = flatR ms tvs ++ [.int .i64 m, tv] := by
  induction ms generalizing tvs with
  | nil =>
    cases tvs with
    | nil => simp [flatR]
    | cons => simp at h
  | cons e ds ih =>
    cases tvs with
    | nil => simp at h
    | cons v tvs => simp [flatR, ih tvs (by simpa using h)]
theorem flatR_set (ms : List Int) (tvs : List Value) (i : Nat) (m : Int) : (flatR ms tvs).set (i * 2) (.int .i64 m) = flatR (ms.set i m) tvs := by
  induction ms generalizing tvs i with
  | nil => simp [flatR]
  | cons d ds ih =>
    cases i with
    | zero => simp [flatR]
    | succ i =>
      have e : (i + 1) * 2 = i * 2 + 1 + 1 := by omega
      simp only [flatR, List.set_cons_succ]
      rw [e]
      simp only [List.set_cons_succ]
      rw [ih]

/-- A: what may be turned while the rules are there. -/
structure RlS (A F : Nat → Prop) (rb : Nat) (w : World) (rs : List Rl) (ms : List Int) : Prop where
  len : ms.length = rs.length
  rep : ∃ (rv : Value) (tvs : List Value), Blk w rb 131 [rv] ∧ Ownv 0 135 2 w rv rs.length (flatR ms tvs) ∧ tvs.length = rs.length ∧ (∀ i, i < rs.length → RdI w (tvs.getD i undef) (rs.getD i rl0).to) ∧
    F rb ∧ (∀ b, Blks rv b → F b) ∧ (∀ i, i < rs.length → ∀ b, VB (tvs.getD i undef) b → ¬ A b ∧ b < w.heap.size)
  lt : ∀ b, F b → b < w.heap.size

theorem RlS.turn {A A' F G : Nat → Prop} {rb : Nat} {w w' : World} {rs : List Rl} {ms : List Int} (h : RlS A F rb w rs ms) (k : Turn G w w') (hd : ∀ b, F b → ¬ G b) (hG : ∀ b, G b → A b ∨ w.heap.size ≤ b) (hA : ∀ b, A' b → A b ∨ w.heap.size ≤ b) : RlS A' F rb w' rs ms := by
  obtain ⟨rv, tvs, h1, h2, h3, h4, h5, h6, h7⟩ := h.rep
  refine ⟨h.len, ⟨rv, tvs, h1.turn k (hd _ h5), Ownv.turn h2 k (fun b hb => hd _ (h6 b hb)), h3, fun i hi => RdI.turn (h4 i hi) k (fun b hb hg => ?_), h5, h6, fun i hi b hb => ⟨fun ha => (hA b ha).elim (h7 i hi b hb).1 (fun c => by have := (h7 i hi b hb).2; omega), Nat.lt_of_lt_of_le (h7 i hi b hb).2 k.size⟩⟩, fun b hb => Nat.lt_of_lt_of_le (h.lt b hb) k.size⟩
  obtain ⟨a, c⟩ := h7 i hi b hb
  rcases hG b hg with d | d
  · exact a d
  · omega
structure St where
  rs : List Rl
  ms : List Int
  ws : List (List Int)
  s : List Bool × List Int
def addW (i : Int) (ws : List (List Int)) (t : Int) : List (List Int) := ws.set t.toNat (ws.getD t.toNat [] ++ [i])
/-- What derived's second literal makes of a rule. -/
def tell (st : St) (r : Rl) : St :=
  if r.src = [] then ⟨st.rs, st.ms, st.ws, know st.s r.to⟩ else ⟨st.rs ++ [r], st.ms ++ [(r.src.length : Int)], r.src.foldl (addW st.rs.length) st.ws, st.s⟩

/-- Where derived's own lie. -/
structure Bx where
  kb : Nat
  tb : Nat
  xb : Nat
  wb : Nat
  rb : Nat
/-- All of derived's own: what is known, who waits, the rules; S is to stay. -/
structure DvS (S : Nat → Prop) (w : World) (x : Bx) (st : St) : Prop where
  rep : ∃ FK FW FR : Nat → Prop, KnS FK x.kb x.tb w st.s ∧ WtS FW x.wb w st.ws ∧ RlS (fun b => FK b ∨ FW b ∨ FR b) FR x.rb w st.rs st.ms ∧ (∀ b, FK b → ¬ FW b ∧ ¬ FR b) ∧ (∀ b, FW b → ¬ FR b) ∧ (∀ b, (FK b ∨ FW b ∨ FR b) → ¬ S b)
  box : Blk w x.xb 132 [.func (.func 79) #[] #[.pointer (some ⟨x.kb, 0, none⟩), .pointer (some ⟨x.tb, 0, none⟩)]]
  inS : S x.xb
  old : ∀ b, S b → b < w.heap.size

def TellPost (S : Nat → Prop) (w : World) (x : Bx) (st : St) (e : Ending) (w' : World) : Prop := e = .returned (.tuple #[]) ∧ DvS S w' x st ∧ Turn (fun b => ¬ S b) w w'

set_option maxHeartbeats 4000000 in
set_option maxRecDepth 100000 in
theorem tell_none {S : Nat → Prop} {w : World} {x : Bx} {st : St} (h : DvS S w x st) {tv fv : Value} {r : Rl} (hr : r.src = []) (ht : RdI w tv r.to) (htS : ∀ b, VB tv b → S b) (hf : RdI w fv r.src)
    (htr : ∀ y ∈ r.to, 0 ≤ y ∧ y < (st.s.1.length : Int)) (hs : st.s.2.length + r.to.length ≤ 1000000000) :
    Calls Tryd.prog 81 #[tv, fv, .pointer (some ⟨x.xb, 0, none⟩), .pointer (some ⟨x.wb, 0, none⟩), .pointer (some ⟨x.rb, 0, none⟩)] w (TellPost S w x (tell st r)) := by
  have HT : Shut (tell st r = ⟨st.rs, st.ms, st.ws, know st.s r.to⟩) := ⟨by unfold tell; rw [if_pos hr]⟩
  obtain ⟨fa, fc, rfl, l1, l2, l3⟩ := hf.len
  obtain ⟨ta, tc, rfl, m1, m2, m3⟩ := ht.len
  rw [hr] at hf l1 ⊢
  clear hf
  have hbx := h.box
  have c0 := h.box.cell 0
  simp only [List.getElem?_cons_zero] at c0
  obtain ⟨FK, FW, FR, q1, q2, q3, q4, q5, q6⟩ := h.rep
  have hk := know_any q1 ht (fun b hb hF => q6 b (.inl hF) (htS b hb)) htr hs
  have hS := h.inS
  have hold := h.old
  go_enter Tryd.func81, Tryd.ntmps81
  go_wp2_with fail
  refine hk.mono ?_
  rintro e w' ⟨rfl, F', k1, k2, k3⟩
  go_wp2
  go_end0
  have hw : ∀ b, FW b → ¬ F' b := fun b hb hF => (k3 b hF).elim (fun c => (q4 b c).1 hb) (fun c => by have := q2.lt b hb; omega)
  have hrr : ∀ b, FR b → ¬ F' b := fun b hb hF => (k3 b hF).elim (fun c => (q4 b c).2 hb) (fun c => by have := q3.lt b hb; omega)
  have e3 := q3.turn (A' := fun b => F' b ∨ FW b ∨ FR b) k2 (fun b hb hF => (q4 b hF).2 hb) (fun b hb => .inl (.inl hb)) (fun b hb => hb.elim (fun c => (k3 b c).imp .inl id) (fun c => .inl (.inr c)))
  refine ⟨rfl, ?_, k2.mono fun b hb => q6 b (.inl hb)⟩
  rw [HT.out]
  refine ⟨⟨F', FW, FR, k1, q2.turn k2 (fun b hb hF => (q4 b hF).1 hb), e3, fun b hb => ⟨fun c => hw b c hb, fun c => hrr b c hb⟩, q5, fun b hb hs => ?_⟩, hbx.turn k2 (fun hF => q6 _ (.inl hF) hS), hS, fun b hb => Nat.lt_of_lt_of_le (hold b hb) k2.size⟩
  · rcases hb with c | c
    · rcases k3 b c with d | d
      · exact q6 b (.inl d) hs
      · have := hold b hs; omega
    · exact q6 b (.inr c) hs

theorem addW_len (i : Int) (l : List Int) (ws : List (List Int)) : (l.foldl (addW i) ws).length = ws.length := by
  induction l generalizing ws with
  | nil => rfl
  | cons a l ih =>
    show (l.foldl (addW i) (addW i ws a)).length = _
    rw [ih]; simp [addW]
theorem addW_take (i : Int) (l : List Int) (ws : List (List Int)) (k : Nat) (h : k < l.length) : (l.take (k + 1)).foldl (addW i) ws = addW i ((l.take k).foldl (addW i) ws) (l.getD k 0) := by
  rw [List.take_succ_eq_append_getElem h, List.foldl_append, List.getD_eq_getElem?_getD, List.getElem?_eq_getElem h]
  rfl
theorem addW_few (i : Int) (l : List Int) (ws : List (List Int)) (x : Nat) : ((l.foldl (addW i) ws).getD x []).length ≤ (ws.getD x []).length + l.length := by
  induction l generalizing ws with
  | nil => simp
  | cons a l ih =>
    have := ih (addW i ws a)
    have h2 : ((addW i ws a).getD x []).length ≤ (ws.getD x []).length + 1 := by
      unfold addW
      simp only [List.getD_eq_getElem?_getD, List.getElem?_set]
      by_cases c : a.toNat = x
      · subst c
        by_cases d : a.toNat < ws.length
        · simp [d]
        · simp [d]
      · simp [c]
    show ((l.foldl (addW i) (addW i ws a)).getD x []).length ≤ _
    simp only [List.length_cons]
    omega
/-- One more waits. -/
theorem WtS.add {F : Nat → Prop} {wb n m g cap : Nat} {w w3 : World} {ws : List (List Int)} {wvs : List Value} {v3 : Value} {i : Int} (hm : m = ws.length) (hn : n < ws.length) (q1 : Blk w wb 51 [.slice (some ⟨g, 0, none⟩) m cap])
    (q2 : Ownv 0 22 1 w (.slice (some ⟨g, 0, none⟩) m cap) m wvs) (q3 : ∀ j, j < ws.length → OwnI 0 w (wvs.getD j undef) (ws.getD j []))
    (q4 : ∀ i j, i < ws.length → j < ws.length → i ≠ j → ∀ b, Blks (wvs.getD i undef) b → ¬ Blks (wvs.getD j undef) b) (q5 : F wb) (q6 : ∀ b, Blks (.slice (some ⟨g, 0, none⟩) m cap) b → F b) (q7 : ∀ i, i < ws.length → ∀ b, Blks (wvs.getD i undef) b → F b)
    (lt : ∀ b, F b → b < w.heap.size) (o3 : OwnI 0 w3 v3 (ws.getD n [] ++ [i])) (t3 : Turn (Blks (wvs.getD n undef)) w w3) (l3 : ∀ b, Blks v3 b → Blks (wvs.getD n undef) b ∨ w.heap.size ≤ b) :
    WtS (fun b => F b ∨ (w.heap.size ≤ b ∧ b < w3.heap.size)) wb (w3.setCell ⟨g, n, none⟩ v3) (ws.set n (ws.getD n [] ++ [i])) ∧ Turn F w (w3.setCell ⟨g, n, none⟩ v3) := by
  subst hm
  have hg : ∀ j, j < ws.length → ¬ Blks (wvs.getD j undef) g := fun j hj hb => Ownv.apart (q3 j hj) q2 (by decide) hb rfl
  have hwb : wb ≠ g := fun e => Ownv.notBlk q2 q1 (by decide) (e ▸ rfl)
  have hwn : ∀ j, j < ws.length → ¬ Blks (wvs.getD j undef) wb := fun j hj hb => Ownv.notBlk (q3 j hj) q1 (by decide) hb
  have tS := turn_setCell w3 ⟨g, n, none⟩ v3
  have hv3g : ¬ Blks v3 g := fun hb => by
    rcases l3 g hb with c | c
    · exact hg n hn c
    · have := lt g (q6 g rfl); omega
  have e1 := (q1.turn t3 (hwn n hn)).turn tS hwb
  have e2 := Ownv.put (Ownv.turn q2 t3 (fun b hb hc => by rw [show b = g from (Option.some.inj hb).symm] at hc; exact hg n hn hc)) n (by omega) v3
  have hlen : wvs.length = ws.length := by have := q2.1; omega
  have gv : ∀ j, (wvs.set n v3).getD j undef = if n = j then v3 else wvs.getD j undef := fun j => by
    simp only [List.getD_eq_getElem?_getD, List.getElem?_set]
    by_cases c : n = j
    · subst c; simp [hlen, hn]
    · simp [c]
  have gw : ∀ j, (ws.set n (ws.getD n [] ++ [i])).getD j [] = if n = j then ws.getD n [] ++ [i] else ws.getD j [] := fun j => by
    simp only [List.getD_eq_getElem?_getD, List.getElem?_set]
    by_cases c : n = j
    · subst c; simp [hn]
    · simp [c]
  have e3 : OwnI 0 (w3.setCell ⟨g, n, none⟩ v3) v3 (ws.getD n [] ++ [i]) := Ownv.setCell o3 hv3g v3
  refine ⟨⟨⟨_, wvs.set n v3, e1, by rw [List.length_set]; exact e2, fun j hj => ?_, fun a b ha hb hab c hc hd => ?_, .inl q5, fun b hb => .inl (q6 b hb), fun j hj b hb => ?_⟩, fun b hb => ?_⟩, ?_⟩
  · rw [gv, gw]
    rw [List.length_set] at hj
    split
    · exact e3
    · rename_i c
      refine Ownv.setCell (Ownv.turn (q3 j hj) t3 (fun b hb hc => q4 n j hn hj c b hc hb)) (hg j hj) v3
  · rw [List.length_set] at ha hb
    rw [gv] at hc hd
    split at hc
    · rename_i c1
      split at hd
      · rename_i c2; exact hab (c1.symm.trans c2)
      · rename_i c2
        rcases l3 c hc with x | x
        · exact q4 n b hn hb c2 c x hd
        · have := lt c (q7 b hb c hd); omega
    · rename_i c1
      split at hd
      · rename_i c2
        rcases l3 c hd with x | x
        · exact q4 n a hn ha c1 c x hc
        · have := lt c (q7 a ha c hc); omega
      · exact q4 a b ha hb hab c hc hd
  · rw [List.length_set] at hj
    rw [gv] at hb
    split at hb
    · rcases l3 b hb with x | x
      · exact .inl (q7 n hn b x)
      · exact .inr ⟨x, (Ownv.lt o3 hb).1⟩
    · exact .inl (q7 j hj b hb)
  · rw [size_setCell]
    rcases hb with c | c
    · exact Nat.lt_of_lt_of_le (lt b c) t3.size
    · exact c.2
  · exact Turn.trans (t3.mono fun b hb => q7 n hn b hb) tS (fun b hb => .inl (by rw [show b = g from hb]; exact q6 g rfl))
end Go.Proofs.YtekieioffaafaaaDoor
end

section
/- What derived's second function literal does: a rule with something that it waits for. -/
set_option linter.unusedSimpArgs false
set_option linter.unusedVariables false
namespace Go.Proofs.YtekieioffaafaaaDoor
open Go.RowKit Go.Maps

theorem Tryd.infoRule : (Tryd.prog.info? 135).map (fun i => (i.zero, i.size, i.bytes)) = some (some (.agg #[.int .i64 0, .slice none 0 0]), 2, 32) := by kernel_rfl
theorem rule_lit (w : World) (m : Int) (tv : Value) : Rdv 2 (w.alloc (.cells #[.int .i64 m, tv] 135)) (.slice (some ⟨w.heap.size, 0, none⟩) 1 1) 1 [.int .i64 m, tv] := by
  refine ⟨_, 1, rfl, rfl, Nat.le_refl _, by unfold maxLen; omega, (fun h => by cases h), fun ad had j u hj => ?_⟩
  cases had
  have e : (⟨w.heap.size, 0, none⟩ : Addr).add j = ⟨w.heap.size, j, none⟩ := by rw [Addr.add_lit, Nat.zero_add]
  rw [e, cell_of_row _ w.heap.size j _ _ (0, 0) (heap_alloc_new w _)]
  simpa using hj

theorem getD_snoc_r (l : List Rl) (v : Rl) (i : Nat) : (l ++ [v]).getD i rl0 = if i < l.length then l.getD i rl0 else if i = l.length then v else rl0 := by
  simp only [List.getD_eq_getElem?_getD]
  by_cases h : i < l.length
  · rw [if_pos h, List.getElem?_append_left h]
  · rw [if_neg h, List.getElem?_append_right (by omega)]
    by_cases h2 : i = l.length
    · simp [h2]
    · rw [if_neg h2, List.getElem?_eq_none (by simp; omega)]; rfl

set_option maxHeartbeats 8000000 in
set_option maxRecDepth 100000 in
theorem tell_some {S : Nat → Prop} {w : World} {x : Bx} {st : St} (h : DvS S w x st) {tv fv : Value} {r : Rl} (hr : r.src ≠ []) (ht : RdI w tv r.to) (htS : ∀ b, VB tv b → S b) (hf : RdI w fv r.src) (hfS : ∀ b, VB fv b → S b)
    (hfr : ∀ y ∈ r.src, 0 ≤ y ∧ y < (st.ws.length : Int)) (hs : st.rs.length ≤ 1000000) (hw : ∀ y, (st.ws.getD y []).length ≤ 1000000000) (hfl : r.src.length ≤ 1000000) :
    Calls Tryd.prog 81 #[tv, fv, .pointer (some ⟨x.xb, 0, none⟩), .pointer (some ⟨x.wb, 0, none⟩), .pointer (some ⟨x.rb, 0, none⟩)] w (TellPost S w x (tell st r)) := by
  have HT : Shut (tell st r = ⟨st.rs ++ [r], st.ms ++ [(r.src.length : Int)], r.src.foldl (addW st.rs.length) st.ws, st.s⟩) := ⟨by unfold tell; rw [if_neg hr]⟩
  obtain ⟨fa, fc, rfl, l1, l2, l3⟩ := hf.len
  obtain ⟨ta, tc, rfl, m1, m2, m3⟩ := ht.len
  have h0 : (((r.src.length : Nat) : Int) == 0) = false := by
    rw [beq_eq_false_iff_ne]
    intro e
    exact hr (List.eq_nil_of_length_eq_zero (by omega))
  have HR := Shut.mk hr
  clear hr
  have l63 : ((r.src.length : Nat) : Int) ≤ 9223372036854775807 := by omega
  obtain ⟨FK, FW, FR, q1, q2, q3, q4, q5, q6⟩ := h.rep
  obtain ⟨rv, tvs, g1, g2, g3, g4, g5, g6, g7⟩ := q3.rep
  obtain ⟨ra, rc, hrv, _, _, _⟩ := (Ownv.rdv g2)
  subst hrv
  have HW := Shut.mk hw
  have HFR := Shut.mk hfr
  clear hw hfr
  go_enter Tryd.func81, Tryd.ntmps81
  go_wp2
  go_loopw [17] (fun i wr => ∃ k : Nat, k ≤ r.src.length ∧ i = .int .i64 k ∧ Turn FW w wr ∧ ∃ F', WtS F' x.wb wr ((r.src.take k).foldl (addW st.rs.length) st.ws) ∧ ∀ b, F' b → FW b ∨ w.heap.size ≤ b) (fun i _ => r.src.length - (intOf i).toNat)
  case atStart => exact ⟨0, Nat.zero_le _, rfl, Turn.refl _ _, FW, q2, fun b hb => .inl hb⟩
  case round =>
    obtain ⟨k, hk0, rfl, hT, F', hk, hF⟩ := hrel
    have HF := Shut.mk hF
    clear hF
    have b1 := g1.turn hT (fun c => q5 _ c g5)
    have cR := b1.cell 0
    simp only [List.getElem?_cons_zero] at cR
    by_cases hlt : k < r.src.length
    · have hxr := HFR.out _ (getD_mem hlt)
      obtain ⟨rb, ro, rrc, hrv, _, _, hrb, hcl⟩ := hf.addr (by omega)
      simp only [Value.slice.injEq] at hrv
      obtain ⟨rfl, _, rfl⟩ := hrv
      have hnb : ¬ FW rb := fun c => q6 rb (.inr (.inl c)) (hfS rb ⟨ro, none, _, _, by omega, rfl⟩)
      have x1 : wr.cell? ⟨rb, ro + k, none⟩ = some (.int .i64 (r.src.getD k 0)) := (World.cell?_of_block (hT.block rb hrb hnb)).trans (hcl k hlt)
      clear hcl
      have htk := addW_take st.rs.length r.src st.ws k hlt
      have hwl := addW_len st.rs.length (r.src.take k) st.ws
      have hwf := fun y => addW_few st.rs.length (r.src.take k) st.ws y
      generalize (r.src.take k).foldl (addW st.rs.length) st.ws = ws at hk htk hwl hwf
      generalize hx : r.src.getD k 0 = y at x1 hxr htk
      obtain ⟨y0, y63⟩ := hxr
      obtain ⟨n, rfl⟩ := Int.eq_ofNat_of_zero_le y0
      have hnl : n < ws.length := by omega
      have hnl' : (n : Int) < (ws.length : Int) := by omega
      have hwn := hwf n
      rw [List.length_take] at hwn
      have hw0 := HW.out n
      obtain ⟨wv, wvs, p1, p2, p3, p4, p5, p6, p7⟩ := hk.rep
      obtain ⟨wg, wc, rfl, k1, k2, k3, k4, k5, k6⟩ := Ownv.row p2 (by omega)
      have c1 := p1.cell 0
      simp only [List.getElem?_cons_zero] at c1
      have cn := k5 n (by omega)
      have fn := k6 n
      have pn := p3 n hnl
      obtain ⟨va, vc, hva, _, _, _⟩ := pn.rd.len
      have hng : ¬ Blks (wvs.getD n undef) wg := fun hb => Ownv.apart pn p2 (by decide) hb rfl
      have hnwb : ¬ Blks (wvs.getD n undef) x.wb := fun hb => Ownv.notBlk pn p1 (by decide) hb
      have hnrb : ¬ Blks (wvs.getD n undef) x.rb := fun hb => Ownv.notBlk pn b1 (by decide) hb
      rw [hva] at cn
      have HTK := Shut.mk htk
      have HX := Shut.mk hx
      have HWL := Shut.mk hwl
      have HVA := Shut.mk hva
      have HP3 := Shut.mk p3
      have HP4 := Shut.mk p4
      have HP7 := Shut.mk p7
      rw [hva] at pn hng hnwb hnrb
      clear htk hx hwl hwf k5 k6 hva p3 p4 p7
      generalize hold : ws.getD n [] = old at pn cn hng hnwb hnrb hwn HVA
      have HO := Shut.mk hold
      clear hold
      have ho1 : old.length + 1 ≤ 10000000000 := by omega
      have keepB : ∀ W, Turn (Blks (.slice va old.length vc)) wr W → W.cell? ⟨x.wb, 0, none⟩ = some (.slice (some ⟨wg, 0, none⟩) ws.length wc) ∧ W.cell? ⟨x.rb, 0, none⟩ = some (.slice ra st.rs.length rc) := fun W tW =>
        ⟨(World.cell?_of_block (tW.block x.wb (hk.lt _ p5) hnwb)).trans c1, (World.cell?_of_block (tW.block x.rb b1.lt hnrb)).trans cR⟩
      have keepC : ∀ W, Turn (Blks (.slice va old.length vc)) wr W → W.cell? ⟨wg, n, none⟩ = some (.slice va old.length vc) ∧ W.frozen? ⟨wg, n, none⟩ = false := fun W tW => ⟨(World.cell?_of_block (tW.block wg k4 hng)).trans cn, (World.frozen?_of_block (tW.block wg k4 hng)).trans fn⟩
      have a1 : ∀ ob, (wr.alloc ob).cell? ⟨x.wb, 0, none⟩ = some (.slice (some ⟨wg, 0, none⟩) ws.length wc) := fun ob => (keepB _ (((Kept.refl wr).alloc ob).turn _)).1
      have a2 : ∀ ob, (wr.alloc ob).cell? ⟨x.rb, 0, none⟩ = some (.slice ra st.rs.length rc) := fun ob => (keepB _ (((Kept.refl wr).alloc ob).turn _)).2
      have a3 : ∀ ob, (wr.alloc ob).cell? ⟨wg, n, none⟩ = some (.slice va old.length vc) := fun ob => (keepC _ (((Kept.refl wr).alloc ob).turn _)).1
      go_wp2_with fail
      go_region_law
        (first
          | (refine step_appi (.tmp 26) (.tmp 29) rfl rfl 0 _ old rfl (by first | exact Ownv.kept pn ((Kept.refl _).alloc _) | exact Ownv.kept pn ((Kept.refl _).drew.alloc _) | exact Ownv.kept pn (((Kept.refl _).drewN _).alloc _)) _ [(st.rs.length : Int)] rfl (OwnI.rd (lit1 _ _)) ho1 (Nat.zero_le _) ?_
             intro v30 w30 o30 t30 l30
             obtain ⟨a30, c30, hv30, _, _, _⟩ := (OwnI.rd o30).len
             simp only [List.length_append, List.length_cons, List.length_nil, Nat.zero_add] at hv30
             subst hv30
             have k30 := Turn.trans ((by first | exact (Kept.refl wr).alloc _ | exact (Kept.refl wr).drew.alloc _ | exact ((Kept.refl wr).drewN _).alloc _ : Kept wr _).turn (Blks (.slice va old.length vc))) t30 (fun b hb => .inl hb)
             obtain ⟨s30, s31⟩ := keepB w30 k30
             obtain ⟨s32, s33⟩ := keepC w30 k30))
      all_goals
        go_wp2
        go_roundw
        case rel =>
          have hsz : wr.heap.size ≤ wr.heap.size + 1 := Nat.le_succ _
          obtain ⟨z1, z2⟩ := WtS.add (v3 := .slice a30 (old.length + 1) c30) (i := st.rs.length) rfl hnl p1 p2 HP3.out HP4.out p5 p6 HP7.out hk.lt (by rw [HO.out]; exact o30) (by rw [HVA.out]; exact k30) (fun b hb => by rw [HVA.out]; exact (l30 b hb).imp id (fun c => by simp at c; omega))
          rw [HO.out] at z1
          refine ⟨k + 1, hlt, rfl, hT.trans z2 (fun b hb => HF.out b hb), fun b => F' b ∨ (wr.heap.size ≤ b ∧ b < w30.heap.size), by rw [HTK.out]; unfold addW; rw [Int.toNat_natCast, HO.out]; exact z1, fun b hb => hb.elim (HF.out b) (fun c => .inr (by have := hT.size; omega))⟩
        case measure => simp [intOf]; omega
    · obtain rfl : k = r.src.length := by omega
      rw [List.take_length] at hk
      have kl : Kept wr (wr.alloc (.cells #[.int .i64 (r.src.length : Int), .slice ta r.to.length tc] 135)) := (Kept.refl wr).alloc _
      have g2r := (Ownv.turn g2 hT (fun b hb c => q5 b c (g6 b hb)))
      have b1l := b1.kept kl
      obtain ⟨i0, hi, hz0, hz1, hz2⟩ := info_parts Tryd.infoRule
      have hrl := rule_lit wr (r.src.length : Int) (.slice ta r.to.length tc)
      go_wp2_with (at_builtin; refine go_app_at 0 135 2 32 i0 (.agg #[.int .i64 0, .slice none 0 0]) Tryd.underlying131 hi hz0 hz1 hz2 rfl (by decide) _ st.rs.length (flatR st.ms tvs) rfl (Ownv.kept g2r kl) _ 1 [.int .i64 (r.src.length : Int), .slice ta r.to.length tc] rfl hrl (by intro u hu; simp only [List.mem_cons, List.not_mem_nil, or_false] at hu; rcases hu with rfl | rfl <;> rfl) (by unfold maxLen; omega) (by omega) (Nat.zero_le _) ?_; intro v6 w6 o6 t6 l6; obtain ⟨a6, p6, hv6, _, _, _⟩ := Ownv.rdv o6; subst hv6; have b6 := b1l.turn t6 (fun hb => Ownv.notBlk (Ownv.kept g2r kl) b1l (by decide) hb); have c6 := b6.cell 0; have f6 := b6.frozen 0; simp only [List.getElem?_cons_zero] at c6)
      go_end0
      have tS := turn_setCell w6 ⟨x.rb, 0, none⟩ (.slice a6 (st.rs.length + 1) p6)
      have hs1 : w.heap.size ≤ wr.heap.size := hT.size
      have hs2 := kl.size
      have hs3 := t6.size
      have hs4 := tS.size
      have tA : Turn (fun b => FR b) wr (w6.setCell ⟨x.rb, 0, none⟩ (.slice a6 (st.rs.length + 1) p6)) := ((kl.turn _).trans t6 (fun b hb => .inl (g6 b hb))).trans tS (fun b hb => .inl (by rw [show b = x.rb from hb]; exact g5))
      have tB : Turn (fun b => FW b ∨ FR b) w (w6.setCell ⟨x.rb, 0, none⟩ (.slice a6 (st.rs.length + 1) p6)) := Turn.trans (hT.mono fun b hb => .inl hb) tA (fun b hb => .inl (.inr hb))
      have hfw : ∀ b, b < w.heap.size → F' b → FW b := fun b hb hf => (HF.out b hf).elim id (fun c => by omega)
      have e4 : Ownv 0 135 2 (w6.setCell ⟨x.rb, 0, none⟩ (.slice a6 (st.rs.length + 1) p6)) (.slice a6 (st.rs.length + 1) p6) (st.rs.length + 1) (flatR st.ms tvs ++ [.int .i64 (r.src.length : Int), .slice ta r.to.length tc]) := Ownv.setCell o6 (ad := ⟨x.rb, 0, none⟩) (Ownv.notBlk o6 b6 (by decide)) _
      refine ⟨rfl, ?_, tB.mono fun b hb => q6 b (.inr hb)⟩
      rw [HT.out]
      refine ⟨⟨FK, F', fun b => FR b ∨ (wr.heap.size ≤ b ∧ b < (w6.setCell ⟨x.rb, 0, none⟩ (.slice a6 (st.rs.length + 1) p6)).heap.size), q1.turn tB (fun b hb hc => hc.elim (q4 b hb).1 (q4 b hb).2), hk.turn tA (fun b hb hc => (HF.out b hb).elim (fun d => q5 b d hc) (fun d => by have := q3.lt b hc; omega)), ?_, fun b hb => ⟨fun c => ?_, fun c => c.elim (q4 b hb).2 (fun d => by have := q1.lt b hb; omega)⟩, fun b hb c => c.elim (fun d => (HF.out b hb).elim (fun e => q5 b e d) (fun e => by have := q3.lt b d; omega)) (fun d => by have := hk.lt b hb; omega), fun b hb hs => ?_⟩,
        h.box.turn tB (fun hc => q6 _ (.inr hc) h.inS), h.inS, fun b hb => Nat.lt_of_lt_of_le (h.old b hb) tB.size⟩
      · refine ⟨by rw [List.length_append, List.length_append, q3.len]; rfl, ⟨.slice a6 (st.rs.length + 1) p6, tvs ++ [.slice ta r.to.length tc], b6.set 0 _, ?_, by rw [List.length_append, List.length_append, g3]; rfl, fun i hi => ?_, .inl g5, fun b hb => ?_, fun i hi b hb => ?_⟩, fun b hb => ?_⟩
        · rw [List.length_append, flatR_snoc _ _ (by rw [g3, q3.len])]
          exact e4
        · rw [List.length_append, List.length_singleton] at hi
          rw [getD_snoc_v, getD_snoc_r, g3]
          split
          · rename_i c
            exact RdI.turn (g4 i c) tB (fun b hb hc => (g7 i c b hb).1 (.inr hc))
          · rw [if_pos (by omega), if_pos (by omega)]
            exact RdI.turn ht tB (fun b hb hc => q6 b (.inr hc) (htS b hb))
        · rcases l6 b hb with c | c
          · exact .inl (g6 b c)
          · exact .inr ⟨by omega, (Ownv.lt e4 hb).1⟩
        · rw [List.length_append, List.length_singleton] at hi
          rw [getD_snoc_v, g3] at hb
          split at hb
          · rename_i c
            obtain ⟨n1, n2⟩ := g7 i c b hb
            exact ⟨fun hc => n1 (hc.elim .inl (fun hc => .inr (hc.elim (fun d => .inl (hfw b n2 d)) (fun d => d.elim .inr (fun e => by omega))))), by omega⟩
          · rw [if_pos (by omega)] at hb
            have n1 := htS b hb
            have n2 := h.old b n1
            exact ⟨fun hc => q6 b (hc.elim .inl (fun hc => .inr (hc.elim (fun d => .inl (hfw b n2 d)) (fun d => d.elim .inr (fun e => by omega))))) n1, by omega⟩
        · rcases hb with c | c
          · exact Nat.lt_of_lt_of_le (q3.lt b c) tB.size
          · exact c.2
      · exact (q4 b hb).1 (hfw b (q1.lt b hb) c)
      · have n2 := h.old b hs
        exact q6 b (hb.elim .inl (fun hc => .inr (hc.elim (fun d => .inl (hfw b n2 d)) (fun d => d.elim .inr (fun e => by omega))))) hs
end Go.Proofs.YtekieioffaafaaaDoor
end

section
/- A node of a list that came in. -/
set_option linter.unusedSimpArgs false
set_option linter.unusedVariables false
namespace Go.Proofs.YtekieioffaafaaaDoor
open Go.RowKit Go.Maps

/-- The node at a place of a list that came in. -/
theorem RdNs.at {w : World} {v : Value} {ls : List Nd} (h : RdNs w v ls) {k : Nat} (hk : k < ls.length) : ∃ nb noff ncap la lc, v = .slice (some ⟨nb, noff, none⟩) ls.length ncap ∧
    (∀ wr, Kept w wr → wr.cell? ⟨nb, noff + k * 4, none⟩ = some (.int .i64 (ls.getD k nd0).op) ∧ wr.cell? ⟨nb, noff + k * 4 + 1, none⟩ = some (.int .i64 (ls.getD k nd0).n) ∧ wr.cell? ⟨nb, noff + k * 4 + 2, none⟩ = some (.string (strB (ls.getD k nd0).s)) ∧ wr.cell? ⟨nb, noff + k * 4 + 3, none⟩ = some (.slice la (ls.getD k nd0).l.length lc)) ∧
    RdI w (.slice la (ls.getD k nd0).l.length lc) (ls.getD k nd0).l := by
  obtain ⟨nb, noff, ncap, lvs, rfl, _, _, hnb, hnc, hnl⟩ := h.addr (by omega)
  obtain ⟨y0, y1, y2, y3⟩ := hnc k hk
  have hlr := hnl k hk
  obtain ⟨la, lc, hlv, _, _, _⟩ := hlr.len
  rw [hlv] at y3 hlr
  exact ⟨nb, noff, ncap, la, lc, rfl, fun wr hw => ⟨hw.cell (p := ⟨nb, noff + k * 4, none⟩) hnb |>.trans y0, hw.cell (p := ⟨nb, noff + k * 4 + 1, none⟩) hnb |>.trans y1, hw.cell (p := ⟨nb, noff + k * 4 + 2, none⟩) hnb |>.trans y2, hw.cell (p := ⟨nb, noff + k * 4 + 3, none⟩) hnb |>.trans y3⟩, hlr⟩

end Go.Proofs.YtekieioffaafaaaDoor
end

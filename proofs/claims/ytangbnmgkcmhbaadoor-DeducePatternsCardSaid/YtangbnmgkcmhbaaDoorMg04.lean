/- Texts of one proof, put together: DedJ, DedK, DedL, TermE, TermF, TermC, TermD, TermG, TermMn, AtA, DedN. -/
import Derived.Test.YtangbnmgkcmhbaaDoorMg03
import Derived.Test.YtangbnmgkcmhbaaDoorMg01
import Derived.Test.YtangbnmgkcmhbaaDoorShelf
import Derived.Lib.ItoaLen
import Derived.Lib.AppendStr
import Derived.Deep.RegionHeld3
import Derived.Deep.AppendLies
import Derived.Laws.Pointers
import Derived.Test.YtangbnmgkcmhbaaDoorMg02
import Derived.Deep.RegionLaw
section
/- How what is to be gone through comes to all that can be derived: the states of derived's loops. Plain facts. -/
set_option linter.unusedSimpArgs false
set_option linter.unusedVariables false
namespace Go.Proofs.YtangbnmgkcmhbaaDoor
open Go.RowKit Go.Maps

def st0 (n : Nat) : St := ⟨[], [], List.replicate n [], (List.replicate n false, [])⟩
theorem rep_nil (n y : Nat) : (List.replicate n ([] : List Int)).getD y [] = [] := by
  rw [List.getD_eq_getElem?_getD, List.getElem?_replicate]
  split <;> rfl
theorem fit0 (n : Nat) : Fit n 0 (st0 n) := ⟨by simp [st0], by simp [st0], Nat.le_refl _, fun y => by
  show ((List.replicate n ([] : List Int)).getD y []).length ≤ _
  rw [rep_nil]; exact Nat.le_refl _, Nat.zero_le _⟩
theorem getD_snoc_j (l : List Int) (x : Int) (i : Nat) : (l ++ [x]).getD i 0 = if i < l.length then l.getD i 0 else if i = l.length then x else 0 := by
  simp only [List.getD_eq_getElem?_getD]
  by_cases h : i < l.length
  · rw [if_pos h, List.getElem?_append_left h]
  · rw [if_neg h, List.getElem?_append_right (by omega)]
    by_cases h2 : i = l.length
    · simp [h2]
    · rw [if_neg h2, List.getElem?_eq_none (by simp; omega)]; rfl
theorem addW_all (i : Int) (l : List Int) (ws : List (List Int)) (hl : ∀ y ∈ l, 0 ≤ y ∧ y < (ws.length : Int)) (x : Nat) : (l.foldl (addW i) ws).getD x [] = ws.getD x [] ++ List.replicate (l.count (x : Int)) i := by
  induction l generalizing ws with
  | nil => simp
  | cons a l ih =>
    have ha := hl a List.mem_cons_self
    show ((l.foldl (addW i) (addW i ws a)).getD x []) = _
    rw [ih (addW i ws a) (fun y hy => by have := hl y (List.mem_cons_of_mem _ hy); simp [addW]; exact this)]
    have e : (addW i ws a).getD x [] = if a = (x : Int) then ws.getD x [] ++ [i] else ws.getD x [] := by
      unfold addW
      simp only [List.getD_eq_getElem?_getD, List.getElem?_set]
      by_cases c : a = (x : Int)
      · subst c
        rw [if_pos rfl, Int.toNat_natCast, if_pos rfl, if_pos (by omega)]
        simp
      · rw [if_neg c, if_neg (by omega)]
    rw [e, List.count_cons]
    by_cases c : a = (x : Int)
    · rw [if_pos c]
      have : (a == (x : Int)) = true := by simpa using c
      rw [this]
      simp [List.replicate_succ]
    · rw [if_neg c]
      have : (a == (x : Int)) = false := by simpa using c
      rw [this]
      simp

/-- The rules of R have been told. -/
structure Told (ds : List Nd) (l : List Int) (R : List Rl) (st : St) : Prop where
  wt : Waits ds.length st.rs st.ws
  ml : st.ms.length = st.rs.length
  ms : ∀ i, i < st.rs.length → st.ms.getD i 0 = ((st.rs.getD i rl0).src.length : Int)
  ne : ∀ r ∈ st.rs, r.src ≠ []
  sub : ∀ r ∈ st.rs, r ∈ rules ds
  all : ∀ r ∈ R, (r.src = [] ∧ ∀ x ∈ r.to, x ∈ st.s.2) ∨ r ∈ st.rs
  wl : WL ds.length (Der ds l) [] [] st.s
theorem told0 (ds : List Nd) (l : List Int) : Told ds l [] (st0 ds.length) := by
  have hb : ∀ x : Nat, (List.replicate ds.length false).getD x false = false := fun x => by
    rw [List.getD_eq_getElem?_getD, List.getElem?_replicate]
    split <;> rfl
  refine ⟨⟨by simp [st0], ?_, ?_, ?_⟩, rfl, ?_, ?_, ?_, ?_, ⟨by simp [st0], ?_, ?_, by simp [st0], ?_⟩⟩
  · intro x hx i hi
    simp only [st0] at hi
    rw [rep_nil] at hi
    cases hi
  · intro x hx i hi
    simp [st0] at hi
  · intro x hx
    simp only [st0]
    rw [rep_nil]; exact Nat.zero_le _
  · intro i hi
    simp [st0] at hi
  · intro r hr
    cases hr
  · intro r hr
    cases hr
  · intro r hr
    cases hr
  · intro x h0 h1
    simp only [st0]
    rw [hb]
    simp
  · intro x hx
    simp [st0] at hx
  · intro x hx
    simp [st0] at hx
theorem Told.tell {ds : List Nd} (hg : Good ds) {l : List Int} {R : List Rl} {st : St} (h : Told ds l R st) {r : Rl} (hr : r ∈ rules ds) : Told ds l (R ++ [r]) (YtangbnmgkcmhbaaDoor.tell st r) := by
  obtain ⟨hsrc, hto⟩ := rules_terms hg hr
  unfold YtangbnmgkcmhbaaDoor.tell
  by_cases c : r.src = []
  · rw [if_pos c]
    obtain ⟨w1, w2, w3⟩ := h.wl.know r.to (fun x hx => ⟨hto x hx, .step r hr (fun y hy => by rw [c] at hy; cases hy) hx⟩)
    refine ⟨h.wt, h.ml, h.ms, h.ne, h.sub, fun q hq => ?_, w1⟩
    rcases List.mem_append.1 hq with hq | hq
    · rcases h.all q hq with ⟨a, b⟩ | a
      · exact .inl ⟨a, fun x hx => by have := w3 x (by simpa using b x hx); simpa using this⟩
      · exact .inr a
    · rw [List.mem_singleton.1 hq]
      exact .inl ⟨c, fun x hx => by have := w2 x hx; simpa using this⟩
  · rw [if_neg c]
    have hall := addW_all (st.rs.length : Int) r.src st.ws (fun y hy => by rw [h.wt.len]; exact hsrc y hy)
    refine ⟨⟨by rw [addW_len]; exact h.wt.len, fun x hx i hi => ?_, fun x hx i hi => ?_, fun x hx => ?_⟩, by rw [List.length_append, List.length_append, h.ml]; rfl, fun i hi => ?_, fun q hq => ?_, fun q hq => ?_, fun q hq => ?_, h.wl⟩
    · simp only at hi ⊢
      rw [hall] at hi
      rw [List.length_append, List.length_singleton]
      rcases List.mem_append.1 hi with hi | hi
      · have := h.wt.rng x hx i hi; omega
      · have := List.eq_of_mem_replicate hi; omega
    · simp only at hi ⊢
      rw [hall, List.count_append, getD_snoc_r]
      rw [List.length_append, List.length_singleton] at hi
      split
      · rename_i ci
        rw [h.wt.cnt x hx i ci, List.count_replicate]
        have : ((st.rs.length : Int) == (i : Int)) = false := by rw [beq_eq_false_iff_ne]; omega
        rw [this]; simp
      · rw [if_pos (by omega)]
        have e : i = st.rs.length := by omega
        subst e
        have hz : (st.ws.getD x []).count (st.rs.length : Int) = 0 := by
          rw [List.count_eq_zero]
          intro hm
          have := (h.wt.rng x hx _ hm).2
          omega
        rw [hz]
        simp
    · simp only
      rw [hall, List.length_append, List.length_replicate, List.map_append, List.sum_append]
      have := h.wt.few x hx
      have := List.count_le_length (a := (x : Int)) (l := r.src)
      simp only [List.map_cons, List.map_nil, List.sum_cons, List.sum_nil]
      omega
    · simp only at hi ⊢
      rw [getD_snoc_j, getD_snoc_r, h.ml]
      rw [List.length_append, List.length_singleton] at hi
      split
      · rename_i ci
        exact h.ms i ci
      · rw [if_pos (by omega), if_pos (by omega)]
    · rcases List.mem_append.1 hq with hq | hq
      · exact h.ne q hq
      · rw [List.mem_singleton.1 hq]; exact c
    · rcases List.mem_append.1 hq with hq | hq
      · exact h.sub q hq
      · rw [List.mem_singleton.1 hq]; exact hr
    · rcases List.mem_append.1 hq with hq | hq
      · rcases h.all q hq with a | a
        · exact .inl a
        · exact .inr (List.mem_append_left _ a)
      · rw [List.mem_singleton.1 hq]
        exact .inr (List.mem_append_right _ (List.mem_singleton.2 rfl))
theorem Told.tells {ds : List Nd} (hg : Good ds) {l : List Int} : ∀ (Q : List Rl) {R : List Rl} {st : St}, Told ds l R st → (∀ r ∈ Q, r ∈ rules ds) → Told ds l (R ++ Q) (Q.foldl YtangbnmgkcmhbaaDoor.tell st)
  | [], R, st, h, _ => by simpa using h
  | r :: Q, R, st, h, hq => by
    have := Told.tells hg Q (h.tell hg (hq r List.mem_cons_self)) (fun x hx => hq x (List.mem_cons_of_mem _ hx))
    simpa using this

/-! ## the loop -/
/-- Between two rounds. -/
structure Lp (ds : List Nd) (l : List Int) (rs : List Rl) (P : List Int) (ms : List Int) (s : List Bool × List Int) : Prop where
  wl : WL ds.length (Der ds l) P [] s
  miss : Miss rs ms P [] (fun x => x ∈ P ++ [] ++ s.2)
  has : ∀ x ∈ l, x ∈ P ++ [] ++ s.2
  ax : ∀ r ∈ rules ds, (r.src = [] ∧ ∀ x ∈ r.to, x ∈ P ++ [] ++ s.2) ∨ r ∈ rs
/-- Within one: t is gone through, k of those that wait for it have heard. -/
structure Lq (ds : List Nd) (l : List Int) (rs : List Rl) (ws : List (List Int)) (P : List Int) (t k : Nat) (ms : List Int) (s : List Bool × List Int) : Prop where
  wl : WL ds.length (Der ds l) P [(t : Int)] s
  miss : Miss rs ms P ((ws.getD t []).take k) (fun x => x ∈ P ++ [(t : Int)] ++ s.2)
  has : ∀ x ∈ l, x ∈ P ++ [(t : Int)] ++ s.2
  ax : ∀ r ∈ rules ds, (r.src = [] ∧ ∀ x ∈ r.to, x ∈ P ++ [(t : Int)] ++ s.2) ∨ r ∈ rs

theorem Lp.start {ds : List Nd} {l : List Int} {st : St} (h : Told ds l (rules ds) st) (hl : ∀ x ∈ l, IsT ds x) : Lp ds l st.rs [] st.ms (know st.s l) := by
  obtain ⟨w1, w2, w3⟩ := h.wl.know l (fun x hx => ⟨hl x hx, .base hx⟩)
  exact ⟨w1, Miss.start h.ml h.ms h.ne, w2, fun r hr => (h.all r hr).imp (fun ⟨a, b⟩ => ⟨a, fun x hx => w3 x (by simpa using b x hx)⟩) id⟩
theorem last_split {l : List Int} (h : 0 < l.length) : l = l.take (l.length - 1) ++ [l.getD (l.length - 1) 0] := by
  have h1 := List.take_succ_eq_append_getElem (show l.length - 1 < l.length by omega)
  rw [List.take_of_length_le (by omega)] at h1
  rw [List.getD_eq_getElem?_getD, List.getElem?_eq_getElem (show l.length - 1 < l.length by omega)]
  exact h1

theorem Lp.pop {ds : List Nd} {l : List Int} {rs : List Rl} {ws : List (List Int)} {P ms : List Int} {s : List Bool × List Int} (h : Lp ds l rs P ms s) (hp : 0 < s.2.length) {t : Nat} (ht : s.2.getD (s.2.length - 1) 0 = (t : Int)) :
    Lq ds l rs ws P t 0 ms (s.1, s.2.take (s.2.length - 1)) ∧ t < ds.length ∧ (t : Int) ∉ P := by
  have hs := last_split hp
  rw [ht] at hs
  have hmem : ∀ x, x ∈ P ++ [] ++ s.2 ↔ x ∈ P ++ [(t : Int)] ++ s.2.take (s.2.length - 1) := fun x => by
    rw [hs]
    simp only [List.mem_append, List.mem_singleton, List.append_nil]
    constructor
    · rintro (a | a | a)
      · exact .inl (.inl a)
      · refine .inr ?_
        rw [← hs]; exact a
      · exact .inl (.inr a)
    · rintro ((a | a) | a)
      · exact .inl a
      · exact .inr (.inr a)
      · refine .inr (.inl ?_)
        rw [← hs] at a; exact a
  have hnd : (P ++ [(t : Int)] ++ s.2.take (s.2.length - 1)).Nodup := by
    have h1 := h.wl.nodup
    rw [List.append_nil, hs] at h1
    refine (List.Perm.nodup_iff ?_).1 h1
    rw [List.append_assoc]
    refine List.Perm.append_left P ?_
    have : (s.2.take (s.2.length - 1) ++ [(t : Int)]).take ((s.2.take (s.2.length - 1) ++ [(t : Int)]).length - 1) = s.2.take (s.2.length - 1) := by rw [← hs]
    exact List.perm_append_comm
  have htm : (t : Int) ∈ P ++ [] ++ s.2 := (hmem _).2 (by simp)
  refine ⟨⟨⟨h.wl.len, fun x h0 h1 => (h.wl.mem x h0 h1).trans (hmem x), fun x hx => h.wl.rng x ((hmem x).2 hx), hnd, fun x hx => h.wl.good x ((hmem x).2 hx)⟩, ?_, fun x hx => (hmem x).1 (h.has x hx), fun r hr => (h.ax r hr).imp (fun ⟨a, b⟩ => ⟨a, fun x hx => (hmem x).1 (b x hx)⟩) id⟩, ?_, ?_⟩
  · rw [List.take_zero]
    exact h.miss.mono fun x hx => (hmem x).1 hx
  · have := h.wl.rng _ htm; omega
  · intro hc
    rw [List.append_assoc, List.nodup_append] at hnd
    exact hnd.2.2 _ hc (t : Int) (by simp) rfl
theorem Lq.len {ds : List Nd} {l : List Int} {rs : List Rl} {ws : List (List Int)} {P ms : List Int} {s : List Bool × List Int} {t k : Nat} (h : Lq ds l rs ws P t k ms s) : s.2.length ≤ ds.length ∧ P.length + 1 + s.2.length ≤ ds.length := by
  have := h.wl.lenle
  simp only [List.length_append, List.length_singleton] at this
  omega
theorem Lq.step {ds : List Nd} (hg : Good ds) {l : List Int} {rs : List Rl} {ws : List (List Int)} {P ms : List Int} {s : List Bool × List Int} {t k i : Nat} (hsub : ∀ r ∈ rs, r ∈ rules ds) (hw : Waits ds.length rs ws) (ht : t < ds.length) (hn : (t : Int) ∉ P) (h : Lq ds l rs ws P t k ms s) (hk : k < (ws.getD t []).length) (he : (ws.getD t []).getD k 0 = (i : Int)) (hi : i < rs.length) :
    Lq ds l rs ws P t (k + 1) (ms.set i (ms.getD i 0 - 1)) (if ms.getD i 0 - 1 = 0 then know s (rs.getD i rl0).to else s) := by
  have htake : (ws.getD t []).take (k + 1) = (ws.getD t []).take k ++ [(i : Int)] := by
    rw [List.take_succ_eq_append_getElem hk]
    congr 2
    rw [List.getD_eq_getElem?_getD, List.getElem?_eq_getElem hk, Option.getD_some] at he
    exact he
  have hr : rs.getD i rl0 ∈ rs := by rw [List.getD_eq_getElem?_getD, List.getElem?_eq_getElem hi]; exact List.getElem_mem hi
  split
  · rename_i h0
    have hall := h.miss.all hw ht hn hk hi he h0
    obtain ⟨w1, w2, w3⟩ := h.wl.know (rs.getD i rl0).to (fun x hx => ⟨(rules_terms hg (hsub _ hr)).2 x hx, .step _ (hsub _ hr) (fun y hy => h.wl.good y (List.mem_append_left _ (hall y hy))) hx⟩)
    exact ⟨w1, by rw [htake]; exact h.miss.hear hi w3 (fun _ => w2), fun x hx => w3 x (h.has x hx), fun r hr => (h.ax r hr).imp (fun ⟨a, b⟩ => ⟨a, fun x hx => w3 x (b x hx)⟩) id⟩
  · rename_i h0
    exact ⟨h.wl, by rw [htake]; exact h.miss.hear hi (fun x hx => hx) (fun c => absurd c h0), h.has, h.ax⟩
theorem Lq.fin {ds : List Nd} {l : List Int} {rs : List Rl} {ws : List (List Int)} {P ms : List Int} {s : List Bool × List Int} {t : Nat} (hw : Waits ds.length rs ws) (ht : t < ds.length) (hn : (t : Int) ∉ P) (h : Lq ds l rs ws P t (ws.getD t []).length ms s) :
    Lp ds l rs (P ++ [(t : Int)]) ms s := by
  have e : ∀ x, x ∈ P ++ [(t : Int)] ++ s.2 ↔ x ∈ (P ++ [(t : Int)]) ++ [] ++ s.2 := fun x => by simp
  refine ⟨⟨h.wl.len, fun x h0 h1 => (h.wl.mem x h0 h1).trans (e x), fun x hx => h.wl.rng x ((e x).2 hx), by have := h.wl.nodup; simpa using this, fun x hx => h.wl.good x ((e x).2 hx)⟩, ?_, fun x hx => (e x).1 (h.has x hx), fun r hr => (h.ax r hr).imp (fun ⟨a, b⟩ => ⟨a, fun x hx => (e x).1 (b x hx)⟩) id⟩
  have := h.miss
  rw [List.take_length] at this
  exact (this.over hw ht hn).mono fun x hx => (e x).1 hx

/-! ## how far it is -/
open Classical in
/-- How many of the first n truth values of a slice are true. -/
noncomputable def trues (w : World) (v : Value) (n : Nat) : Nat := ((List.range n).filter fun i => decide (∃ g c m, v = .slice (some ⟨g, 0, none⟩) m c ∧ w.cell? ⟨g, i, none⟩ = some (.bool true))).length
def lenOf : Option Value → Nat
  | some (.slice _ n _) => n
  | _ => 0
noncomputable def far (w : World) (kb tb n : Nat) : Nat := n + lenOf (w.cell? ⟨tb, 0, none⟩) - trues w ((w.cell? ⟨kb, 0, none⟩).getD undef) n
open Classical in
theorem trues_eq {B : Nat} {w : World} {v : Value} {bs : List Bool} (h : OwnB B w v bs) : trues w v bs.length = ((List.range bs.length).filter fun i => bs.getD i false).length := by
  unfold trues
  congr 1
  refine List.filter_congr fun i hi => ?_
  rw [List.mem_range] at hi
  obtain ⟨g, cap, rfl, _, _, _, _, h5, _⟩ := h.row (by omega)
  have e := h5 i hi
  cases hb : bs.getD i false with
  | true =>
    rw [hb] at e
    exact decide_eq_true ⟨g, cap, _, rfl, e⟩
  | false =>
    rw [hb] at e
    refine decide_eq_false ?_
    rintro ⟨g', c', m', h1, h2⟩
    simp only [Value.slice.injEq, Option.some.injEq, Addr.mk.injEq] at h1
    rw [← h1.1.1, e] at h2
    cases h2
theorem WL.count {n : Nat} {G : Int → Prop} {P E : List Int} {s : List Bool × List Int} (h : WL n G P E s) : ((List.range s.1.length).filter fun i => s.1.getD i false).length = (P ++ E ++ s.2).length := by
  have h1 : ((P ++ E ++ s.2).map Int.toNat).Nodup := by
    refine List.nodup_iff_pairwise_ne.2 ?_
    rw [List.pairwise_map]
    refine List.Pairwise.imp_of_mem (R := fun a b => a ≠ b) ?_ (List.nodup_iff_pairwise_ne.1 h.nodup)
    intro a b ha hb hne e
    have := (h.rng a ha).1; have := (h.rng b hb).1
    omega
  have h2 : ((List.range s.1.length).filter fun i => s.1.getD i false).Nodup := List.Nodup.sublist List.filter_sublist List.nodup_range
  have a1 := nodup_leN h1 (m := (List.range s.1.length).filter fun i => s.1.getD i false) (fun x hx => by
    obtain ⟨y, hy, rfl⟩ := List.mem_map.1 hx
    have hr := h.rng y hy
    rw [List.mem_filter, List.mem_range, h.len]
    exact ⟨by omega, (h.mem y hr.1 hr.2).2 hy⟩)
  have a2 := nodup_leN h2 (m := (P ++ E ++ s.2).map Int.toNat) (fun x hx => by
    obtain ⟨hx1, hx2⟩ := List.mem_filter.1 hx
    rw [List.mem_range, h.len] at hx1
    refine List.mem_map.2 ⟨(x : Int), (h.mem (x : Int) (by omega) (by omega)).1 (by rw [Int.toNat_natCast]; exact hx2), by simp⟩)
  rw [List.length_map] at a1 a2
  omega
/-- What is far is what was not gone through. -/
theorem far_eq {FW S : Nat → Prop} {w : World} {x : Bx} {st : St} {ds : List Nd} {l : List Int} {P ms : List Int} (h : DvW FW S w x st) (hp : Lp ds l st.rs P ms st.s) : far w x.kb x.tb ds.length = ds.length - P.length := by
  obtain ⟨tv, t1, _, t2⟩ := h.todo
  obtain ⟨kv, k1, k2, _⟩ := h.out
  obtain ⟨ta, tc, rfl, _, _, _⟩ := t2.rd.len
  unfold far
  rw [t1, k1, Option.getD_some]
  have e := trues_eq k2
  rw [hp.wl.count, hp.wl.len] at e
  rw [e]
  simp only [lenOf, List.length_append, List.length_nil, Nat.add_zero]
  have := hp.wl.lenle
  simp only [List.length_append, List.length_nil, Nat.add_zero] at this
  omega
end Go.Proofs.YtangbnmgkcmhbaaDoor
end

section
/- Parts of the walk of eachRule. -/
set_option linter.unusedSimpArgs false
set_option linter.unusedVariables false
namespace Go.Proofs.YtangbnmgkcmhbaaDoor
open Go.RowKit Go.Maps

theorem RdI.vb' {w : World} {v : Value} {zs : List Int} (h : RdI w v zs) {b : Nat} (hb : VB v b) : b < w.heap.size := by
  refine h.vb ?_ hb
  obtain ⟨off, sp, n, cap, hn, rfl⟩ := hb
  obtain ⟨a, c, e, _⟩ := h.len
  simp only [Value.slice.injEq] at e
  omega
theorem four_of {l : List Int} (h : l.length = 4) : ∃ a b c d, l = [a, b, c, d] := by
  match l, h with
  | [a, b, c, d], _ => exact ⟨a, b, c, d, rfl⟩
theorem two_of {l : List Int} (h : l.length = 2) : ∃ a b, l = [a, b] := by
  match l, h with
  | [a, b], _ => exact ⟨a, b, rfl⟩
def TellWPost (S : Nat → Prop) (wr W : World) (x : Bx) (st : St) (e : Ending) (w' : World) : Prop := e = .returned (.tuple #[]) ∧ DvS (SN S wr W) w' x st ∧ Turn (fun b => ¬ SN S wr W b) W w'
theorem tellW {S : Nat → Prop} {wr W : World} {x : Bx} {s0 : St} {n j : Nat} (hD : DvS S wr x s0) (hfit : Fit n j s0) (hj : j ≤ 1000000) (kW : Kept wr W) {tv fv : Value} (r : Rl) (ht : RdI W tv r.to) (htS : ∀ b, VB tv b → S b ∨ wr.heap.size ≤ b) (hf : RdI W fv r.src) (hfS : ∀ b, VB fv b → S b ∨ wr.heap.size ≤ b)
    (hfr : ∀ y ∈ r.src, 0 ≤ y ∧ y < (n : Int)) (htr : ∀ y ∈ r.to, 0 ≤ y ∧ y < (n : Int)) (h1 : r.src.length ≤ 64) (h2 : r.to.length ≤ 64) :
    Calls Tryd.prog 71 #[tv, fv, .pointer (some ⟨x.xb, 0, none⟩), .pointer (some ⟨x.wb, 0, none⟩), .pointer (some ⟨x.rb, 0, none⟩)] W (TellWPost S wr W x (tell s0 r)) := by
  refine (tell_any (hD.since kW) hfit hj ht (fun b hb => (htS b hb).imp id (fun c => ⟨c, ht.vb' hb⟩)) hf (fun b hb => (hfS b hb).imp id (fun c => ⟨c, hf.vb' hb⟩)) hfr htr h1 h2).mono ?_
  rintro e w' ⟨h1, h2, h3⟩
  exact ⟨h1, h2, h3⟩
theorem VB.new {b n cap c : Nat} {a : Nat} (h : VB (.slice (some ⟨b, 0, none⟩) n cap) c) (hb : a ≤ b) : a ≤ c := by
  rw [h.of]; exact hb


theorem RdI.sub {w : World} {rb ro n lc : Nat} {l : List Int} (h : RdI w (.slice (some ⟨rb, ro, none⟩) n lc) l) (lo hi : Nat) (h1 : lo ≤ hi) (h2 : hi ≤ l.length) : RdI w (.slice (some ⟨rb, ro + lo, none⟩) (hi - lo) (lc - lo)) ((l.take hi).drop lo) := by
  obtain ⟨a, cap, e, hl, hc, hm, hno, hcell⟩ := h
  simp only [Value.slice.injEq] at e
  obtain ⟨rfl, rfl, rfl⟩ := e
  have hlen : ((l.take hi).drop lo).length = hi - lo := by rw [List.length_drop, List.length_take]; omega
  refine ⟨_, _, by rw [hlen], by rw [List.length_map, hlen, Nat.mul_one], by rw [hlen]; omega, by omega, (fun h => by cases h), fun ad had j u hj => ?_⟩
  cases had
  rw [List.getElem?_map, List.getElem?_drop, List.getElem?_take] at hj
  have := hcell ⟨rb, ro, none⟩ rfl (lo + j) u (by
    rw [List.getElem?_map, ← hj]
    by_cases c : lo + j < hi
    · rw [if_pos c]
    · rw [if_neg c] at hj; simp at hj)
  rw [Addr.add_lit] at this
  rw [Addr.add_lit, Nat.add_assoc]
  exact this
theorem SigM.look {w : World} {mb : Nat} {ds : List Nd} (h : SigM w mb ds ds.length) (hg : Good ds) (hl : ds.length ≤ 100000) {k m : Int} (hk : I64 k) (hm : I64 m) :
    ∃ c : Int, (∀ n, (Instr.lookup 139 (.map (some mb)) (.agg #[.int .i64 k, .int .i64 m]) true).run Tryd.prog (w.drewN n) = .ok (.tuple #[.int .i64 c, .bool (sigAt ds k m).isSome]) (w.drewN n)) ∧ ∀ s, sigAt ds k m = some s → c = s := by
  obtain ⟨q, D, h1, h2, h3⟩ := h
  have hb : Maps.has D (.string (k2 k m)) = (sigAt ds k m).isSome := by
    rcases h3.at hg hl hk hm with ⟨a, b⟩ | ⟨s, a, _, b, _⟩
    · rw [a, b]; rfl
    · rw [a, b]; rfl
  have one : ∀ n, ∃ c : Int, (Instr.lookup 139 (.map (some mb)) (.agg #[.int .i64 k, .int .i64 m]) true).run Tryd.prog (w.drewN n) = .ok (.tuple #[.int .i64 c, .bool (sigAt ds k m).isSome]) (w.drewN n) ∧ D.atKey (.string (k2 k m)) (.lit (.int .i64 0)) = .lit (.int .i64 c) := fun n => by
    have h1' := ownsMap_kept h1 ((Kept.refl w).drewN n)
    obtain ⟨v, ps, hrun, hv⟩ := h1'.look_ok pair_keyed Tryd.underlying139 (z := .int .i64 0) (zd := .lit (.int .i64 0)) (zp := []) (by kernel_rfl) (plainElem_int Tryd.underlying3 (by decide)) (keyPair hk hm)
    obtain ⟨c, rfl, hc, hwc⟩ := plainElem_int_inv Tryd.underlying3 hv
    rw [hb] at hrun
    exact ⟨c, hrun, congrArg Prod.fst hc⟩
  obtain ⟨c, c1, c2⟩ := one 0
  refine ⟨c, fun n => ?_, fun s hs => ?_⟩
  · obtain ⟨c', d1, d2⟩ := one n
    rw [c2] at d2
    simp only [DataW.lit.injEq, Lit.int.injEq, true_and] at d2
    rw [d2]; exact d1
  · rcases h3.at hg hl hk hm with ⟨a, _⟩ | ⟨s', a, _, _, b⟩
    · rw [a] at hs; cases hs
    · rw [a] at hs
      rw [b] at c2
      simp only [DataW.lit.injEq, Lit.int.injEq, true_and] at c2
      rw [← c2]
      exact Option.some.inj hs
end Go.Proofs.YtangbnmgkcmhbaaDoor
end

section
/- What can be derived: the walk of derived, its beginning. -/
set_option linter.unusedSimpArgs false
set_option linter.unusedVariables false
namespace Go.Proofs.YtangbnmgkcmhbaaDoor
open Go.RowKit Go.Maps

theorem Tryd.infoInts : (Tryd.prog.info? 23).map (fun i => (i.zero, i.size, i.bytes)) = some (some (.slice none 0 0), 1, 24) := by kernel_rfl
/-- make([][]int, n). -/
theorem go_mkll {w : World} {ops : Array Oper} {rest : List Oper} {a : Act} {Q : Exit → Act → World → Prop} {d : Option Tmp} {ty : TypeId} {ps : String} {af : Array Edge} {l c : Operand}
    (n : Nat) (L : Int) (hl : a.eval l = .int .i64 L) (hc : a.eval c = .int .i64 L) (hL : L = (n : Int)) (h1 : n ≤ 1000000000)
    (hK : ∀ w', Ownv w.heap.size 23 1 w' (.slice (some ⟨w.heap.size, 0, none⟩) n n) n (List.replicate n (.slice none 0 0)) → Kept w w' → w'.heap.size = w'.heap.size → wpList Tryd.prog ops Q rest (a.put d (.slice (some ⟨w.heap.size, 0, none⟩) n n)) w') :
    wpList Tryd.prog ops Q (⟨d, .makeSlice 52 l c, ty, ps, af, none⟩ :: rest) a w := by
  obtain ⟨i0, hi, hz0, hz1, hz2⟩ := info_parts Tryd.infoInts
  refine wpList_make_full w rfl l c 52 rfl w.heap.size 23 i0 (.slice none 0 0) 1 Tryd.underlying52 hi hz0 hz1 .i64 .i64 L L n hl hc hL hL (by rw [hz2]; omega) (by unfold maxLen; omega) (Nat.le_refl _) ?_
  intro w' ho hg
  refine hK w' ?_ ((Below.refl w.heap.size w).grown hg (Nat.le_refl _) fun k hk => by cases hk) rfl
  unfold Ownv
  simpa [toList_madeCells_one, Value.cells] using ho
theorem rep_val (n i : Nat) : (List.replicate n (Value.slice none 0 0)).getD i undef = if i < n then .slice none 0 0 else undef := by
  rw [List.getD_eq_getElem?_getD, List.getElem?_replicate]
  split <;> rfl
/-- What derived begins with. -/
theorem dvs_init {W : World} {N0 kg wg n : Nat} {x : Bx} (o1 : N0 ≤ kg) (o2 : kg < x.kb) (o3 : x.kb < wg) (o4 : wg < x.wb) (o5 : x.wb < x.rb) (o6 : x.rb < x.tb) (o7 : x.tb < x.xb)
    (hK : OwnB 0 W (.slice (some ⟨kg, 0, none⟩) n n) (List.replicate n false)) (hkb : Blk W x.kb 60 [.slice (some ⟨kg, 0, none⟩) n n]) (htb : Blk W x.tb 23 [.slice none 0 0])
    (hW : Ownv 0 23 1 W (.slice (some ⟨wg, 0, none⟩) n n) n (List.replicate n (.slice none 0 0))) (hwb : Blk W x.wb 52 [.slice (some ⟨wg, 0, none⟩) n n]) (hrb : Blk W x.rb 119 [.slice none 0 0])
    (hxb : Blk W x.xb 120 [.func (.func 69) #[] #[.pointer (some ⟨x.kb, 0, none⟩), .pointer (some ⟨x.tb, 0, none⟩)]]) :
    DvS (fun b => b < N0 ∨ b = x.xb) W x (st0 n) := by
  have lx := hxb.lt
  refine ⟨⟨fun b => b = kg ∨ b = x.kb ∨ b = x.tb, fun b => b = wg ∨ b = x.wb, fun b => b = x.rb, ⟨⟨_, _, hkb, hK, htb, OwnI.nil _ _, .inr (.inl rfl), .inr (.inr rfl), fun b hb => ?_, fun b hb => by cases hb⟩, fun b hb => by omega⟩, ⟨⟨_, _, hwb, by simpa [st0] using hW, fun i hi => ?_, fun i j hi hj hij b hb => ?_, .inr rfl, fun b hb => ?_, fun i hi b hb => ?_⟩, fun b hb => by omega⟩,
    ⟨rfl, ⟨.slice none 0 0, [], hrb, World.ownsRow_nil _ _ _ _, rfl, fun i hi => absurd hi (Nat.not_lt_zero _), rfl, (fun b hb => by cases hb), fun i hi => absurd hi (Nat.not_lt_zero _)⟩, fun b hb => by omega⟩, fun b hb => ⟨fun c => by omega, fun c => by omega⟩, fun b hb c => by omega, fun b hb hs => by omega⟩, hxb, .inr rfl, fun b hb => by omega⟩
  · have : b = kg := (Option.some.inj hb).symm
    exact .inl this
  · simp only [st0, List.length_replicate] at hi ⊢
    rw [rep_val, if_pos hi, rep_nil]
    exact OwnI.nil _ _
  · simp only [st0, List.length_replicate] at hi
    rw [rep_val, if_pos hi] at hb
    cases hb
  · have : b = wg := (Option.some.inj hb).symm
    exact .inl this
  · simp only [st0, List.length_replicate] at hi
    rw [rep_val, if_pos hi] at hb
    cases hb
end Go.Proofs.YtangbnmgkcmhbaaDoor
end

section
/- Walks of package term: a node's text among others. -/
set_option linter.unusedSimpArgs false
set_option linter.unusedVariables false
namespace Go.Proofs.YtangbnmgkcmhbaaDoor
open Go.RowKit Go.Maps

theorem clone_any {w : World} {v : Value} {zs : List Int} (h : RdI w v zs) (hl : zs.length ≤ 10000000000) :
    Calls Tryd.prog 66 #[v] w fun e w' => ∃ v', e = .returned v' ∧ OwnI w.heap.size w' v' zs ∧ Kept w w' := by
  by_cases hp : 0 < zs.length
  · obtain ⟨b, off, cap, rfl, hc, hm, hb, hcell⟩ := h.addr hp
    refine (Tryd.slices_Clone_int b off zs.length cap zs w (Nat.le_refl _) (by omega) hcell).mono ?_
    rintro e w' ⟨v', rfl, ho, _, hk⟩
    exact ⟨v', rfl, by rw [List.take_length] at ho; exact ho, hk⟩
  · obtain rfl : zs = [] := List.eq_nil_of_length_eq_zero (by omega)
    obtain ⟨a, cap, rfl, h1, h2, h3⟩ := h.len
    cases a with
    | none =>
      refine (Tryd.slices_Clone_int_nil _ _ w).mono ?_
      rintro e w' ⟨rfl, rfl⟩
      exact ⟨_, rfl, OwnI.nil _ _, Kept.refl _⟩
    | some a =>
      refine (Tryd.slices_Clone_int_zero a cap w).mono ?_
      rintro e w' ⟨v', rfl, ho, _, hk⟩
      exact ⟨v', rfl, ho, hk⟩

/-- Bytes as numbers. -/
def toI (bs : List UInt8) : List Int := bs.map fun b => (b.toNat : Int)
theorem toI_length (bs : List UInt8) : (toI bs).length = bs.length := by simp [toI]
theorem toI_append (a b : List UInt8) : toI (a ++ b) = toI a ++ toI b := by simp [toI]
theorem toI_cells (bs : List UInt8) : (toI bs).map (Value.int .u8) = Lib.byteCells bs := by simp [toI, Lib.byteCells, Function.comp_def]
theorem strOf_toI (bs : List UInt8) : strOfNums (toI bs) = strB bs := by
  have h : (toI bs).map (fun n => UInt8.ofNat n.toNat) = bs := by
    unfold toI
    rw [List.map_map]
    conv => rhs; rw [← List.map_id bs]
    apply List.map_congr_left
    intro b _
    simp
  have h2 := strOf_toList (toI bs)
  rw [h] at h2
  cases hs : strOfNums (toI bs) with
  | mk data =>
    rw [hs, ByteArray.toList_eq] at h2
    unfold strB
    simp only at h2
    congr 1
    rw [← h2]
/-- v is a row of bytes of the call's own. -/
def OwnU (B : Nat) (w : World) (v : Value) (bs : List UInt8) : Prop := Own B 5 w v (toI bs)
theorem OwnU.below {B : Nat} {w w' : World} {v : Value} {bs : List UInt8} (h : OwnU B w v bs) (k : Kept w w') : OwnU B w' v bs := Own.kept h k
theorem strU {B : Nat} {w : World} {v : Value} {bs : List UInt8} (h : OwnU B w v bs) : (convert 104 9 v).run Tryd.prog w = .ok (.string (strB bs)) w := by
  rw [← strOf_toI]; exact strs0 (Own.rd h)

theorem itoa_len {i : Int} (h : I64 i) : (Lib.itoa i).length ≤ 21 := Lib.itoa_length_le i h.1 h.2

theorem appendInt_any {B : Nat} {w : World} {v : Value} {bs : List UInt8} (ho : OwnU B w v bs) (hB : B ≤ w.heap.size) (hl : bs.length ≤ 1000000) {i : Int} (hi : I64 i) (ht : Lib.TabBelow Tryd.prog B w "internal/strconv.uint64pow10" .u64 Lib.pow10Tab) :
    Calls Tryd.prog 64 #[v, .int .i64 i, .int .i64 10] w fun e w' => ∃ v', e = .returned v' ∧ OwnU B w' v' (bs ++ Lib.itoa i) ∧ Below B w w' := by
  unfold OwnU Own Ownv at ho
  rw [toI_cells, toI_length] at ho
  refine (Tryd.strconv_AppendInt_10 B bs.length i hi.1 hi.2 v (Lib.byteCells bs) w ho hB (by omega) ht).mono ?_
  rintro e w' ⟨v', rfl, h1, h2, _⟩
  refine ⟨v', rfl, ?_, h2⟩
  unfold OwnU Own Ownv
  rw [toI_cells, toI_length, List.length_append]
  simpa [Lib.byteCells] using h1

/-- append of bytes to bytes of the call's own: which blocks may turn. -/
theorem go_appbt {w : World} {ops : Array Oper} {rest : List Oper} {a : Act} {Q : Exit → Act → World → Prop} {d : Option Tmp} {ty : TypeId} {ps : String} {af : Array Edge} {s x : Operand}
    (B : Nat) (v : Value) (zs : List Int) (hs : a.eval s = v) (ho : Own B 5 w v zs) (u : Value) (news : List Int) (hx : a.eval x = u) (hr : Rd w u news)
    (hl : zs.length + news.length ≤ 140737488355328) (hB : B ≤ w.heap.size)
    (hK : ∀ v' w', Own B 5 w' v' (zs ++ news) → Turn (Blks v) w w' → (∀ b, Blks v' b → Blks v b ∨ w.heap.size ≤ b) → wpList Tryd.prog ops Q rest (a.put d v') w') :
    wpList Tryd.prog ops Q (⟨d, .call { callee := .builtin .append, args := #[s, x], argTypes := #[104, 104] }, ty, ps, af, none⟩ :: rest) a w := by
  obtain ⟨i0, hi, hz0, hz1, hz2⟩ := info_parts Tryd.info5
  refine go_app_at B 5 1 1 i0 (.int .u8 0) Tryd.underlying104 hi hz0 hz1 hz2 rfl (by decide) v zs.length (zs.map (Value.int .u8)) hs ho u news.length (news.map (Value.int .u8)) hx hr (ones_int .u8 news) (by unfold maxLen; omega) (by omega) hB ?_
  intro v' w' h1 h2 h3
  exact hK v' w' (by unfold Own; simpa using h1) h2 h3

/-- append of one byte, of a literal that was just laid. -/
theorem go_app1 {w : World} {ops : Array Oper} {rest : List Oper} {a : Act} {Q : Exit → Act → World → Prop} {d : Option Tmp} {ty : TypeId} {ps : String} {af : Array Edge} {s x : Operand}
    (B : Nat) (v : Value) (bs : List UInt8) (hs : a.eval s = v) (w0 : World) (c : UInt8) (z : Int) (hz : z = c.toNat) (hw : w = w0.alloc (.cells #[.int .u8 z] 5)) (ho : OwnU B w0 v bs) (hx : a.eval x = .slice (some ⟨w0.heap.size, 0, none⟩) 1 1)
    (hl : bs.length ≤ 1000000) (hB : B ≤ w0.heap.size)
    (hK : ∀ v' w', OwnU B w' v' (bs ++ [c]) → Turn (Blks v) w0 w' → Below B w0 w' → (∀ b, Blks v' b → Blks v b ∨ w0.heap.size ≤ b) → wpList Tryd.prog ops Q rest (a.put d v') w') :
    wpList Tryd.prog ops Q (⟨d, .call { callee := .builtin .append, args := #[s, x], argTypes := #[104, 104] }, ty, ps, af, none⟩ :: rest) a w := by
  subst hw hz
  have hr : Rd (w0.alloc (.cells #[.int .u8 c.toNat] 5)) (.slice (some ⟨w0.heap.size, 0, none⟩) 1 1) [(c.toNat : Int)] := (Own.lit [(c.toNat : Int)] (by simp)).rd
  refine go_appbt B v (toI bs) hs (Own.kept ho ((Kept.refl w0).alloc _)) _ [(c.toNat : Int)] hx hr (by rw [toI_length]; simp; omega) (by rw [alloc_size]; omega) ?_
  intro v' w' h1 h2 h3
  have ht : Turn (Blks v) w0 w' := (((Kept.refl w0).alloc _).turn _).trans h2 (fun x hx => .inl hx)
  refine hK v' w' ?_ ht (Turn.below (Below.refl B w0) ht (fun b hb => (Ownv.lt ho hb).2) hB) (fun b hb => (h3 b hb).imp id (fun c => by rw [alloc_size] at c; omega))
  unfold OwnU
  rw [toI_append]
  exact h1

theorem cell0_alloc (w : World) (cs : Array Value) (e : TypeId) (i : Nat) : (w.alloc (.cells cs e)).cell? ⟨w.heap.size, i, none⟩ = cs[i]? := cell_of_row _ w.heap.size i _ _ _ (heap_alloc_new w _)

theorem partsKey_len (l : List Int) (h : ∀ x ∈ l, I64 x) : (partsKey l).length ≤ 22 * l.length := by
  induction l with
  | nil => simp [partsKey]
  | cons x l ih =>
    rw [partsKey_cons]
    have := ih fun y hy => h y (List.mem_cons_of_mem _ hy)
    have := itoa_len (h x List.mem_cons_self)
    simp
    omega

set_option maxRecDepth 100000 in
set_option maxHeartbeats 4000000 in
theorem text_any {w : World} (ht : Tabs w) {v : Value} {d : Nd} (hd : RdN w v d) (hop : 1 ≤ d.op ∧ d.op ≤ 12) (hok : NdOk d) (hs : d.s.length ≤ 200) (hl : d.l.length ≤ 64) :
    Calls Tryd.prog 43 #[v] w fun e w' => e = .returned (.string (strB (key d))) ∧ Kept w w' := by
  obtain ⟨lv, rfl, hr⟩ := hd
  obtain ⟨op, n, s, l⟩ := d
  simp only at hr hop hs hl ⊢
  obtain ⟨h1, h2⟩ := hop
  have hn := hok.n
  have hll := hok.l
  simp only at hn hll
  have hT := Lib.tabBelow_of_tabIs ht.pow
  obtain ⟨o, rfl⟩ := Int.eq_ofNat_of_zero_le (show 0 ≤ op by omega)
  have hb8 : ((UInt8.ofNat o).toNat : Int) = (o : Int) := by rw [ofNat_small (by omega)]
  have hlit : ∀ W : World, OwnU W.heap.size (W.alloc (.cells #[.int .u8 (o : Int)] 5)) (.slice (some ⟨W.heap.size, 0, none⟩) 1 1) [UInt8.ofNat o] := fun W => by
    have := Own.lit (w := W) (toI [UInt8.ofNat o]) (by simp [toI])
    unfold OwnU
    simp only [toI, List.map_cons, List.map_nil, hb8] at this ⊢
    exact this
  have hE : strOfNums (toI []) = strB [] := strOf_toI []
  by_cases c1 : (o : Int) = 1
  · obtain rfl : o = 1 := by omega
    have H1 := hlit (w.alloc (.cells #[.int .i64 1, .int .i64 n, .string (strB s), lv] 51))
    have hsz := alloc_size w (.cells #[.int .i64 1, .int .i64 n, .string (strB s), lv] 51)
    have K1 : Kept w ((w.alloc (.cells #[.int .i64 1, .int .i64 n, .string (strB s), lv] 51)).alloc (.cells #[.int .u8 1] 5)) := ((Kept.refl w).alloc _).alloc _
    go_enter Tryd.func43, Tryd.ntmps43
    go_wp2_with fail
    rw [hsz] at H1
    refine (appendInt_any (bs := [UInt8.ofNat 1]) (B := w.heap.size) (Own.mono H1 (by omega)) K1.size (by simp) hn (hT.on K1)).mono ?_
    rintro e w1 ⟨v1, rfl, ho1, hb1⟩
    have hstr := strU ho1
    go_wp2
    go_ret
    exact ⟨rfl, Below.trans K1 hb1⟩
  · by_cases c2 : (o : Int) = 2
    · obtain rfl : o = 2 := by omega
      have H1 := hlit (w.alloc (.cells #[.int .i64 2, .int .i64 n, .string (strB s), lv] 51))
      have hsz := alloc_size w (.cells #[.int .i64 2, .int .i64 n, .string (strB s), lv] 51)
      have K1 : Kept w ((w.alloc (.cells #[.int .i64 2, .int .i64 n, .string (strB s), lv] 51)).alloc (.cells #[.int .u8 2] 5)) := ((Kept.refl w).alloc _).alloc _
      obtain ⟨i0, hi, hz0, hz1, hz2⟩ := info_parts Tryd.info5
      go_enter Tryd.func43, Tryd.ntmps43
      rw [hsz] at H1
      go_wp2_with (at_builtin; refine Lib.wpList_append_own_string _ rfl _ _ 104 9 rfl w.heap.size 5 i0 Tryd.underlying104 Tryd.underlying9 hi hz0 hz1 hz2 _ 1 _ rfl (Own.mono H1 (by omega)) (strB s) rfl (by rw [strB_size]; unfold maxLen; omega) (by rw [strB_size]; omega) K1.size ?_; intro v1 w1 ho1 hg1 _; refine Hid.out ?_)
      refine Lib.hid ?_
      have hb1 : Below w.heap.size w w1 := Below.grown K1 hg1 K1.size (fun k hk => by cases hk; show w.heap.size ≤ w.heap.size + 1; omega)
      have ho2 : OwnU w.heap.size w1 v1 (UInt8.ofNat 2 :: s) := by
        unfold OwnU Own Ownv
        rw [toI_cells, toI_length]
        have e1 : (UInt8.ofNat 2 :: s).length = 1 + (strB s).size := by rw [strB_size]; simp; omega
        rw [e1]
        exact ho1
      have hstr := strU ho2
      go_wp2
      go_ret
      exact ⟨rfl, hb1⟩
    · have hk : key ⟨(o : Int), n, s, l⟩ = UInt8.ofNat o :: partsKey l := by unfold key; rw [if_neg c1, if_neg c2]; rfl
      rw [hk]
      clear hk
      have d1 : ((o : Int) == 1) = false := by simpa using c1
      have d2 : ((o : Int) == 2) = false := by simpa using c2
      have hm : (o : Int) % 256 = (o : Int) := by omega
      have K0 : Kept w ((w.alloc (.cells #[.int .i64 (o : Int), .int .i64 n, .string (strB s), lv] 51)).alloc (.cells #[.int .u8 ((o : Int) % 256)] 5)) := ((Kept.refl w).alloc _).alloc _
      have H1 := hlit (w.alloc (.cells #[.int .i64 (o : Int), .int .i64 n, .string (strB s), lv] 51))
      have hsz := alloc_size w (.cells #[.int .i64 (o : Int), .int .i64 n, .string (strB s), lv] 51)
      rw [hsz] at H1
      have H2 : OwnU w.heap.size ((w.alloc (.cells #[.int .i64 (o : Int), .int .i64 n, .string (strB s), lv] 51)).alloc (.cells #[.int .u8 ((o : Int) % 256)] 5)) (.slice (some ⟨w.heap.size + 1, 0, none⟩) 1 1) [UInt8.ofNat o] := by rw [hm]; exact Own.mono H1 (Nat.le_succ _)
      clear hm
      obtain ⟨la, lc, rfl, l1, l2, l3⟩ := hr.len
      have HO := Shut.mk h2
      clear h2 c1 c2
      go_enter Tryd.func43, Tryd.ntmps43
      go_wp2
      go_loopw [3, 15] (fun b i wr => ∃ k : Nat, k ≤ l.length ∧ i = .int .i64 k ∧ OwnU w.heap.size wr b (UInt8.ofNat o :: partsKey (l.take k)) ∧ Kept w wr) (fun _ i _ => l.length - (intOf i).toNat)
      case atStart => exact ⟨0, Nat.zero_le _, rfl, H2, K0⟩
      case round =>
        obtain ⟨k, hk0, rfl, hown, hkept⟩ := hrel
        by_cases hlt : k < l.length
        · obtain ⟨rb, ro, rc, hrv, _, _, hrb, hcell⟩ := hr.addr (by omega)
          simp only [Value.slice.injEq] at hrv
          obtain ⟨rfl, _, rfl⟩ := hrv
          have hcw : wr.cell? ⟨rb, ro + k, none⟩ = some (.int .i64 (l.getD k 0)) := hkept.cell (p := ⟨rb, ro + k, none⟩) hrb |>.trans (hcell k hlt)
          clear hcell
          have hx64 : I64 (l.getD k 0) := hll _ (by rw [List.getD_eq_getElem?_getD, List.getElem?_eq_getElem hlt]; exact List.getElem_mem _)
          have hstep : partsKey (l.take (k + 1)) = partsKey (l.take k) ++ (Lib.itoa (l.getD k 0) ++ [44]) := by
            rw [List.take_succ_eq_append_getElem hlt, partsKey_snoc, List.getD_eq_getElem?_getD, List.getElem?_eq_getElem hlt]; rfl
          have hpl : (partsKey (l.take k)).length ≤ 22 * k := by
            have := partsKey_len (l.take k) (fun x hx => hll x (List.mem_of_mem_take hx))
            rw [List.length_take] at this
            omega
          have HS := Shut.mk hstep
          clear hstep
          generalize l.getD k 0 = x at hcw hx64 HS
          have hil := itoa_len hx64
          have hT1 := hT.on hkept
          go_wp2_with fail
          refine (appendInt_any hown hkept.size (by simp; omega) hx64 hT1).mono ?_
          rintro e w1 ⟨v1, rfl, ho1, hb1⟩
          have hk1 : Kept w w1 := Below.trans hkept hb1
          go_wp2_with (at_builtin; refine go_app1 w.heap.size v1 _ rfl w1 44 44 rfl rfl ho1 rfl (by simp; omega) hk1.size ?_; intro v2 w2 ho2 _ hb2 _)
          go_roundw
          case rel =>
            refine ⟨k + 1, hlt, rfl, ?_, Below.trans hk1 hb2⟩
            rw [HS.out]
            simpa using ho2
          case measure => simp [intOf]; omega
        · obtain rfl : k = l.length := by omega
          rw [List.take_length] at hown
          have hstr := strU hown
          go_wp2
          go_ret
          exact ⟨rfl, hkept⟩
end Go.Proofs.YtangbnmgkcmhbaaDoor
end

section
/- Walks of package term: keep. -/
set_option linter.unusedSimpArgs false
set_option linter.unusedVariables false
namespace Go.Proofs.YtangbnmgkcmhbaaDoor
open Go.RowKit Go.Maps

theorem sclone_any (s : ByteArray) (w : World) (hl : s.size ≤ 1000000) : Calls Tryd.prog 65 #[.string s] w fun e w' => e = .returned (.string s) ∧ Kept w w' := by
  go_enter Tryd.func65, Tryd.ntmps65
  go_wp2_with (go_at_call 82; refine (Tryd.stringslite_Clone s _ (by omega)).mono ?_; rintro e w' ⟨rfl, hk⟩)
  go_ret
  exact ⟨rfl, hk⟩

theorem Tryd.infoNode : (Tryd.prog.info? 51).map (fun i => (i.zero, i.size, i.bytes)) = some (some (.agg #[.int .i64 0, .int .i64 0, .string ⟨#[]⟩, .slice none 0 0]), 4, 56) := by kernel_rfl

theorem key_len {d : Nd} (hok : NdOk d) (hs : d.s.length ≤ 200) (hl : d.l.length ≤ 64) : (key d).length ≤ 2000 := by
  unfold key
  have h1 := itoa_len hok.n
  have h2 := partsKey_len d.l hok.l
  split
  · simp; omega
  · split
    · simp; omega
    · simp; omega

set_option maxRecDepth 100000 in
set_option maxHeartbeats 4000000 in
theorem keep_any {F : Nat → Prop} {w : World} {p : Value} {ds : List Nd} (h : Ar F w p ds) {v : Value} {d : Nd} (hd : RdN w v d) (hok : NdOk d) (hm : May ds d) (hf : find ds d = none) (hl0 : ¬ 100000 ≤ ds.length) :
    Calls Tryd.prog 44 #[p, v, .string (strB (key d))] w fun e w' => ∃ F' : Nat → Prop, e = .returned (.int .i64 ds.length) ∧ Ar F' w' p (ds ++ [d]) ∧ Turn F w w' ∧ (∀ b, F' b → F b ∨ w.heap.size ≤ b) := by
  obtain ⟨pb, mb, n, nv, lvs, D, rfl, h2, h3, h4, h5, h6, h7, h8, h9, h10, h11, h12⟩ := h.rep
  obtain ⟨lv, rfl, hr⟩ := hd
  have hlen := hm.len64
  have hs2 := hm.s0
  obtain ⟨op, nn, s, l⟩ := d
  simp only at hr hlen hs2 ⊢
  have e1 := strB_size s
  generalize hS : strB s = S at e1
  have HS := Shut.mk hS
  clear hS
  have HL := Shut.mk hl0
  have hl : ds.length < 10000000000 := by omega
  clear hl0
  have hkl := key_len hok hs2 hlen
  have hinj : ∀ i, i < ds.length → key (ds.getD i nd0) ≠ key ⟨op, nn, s, l⟩ := fun i hi e => find_none hf i hi (key_inj (h.good.may' hi) hm e)
  have HI := Shut.mk hinj
  clear hinj
  have hkey : keyOf Tryd.prog 9 (.string (strB (key ⟨op, nn, s, l⟩))) = some (.string (key ⟨op, nn, s, l⟩)) := WideMaps.keyOf_string_mk Tryd.underlying9 (by rw [strB_size]; unfold maxLen; omega)
  generalize hKy : strB (key ⟨op, nn, s, l⟩) = KY at hkey
  have HKY := Shut.mk hKy
  clear hKy
  have hmn : ∀ W : World, (binOp .eql 67 (.map (some mb)) (.map none)).run Tryd.prog W = .ok (.bool false) W := fun W => run_eql_map_nil W 67 _ _ (some mb) Tryd.underlying67
  go_enter Tryd.func44, Tryd.ntmps44
  go_wp2_with fail
  refine (sclone_any S _ (by omega)).mono ?_
  rintro e w1 ⟨rfl, k1⟩
  have b1 : Blk w1 w.heap.size 51 [.int .i64 op, .int .i64 nn, .string S, lv] := (Blk.new w _ _).kept k1
  have kw1 : Kept w w1 := ((Kept.refl w).alloc _).trans k1
  have c12 := b1.cell 2
  have c13 := b1.cell 3
  have f12 := b1.frozen 2
  simp only [List.getElem?_cons_succ, List.getElem?_cons_zero] at c12 c13
  go_wp2_with fail
  have b2 : Blk (w1.setCell ⟨w.heap.size, 2, none⟩ (.string S)) w.heap.size 51 [.int .i64 op, .int .i64 nn, .string S, lv] := b1.set 2 (.string S)
  have kw2 : Kept w (w1.setCell ⟨w.heap.size, 2, none⟩ (.string S)) := kw1.setCell (Nat.le_refl _) _
  generalize w1.setCell ⟨w.heap.size, 2, none⟩ (.string S) = w2 at b2 kw2 ⊢
  refine (clone_any (hr.kept kw2) (by omega)).mono ?_
  rintro e w3 ⟨lv3, rfl, o3, k3⟩
  obtain ⟨a3, cap3, rfl, _, _, _⟩ := (OwnI.rd o3).len
  have b3 : Blk w3 w.heap.size 51 [.int .i64 op, .int .i64 nn, .string S, lv] := b2.kept k3
  have kw3 : Kept w w3 := kw2.trans k3
  have c33 := b3.cell 3
  have f33 := b3.frozen 3
  simp only [List.getElem?_cons_succ, List.getElem?_cons_zero] at c33
  clear b1 c12 c13 f12 k1 k3
  obtain ⟨na, ncap, rfl, n1, n2, n3, n4, n5⟩ := h3.rdv
  have p0 := (h2.kept kw3).cell 0
  have p1 := (h2.kept kw3).cell 1
  simp only [List.getElem?_cons_succ, List.getElem?_cons_zero] at p0 p1
  have hpq : pb ≠ w.heap.size := Nat.ne_of_lt h2.lt
  have hmq : mb ≠ w.heap.size := Nat.ne_of_lt (h.lt mb h10)
  go_wp2
  have b4 : Blk (w3.setCell ⟨w.heap.size, 3, none⟩ (.slice a3 l.length cap3)) w.heap.size 51 [.int .i64 op, .int .i64 nn, .string S, (.slice a3 l.length cap3)] := b3.set 3 (.slice a3 l.length cap3)
  have kw4 : Kept w (w3.setCell ⟨w.heap.size, 3, none⟩ (.slice a3 l.length cap3)) := kw3.setCell (Nat.le_refl _) _
  have o4 : OwnI 0 (w3.setCell ⟨w.heap.size, 3, none⟩ (.slice a3 l.length cap3)) (.slice a3 l.length cap3) l := Ownv.setCell (Ownv.mono0 o3) (Ownv.notBlk o3 b3 (by decide)) _
  have hlv : ∀ b, Blks (.slice a3 l.length cap3) b → w.heap.size ≤ b := fun b hb => Nat.le_trans kw2.size (Ownv.lt o3 hb).2
  generalize w3.setCell ⟨w.heap.size, 3, none⟩ (.slice a3 l.length cap3) = w4 at b4 kw4 o4 ⊢
  have q0 := (h2.kept kw4).cell 0
  have q1 := (h2.kept kw4).cell 1
  have qf := (h2.kept kw4).frozen 0
  have c40 := b4.cell 0
  have c41 := b4.cell 1
  have c42 := b4.cell 2
  have c43 := b4.cell 3
  simp only [List.getElem?_cons_succ, List.getElem?_cons_zero] at q0 q1 c40 c41 c42 c43
  have hn4 := h3.kept kw4
  obtain ⟨i0, hi, hz0, hz1, hz2⟩ := info_parts Tryd.infoNode
  have hgb : Blk w4 pb 80 [.slice na ds.length ncap, .map (some mb)] := h2.kept kw4
  have hnb : ¬ Blks (.slice na ds.length ncap) pb := Ownv.notBlk hn4 hgb (by decide)
  have hnq : ¬ Blks (.slice na ds.length ncap) w.heap.size := fun hb => Nat.lt_irrefl _ (h3.lt hb).1
  have gb := hgb.lt
  have hcz : ∀ ob, (w4.alloc ob).cell? ⟨pb, 0, none⟩ = some (.slice na ds.length ncap) := fun ob => (hgb.kept ((Kept.refl w4).alloc ob)).cell 0
  have hfz : ∀ ob, (w4.alloc ob).frozen? ⟨pb, 0, none⟩ = false := fun ob => by
    have := (hgb.kept ((Kept.refl w4).alloc ob)).frozen 0
    exact this
  have hnb' : some pb ≠ (Value.slice na ds.length ncap).ownBlock := fun e => hnb e.symm
  have hnq' : some w.heap.size ≠ (Value.slice na ds.length ncap).ownBlock := fun e => hnq e.symm
  have qb := b4.lt
  go_region_law
    ((refine step_append_lies _ (by rfl) _ _ _ (by rfl) 0 51 i0 _ 4 56 Tryd.underlying22 hi hz0 hz1 hz2 rfl (by omega) (.slice na ds.length ncap) ds.length (flat ds lvs) (by rfl) ((hn4.alloc _).drew)
        ⟨w4.heap.size, 0, none⟩ 1 1 [.int .i64 op, .int .i64 nn, .string S, (.slice a3 l.length cap3)] (by rfl) (by rfl) (World.news_of_block (cs := #[.int .i64 op, .int .i64 nn, .string S, (.slice a3 l.length cap3)]) (t := 51) (fr := (0, 0)) (heap_alloc_new w4 _)) (by simp [Value.oneCell'])
        (by omega) (by unfold maxLen; omega) (by omega) (by omega) (w4.heap.size + 1) (by simp) ?_; intro gg cap w5 hown5 hgrow hat hlt; have hfz5 : w5.frozen? ⟨pb, 0, none⟩ = false := (hgrow.frozen_far ⟨pb, 0, none⟩ (by simp; omega) hnb').trans (hfz _); have hcz5 : w5.cell? ⟨pb, 0, none⟩ = some (.slice na ds.length ncap) := (hgrow.cell_far ⟨pb, 0, none⟩ (by simp; omega) hnb').trans (hcz _);
      have t5 : Turn (Blks (.slice na ds.length ncap)) w4 w5 := ((((Kept.refl w4).alloc (.cells #[.int .i64 op, .int .i64 nn, .string S, .slice a3 l.length cap3] 51)).drew).turn _).trans ((Grown.turn hgrow).mono fun b hb => hb.symm) (fun x hx => .inl hx)))
  all_goals
    have o6 : Ownv 0 51 4 (w5.setCell ⟨pb, 0, none⟩ (.slice (some ⟨gg, 0, none⟩) (ds.length + 1) cap)) (.slice (some ⟨gg, 0, none⟩) (ds.length + 1) cap) (ds.length + 1) (flat ds lvs ++ [.int .i64 op, .int .i64 nn, .string S, .slice a3 l.length cap3]) :=
      Ownv.setCell hown5 (Ownv.notBlk hown5 (hgb.turn t5 hnb) (by decide)) _
    have g6 : Blk (w5.setCell ⟨pb, 0, none⟩ (.slice (some ⟨gg, 0, none⟩) (ds.length + 1) cap)) pb 80 [.slice (some ⟨gg, 0, none⟩) (ds.length + 1) cap, .map (some mb)] := (hgb.turn t5 hnb).set 0 _
    have t6 : Turn (fun b => Blks (.slice na ds.length ncap) b ∨ b = pb) w4 (w5.setCell ⟨pb, 0, none⟩ (.slice (some ⟨gg, 0, none⟩) (ds.length + 1) cap)) :=
      (t5.mono fun b hb => .inl hb).trans (turn_setCell w5 _ _) (fun x hx => .inl (.inr hx))
    have m6 := ownsMap_turn (ownsMap_kept h6 kw4) t6 (fun hb => hb.elim (ownsMap_notBlk (ownsMap_kept h6 kw4) hn4) (fun e => ownsMap_notBlk' (ownsMap_kept h6 kw4) hgb e.symm))
    have a6 := o4.turn t6 (fun b hb hc => hc.elim (Ownv.apart o4 hn4 (by decide) hb) (fun e => Ownv.notBlk o4 hgb (by decide) (e ▸ hb)))
    generalize w5.setCell ⟨pb, 0, none⟩ (.slice (some ⟨gg, 0, none⟩) (ds.length + 1) cap) = w6 at o6 g6 t6 m6 a6 ⊢
    have z1 := g6.cell 1
    simp only [List.getElem?_cons_succ, List.getElem?_cons_zero] at z1
    have hlaw : Keyed Tryd.prog 9 := string_keyed Tryd.underlying9
    go_wp2_with (at_mapUpdate; refine wpList_mapUpdate_own _ rfl _ _ _ 67 rfl 9 3 hlaw Tryd.underlying67 (plainElem Tryd.prog 3) mb n D rfl m6 (by unfold maxLen; omega) _ _ (.string (key ⟨op, nn, s, l⟩)) rfl rfl hkey (.lit (.int .i64 ds.length)) [] (plainElem_int Tryd.underlying3 (WalkArith.wf_i64 (by omega))) ?_; intro w7 own7 hg7)
    go_ret
    obtain ⟨F', r1, r2, r3⟩ := arg_grow h.good (Nat.lt_of_not_le HL.out) h.oks hok hm hf HI.out (by decide) h2 h3 h4 h5 h6 h7 h8 h9 h10 h11 h12 h.lt kw4 t6 g6 (by unfold ndCells; rw [HS.out]; exact o6) (fun b hb => by
      obtain rfl : gg = b := by simpa [Blks, Value.ownBlock] using hb
      rcases hat with c | c
      · exact .inl c
      · have := kw4.size
        exact .inr (by omega)) a6 hlv own7 m6 ((Grown.turn hg7).mono fun b hb => by simpa using hb)
    exact ⟨F', rfl, r1, r2, r3⟩
end Go.Proofs.YtangbnmgkcmhbaaDoor
end

section
/- Walks of package term: allows. -/
set_option linter.unusedSimpArgs false
set_option linter.unusedVariables false
namespace Go.Proofs.YtangbnmgkcmhbaaDoor
open Go.RowKit Go.Maps

theorem bad1 {ds : List Nd} {d : Nd} (h : ¬ (1 ≤ d.op ∧ d.op ≤ 12)) : ¬ May ds d := fun m => h ⟨m.op1, m.op12⟩

set_option maxRecDepth 100000 in
set_option maxHeartbeats 2000000 in
theorem allows_bad1 {F : Nat → Prop} {w : World} {p : Value} {ds : List Nd} (h : Ar F w p ds) {v : Value} {d : Nd} (hd : RdN w v d) (hb : ¬ (1 ≤ d.op ∧ d.op ≤ 12)) :
    Calls Tryd.prog 42 #[p, v] w fun e w' => e = .returned (.bool false) ∧ Kept w w' := by
  obtain ⟨lv, rfl, hr⟩ := hd
  obtain ⟨op, n, s, l⟩ := d
  simp only at hr hb ⊢
  by_cases h1 : op < 1
  · go_enter Tryd.func42, Tryd.ntmps42
    go_wp2
    go_ret
    exact ⟨rfl, (Kept.refl w).alloc _⟩
  · go_enter Tryd.func42, Tryd.ntmps42
    go_wp2
    go_ret
    exact ⟨rfl, (Kept.refl w).alloc _⟩
set_option maxRecDepth 100000 in
set_option maxHeartbeats 2000000 in
theorem allows_bad2 {F : Nat → Prop} {w : World} {p : Value} {ds : List Nd} (h : Ar F w p ds) {v : Value} {d : Nd} (hd : RdN w v d) (hop : 1 ≤ d.op ∧ d.op ≤ 12) (hb : ¬ (0 ≤ d.n ∧ (d.n = 0 ∨ d.op = 1))) :
    Calls Tryd.prog 42 #[p, v] w fun e w' => e = .returned (.bool false) ∧ Kept w w' := by
  obtain ⟨lv, rfl, hr⟩ := hd
  obtain ⟨op, n, s, l⟩ := d
  simp only at hr hb hop ⊢
  obtain ⟨h1, h2⟩ := hop
  by_cases h3 : n < 0
  · go_enter Tryd.func42, Tryd.ntmps42
    go_wp2
    go_ret
    exact ⟨rfl, (Kept.refl w).alloc _⟩
  · have h4 : 0 < n := by omega
    have h5 : op ≠ 1 := by omega
    go_enter Tryd.func42, Tryd.ntmps42
    go_wp2
    go_ret
    exact ⟨rfl, (Kept.refl w).alloc _⟩
set_option maxRecDepth 100000 in
set_option maxHeartbeats 2000000 in
theorem allows_bad3 {F : Nat → Prop} {w : World} {p : Value} {ds : List Nd} (h : Ar F w p ds) {v : Value} {d : Nd} (hd : RdN w v d) (hop : 1 ≤ d.op ∧ d.op ≤ 12) (hn : 0 ≤ d.n ∧ (d.n = 0 ∨ d.op = 1)) (hb : ¬ (d.s.length ≤ 200 ∧ (d.s = [] ∨ d.op = 2))) :
    Calls Tryd.prog 42 #[p, v] w fun e w' => e = .returned (.bool false) ∧ Kept w w' := by
  obtain ⟨lv, rfl, hr⟩ := hd
  obtain ⟨op, n, s, l⟩ := d
  simp only at hr hb hop hn ⊢
  obtain ⟨h1, h2⟩ := hop
  obtain ⟨h3, h4⟩ := hn
  have e1 := strB_size s
  have e2 := strB_list s
  generalize strB s = S at e1 e2
  by_cases h5 : 200 < s.length
  · go_enter Tryd.func42, Tryd.ntmps42
    go_wp2
    all_goals (go_ret; exact ⟨rfl, (Kept.refl w).alloc _⟩)
  · have h6 : s.isEmpty = false := by
      cases s with
      | nil => exact absurd ⟨by omega, .inl rfl⟩ hb
      | cons => rfl
    have h7 : (op != 2) = true := by simpa using fun e => hb ⟨by omega, .inr e⟩
    go_enter Tryd.func42, Tryd.ntmps42
    go_wp2
    all_goals (go_ret; exact ⟨rfl, (Kept.refl w).alloc _⟩)


theorem bne_int {a b : Int} (h : a ≠ b) : (a != b) = true := by simpa using h
theorem beq_int {a b : Int} (h : a = b) : (a != b) = false := by simpa using h

set_option maxRecDepth 100000 in
set_option maxHeartbeats 4000000 in
theorem allows_bad4 {F : Nat → Prop} {w : World} {p : Value} {ds : List Nd} (h : Ar F w p ds) (ht : Tabs w) {v : Value} {d : Nd} (hd : RdN w v d) (hop : 1 ≤ d.op ∧ d.op ≤ 12) (hn : 0 ≤ d.n ∧ (d.n = 0 ∨ d.op = 1)) (hb : (d.s.length ≤ 200 ∧ (d.s = [] ∨ d.op = 2))) (hk : ¬ (kLeast d.op ≤ d.l.length ∧ (d.l.length : Int) ≤ kMost d.op)) :
    Calls Tryd.prog 42 #[p, v] w fun e w' => ∃ b : Bool, e = .returned (.bool b) ∧ (b = true ↔ May ds d) ∧ Kept w w' := by
  obtain ⟨lv, rfl, hr⟩ := hd
  obtain ⟨op, n, s, l⟩ := d
  simp only at hr hb hop hn hk ⊢
  have HP : Shut ((1 ≤ op ∧ op ≤ 12) ∧ (0 ≤ n ∧ (n = 0 ∨ op = 1)) ∧ s.length ≤ 200 ∧ (s = [] ∨ op = 2)) := ⟨⟨hop, hn, hb⟩⟩
  obtain ⟨h1, h2⟩ := hop
  obtain ⟨o, rfl⟩ := Int.eq_ofNat_of_zero_le (show 0 ≤ op by omega)
  have hcase : (n = 0 ∧ s = []) ∨ (0 < n ∧ ((o : Int) != 1) = false ∧ s = []) ∨ (n = 0 ∧ s.isEmpty = false ∧ ((o : Int) != 2) = false) := by
    obtain ⟨a1, a2⟩ := hn
    obtain ⟨b1, b2⟩ := hb
    by_cases c : n = 0
    · by_cases c' : s = []
      · exact .inl ⟨c, c'⟩
      · exact .inr (.inr ⟨c, by simpa using c', beq_int (b2.resolve_left c')⟩)
    · have c' := a2.resolve_left c
      exact .inr (.inl ⟨by omega, beq_int c', b2.resolve_right (by omega)⟩)
  have h5 : s.length ≤ 200 := hb.1
  clear hn hb
  obtain ⟨k0, k1, k2⟩ := ht.kinds o (by omega)
  have k1a : ∀ ob, (w.alloc ob).cell? ⟨0, o * 3 + 1, none⟩ = some (.int .i64 (kLeast o)) := fun ob => by rw [World.cell?_alloc_past _ _ _ (World.block_lt_of_cell? _ _ k1)]; exact k1
  have k2a : ∀ ob, (w.alloc ob).cell? ⟨0, o * 3 + 2, none⟩ = some (.int .i64 (kMost o)) := fun ob => by rw [World.cell?_alloc_past _ _ _ (World.block_lt_of_cell? _ _ k2)]; exact k2
  obtain ⟨la, lc, rfl, l1, l2, l3⟩ := hr.len
  have e1 := strB_size s
  have e2 := strB_list s
  generalize hS : strB s = S at e1 e2
  have HS := Shut.mk hS
  clear hS
  generalize hM : kLeast o = lea at k1 k1a
  generalize hN : kMost o = mos at k2 k2a
  have HM := Shut.mk hM
  have HN := Shut.mk hN
  clear hM hN
  have h13 : (o : Int) < 13 := by omega
  have h00 : (0 : Int) ≤ (o : Int) := by omega
  have hL : ((l.length : Nat) : Int) ≤ 9223372036854775807 := by unfold maxLen at l2; omega
  by_cases h7 : (l.length : Int) < lea
  · have hd : decide ((l.length : Int) < lea) = true := by simpa using h7
    have hng : ¬ May ds ⟨o, n, s, l⟩ := fun m => by have := m.least; simp only [HM.out] at this; omega
    rcases hcase with ⟨rfl, rfl⟩ | ⟨c1, c2, rfl⟩ | ⟨rfl, c1, c2⟩
    all_goals
      go_enter Tryd.func42, Tryd.ntmps42
      go_wp2
      go_quiet (fail)
      go_wp2
      go_ret
      exact ⟨false, rfl, ⟨(fun h => by cases h), fun m => absurd m hng⟩, ((Kept.refl w).alloc _).drewN _⟩
  · have hd : decide ((l.length : Int) < lea) = false := by simpa using h7
    by_cases h8 : mos < (l.length : Int)
    · have hd : decide (mos < (l.length : Int)) = true := by simpa using h8
      have hng : ¬ May ds ⟨o, n, s, l⟩ := fun m => by have := m.most; simp only [HN.out] at this; omega
      rcases hcase with ⟨rfl, rfl⟩ | ⟨c1, c2, rfl⟩ | ⟨rfl, c1, c2⟩
      all_goals
        go_enter Tryd.func42, Tryd.ntmps42
        go_wp2
        go_quiet (fail)
        go_wp2
        go_ret
        exact ⟨false, rfl, ⟨(fun h => by cases h), fun m => absurd m hng⟩, ((Kept.refl w).alloc _).drewN _⟩
    · exact absurd ⟨by rw [HM.out]; omega, by rw [HN.out]; omega⟩ hk
end Go.Proofs.YtangbnmgkcmhbaaDoor
end

section
/- Walks of package term: allows, whole. -/
set_option linter.unusedSimpArgs false
set_option linter.unusedVariables false
namespace Go.Proofs.YtangbnmgkcmhbaaDoor
open Go.RowKit Go.Maps

set_option maxRecDepth 100000 in
set_option maxHeartbeats 4000000 in
theorem allows_good {F : Nat → Prop} {w : World} {p : Value} {ds : List Nd} (h : Ar F w p ds) (ht : Tabs w) {v : Value} {d : Nd} (hd : RdN w v d) (hop : 1 ≤ d.op ∧ d.op ≤ 12) (hn : 0 ≤ d.n ∧ (d.n = 0 ∨ d.op = 1)) (hb : (d.s.length ≤ 200 ∧ (d.s = [] ∨ d.op = 2))) (hk : kLeast d.op ≤ d.l.length ∧ (d.l.length : Int) ≤ kMost d.op) :
    Calls Tryd.prog 42 #[p, v] w fun e w' => ∃ b : Bool, e = .returned (.bool b) ∧ (b = true ↔ May ds d) ∧ Kept w w' := by
  obtain ⟨lv, rfl, hr⟩ := hd
  obtain ⟨op, n, s, l⟩ := d
  simp only at hr hb hop hn hk ⊢
  have HP : Shut ((1 ≤ op ∧ op ≤ 12) ∧ (0 ≤ n ∧ (n = 0 ∨ op = 1)) ∧ s.length ≤ 200 ∧ (s = [] ∨ op = 2)) := ⟨⟨hop, hn, hb⟩⟩
  obtain ⟨h1, h2⟩ := hop
  obtain ⟨o, rfl⟩ := Int.eq_ofNat_of_zero_le (show 0 ≤ op by omega)
  have hcase : (n = 0 ∧ s = []) ∨ (0 < n ∧ ((o : Int) != 1) = false ∧ s = []) ∨ (n = 0 ∧ s.isEmpty = false ∧ ((o : Int) != 2) = false) := by
    obtain ⟨a1, a2⟩ := hn
    obtain ⟨b1, b2⟩ := hb
    by_cases c : n = 0
    · by_cases c' : s = []
      · exact .inl ⟨c, c'⟩
      · exact .inr (.inr ⟨c, by simpa using c', beq_int (b2.resolve_left c')⟩)
    · have c' := a2.resolve_left c
      exact .inr (.inl ⟨by omega, beq_int c', b2.resolve_right (by omega)⟩)
  have h5 : s.length ≤ 200 := hb.1
  clear hn hb
  obtain ⟨k0, k1, k2⟩ := ht.kinds o (by omega)
  have k1a : ∀ ob, (w.alloc ob).cell? ⟨0, o * 3 + 1, none⟩ = some (.int .i64 (kLeast o)) := fun ob => by rw [World.cell?_alloc_past _ _ _ (World.block_lt_of_cell? _ _ k1)]; exact k1
  have k2a : ∀ ob, (w.alloc ob).cell? ⟨0, o * 3 + 2, none⟩ = some (.int .i64 (kMost o)) := fun ob => by rw [World.cell?_alloc_past _ _ _ (World.block_lt_of_cell? _ _ k2)]; exact k2
  obtain ⟨la, lc, rfl, l1, l2, l3⟩ := hr.len
  have e1 := strB_size s
  have e2 := strB_list s
  generalize hS : strB s = S at e1 e2
  have HS := Shut.mk hS
  clear hS
  generalize hM : kLeast o = lea at k1 k1a
  generalize hN : kMost o = mos at k2 k2a
  have HM := Shut.mk hM
  have HN := Shut.mk hN
  clear hM hN
  have h13 : (o : Int) < 13 := by omega
  have h00 : (0 : Int) ≤ (o : Int) := by omega
  have hL : ((l.length : Nat) : Int) ≤ 9223372036854775807 := by unfold maxLen at l2; omega
  have HK := Shut.mk hk
  obtain ⟨hk1, hk2⟩ := hk
  have hd : decide ((l.length : Int) < lea) = false := by rw [HM.out] at hk1; simpa using hk1
  have hd2 : decide (mos < (l.length : Int)) = false := by rw [HN.out] at hk2; simpa using hk2
  clear hk1 hk2
  have hb0 : ∀ ob n, Ar F ((w.alloc ob).drewN n) p ds := fun ob n => ArG.kept h (((Kept.refl w).alloc ob).drewN n)
  have MM : Shut ((∀ x ∈ l, 0 ≤ x ∧ x < ds.length) → ((o : Int) = 6 → (ds.getD (l.getD 1 0).toNat nd0).op = 2) → May ds ⟨o, n, s, l⟩) :=
    ⟨fun a b => ⟨HP.out.1.1, HP.out.1.2, HP.out.2.1.1, HP.out.2.1.2, HP.out.2.2.1, HP.out.2.2.2, HK.out.1, HK.out.2, a, b⟩⟩
  rcases hcase with ⟨rfl, rfl⟩ | ⟨c1, c2, rfl⟩ | ⟨rfl, c1, c2⟩
  all_goals
    go_enter Tryd.func42, Tryd.ntmps42
    go_wp2
    go_quiet (fail)
    go_wp2
    go_loop [65] (fun s => ∃ k : Nat, (k ≤ l.length ∧ ∀ i, i < k → 0 ≤ l.getD i 0 ∧ l.getD i 0 < ds.length) ∧ s = .int .i64 k) (fun s => l.length - (intOf s).toNat)
    case atStart => exact ⟨0, ⟨Nat.zero_le _, fun i hi => absurd hi (Nat.not_lt_zero _)⟩, rfl⟩
    case round =>
      obtain ⟨k, ⟨hk0, hk1⟩, rfl⟩ := hrel
      by_cases hlt : k < l.length
      · obtain ⟨rb, ro, rc, hrv, _, _, hrb, hcell⟩ := hr.addr (by omega)
        simp only [Value.slice.injEq] at hrv
        obtain ⟨rfl, _, rfl⟩ := hrv
        have hcw : ∀ (ob : Obj) (n : Nat), ((w.alloc ob).drewN n).cell? ⟨rb, ro + k, none⟩ = some (.int .i64 (l.getD k 0)) := fun ob n => (((Kept.refl w).alloc ob).drewN n).cell (p := ⟨rb, ro + k, none⟩) hrb |>.trans (hcell k hlt)
        clear hcell
        generalize hx : l.getD k 0 = x at hcw
        have HX := Shut.mk hx
        clear hx
        have HK1 := Shut.mk hk1
        clear hk1
        by_cases hin : 0 ≤ x ∧ x < ds.length
        · obtain ⟨x0, x1⟩ := hin
          go_wp2_with (go_at_call 63; refine (arg_has_t (hb0 _ _) x0 x1).mono ?_; rintro e w' ⟨rfl, rfl⟩)
          go_round
          case rel => exact ⟨k + 1, ⟨hlt, fun i hi => by
            by_cases c : i < k
            · exact HK1.out i c
            · obtain rfl : i = k := by omega
              rw [HX.out]; exact ⟨x0, x1⟩⟩, rfl⟩
          case measure => simp [intOf]; omega
        · have HI := Shut.mk hin
          clear hin
          go_wp2_with (go_at_call 63; refine (arg_has_f (hb0 _ _) HI.out).mono ?_; rintro e w' ⟨rfl, rfl⟩)
          go_ret
          refine ⟨false, rfl, ⟨(fun h => by cases h), fun m => ?_⟩, ((Kept.refl w).alloc _).drewN _⟩
          exact absurd (m.all x (by rw [← HX.out, List.getD_eq_getElem?_getD, List.getElem?_eq_getElem hlt]; exact List.getElem_mem _)) HI.out
      · obtain rfl : k = l.length := by omega
        have HK1 := Shut.mk hk1
        clear hk1
        by_cases h6 : (o : Int) = 6
        · have hb6 := beq_int h6
          have hl3 : l.length = 3 := by
            have a := HK.out
            rw [h6] at a
            simp [kLeast, kMost, kTab] at a
            omega
          have hx1 := HK1.out 1 (by omega)
          obtain ⟨j, hj⟩ := Int.eq_ofNat_of_zero_le hx1.1
          have hjl : j < ds.length := by omega
          obtain ⟨pb, mb, nv, rfl, q0, q1, qn⟩ := ArG.nodes h
          obtain ⟨nb, noff, ncap, lvs, rfl, _, _, hnb, hnc, _⟩ := qn.addr (by omega)
          obtain ⟨nc, _, _, _⟩ := hnc j hjl
          obtain ⟨rb, ro, rc, hrv, _, _, hrb, hcell⟩ := hr.addr (by omega)
          simp only [Value.slice.injEq] at hrv
          obtain ⟨rfl, _, rfl⟩ := hrv
          have hc1 := hcell 1 (by omega)
          rw [hj] at hc1
          clear hcell hnc
          have q0a : ∀ ob, (w.alloc ob).cell? ⟨pb, 0, none⟩ = some (.slice (some ⟨nb, noff, none⟩) ds.length ncap) := fun ob => by rw [World.cell?_alloc_past _ _ _ (World.block_lt_of_cell? _ _ q0)]; exact q0
          have nca : ∀ ob, (w.alloc ob).cell? ⟨nb, noff + j * 4, none⟩ = some (.int .i64 (ds.getD j nd0).op) := fun ob => by rw [World.cell?_alloc_past _ _ _ (World.block_lt_of_cell? _ _ nc)]; exact nc
          have hca : ∀ ob, (w.alloc ob).cell? ⟨rb, ro + 1, none⟩ = some (.int .i64 (j : Int)) := fun ob => by rw [World.cell?_alloc_past _ _ _ (World.block_lt_of_cell? _ _ hc1)]; exact hc1
          have j0 : (0 : Int) ≤ (j : Int) := by omega
          have j1 : (j : Int) < (ds.length : Int) := by omega
          have l31 : (1 : Int) < (l.length : Int) := by omega
          have HL3 := Shut.mk hl3
          have H6 := Shut.mk h6
          have HJ := Shut.mk hj
          clear hl3 h6 hj hx1
          generalize hop' : (ds.getD j nd0).op = oj at nc nca
          have HO := Shut.mk hop'
          clear hop'
          go_wp2
          go_quiet (fail)
          go_wp2
          go_ret
          refine ⟨_, rfl, ⟨fun hh => ?_, fun m => ?_⟩, ?_⟩
          · exact MM.out (fun x hx => by
              obtain ⟨i, hi, e⟩ := List.mem_iff_getElem.1 hx
              have := HK1.out i hi
              rwa [List.getD_eq_getElem?_getD, List.getElem?_eq_getElem hi, Option.getD_some, e] at this) (fun e => by
              simp only [HJ.out, Int.toNat_natCast, HO.out]
              simpa using hh)
          · have := m.key H6.out
            simp only [HJ.out, Int.toNat_natCast, HO.out] at this
            simp [this]
          · exact (((Kept.refl w).alloc _).drewN _).drewN _
        · have hb6 := bne_int h6
          go_wp2
          go_quiet (fail)
          go_wp2
          go_ret
          refine ⟨true, rfl, ⟨fun _ => ?_, fun _ => rfl⟩, ?_⟩
          · exact MM.out (fun x hx => by
              obtain ⟨i, hi, e⟩ := List.mem_iff_getElem.1 hx
              have := HK1.out i hi
              rwa [List.getD_eq_getElem?_getD, List.getElem?_eq_getElem hi, Option.getD_some, e] at this) (fun e => absurd e h6)
          · exact (((Kept.refl w).alloc _).drewN _).drewN _

/-- allows tells whether a node may be. -/
theorem allows_any {F : Nat → Prop} {w : World} {p : Value} {ds : List Nd} (h : Ar F w p ds) (ht : Tabs w) {v : Value} {d : Nd} (hd : RdN w v d) :
    Calls Tryd.prog 42 #[p, v] w fun e w' => ∃ b : Bool, e = .returned (.bool b) ∧ (b = true ↔ May ds d) ∧ Kept w w' := by
  by_cases h1 : 1 ≤ d.op ∧ d.op ≤ 12
  · by_cases h2 : 0 ≤ d.n ∧ (d.n = 0 ∨ d.op = 1)
    · by_cases h3 : d.s.length ≤ 200 ∧ (d.s = [] ∨ d.op = 2)
      · by_cases h4 : kLeast d.op ≤ d.l.length ∧ (d.l.length : Int) ≤ kMost d.op
        · exact allows_good h ht hd h1 h2 h3 h4
        · exact allows_bad4 h ht hd h1 h2 h3 h4
      · exact (allows_bad3 h hd h1 h2 h3).mono fun e w' ⟨a, b⟩ => ⟨false, a, ⟨(fun x => by cases x), fun m => absurd ⟨m.s0, m.s1⟩ h3⟩, b⟩
    · exact (allows_bad2 h hd h1 h2).mono fun e w' ⟨a, b⟩ => ⟨false, a, ⟨(fun x => by cases x), fun m => absurd ⟨m.n0, m.n1⟩ h2⟩, b⟩
  · exact (allows_bad1 h hd h1).mono fun e w' ⟨a, b⟩ => ⟨false, a, ⟨(fun x => by cases x), fun m => absurd ⟨m.op1, m.op12⟩ h1⟩, b⟩
end Go.Proofs.YtangbnmgkcmhbaaDoor
end

section
/- Walks of package term: Make, List, Text. -/
set_option linter.unusedSimpArgs false
set_option linter.unusedVariables false
namespace Go.Proofs.YtangbnmgkcmhbaaDoor
open Go.RowKit Go.Maps

theorem zeroInt (w : World) : (zeroValue 3).run Tryd.prog w = .ok (.int .i64 0) w := by kernel_rfl

theorem idx_has {H : Type} {ky : Nd → List UInt8} {ds : List Nd} {D : DataW H} (h : Idx ky ds D) (hg : Good ds) {d : Nd} (hinj : ∀ i, i < ds.length → ky (ds.getD i nd0) = ky d → ds.getD i nd0 = d) :
    (Maps.has D (.string (ky d)) = false ∧ find ds d = none) ∨ ∃ i, i < ds.length ∧ Maps.has D (.string (ky d)) = true ∧ D.atKey (.string (ky d)) (.lit (.int .i64 0)) = .lit (.int .i64 i) ∧ find ds d = some i := by
  cases hh : Maps.has D (.string (ky d)) with
  | false =>
    refine .inl ⟨rfl, ?_⟩
    cases hf : find ds d with
    | none => rfl
    | some i =>
      obtain ⟨h1, h2⟩ := find_some hf
      have := (h.1 i h1).1
      rw [h2, hh] at this
      cases this
  | true =>
    obtain ⟨i, hi, he⟩ := h.2 _ hh
    have := hinj i hi he
    refine .inr ⟨i, hi, rfl, ?_, hg.findAt hi this⟩
    have := (h.1 i hi).2
    rw [he] at this
    exact this

set_option maxRecDepth 100000 in
set_option maxHeartbeats 4000000 in
theorem make_any {F : Nat → Prop} {w : World} {p : Value} {ds : List Nd} (h : Ar F w p ds) (ht : Tabs w) {v : Value} {d : Nd} (hd : RdN w v d) (hok : NdOk d) :
    Calls Tryd.prog 26 #[p, v] w fun e w' => ∃ F' : Nat → Prop, e = .returned (.tuple #[.int .i64 (mk ds d).2.1, .int .i64 (mk ds d).2.2]) ∧ Ar F' w' p (mk ds d).1 ∧ Turn F w w' ∧ (∀ b, F' b → F b ∨ w.heap.size ≤ b) := by
  obtain ⟨pb, mb, n, nv, lvs, D, rfl, h2, h3, h4, h5, h6, h7, h8, h9, h10, h11, h12⟩ := h.rep
  obtain ⟨lv, rfl, hr⟩ := hd
  obtain ⟨op, nn, s, l⟩ := d
  simp only at hr ⊢
  have hd1 : ∀ W, Kept w W → RdN W (.agg #[.int .i64 op, .int .i64 nn, .string (strB s), lv]) ⟨op, nn, s, l⟩ := fun W k => ⟨lv, rfl, hr.kept k⟩
  obtain ⟨la, lc, rfl, l1, l2, l3⟩ := hr.len
  have HH := Shut.mk h
  clear h
  go_enter Tryd.func26, Tryd.ntmps26
  go_wp2_with fail
  have k0 : Kept w (w.alloc (.cells #[.int .i64 op, .int .i64 nn, .string (strB s), .slice la l.length lc] 51)) := (Kept.refl w).alloc _
  have b0 := Blk.new w [.int .i64 op, .int .i64 nn, .string (strB s), .slice la l.length lc] 51
  generalize w.alloc (.cells #[.int .i64 op, .int .i64 nn, .string (strB s), .slice la l.length lc] 51) = w0 at k0 b0 ⊢
  refine (allows_any (ArG.kept HH.out k0) (ht.kept k0) (hd1 w0 k0)).mono ?_
  rintro e w1 ⟨b, rfl, hb, k1⟩
  have k01 := k0.trans k1
  have b1 := b0.kept k1
  cases b with
  | false =>
    have hng : ¬ May ds ⟨op, nn, s, l⟩ := fun m => by have := hb.2 m; cases this
    go_wp2
    go_ret2
    rw [mk_bad hng]
    exact ⟨F, rfl, ArG.kept HH.out k01, k01.turn F, fun b hb => .inl hb⟩
  | true =>
    have hm : May ds ⟨op, nn, s, l⟩ := hb.1 rfl
    have HM := Shut.mk hm
    have hs2 := hm.s0
    have hlen := hm.len64
    have hkl := key_len hok hs2 hlen
    have x0 := b1.cell 0
    have x1 := b1.cell 1
    have x2 := b1.cell 2
    have x3 := b1.cell 3
    simp only [List.getElem?_cons_succ, List.getElem?_cons_zero] at x0 x1 x2 x3
    clear hm hb
    go_wp2_with fail
    refine (text_any (ht.kept k01) (hd1 w1 k01) ⟨HM.out.op1, HM.out.op12⟩ hok hs2 hlen).mono ?_
    rintro e w2 ⟨rfl, k2⟩
    have k02 := k01.trans k2
    have b2 := b1.kept k2
    have m2 := ownsMap_kept h6 k02
    have q0 := (h2.kept k02).cell 0
    have q1 := (h2.kept k02).cell 1
    have y0 := b2.cell 0
    have y1 := b2.cell 1
    have y2 := b2.cell 2
    have y3 := b2.cell 3
    simp only [List.getElem?_cons_succ, List.getElem?_cons_zero] at q0 q1 y0 y1 y2 y3
    clear x0 x1 x2 x3
    obtain ⟨na, ncap, rfl, n1, n2, n3, n4, n5⟩ := h3.rdv
    have hkey : keyOf Tryd.prog 9 (.string (strB (key ⟨op, nn, s, l⟩))) = some (.string (key ⟨op, nn, s, l⟩)) := WideMaps.keyOf_string_mk Tryd.underlying9 (by rw [strB_size]; unfold maxLen; omega)
    have hlaw : Keyed Tryd.prog 9 := string_keyed Tryd.underlying9
    have hix := idx_has h8 HH.out.good (d := ⟨op, nn, s, l⟩) (fun i hi e => key_inj (HH.out.good.may' hi) HM.out e)
    have HKEY := Shut.mk hkey
    clear hkey
    generalize hKY : Value.string (strB (key ⟨op, nn, s, l⟩)) = KY at HKEY
    have HKY := Shut.mk hKY
    clear hKY
    rcases hix with ⟨hx1, hx2⟩ | ⟨i, hi, hx1, hx2, hx3⟩
    · have HX2 := Shut.mk hx2
      clear hx2
      by_cases hbig : 100000 ≤ ds.length
      · have HB := Shut.mk hbig
        have hdb : decide ((100000 : Int) ≤ (ds.length : Int)) = true := decide_eq_true (by omega)
        clear hbig
        go_wp2_with (at_lookup; refine wpList_lookup_own_ok_int _ rfl _ _ 67 rfl 9 3 .i64 hlaw Tryd.underlying67 Tryd.underlying3 (zeroInt _) mb n D rfl m2 _ _ rfl HKEY.out ?_; intro c hat hwc; rw [hx1])
        go_ret2
        rw [mk_full HM.out HX2.out HB.out]
        exact ⟨F, rfl, ArG.kept HH.out k02, k02.turn F, fun b hb => .inl hb⟩
      · have HB := Shut.mk hbig
        have hdb : decide ((100000 : Int) ≤ (ds.length : Int)) = false := decide_eq_false (by omega)
        clear hbig
        go_wp2_with (first | (at_lookup; refine wpList_lookup_own_ok_int _ rfl _ _ 67 rfl 9 3 .i64 hlaw Tryd.underlying67 Tryd.underlying3 (zeroInt _) mb n D rfl m2 _ _ rfl HKEY.out ?_; intro c hat hwc; rw [hx1]) | fail)
        rw [← HKY.out]
        refine (keep_any (ArG.kept HH.out k02) (hd1 w2 k02) hok HM.out HX2.out HB.out).mono ?_
        rintro e w3 ⟨F', rfl, r1, r2, r3⟩
        go_wp2
        go_ret2
        rw [mk_new HM.out HX2.out HB.out]
        have := k02.size
        exact ⟨F', rfl, r1, (k02.turn F).trans r2 (fun x hx => .inl hx), fun b hb => (r3 b hb).imp id (fun c => by omega)⟩
    · have HX3 := Shut.mk hx3
      clear hx3
      go_wp2_with (at_lookup; refine wpList_lookup_own_ok_int _ rfl _ _ 67 rfl 9 3 .i64 hlaw Tryd.underlying67 Tryd.underlying3 (zeroInt _) mb n D rfl m2 _ _ rfl HKEY.out ?_; intro c hat hwc; rw [hx1])
      rw [hx2] at hat
      simp only [DataW.lit.injEq, Lit.int.injEq, true_and] at hat
      go_ret2
      rw [mk_old HM.out HX3.out]
      exact ⟨F, by rw [← hat]; rfl, ArG.kept HH.out k02, k02.turn F, fun b hb => .inl hb⟩

theorem i64_lit {n : Int} (h : -9223372036854775808 ≤ n ∧ n ≤ 9223372036854775807) : I64 n := h
end Go.Proofs.YtangbnmgkcmhbaaDoor
end

section
/- Walks: Node. -/
set_option linter.unusedSimpArgs false
set_option linter.unusedVariables false
namespace Go.Proofs.YtangbnmgkcmhbaaDoor
open Go.RowKit Go.Maps

set_option maxHeartbeats 4000000 in
set_option maxRecDepth 100000 in
theorem node_own {F : Nat → Prop} {w : World} {p : Value} {ds : List Nd} (h : Ar F w p ds) (t : Int) :
    Calls Tryd.prog 48 #[p, .int .i64 t] w fun e w' => ∃ lv, e = .returned (.tuple #[.agg #[.int .i64 (ndAt ds t).op, .int .i64 (ndAt ds t).n, .string (strB (ndAt ds t).s), lv], .int .i64 (ndE ds t)]) ∧ OwnI w.heap.size w' lv (ndAt ds t).l ∧ Kept w w' := by
  have HH := Shut.mk h
  by_cases hin : 0 ≤ t ∧ t < ds.length
  · have hE : ndE ds t = 0 := by unfold ndE; rw [if_pos hin]
    have hN : ndAt ds t = ds.getD t.toNat nd0 := by unfold ndAt; rw [if_pos hin]
    rw [hE, hN]
    clear hE hN
    obtain ⟨t0, t1⟩ := hin
    obtain ⟨j, rfl⟩ := Int.eq_ofNat_of_zero_le t0
    have hjl : j < ds.length := by omega
    rw [Int.toNat_natCast]
    obtain ⟨pb, mb, nv, rfl, q0, q1, hns⟩ := ArG.nodes h
    obtain ⟨nb, noff, ncap, lvs, rfl, _, _, hnb, hnc, hnl⟩ := hns.addr (by omega)
    obtain ⟨y0, y1, y2, y3⟩ := hnc j hjl
    have hlr := hnl j hjl
    have hll := (h.good.may' hjl).len64
    have hq := World.block_lt_of_cell? _ _ q0
    clear hnc hns h hnl
    generalize ds.getD j nd0 = d at y0 y1 y2 y3 hlr hll ⊢
    obtain ⟨op, n, s, l⟩ := d
    simp only at y0 y1 y2 y3 hlr hll ⊢
    obtain ⟨la, lc, hlv, l1, l2, l3⟩ := hlr.len
    rw [hlv] at y3 hlr
    clear hlv
    go_enter Tryd.func48, Tryd.ntmps48
    go_wp2_with (first | (go_at_call 63; refine (arg_has_t (ArG.kept HH.out ((Kept.refl w).alloc _)) t0 t1).mono ?_; rintro e w' ⟨rfl, rfl⟩) | fail)
    have k1 : Kept w ((w.alloc (.cells #[.int .i64 0, .int .i64 0, .string ⟨#[]⟩, .slice none 0 0] 51)).alloc (.cells #[.int .i64 op, .int .i64 n, .string (strB s), .slice la l.length lc] 51)) := ((Kept.refl w).alloc _).alloc _
    have hsz := alloc_size w (.cells #[.int .i64 0, .int .i64 0, .string ⟨#[]⟩, .slice none 0 0] 51)
    have a1 : Blk ((w.alloc (.cells #[.int .i64 0, .int .i64 0, .string ⟨#[]⟩, .slice none 0 0] 51)).alloc (.cells #[.int .i64 op, .int .i64 n, .string (strB s), .slice la l.length lc] 51)) w.heap.size 51 [.int .i64 0, .int .i64 0, .string ⟨#[]⟩, .slice none 0 0] :=
      (Blk.new w [.int .i64 0, .int .i64 0, .string ⟨#[]⟩, .slice none 0 0] 51).kept ((Kept.refl _).alloc _)
    have b1 := Blk.new (w.alloc (.cells #[.int .i64 0, .int .i64 0, .string ⟨#[]⟩, .slice none 0 0] 51)) [.int .i64 op, .int .i64 n, .string (strB s), .slice la l.length lc] 51
    rw [hsz] at b1
    generalize (w.alloc (.cells #[.int .i64 0, .int .i64 0, .string ⟨#[]⟩, .slice none 0 0] 51)).alloc (.cells #[.int .i64 op, .int .i64 n, .string (strB s), .slice la l.length lc] 51) = w1 at k1 a1 b1 ⊢
    refine (clone_any (hlr.kept k1) (by omega)).mono ?_
    rintro e w2 ⟨v2, rfl, o2, k2⟩
    obtain ⟨a2, cap2, rfl, _, _, _⟩ := (OwnI.rd o2).len
    have a2' := a1.kept k2
    have b2 := b1.kept k2
    have c20 := b2.cell 0
    have c21 := b2.cell 1
    have c22 := b2.cell 2
    have c23 := b2.cell 3
    have f23 := b2.frozen 3
    have d20 := a2'.cell 0
    have d21 := a2'.cell 1
    have d22 := a2'.cell 2
    have d23 := a2'.cell 3
    have g20 := a2'.frozen 0
    have g21 := a2'.frozen 1
    have g22 := a2'.frozen 2
    have g23 := a2'.frozen 3
    simp only [List.getElem?_cons_succ, List.getElem?_cons_zero] at c20 c21 c22 c23 d20 d21 d22 d23
    go_wp2
    have e1 : OwnI w1.heap.size (w2.setCell ⟨w.heap.size + 1, 3, none⟩ (.slice a2 l.length cap2)) (.slice a2 l.length cap2) l := Ownv.setCell o2 (Ownv.notBlk o2 b2 (by decide)) _
    have f1 : Blk (w2.setCell ⟨w.heap.size + 1, 3, none⟩ (.slice a2 l.length cap2)) w.heap.size 51 [.int .i64 0, .int .i64 0, .string ⟨#[]⟩, .slice none 0 0] := a2'.turn (turn_setCell _ _ _) (fun e => by simp at e)
    have k3 : Kept w (w2.setCell ⟨w.heap.size + 1, 3, none⟩ (.slice a2 l.length cap2)) := (k1.trans k2).setCell (by simp) _
    generalize w2.setCell ⟨w.heap.size + 1, 3, none⟩ (.slice a2 l.length cap2) = w3 at e1 f1 k3 ⊢
    have f5 := (((f1.set 0 (.int .i64 op)).set 1 (.int .i64 n)).set 2 (.string (strB s))).set 3 (.slice a2 l.length cap2)
    have e5 := Ownv.setCell (Ownv.setCell (Ownv.setCell (Ownv.setCell e1 (ad := ⟨w.heap.size, 0, none⟩) (Ownv.notBlk e1 f1 (by decide)) (.int .i64 op)) (ad := ⟨w.heap.size, 1, none⟩) (Ownv.notBlk e1 f1 (by decide)) (.int .i64 n)) (ad := ⟨w.heap.size, 2, none⟩) (Ownv.notBlk e1 f1 (by decide)) (.string (strB s))) (ad := ⟨w.heap.size, 3, none⟩) (Ownv.notBlk e1 f1 (by decide)) (.slice a2 l.length cap2)
    have k5 : Kept w ((((w3.setCell ⟨w.heap.size, 0, none⟩ (.int .i64 op)).setCell ⟨w.heap.size, 1, none⟩ (.int .i64 n)).setCell ⟨w.heap.size, 2, none⟩ (.string (strB s))).setCell ⟨w.heap.size, 3, none⟩ (.slice a2 l.length cap2)) := (((k3.setCell (Nat.le_refl _) _).setCell (Nat.le_refl _) _).setCell (Nat.le_refl _) _).setCell (Nat.le_refl _) _
    generalize (((w3.setCell ⟨w.heap.size, 0, none⟩ (.int .i64 op)).setCell ⟨w.heap.size, 1, none⟩ (.int .i64 n)).setCell ⟨w.heap.size, 2, none⟩ (.string (strB s))).setCell ⟨w.heap.size, 3, none⟩ (.slice a2 l.length cap2) = w5 at f5 e5 k5 ⊢
    have c0 := f5.cell 0
    have c1 := f5.cell 1
    have c2 := f5.cell 2
    have c3 := f5.cell 3
    simp only [List.set_cons_succ, List.set_cons_zero, List.getElem?_cons_succ, List.getElem?_cons_zero] at c0 c1 c2 c3
    refine bodyPost_ret (v := .tuple #[.agg #[.int .i64 op, .int .i64 n, .string (strB s), .slice a2 l.length cap2], .int .i64 0]) ?_ rfl ?_
    · have hr : Tryd.f48.results = #[.cell 4 51, .tmp 5] := rfl
      simp [results, hr]
      go_simp
    · exact ⟨_, rfl, Ownv.mono e5 k1.size, k5⟩
  · have hE : ndE ds t = 4 := by unfold ndE; rw [if_neg hin]
    have hN : ndAt ds t = nd0 := by unfold ndAt; rw [if_neg hin]
    rw [hE, hN]
    clear hE hN h
    go_enter Tryd.func48, Tryd.ntmps48
    go_wp2_with (go_at_call 63; refine (arg_has_f (ArG.kept HH.out ((Kept.refl w).alloc _)) hin).mono ?_; rintro e w' ⟨rfl, rfl⟩)
    have hb := Blk.new w [.int .i64 0, .int .i64 0, .string ⟨#[]⟩, .slice none 0 0] 51
    have c0 := hb.cell 0
    have c1 := hb.cell 1
    have c2 := hb.cell 2
    have c3 := hb.cell 3
    simp only [List.getElem?_cons_succ, List.getElem?_cons_zero] at c0 c1 c2 c3
    refine bodyPost_ret (v := .tuple #[.agg #[.int .i64 0, .int .i64 0, .string ⟨#[]⟩, .slice none 0 0], .int .i64 4]) ?_ rfl ?_
    · have hr : Tryd.f48.results = #[.cell 4 51, .tmp 5] := rfl
      simp [results, hr]
      go_simp
    · exact ⟨_, rfl, OwnI.nil _ _, (Kept.refl w).alloc _⟩
theorem node_any {F : Nat → Prop} {w : World} {p : Value} {ds : List Nd} (h : Ar F w p ds) (t : Int) :
    Calls Tryd.prog 48 #[p, .int .i64 t] w fun e w' => ∃ v, e = .returned (.tuple #[v, .int .i64 (ndE ds t)]) ∧ RdN w' v (ndAt ds t) ∧ Kept w w' :=
  (node_own h t).mono fun e w' ⟨lv, a, b, c⟩ => ⟨_, a, ⟨lv, rfl, OwnI.rd b⟩, c⟩

end Go.Proofs.YtangbnmgkcmhbaaDoor
end

section
/- An arena within a call: what stays; Make, List, Text, Node, Len, New of package term, said so. -/
set_option linter.unusedSimpArgs false
set_option linter.unusedVariables false
namespace Go.Proofs.YtangbnmgkcmhbaaDoor
open Go.RowKit Go.Maps

/-- Only blocks that are not of S have turned. -/
def Keep (S : Nat → Prop) (w w' : World) : Prop := Turn (fun b => ¬ S b) w w'
theorem Keep.refl (S : Nat → Prop) (w : World) : Keep S w w := Turn.refl _ _
theorem Keep.trans {S : Nat → Prop} {a b c : World} (h : Keep S a b) (k : Keep S b c) : Keep S a c := Turn.trans h k (fun x hx => .inl hx)
theorem Kept.keep {w w' : World} (h : Kept w w') (S : Nat → Prop) : Keep S w w' := h.turn _
theorem Keep.kept {S : Nat → Prop} {a b c : World} (h : Keep S a b) (k : Kept b c) : Keep S a c := Turn.kept h k
theorem Keep.size {S : Nat → Prop} {a b : World} (h : Keep S a b) : a.heap.size ≤ b.heap.size := Turn.size h
theorem Keep.blk {S : Nat → Prop} {a b : World} (h : Keep S a b) {g : Nat} {e : TypeId} {xs : List Value} (k : Blk a g e xs) (hs : S g) : Blk b g e xs := Blk.turn k h (fun c => c hs)
theorem Keep.cell {S : Nat → Prop} {a b : World} (h : Keep S a b) {p : Addr} {v : Value} (k : a.cell? p = some v) (hs : S p.block) : b.cell? p = some v :=
  (World.cell?_of_block (Turn.block h p.block (World.block_lt_of_cell? _ _ k) (fun c => c hs))).trans k
theorem Keep.owni {S : Nat → Prop} {a b : World} (h : Keep S a b) {B : Nat} {v : Value} {zs : List Int} (k : OwnI B a v zs) (hs : ∀ b, Blks v b → S b) : OwnI B b v zs := Ownv.turn k h (fun b hb c => c (hs b hb))
theorem Keep.of {S : Nat → Prop} {w0 w w' : World} (h0 : Kept w0 w) (h : Keep S w w') (hb : ∀ b, b < w0.heap.size → S b) : Kept w0 w' :=
  Turn.keptOf h0 h (fun b hn => by
    by_cases c : b < w0.heap.size
    · exact absurd (hb b c) hn
    · omega)

/-- Since w0 nothing of it has turned; p is an arena with the terms ds, apart from S; w0 has the tables. -/
structure At (w0 : World) (S : Nat → Prop) (w : World) (p : Value) (ds : List Nd) : Prop where
  ar : ∃ F, Ar F w p ds ∧ ∀ b, F b → ¬ S b
  old : ∀ b, S b → b < w.heap.size
  base : ∀ b, b < w0.heap.size → S b
  kept : Kept w0 w
  tab : Tabs w0

theorem At.tabs {w0 : World} {S : Nat → Prop} {w : World} {p : Value} {ds : List Nd} (h : At w0 S w p ds) : Tabs w := h.tab.kept h.kept
theorem At.good {w0 : World} {S : Nat → Prop} {w : World} {p : Value} {ds : List Nd} (h : At w0 S w p ds) : Good ds := by
  obtain ⟨F, h1, _⟩ := h.ar
  exact h1.good
theorem At.few {w0 : World} {S : Nat → Prop} {w : World} {p : Value} {ds : List Nd} (h : At w0 S w p ds) : ds.length ≤ 100000 := by
  obtain ⟨F, h1, _⟩ := h.ar
  exact h1.few
theorem At.step {w0 : World} {S : Nat → Prop} {w w' : World} {p : Value} {ds : List Nd} (h : At w0 S w p ds) (k : Kept w w') : At w0 S w' p ds := by
  obtain ⟨F, h1, h2⟩ := h.ar
  exact ⟨⟨F, ArG.kept h1 k, h2⟩, fun b hb => Nat.lt_of_lt_of_le (h.old b hb) k.size, h.base, h.kept.trans k, h.tab⟩
/-- Other blocks that are to stay: old ones of S, or ones that the arena cannot have. -/
theorem At.more {w0 : World} {S T : Nat → Prop} {w w' : World} {p : Value} {ds : List Nd} (h : At w0 S w p ds) (k : Kept w w') (hT : ∀ b, T b → (S b ∨ w.heap.size ≤ b) ∧ b < w'.heap.size) (hb : ∀ b, b < w0.heap.size → T b) : At w0 T w' p ds := by
  obtain ⟨F, h1, h2⟩ := h.ar
  refine ⟨⟨F, ArG.kept h1 k, fun b hF hTb => ?_⟩, fun b hTb => (hT b hTb).2, hb, h.kept.trans k, h.tab⟩
  rcases (hT b hTb).1 with c | c
  · exact h2 b hF c
  · exact absurd (h1.lt b hF) (by omega)
/-- What turns blocks that are to stay, and no others that were there. -/
theorem At.turn {w0 : World} {S G : Nat → Prop} {w w' : World} {p : Value} {ds : List Nd} (h : At w0 S w p ds) (k : Turn G w w') (hG : ∀ b, G b → S b ∧ w0.heap.size ≤ b) : At w0 S w' p ds := by
  obtain ⟨F, h1, h2⟩ := h.ar
  exact ⟨⟨F, ArG.turn h1 k (fun b hF hg => h2 b hF (hG b hg).1), h2⟩, fun b hb => Nat.lt_of_lt_of_le (h.old b hb) k.size, h.base, Turn.keptOf h.kept k (fun b hb => (hG b hb).2), h.tab⟩

/-- What a call answers that makes a term. -/
def MkPost (w0 : World) (S : Nat → Prop) (w : World) (p : Value) (r : List Nd × Int × Int) (e : Ending) (w' : World) : Prop :=
  e = .returned (.tuple #[.int .i64 r.2.1, .int .i64 r.2.2]) ∧ At w0 S w' p r.1 ∧ Keep S w w'
theorem MkPost.after {w0 : World} {S : Nat → Prop} {w w1 : World} {p : Value} {r : List Nd × Int × Int} {e : Ending} {w' : World} (h : MkPost w0 S w1 p r e w') (k : Kept w w1) : MkPost w0 S w p r e w' :=
  ⟨h.1, h.2.1, (k.keep S).trans h.2.2⟩

theorem post_of {w0 : World} {S F F' : Nat → Prop} {w w' : World} {p : Value} {ds es : List Nd} (h : At w0 S w p ds) (hF : ∀ b, F b → ¬ S b) (r1 : Ar F' w' p es) (r2 : Turn F w w') (r3 : ∀ b, F' b → F b ∨ w.heap.size ≤ b) :
    At w0 S w' p es ∧ Keep S w w' := by
  have hk : Keep S w w' := r2.mono fun b hb => hF b hb
  refine ⟨⟨⟨F', r1, fun b hb hs => ?_⟩, fun b hb => Nat.lt_of_lt_of_le (h.old b hb) r2.size, h.base, hk.of h.kept h.base, h.tab⟩, hk⟩
  rcases r3 b hb with c | c
  · exact hF b c hs
  · exact absurd (h.old b hs) (by omega)

theorem makeA {w0 : World} {S : Nat → Prop} {w : World} {p : Value} {ds : List Nd} (h : At w0 S w p ds) {v : Value} {d : Nd} (hd : RdN w v d) (hok : NdOk d) :
    Calls Tryd.prog 26 #[p, v] w (MkPost w0 S w p (mk ds d)) := by
  obtain ⟨F, h1, h2⟩ := h.ar
  refine (make_any h1 h.tabs hd hok).mono ?_
  rintro e w' ⟨F', rfl, r1, r2, r3⟩
  exact ⟨rfl, post_of h h2 r1 r2 r3⟩
theorem nodeA {w0 : World} {S : Nat → Prop} {w : World} {p : Value} {ds : List Nd} (h : At w0 S w p ds) (t : Int) :
    Calls Tryd.prog 48 #[p, .int .i64 t] w fun e w' => ∃ v, e = .returned (.tuple #[v, .int .i64 (ndE ds t)]) ∧ RdN w' v (ndAt ds t) ∧ Kept w w' := by
  obtain ⟨F, h1, h2⟩ := h.ar
  exact node_any h1 t
theorem lenA {w0 : World} {S : Nat → Prop} {w : World} {p : Value} {ds : List Nd} (h : At w0 S w p ds) :
    Calls Tryd.prog 47 #[p] w fun e w' => e = .returned (.int .i64 ds.length) ∧ w = w' := by
  obtain ⟨F, h1, h2⟩ := h.ar
  exact arg_len h1
theorem newA {w0 w : World} (k : Kept w0 w) (ht : Tabs w0) {S : Nat → Prop} (hS : ∀ b, S b → b < w.heap.size) (hb : ∀ b, b < w0.heap.size → S b) :
    Calls Tryd.prog 24 #[] w fun e w' => e = .returned (.pointer (some ⟨w.heap.size + 1, 0, none⟩)) ∧ At w0 S w' (.pointer (some ⟨w.heap.size + 1, 0, none⟩)) [] ∧ Kept w w' := by
  refine (new_any w).mono ?_
  rintro e w' ⟨F, p, rfl, h1, h2, h3, rfl⟩
  exact ⟨rfl, ⟨⟨F, h1, fun b hb hs => absurd (hS b hs) (by have := h3 b hb; omega)⟩, fun b hs => Nat.lt_of_lt_of_le (hS b hs) h2.size, hb, k.trans h2, ht⟩, h2⟩

theorem ndE_eq {ds : List Nd} {t : Int} : ndE ds t = if IsT ds t then 0 else 4 := rfl
theorem ndAt_i64 {ds : List Nd} {t : Int} : True := trivial

end Go.Proofs.YtangbnmgkcmhbaaDoor
end

section
/- An arena as it is seen: look. -/
set_option linter.unusedSimpArgs false
set_option linter.unusedVariables false
namespace Go.Proofs.YtangbnmgkcmhbaaDoor
open Go.RowKit Go.Maps

/-- vp is a view of the terms ds, of which the known ones can be derived; its memory is V. -/
structure IsVw (V : Nat → Prop) (w : World) (vp : Value) (ds : List Nd) (kn : List Bool) : Prop where
  rep : ∃ (vb : Nat) (nv kv : Value) (lvs : List Value), vp = .pointer (some ⟨vb, 0, none⟩) ∧ Blk w vb 86 [nv, kv] ∧ Ownv 0 51 4 w nv ds.length (flat ds lvs) ∧ lvs.length = ds.length ∧ (∀ i, i < ds.length → OwnI 0 w (lvs.getD i undef) (ds.getD i nd0).l) ∧
    OwnB 0 w kv kn ∧ V vb ∧ (∀ b, Blks nv b → V b) ∧ (∀ b, Blks kv b → V b) ∧ ∀ i, i < ds.length → ∀ b, Blks (lvs.getD i undef) b → V b
  len : kn.length = ds.length
  lt : ∀ b, V b → b < w.heap.size
theorem IsVw.same {V : Nat → Prop} {w w' : World} {vp : Value} {ds : List Nd} {kn : List Bool} (h : IsVw V w vp ds kn) (k : Same V w w') (hl : w.heap.size ≤ w'.heap.size) : IsVw V w' vp ds kn := by
  obtain ⟨vb, nv, kv, lvs, h1, h2, h3, h4, h5, h6, h7, h8, h9, h10⟩ := h.rep
  exact ⟨⟨vb, nv, kv, lvs, h1, h2.same (k.mono fun b e => by rw [e]; exact h7), h3.same (k.mono h8), h4, fun i hi => Ownv.same (h5 i hi) (k.mono (h10 i hi)), Ownv.same h6 (k.mono h9), h7, h8, h9, h10⟩, h.len, fun b hb => Nat.lt_of_lt_of_le (h.lt b hb) hl⟩
theorem IsVw.turn {V G : Nat → Prop} {w w' : World} {vp : Value} {ds : List Nd} {kn : List Bool} (h : IsVw V w vp ds kn) (k : Turn G w w') (hd : ∀ b, V b → ¬ G b) : IsVw V w' vp ds kn := h.same (k.same h.lt hd) k.size
theorem IsVw.kept {V : Nat → Prop} {w w' : World} {vp : Value} {ds : List Nd} {kn : List Bool} (h : IsVw V w vp ds kn) (k : Kept w w') : IsVw V w' vp ds kn := h.same (k.same h.lt) k.size
theorem IsVw.read {V : Nat → Prop} {w : World} {vp : Value} {ds : List Nd} {kn : List Bool} (h : IsVw V w vp ds kn) : ∃ (vb : Nat) (nv kv : Value), vp = .pointer (some ⟨vb, 0, none⟩) ∧ w.cell? ⟨vb, 0, none⟩ = some nv ∧ w.cell? ⟨vb, 1, none⟩ = some kv ∧ RdNs w nv ds ∧ OwnB 0 w kv kn := by
  obtain ⟨vb, nv, kv, lvs, h1, h2, h3, h4, h5, h6, _⟩ := h.rep
  exact ⟨vb, nv, kv, h1, h2.cell 0, h2.cell 1, ⟨lvs, h4, h3.rdv, fun i hi => (h5 i hi).rd⟩, h6⟩

/-! ## nodes that are put into a row -/
theorem Tryd.infoNode4 : (Tryd.prog.info? 51).map (fun i => (i.zero, i.size, i.bytes)) = some (some (.agg #[.int .i64 0, .int .i64 0, .string ⟨#[]⟩, .slice none 0 0]), 4, 56) := by kernel_rfl
theorem made_nodes (n : Nat) : (madeCells #[.int .i64 0, .int .i64 0, .string ⟨#[]⟩, .slice none 0 0] (n * 4)).toList = flat (List.replicate n nd0) (List.replicate n (.slice none 0 0)) := by
  refine List.ext_getElem? fun q => ?_
  by_cases hq : q < n * 4
  · have e : q = q / 4 * 4 + q % 4 := by omega
    have h4 : q % 4 < 4 := by omega
    have hi : q / 4 < n := by omega
    have h1 : (madeCells #[.int .i64 0, .int .i64 0, .string ⟨#[]⟩, .slice none 0 0] (n * 4)).toList[q]? = some ((#[.int .i64 0, .int .i64 0, .string ⟨#[]⟩, .slice none 0 0] : Array Value)[q % 4]!) := by
      simp [madeCells, hq]
    rw [h1, e, flat_at _ _ (q / 4) (q % 4) (by simpa using hi) h4]
    have g1 : (List.replicate n nd0).getD (q / 4) nd0 = nd0 := by
      rw [List.getD_eq_getElem?_getD, List.getElem?_replicate]; split <;> rfl
    have g2 : (List.replicate n (Value.slice none 0 0)).getD (q / 4) undef = .slice none 0 0 := by rw [rep_val, if_pos hi]
    rw [g1, g2, ← e]
    have : q % 4 = 0 ∨ q % 4 = 1 ∨ q % 4 = 2 ∨ q % 4 = 3 := by omega
    rcases this with c | c | c | c <;> rw [c] <;> rfl
  · rw [List.getElem?_eq_none (by simp [madeCells]; omega), List.getElem?_eq_none (by rw [flat_length, List.length_replicate]; omega)]
theorem go_mknodes {w : World} {ops : Array Oper} {rest : List Oper} {a : Act} {Q : Exit → Act → World → Prop} {d : Option Tmp} {ty : TypeId} {ps : String} {af : Array Edge} {l c : Operand}
    (n : Nat) (L : Int) (hl : a.eval l = .int .i64 L) (hc : a.eval c = .int .i64 L) (hL : L = (n : Int)) (h1 : n ≤ 1000000000)
    (hK : ∀ w', Ownv w.heap.size 51 4 w' (.slice (some ⟨w.heap.size, 0, none⟩) n n) n (flat (List.replicate n nd0) (List.replicate n (.slice none 0 0))) → Kept w w' → w'.heap.size = w'.heap.size → wpList Tryd.prog ops Q rest (a.put d (.slice (some ⟨w.heap.size, 0, none⟩) n n)) w') :
    wpList Tryd.prog ops Q (⟨d, .makeSlice 22 l c, ty, ps, af, none⟩ :: rest) a w := by
  obtain ⟨i0, hi, hz0, hz1, hz2⟩ := info_parts Tryd.infoNode4
  refine wpList_make_full w rfl l c 22 rfl w.heap.size 51 i0 (.agg #[.int .i64 0, .int .i64 0, .string ⟨#[]⟩, .slice none 0 0]) 4 Tryd.underlying22 hi hz0 hz1 .i64 .i64 L L n hl hc hL hL (by rw [hz2]; omega) (by unfold maxLen; omega) (Nat.le_refl _) ?_
  intro w' ho hg
  refine hK w' ?_ ((Below.refl w.heap.size w).grown hg (Nat.le_refl _) fun k hk => by cases hk) rfl
  unfold Ownv
  rw [← made_nodes]
  simpa [Value.cells] using ho
theorem flat_put (es : List Nd) (lvs : List Value) (k : Nat) (d : Nd) (lv : Value) (hk : k < es.length) (hl : lvs.length = es.length) :
    ((((flat es lvs).set (k * 4) (.int .i64 d.op)).set (k * 4 + 1) (.int .i64 d.n)).set (k * 4 + 2) (.string (strB d.s))).set (k * 4 + 3) lv = flat (es.set k d) (lvs.set k lv) := by
  induction es generalizing lvs k with
  | nil => simp at hk
  | cons e es ih =>
    cases lvs with
    | nil => simp at hl
    | cons v lvs =>
      cases k with
      | zero => simp [flat, ndCells]
      | succ k =>
        have e1 : (k + 1) * 4 = k * 4 + 1 + 1 + 1 + 1 := by omega
        have := ih lvs k (by simpa using hk) (by simpa using hl)
        simp only [flat, ndCells, List.cons_append, List.nil_append, List.headD_cons, List.tail_cons, List.set_cons_succ]
        rw [e1]
        simp only [List.set_cons_succ, List.cons.injEq, true_and]
        exact this
end Go.Proofs.YtangbnmgkcmhbaaDoor
end

/- Texts of one proof, put together: RtS, RtM, MthA, MthB, MthR, RtA, RtB, MthC, MthD, MthE, MthT, RtC, InR, RtD, RtE, RtF, RtG, Bey. -/
import Derived.Test.YtdjfdobcjakmhaaDoorMg01
import Derived.Shelf.Abstract
import Derived.Lib.BitFns
import Derived.Deep.RegionHeld3
import Derived.StillTailTactics
import Derived.Outline
import Derived.Laws.Rows
import Derived.IntWalk
section
/- A group's tree, plainly: whether it may be, and what adding, removing and updating make of it. Nothing here names a program. -/
set_option linter.unusedVariables false
namespace Go.Proofs.YtdjfdobcjakmhaaDoor
namespace Rt
open Mth
structure TN where
  kd : Int
  id : Int
  enc : Int
  sig : Int
  hash : Int
  un : List Int
def tn0 : TN := ⟨0, 0, 0, 0, 0, []⟩
def nd (t : List TN) (x : Nat) : TN := t.getD x tn0
/-- The leaf i is there. -/
def lk (t : List TN) (i : Nat) : Bool := decide ((nd t (2 * i)).kd = 1)
def tab (m : Nat) (g : Nat → TN) : List TN := (List.range m).map g
theorem tab_len (m : Nat) (g : Nat → TN) : (tab m g).length = m := by simp [tab]
theorem tab_nd {m : Nat} {g : Nat → TN} {x : Nat} (h : x < m) : nd (tab m g) x = g x := by
  unfold nd tab
  rw [List.getD_eq_getElem?_getD, List.getElem?_map, List.getElem?_range h]; rfl
theorem nd_out {t : List TN} {x : Nat} (h : t.length ≤ x) : nd t x = tn0 := by
  unfold nd
  rw [List.getD_eq_getElem?_getD, List.getElem?_eq_none h]; rfl
theorem nd_get {t : List TN} {x : Nat} (h : x < t.length) : nd t x = t[x] := by
  unfold nd
  rw [List.getD_eq_getElem?_getD, List.getElem?_eq_getElem h]; rfl
theorem tn_ext {t u : List TN} (hl : t.length = u.length) (h : ∀ x, x < t.length → nd t x = nd u x) : t = u := by
  refine List.ext_getElem hl fun i h1 h2 => ?_
  have := h i h1
  rwa [nd_get h1, nd_get h2] at this
theorem tab_self (t : List TN) : tab t.length (nd t) = t := tn_ext (tab_len _ _) fun x hx => tab_nd (by rwa [tab_len] at hx)

/-- The nodes of a tree of n leaves may stand where they stand. -/
structure MayN (t : List TN) (n : Nat) : Prop where
  hn : n ∈ fulls
  len : t.length = 2 * n - 1
  blank : ∀ x, x < 2 * n - 1 → (nd t x).kd = 0 → nd t x = tn0
  leaf : ∀ x, x < 2 * n - 1 → (nd t x).kd ≠ 0 → x % 2 = 0 → (nd t x).kd = 1 ∧ (nd t x).un = []
  par : ∀ x, x < 2 * n - 1 → (nd t x).kd ≠ 0 → x % 2 = 1 → (nd t x).kd = 2 ∧ (nd t x).id = 0 ∧ (nd t x).sig = 0 ∧ (nd t x).un.Pairwise (· < ·) ∧
    ∀ i ∈ (nd t x).un, ∃ j : Nat, i = j ∧ lo x ≤ j ∧ j < hi x ∧ lk t j = true ∧ ∀ z, z < 2 * n - 1 → (nd t z).kd = 2 → z ≠ x → hasB z j = true → underB z x = true → i ∈ (nd t z).un
structure May (t : List TN) (n : Nat) : Prop where
  mn : MayN t n
  some' : ∃ i, i < n ∧ lk t i = true
  right : n = 1 ∨ ∃ i, n / 2 ≤ i ∧ i < n ∧ lk t i = true

/-! ## nodes above a leaf -/
theorem itr_node {x i : Nat} (hx : x < 511) (h : hasB x i = true) : itr (lvl x) (2 * i) = x := by
  have hall : (List.range 511).all (fun x => (List.range (hi x - lo x)).all fun k => Nat.beq (itr (lvl x) (2 * (lo x + k))) x) = true := by decide +kernel
  have h1 := List.all_eq_true.1 hall x (List.mem_range.2 hx)
  obtain ⟨a, b⟩ := hasB_iff.1 h
  have h2 := List.all_eq_true.1 h1 (i - lo x) (List.mem_range.2 (by omega))
  have := Nat.eq_of_beq_eq_true h2
  rwa [show lo x + (i - lo x) = i by omega] at this
/-- A node that is an even one is a leaf's, another one is above leaves. -/
theorem even_node {x : Nat} (hx : x < 511) : (x % 2 = 0 ↔ lvl x = 0) ∧ (x % 2 = 0 → lo x = x / 2 ∧ hi x = x / 2 + 1) ∧ lo x < hi x := by
  have hall : (List.range 511).all (fun x => (Nat.beq (x % 2) 0 == Nat.beq (lvl x) 0) && (!Nat.beq (x % 2) 0 || (Nat.beq (lo x) (x / 2) && Nat.beq (hi x) (x / 2 + 1))) && Nat.blt (lo x) (hi x)) = true := by decide +kernel
  have h := List.all_eq_true.1 hall x (List.mem_range.2 hx)
  rw [Bool.and_eq_true, Bool.and_eq_true, Bool.or_eq_true] at h
  obtain ⟨⟨h1, h2⟩, h3⟩ := h
  have h1 := eq_of_beq h1
  refine ⟨⟨fun e => ?_, fun e => ?_⟩, fun e => ?_, Nat.le_of_ble_eq_true h3⟩
  · have : Nat.beq (x % 2) 0 = true := by rw [e]; rfl
    rw [this] at h1
    exact Nat.eq_of_beq_eq_true h1.symm
  · have : Nat.beq (lvl x) 0 = true := by rw [e]; rfl
    rw [this] at h1
    exact Nat.eq_of_beq_eq_true h1
  · rcases h2 with h2 | h2
    · rw [show Nat.beq (x % 2) 0 = true by rw [e]; rfl] at h2
      cases h2
    · rw [Bool.and_eq_true] at h2
      exact ⟨Nat.eq_of_beq_eq_true h2.1, Nat.eq_of_beq_eq_true h2.2⟩
theorem hasB_even {x i : Nat} (hx : x < 511) (he : x % 2 = 0) : hasB x i = true ↔ x = 2 * i := by
  obtain ⟨_, h, _⟩ := even_node hx
  obtain ⟨a, b⟩ := h he
  rw [hasB_iff, a, b]
  omega
/-- What is under a node has no more leaves. -/
theorem under_has {z x j : Nat} (hu : underB z x = true) (h : hasB z j = true) : hasB x j = true := by
  unfold underB at hu
  rw [Bool.and_eq_true, Bool.and_eq_true] at hu
  have a := Nat.le_of_ble_eq_true hu.1.1
  have b := Nat.le_of_ble_eq_true hu.1.2
  obtain ⟨c, d⟩ := hasB_iff.1 h
  exact hasB_iff.2 ⟨by omega, by omega⟩
theorem lk_leaf {t : List TN} {n i : Nat} (m : MayN t n) (hi : i < n) : lk t i = true ∨ (lk t i = false ∧ nd t (2 * i) = tn0) := by
  by_cases h : (nd t (2 * i)).kd = 1
  · exact .inl (decide_eq_true h)
  · refine .inr ⟨decide_eq_false h, m.blank _ (by omega) ?_⟩
    by_cases h0 : (nd t (2 * i)).kd = 0
    · exact h0
    · exact absurd (m.leaf _ (by omega) h0 (by omega)).1 h

/-! ## a leaf is blanked, with all above it -/
def blkG (t : List TN) (i : Nat) (x : Nat) : TN := bif hasB x i then tn0 else nd t x
theorem blkG_in {t : List TN} {i x : Nat} (h : hasB x i = true) : blkG t i x = tn0 := by unfold blkG; rw [h]; rfl
theorem blkG_out {t : List TN} {i x : Nat} (h : hasB x i = false) : blkG t i x = nd t x := by unfold blkG; rw [h]; rfl
theorem hasB_leaf {i j : Nat} (h : 2 * j < 511) : hasB (2 * j) i = decide (i = j) := by
  have := hasB_even (i := i) h (by omega)
  by_cases e : i = j
  · rw [decide_eq_true e]; exact this.2 (by omega)
  · rw [decide_eq_false e]
    cases hb : hasB (2 * j) i with
    | false => rfl
    | true => have := this.1 hb; omega
theorem fulls_le {n : Nat} (hn : n ∈ fulls) : 1 ≤ n ∧ n ≤ 256 := mem_bd hn
/-- A leaf is put in the place of another one (or of none), and all above it are blanked. -/
def updG (t : List TN) (i : Nat) (l : TN) (x : Nat) : TN := if x = 2 * i then l else blkG t i x
theorem updG_may {t : List TN} {n i : Nat} {l : TN} (m : MayN t n) (hi : i < n) (hl : l = tn0 ∨ (l.kd = 1 ∧ l.un = [])) : MayN (tab (2 * n - 1) (updG t i l)) n := by
  have hb := fulls_le m.hn
  have hv : ∀ x, x < 2 * n - 1 → nd (tab (2 * n - 1) (updG t i l)) x = updG t i l x := fun x hx => tab_nd hx
  have hkeep : ∀ x, x < 2 * n - 1 → hasB x i = false → updG t i l x = nd t x := fun x hx h => by
    have hne : x ≠ 2 * i := fun e => by
      rw [e, hasB_leaf (by omega), decide_eq_true rfl] at h; cases h
    unfold updG
    rw [if_neg hne, blkG_out h]
  have hgone : ∀ x, x < 2 * n - 1 → hasB x i = true → updG t i l x = if x = 2 * i then l else tn0 := fun x hx h => by
    unfold updG
    rw [blkG_in h]
  have hlk : ∀ j, j < n → j ≠ i → lk (tab (2 * n - 1) (updG t i l)) j = lk t j := fun j hj hne => by
    unfold lk
    rw [hv _ (by omega), hkeep _ (by omega) (by rw [hasB_leaf (by omega)]; exact decide_eq_false (Ne.symm hne))]
  refine ⟨m.hn, tab_len _ _, fun x hx h0 => ?_, fun x hx h0 he => ?_, fun x hx h0 ho => ?_⟩
  · rw [hv x hx] at h0 ⊢
    cases hc : hasB x i with
    | false => rw [hkeep x hx hc] at h0 ⊢; exact m.blank x hx h0
    | true =>
      rw [hgone x hx hc] at h0 ⊢
      by_cases e : x = 2 * i
      · rw [if_pos e] at h0 ⊢
        rcases hl with rfl | hl
        · rfl
        · rw [hl.1] at h0; cases h0
      · rw [if_neg e]
  · rw [hv x hx] at h0 ⊢
    cases hc : hasB x i with
    | false => rw [hkeep x hx hc] at h0 ⊢; exact m.leaf x hx h0 he
    | true =>
      rw [hgone x hx hc] at h0 ⊢
      have e : x = 2 * i := (hasB_even (by omega) he).1 hc
      rw [if_pos e] at h0 ⊢
      rcases hl with rfl | hl
      · exact absurd rfl h0
      · exact hl
  · rw [hv x hx] at h0 ⊢
    cases hc : hasB x i with
    | true =>
      rw [hgone x hx hc, if_neg (by omega)] at h0
      exact absurd rfl h0
    | false =>
      rw [hkeep x hx hc] at h0 ⊢
      obtain ⟨a1, a2, a3, a4, a5⟩ := m.par x hx h0 ho
      refine ⟨a1, a2, a3, a4, fun k hk => ?_⟩
      obtain ⟨j, rfl, b1, b2, b3, b4⟩ := a5 k hk
      have hji : j ≠ i := fun e => by
        rw [← e, hasB_iff.2 ⟨b1, b2⟩] at hc; cases hc
      have hjn : j < n := by
        cases Nat.lt_or_ge j n with
        | inl h => exact h
        | inr h =>
          have : lk t j = false := by
            unfold lk
            rw [nd_out (by rw [m.len]; omega)]
            rfl
          rw [this] at b3; cases b3
      refine ⟨j, rfl, b1, b2, by rw [hlk j hjn hji]; exact b3, fun z hz hz2 hzx hzj hzu => ?_⟩
      rw [hv z hz] at hz2 ⊢
      cases hcz : hasB z i with
      | false => rw [hkeep z hz hcz] at hz2 ⊢; exact b4 z hz hz2 hzx hzj hzu
      | true =>
        rw [hgone z hz hcz] at hz2
        by_cases e : z = 2 * i
        · rw [if_pos e] at hz2
          rcases hl with rfl | hl
          · cases hz2
          · rw [hl.1] at hz2; cases hz2
        · rw [if_neg e] at hz2; cases hz2
/-- The left half of a tree. -/
theorem half_may {t : List TN} {n : Nat} (m : MayN t (2 * n)) (hn : n ∈ fulls) : MayN (tab (2 * n - 1) (nd t)) n := by
  have hv : ∀ x, x < 2 * n - 1 → nd (tab (2 * n - 1) (nd t)) x = nd t x := fun x hx => tab_nd hx
  have hb := fulls_le hn
  have hb2 := fulls_le m.hn
  have hhi : ∀ x, x < 2 * n - 1 → hi x ≤ n := fun x hx => by
    have h := allB_at (p := fun n x => Nat.ble (hi x) n) (by decide +kernel) hn hx
    exact Nat.le_of_ble_eq_true h
  refine ⟨hn, tab_len _ _, fun x hx h0 => ?_, fun x hx h0 he => ?_, fun x hx h0 ho => ?_⟩
  · rw [hv x hx] at h0 ⊢; exact m.blank x (by omega) h0
  · rw [hv x hx] at h0 ⊢; exact m.leaf x (by omega) h0 he
  · rw [hv x hx] at h0 ⊢
    obtain ⟨a1, a2, a3, a4, a5⟩ := m.par x (by omega) h0 ho
    refine ⟨a1, a2, a3, a4, fun k hk => ?_⟩
    obtain ⟨j, rfl, b1, b2, b3, b4⟩ := a5 k hk
    have := hhi x hx
    refine ⟨j, rfl, b1, b2, by unfold lk at b3 ⊢; rw [hv _ (by omega)]; exact b3, fun z hz hz2 hzx hzj hzu => ?_⟩
    rw [hv z hz] at hz2 ⊢
    exact b4 z (by omega) hz2 hzx hzj hzu

/-! ## a leaf is added -/
/-- A rising list with one number more. -/
def ins (i : Int) : List Int → List Int
  | [] => [i]
  | a :: l => if i < a then i :: a :: l else if i = a then a :: l else a :: ins i l
theorem mem_ins {i k : Int} {l : List Int} : k ∈ ins i l ↔ k = i ∨ k ∈ l := by
  induction l with
  | nil => simp [ins]
  | cons a l ih =>
    unfold ins
    by_cases h1 : i < a
    · rw [if_pos h1]; simp
    · rw [if_neg h1]
      by_cases h2 : i = a
      · rw [if_pos h2]; subst h2; simp
      · rw [if_neg h2, List.mem_cons, ih, List.mem_cons]
        constructor
        · rintro (h | h | h)
          · exact .inr (.inl h)
          · exact .inl h
          · exact .inr (.inr h)
        · rintro (h | h | h)
          · exact .inr (.inl h)
          · exact .inl h
          · exact .inr (.inr h)
theorem ins_rising {i : Int} {l : List Int} (h : l.Pairwise (· < ·)) : (ins i l).Pairwise (· < ·) := by
  induction l with
  | nil => exact List.pairwise_singleton _ _
  | cons a l ih =>
    have ha := List.pairwise_cons.1 h
    unfold ins
    by_cases h1 : i < a
    · rw [if_pos h1]
      exact List.pairwise_cons.2 ⟨fun k hk => by
        rcases List.mem_cons.1 hk with rfl | hk
        · exact h1
        · exact Int.lt_trans h1 (ha.1 k hk), h⟩
    · rw [if_neg h1]
      by_cases h2 : i = a
      · rw [if_pos h2]; exact h
      · rw [if_neg h2]
        refine List.pairwise_cons.2 ⟨fun k hk => ?_, ih ha.2⟩
        rcases mem_ins.1 hk with rfl | hk
        · omega
        · exact ha.1 k hk
/-- The leaf i is l, and all Parents above it have it as not merged. -/
def addG (t : List TN) (i : Nat) (l : TN) (x : Nat) : TN :=
  if x = 2 * i then l else if hasB x i = true ∧ (nd t x).kd = 2 then { nd t x with un := ins i (nd t x).un } else nd t x
theorem addG_kd {t : List TN} {i x : Nat} {l : TN} (h : x ≠ 2 * i) : (addG t i l x).kd = (nd t x).kd ∧ (addG t i l x).id = (nd t x).id ∧ (addG t i l x).sig = (nd t x).sig ∧ (addG t i l x).enc = (nd t x).enc ∧ (addG t i l x).hash = (nd t x).hash := by
  unfold addG
  rw [if_neg h]
  split <;> exact ⟨rfl, rfl, rfl, rfl, rfl⟩
theorem addG_un {t : List TN} {i x : Nat} {l : TN} (h : x ≠ 2 * i) {k : Int} (hk : k ∈ (nd t x).un) : k ∈ (addG t i l x).un := by
  unfold addG
  rw [if_neg h]
  split
  · exact mem_ins.2 (.inr hk)
  · exact hk
theorem addG_may {t : List TN} {n i : Nat} {l : TN} (m : MayN t n) (hi : i < n) (hl : l.kd = 1 ∧ l.un = []) : MayN (tab (2 * n - 1) (addG t i l)) n := by
  have hb := fulls_le m.hn
  have hv : ∀ x, x < 2 * n - 1 → nd (tab (2 * n - 1) (addG t i l)) x = addG t i l x := fun x hx => tab_nd hx
  have hself : addG t i l (2 * i) = l := by unfold addG; rw [if_pos rfl]
  have hlk : ∀ j, lk t j = true → j < n → lk (tab (2 * n - 1) (addG t i l)) j = true := fun j h hj => by
    unfold lk at h ⊢
    rw [hv _ (by omega)]
    by_cases e : j = i
    · rw [e, hself]; exact decide_eq_true hl.1
    · rw [(addG_kd (by omega)).1]; exact h
  have hout : ∀ j, lk t j = true → j < n := fun j h => by
    cases Nat.lt_or_ge j n with
    | inl h => exact h
    | inr hge =>
      have : lk t j = false := by
        unfold lk
        rw [nd_out (by rw [m.len]; omega)]
        rfl
      rw [this] at h; cases h
  refine ⟨m.hn, tab_len _ _, fun x hx h0 => ?_, fun x hx h0 he => ?_, fun x hx h0 ho => ?_⟩
  · rw [hv x hx] at h0 ⊢
    by_cases e : x = 2 * i
    · rw [e, hself] at h0; rw [hl.1] at h0; cases h0
    · rw [(addG_kd e).1] at h0
      unfold addG
      rw [if_neg e, if_neg (by rw [h0]; simp)]
      exact m.blank x hx h0
  · rw [hv x hx] at h0 ⊢
    by_cases e : x = 2 * i
    · rw [e, hself]; exact hl
    · rw [(addG_kd e).1] at h0
      have h := m.leaf x hx h0 he
      unfold addG
      rw [if_neg e, if_neg (by rw [h.1]; simp)]
      exact h
  · rw [hv x hx] at h0 ⊢
    have e : x ≠ 2 * i := by omega
    obtain ⟨k1, k2, k3, _⟩ := addG_kd (t := t) (l := l) e
    rw [k1] at h0
    rw [k1, k2, k3]
    obtain ⟨a1, a2, a3, a4, a5⟩ := m.par x hx h0 ho
    have hun : ∀ k ∈ (nd t x).un, ∃ j : Nat, k = j ∧ lo x ≤ j ∧ j < Mth.hi x ∧ lk (tab (2 * n - 1) (addG t i l)) j = true ∧ ∀ z, z < 2 * n - 1 → (nd (tab (2 * n - 1) (addG t i l)) z).kd = 2 → z ≠ x → hasB z j = true → underB z x = true → k ∈ (nd (tab (2 * n - 1) (addG t i l)) z).un := fun k hk => by
      obtain ⟨j, rfl, b1, b2, b3, b4⟩ := a5 k hk
      refine ⟨j, rfl, b1, b2, hlk j b3 (hout j b3), fun z hz hz2 hzx hzj hzu => ?_⟩
      rw [hv z hz] at hz2 ⊢
      by_cases ez : z = 2 * i
      · rw [ez, hself, hl.1] at hz2; cases hz2
      · rw [(addG_kd ez).1] at hz2
        exact addG_un ez (b4 z hz hz2 hzx hzj hzu)
    by_cases hc : hasB x i = true ∧ (nd t x).kd = 2
    · have hu : (addG t i l x).un = ins i (nd t x).un := by unfold addG; rw [if_neg e, if_pos hc]
      rw [hu]
      refine ⟨a1, a2, a3, ins_rising a4, fun k hk => ?_⟩
      rcases mem_ins.1 hk with rfl | hk
      · obtain ⟨h1, h2⟩ := hasB_iff.1 hc.1
        refine ⟨i, rfl, h1, h2, ?_, fun z hz hz2 hzx hzj hzu => ?_⟩
        · unfold lk
          rw [hv _ (by omega), hself]
          exact decide_eq_true hl.1
        · rw [hv z hz] at hz2 ⊢
          by_cases ez : z = 2 * i
          · rw [ez, hself, hl.1] at hz2; cases hz2
          · rw [(addG_kd ez).1] at hz2
            unfold addG
            rw [if_neg ez, if_pos ⟨hzj, hz2⟩]
            exact mem_ins.2 (.inl rfl)
      · exact hun k hk
    · have hu : addG t i l x = nd t x := by unfold addG; rw [if_neg e, if_neg hc]
      rw [hu]
      exact ⟨a1, a2, a3, a4, hun⟩
/-- A full tree gets twice as many leaves. -/
def growG (t : List TN) (n : Nat) (l : TN) (x : Nat) : TN := if x = 2 * n then l else nd t x
theorem grow_may {t : List TN} {n : Nat} {l : TN} (m : MayN t n) (h2 : 2 * n ∈ fulls) (hl : l.kd = 1 ∧ l.un = []) : MayN (tab (4 * n - 1) (growG t n l)) (2 * n) := by
  have hb := fulls_le m.hn
  have hb2 := fulls_le h2
  have hv : ∀ x, x < 4 * n - 1 → nd (tab (4 * n - 1) (growG t n l)) x = growG t n l x := fun x hx => tab_nd hx
  have hout : ∀ x, 2 * n - 1 ≤ x → nd t x = tn0 := fun x hx => nd_out (by rw [m.len]; omega)
  have hself : growG t n l (2 * n) = l := by unfold growG; rw [if_pos rfl]
  have hoth : ∀ x, x ≠ 2 * n → growG t n l x = nd t x := fun x hx => by unfold growG; rw [if_neg hx]
  have hbd : 2 * (2 * n) - 1 = 4 * n - 1 := by omega
  have hlt : ∀ x, (nd t x).kd ≠ 0 → x < 2 * n - 1 := fun x h => by
    cases Nat.lt_or_ge x (2 * n - 1) with
    | inl h => exact h
    | inr hge => rw [hout x hge] at h; exact absurd rfl h
  refine ⟨h2, by rw [tab_len]; omega, fun x hx h0 => ?_, fun x hx h0 he => ?_, fun x hx h0 ho => ?_⟩
  · rw [hv x (by omega)] at h0 ⊢
    by_cases e : x = 2 * n
    · rw [e, hself, hl.1] at h0; cases h0
    · rw [hoth x e] at h0 ⊢
      cases Nat.lt_or_ge x (2 * n - 1) with
      | inl h => exact m.blank x h h0
      | inr hge => exact hout x hge
  · rw [hv x (by omega)] at h0 ⊢
    by_cases e : x = 2 * n
    · rw [e, hself]; exact hl
    · rw [hoth x e] at h0 ⊢
      exact m.leaf x (hlt x h0) h0 he
  · rw [hv x (by omega)] at h0 ⊢
    rw [hoth x (by omega)] at h0 ⊢
    obtain ⟨a1, a2, a3, a4, a5⟩ := m.par x (hlt x h0) h0 ho
    refine ⟨a1, a2, a3, a4, fun k hk => ?_⟩
    obtain ⟨j, rfl, b1, b2, b3, b4⟩ := a5 k hk
    have hj : 2 * j < 2 * n - 1 := hlt _ (by unfold lk at b3; have := of_decide_eq_true b3; omega)
    refine ⟨j, rfl, b1, b2, by unfold lk at b3 ⊢; rw [hv _ (by omega), hoth _ (by omega)]; exact b3, fun z hz hz2 hzx hzj hzu => ?_⟩
    rw [hv z (by omega)] at hz2 ⊢
    by_cases ez : z = 2 * n
    · rw [ez, hself, hl.1] at hz2; cases hz2
    · rw [hoth z ez] at hz2 ⊢
      exact b4 z (hlt z (by omega)) hz2 hzx hzj hzu
end Rt
end Go.Proofs.YtdjfdobcjakmhaaDoor
end

section
/- Nodes of a group's tree in memory. -/
set_option linter.unusedSimpArgs false
set_option linter.unusedVariables false
namespace Go.Proofs.YtdjfdobcjakmhaaDoor
open Go.RowKit
open Rt

/-- The cells of a node whose Unmerged is the slice lv. -/
def tnCells (d : TN) (lv : Value) : List Value := [.int .i64 d.kd, .int .i64 d.id, .int .i64 d.enc, .int .i64 d.sig, .int .i64 d.hash, lv]
def tflat : List TN → List Value → List Value
  | [], _ => []
  | d :: ds, lvs => tnCells d (lvs.headD undef) ++ tflat ds lvs.tail
theorem tflat_length (ds : List TN) (lvs : List Value) : (tflat ds lvs).length = ds.length * 6 := by
  induction ds generalizing lvs with
  | nil => rfl
  | cons d ds ih => simp [tflat, tnCells, ih]; omega
theorem tflat_at (ds : List TN) (lvs : List Value) (i j : Nat) (hi : i < ds.length) (hj : j < 6) : (tflat ds lvs)[i * 6 + j]? = (tnCells (nd ds i) (lvs.getD i undef))[j]? := by
  unfold nd
  induction ds generalizing lvs i with
  | nil => simp at hi
  | cons d ds ih =>
    cases i with
    | zero =>
      simp only [tflat, Nat.zero_mul, Nat.zero_add]
      rw [List.getElem?_append_left (by simp [tnCells]; omega)]
      cases lvs <;> rfl
    | succ i =>
      simp only [tflat]
      rw [List.getElem?_append_right (by simp [tnCells]; omega)]
      have e : (i + 1) * 6 + j - (tnCells d (lvs.headD undef)).length = i * 6 + j := by simp [tnCells]; omega
      rw [e, ih lvs.tail i (by simpa using hi)]
      cases lvs <;> simp
theorem tflat_snoc (ds : List TN) (lvs : List Value) (h : lvs.length = ds.length) (d : TN) (lv : Value) : tflat (ds ++ [d]) (lvs ++ [lv]) = tflat ds lvs ++ tnCells d lv := by
  induction ds generalizing lvs with
  | nil =>
    cases lvs with
    | nil => simp [tflat]
    | cons => simp at h
  | cons e ds ih =>
    cases lvs with
    | nil => simp at h
    | cons v lvs => simp [tflat, ih lvs (by simpa using h)]

/-- Numbers that are int's. -/
structure TnOk (d : TN) : Prop where
  kd : I64 d.kd
  id : I64 d.id
  enc : I64 d.enc
  sig : I64 d.sig
  hash : I64 d.hash
  un : ∀ x ∈ d.un, I64 x
/-- v is a node. -/
def RdTn (w : World) (v : Value) (d : TN) : Prop := ∃ lv, v = .agg #[.int .i64 d.kd, .int .i64 d.id, .int .i64 d.enc, .int .i64 d.sig, .int .i64 d.hash, lv] ∧ RdI w lv d.un
theorem RdTn.kept {w w' : World} {v : Value} {d : TN} (h : RdTn w v d) (k : Kept w w') : RdTn w' v d := by
  obtain ⟨lv, h1, h2⟩ := h
  exact ⟨lv, h1, h2.kept k⟩
/-- v is a slice of nodes. -/
def RdTs (w : World) (v : Value) (ds : List TN) : Prop :=
  ∃ lvs : List Value, lvs.length = ds.length ∧ Rdv 6 w v ds.length (tflat ds lvs) ∧ ∀ i, i < ds.length → RdI w (lvs.getD i undef) (nd ds i).un
theorem RdTs.kept {w w' : World} {v : Value} {ds : List TN} (h : RdTs w v ds) (k : Kept w w') : RdTs w' v ds := by
  obtain ⟨lvs, h1, h2, h3⟩ := h
  exact ⟨lvs, h1, h2.kept k, fun i hi => (h3 i hi).kept k⟩
theorem RdTs.nil (w : World) : RdTs w (.slice none 0 0) [] := ⟨[], rfl, ⟨none, 0, rfl, rfl, Nat.le_refl _, Nat.zero_le _, fun _ => rfl, fun _ h => by cases h⟩, fun i hi => by simp at hi⟩
theorem RdTs.len {w : World} {v : Value} {ds : List TN} (h : RdTs w v ds) : ∃ a cap, v = .slice a ds.length cap ∧ ds.length ≤ cap ∧ cap ≤ maxLen ∧ (a = none → cap = 0) := by
  obtain ⟨lvs, _, ⟨a, cap, rfl, _, h2, h3, h4, _⟩, _⟩ := h
  exact ⟨a, cap, rfl, h2, h3, h4⟩
/-- The cells of the node at a place. -/
def TnAt (w : World) (b off : Nat) (d : TN) (lv : Value) : Prop :=
  w.cell? ⟨b, off, none⟩ = some (.int .i64 d.kd) ∧ w.cell? ⟨b, off + 1, none⟩ = some (.int .i64 d.id) ∧ w.cell? ⟨b, off + 2, none⟩ = some (.int .i64 d.enc) ∧
  w.cell? ⟨b, off + 3, none⟩ = some (.int .i64 d.sig) ∧ w.cell? ⟨b, off + 4, none⟩ = some (.int .i64 d.hash) ∧ w.cell? ⟨b, off + 5, none⟩ = some lv
theorem RdTs.addr {w : World} {v : Value} {ds : List TN} (h : RdTs w v ds) (hp : 0 < ds.length) :
    ∃ b off cap, ∃ lvs : List Value, v = .slice (some ⟨b, off, none⟩) ds.length cap ∧ ds.length ≤ cap ∧ cap ≤ maxLen ∧ b < w.heap.size ∧
      (∀ i, i < ds.length → TnAt w b (off + i * 6) (nd ds i) (lvs.getD i undef)) ∧ ∀ i, i < ds.length → RdI w (lvs.getD i undef) (nd ds i).un := by
  obtain ⟨lvs, hvs, ⟨ao, cap, rfl, hl, hc, hm, hno, hcell⟩, hr⟩ := h
  cases ao with
  | none => have := hno rfl; omega
  | some ad =>
    obtain ⟨b, off, spot⟩ := ad
    have h0 := hcell _ rfl 0 (.int .i64 (nd ds 0).kd) (by have := tflat_at ds lvs 0 0 hp (by omega); simpa [tnCells] using this)
    obtain rfl : spot = none := by simpa [Addr.add] using World.cell?_spot h0
    have hg : ∀ i j u, i < ds.length → j < 6 → (tnCells (nd ds i) (lvs.getD i undef))[j]? = some u → w.cell? ⟨b, off + i * 6 + j, none⟩ = some u := by
      intro i j u hi hj hu
      have := hcell _ rfl (i * 6 + j) u ((tflat_at ds lvs i j hi hj).trans hu)
      rw [Addr.add_lit] at this
      rwa [Nat.add_assoc]
    refine ⟨b, off, cap, lvs, rfl, hc, hm, ?_, fun i hi => ⟨?_, hg i 1 _ hi (by omega) rfl, hg i 2 _ hi (by omega) rfl, hg i 3 _ hi (by omega) rfl, hg i 4 _ hi (by omega) rfl, hg i 5 _ hi (by omega) rfl⟩, hr⟩
    · have := World.block_lt_of_cell? _ _ h0
      rwa [Addr.add_lit] at this
    · have := hg i 0 _ hi (by omega) rfl
      simpa using this
theorem TnAt.kept {w w' : World} {b off : Nat} {d : TN} {lv : Value} (h : TnAt w b off d lv) (k : Kept w w') : TnAt w' b off d lv := by
  have hb := World.block_lt_of_cell? _ _ h.1
  have hc : ∀ o, w'.cell? ⟨b, o, none⟩ = w.cell? ⟨b, o, none⟩ := fun o => Below.cell (p := ⟨b, o, none⟩) k hb
  exact ⟨(hc _).trans h.1, (hc _).trans h.2.1, (hc _).trans h.2.2.1, (hc _).trans h.2.2.2.1, (hc _).trans h.2.2.2.2.1, (hc _).trans h.2.2.2.2.2⟩
/-- The node at a place of a list, as it is told in every later world. -/
theorem RdTs.at {w : World} {v : Value} {ds : List TN} (h : RdTs w v ds) {k : Nat} (hk : k < ds.length) : ∃ b off cap la lc, v = .slice (some ⟨b, off, none⟩) ds.length cap ∧
    (∀ wr, Kept w wr → TnAt wr b (off + k * 6) (nd ds k) (.slice la (nd ds k).un.length lc)) ∧ RdI w (.slice la (nd ds k).un.length lc) (nd ds k).un := by
  obtain ⟨b, off, cap, lvs, rfl, _, _, _, hc, hl⟩ := h.addr (by omega)
  have hr := hl k hk
  obtain ⟨la, lc, hv, _, _, _⟩ := hr.len
  have h1 := hc k hk
  rw [hv] at h1 hr
  exact ⟨b, off, cap, la, lc, rfl, fun wr hw => h1.kept hw, hr⟩
end Go.Proofs.YtdjfdobcjakmhaaDoor
end

section
/- Walks: a tree's size, a node, levels (the program's own, unexported). -/
set_option linter.unusedSimpArgs false
set_option linter.unusedVariables false
namespace Go.Proofs.YtdjfdobcjakmhaaDoor
open Go.RowKit

def treeB (n : Int) : Bool := decide (0 < n) && decide (n ≤ 256) && Mth.fullB n.toNat
theorem tree_and {n : Int} (h0 : 0 < n) (h1 : n ≤ 256) : (bits BinOp.and IntKind.i64 n (n - 1) == 0) = Mth.fullB n.toNat := by
  have h : (List.range 257).all (fun m => (Nat.beq m 0) || ((bits BinOp.and IntKind.i64 (m : Int) ((m : Int) - 1) == 0) == Mth.fullB m)) = true := by decide +kernel
  have := List.all_eq_true.1 h n.toNat (List.mem_range.2 (by omega))
  rw [Bool.or_eq_true] at this
  rcases this with e | e
  · have := Nat.eq_of_beq_eq_true e; omega
  · have e2 := eq_of_beq e
    have e3 : ((n.toNat : Nat) : Int) = n := by omega
    rwa [e3] at e2

theorem treeB_true {n : Int} (h : treeB n = true) : 0 < n ∧ n ≤ 256 ∧ n.toNat ∈ Mth.fulls := by
  unfold treeB at h
  rw [Bool.and_eq_true, Bool.and_eq_true] at h
  refine ⟨of_decide_eq_true h.1.1, of_decide_eq_true h.1.2, ?_⟩
  have h2 := h.2
  unfold Mth.fullB at h2
  obtain ⟨m, hm, he⟩ := List.any_eq_true.1 h2
  rw [Nat.eq_of_beq_eq_true he]
  exact hm
theorem treeB_mk {n : Nat} (h : n ∈ Mth.fulls) : treeB (n : Int) = true := by
  have : ∀ m ∈ Mth.fulls, treeB (m : Int) = true := by decide +kernel
  exact this n h

/-- x is a node of a tree of n leaves. -/
def inB (x n : Int) : Bool := treeB n && decide (0 ≤ x) && decide (x < 2 * n - 1)
theorem inB_true {x n : Int} (h : inB x n = true) : treeB n = true ∧ 0 ≤ x ∧ x < 2 * n - 1 := by
  unfold inB at h
  rw [Bool.and_eq_true, Bool.and_eq_true] at h
  exact ⟨h.1.1, of_decide_eq_true h.1.2, of_decide_eq_true h.2⟩
theorem inB_mk {x n : Int} (h : treeB n = true) (h0 : 0 ≤ x) (h1 : x < 2 * n - 1) : inB x n = true := by
  unfold inB
  rw [h, decide_eq_true h0, decide_eq_true h1]; rfl
/-- x is a node that is not the root. -/
def upB (x n : Int) : Bool := inB x n && (x != n - 1)
theorem upB_true {x n : Int} (h : upB x n = true) : inB x n = true ∧ x ≠ n - 1 := by
  unfold upB at h
  rw [Bool.and_eq_true] at h
  exact ⟨h.1, by simpa using h.2⟩
end Go.Proofs.YtdjfdobcjakmhaaDoor
end

section
/- Walks: levels. -/
set_option linter.unusedSimpArgs false
set_option linter.unusedVariables false
namespace Go.Proofs.YtdjfdobcjakmhaaDoor
open Go.RowKit
def dbTab : List Nat := [0, 1, 56, 2, 57, 49, 28, 3, 61, 58, 42, 50, 38, 29, 17, 4, 62, 47, 59, 36, 45, 43, 51, 22, 53, 39, 33, 30, 24, 18, 12, 5, 63, 55, 48, 27, 60, 41, 37, 16, 46, 35, 44, 21, 52, 32, 23, 11, 54, 26, 40, 15, 34, 20, 31, 10, 25, 14, 19, 9, 13, 8, 7, 6]
structure TabsM (w : World) : Prop where
  at' : ∀ j, j < 64 → w.cell? ⟨5, j, none⟩ = some (.int .u8 (dbTab.getD j 0 : Nat))
theorem TabsM.kept {w w' : World} (h : TabsM w) (k : Kept w w') : TabsM w' := ⟨fun j hj => by
  have := h.at' j hj
  rw [Below.cell k (World.block_lt_of_cell? _ _ this)]
  exact this⟩
def dbIx (x : Nat) : Nat := 2 ^ Mth.lvl x * 285870213051353865 % 18446744073709551616 / 288230376151711744
theorem tz_key {x : Nat} (hx : x < 511) : IntKind.u64.wrap (bits BinOp.and IntKind.u64 (18446744073709551615 - (x : Int)) (IntKind.u64.wrap (-(18446744073709551615 - (x : Int)))) * 285870213051353865) / 288230376151711744 = (dbIx x : Int) ∧ dbIx x < 64 ∧ dbTab.getD (dbIx x) 0 = Mth.lvl x ∧ (bits BinOp.xor IntKind.u64 IntKind.u64.max (x : Int)) = 18446744073709551615 - (x : Int) := by
  have h : (List.range 511).all (fun x => (IntKind.u64.wrap (bits BinOp.and IntKind.u64 (18446744073709551615 - (x : Int)) (IntKind.u64.wrap (-(18446744073709551615 - (x : Int)))) * 285870213051353865) / 288230376151711744 == (dbIx x : Int)) && Nat.blt (dbIx x) 64 && Nat.beq (dbTab.getD (dbIx x) 0) (Mth.lvl x) && (bits BinOp.xor IntKind.u64 IntKind.u64.max (x : Int) == 18446744073709551615 - (x : Int))) = true := by decide +kernel
  have := List.all_eq_true.1 h x (List.mem_range.2 hx)
  rw [Bool.and_eq_true, Bool.and_eq_true, Bool.and_eq_true] at this
  exact ⟨eq_of_beq this.1.1.1, Nat.le_of_ble_eq_true this.1.1.2, Nat.eq_of_beq_eq_true this.1.2, eq_of_beq this.2⟩
set_option maxHeartbeats 1000000 in
theorem tz64_core (u : Int) (k idx : Nat) (w : World) (hx0 : (u == 0) = false)
    (key : IntKind.u64.wrap (bits BinOp.and IntKind.u64 u (IntKind.u64.wrap (-u)) * 285870213051353865) / 288230376151711744 = (idx : Int))
    (hi : idx < 64) (hk : k < 64) (hcell : w.cell? ⟨5, idx, none⟩ = some (.int .u8 k)) :
    Calls Tryd.prog 100 #[.int .u64 u] w fun e w' => e = .returned (.int .i64 k) ∧ w = w' := by
  go_enter Tryd.func100, Tryd.ntmps100
  go_wp2_with (simp only [key])
  go_ret
  exact ⟨rfl, rfl⟩
theorem lvl_le {x : Nat} (hx : x < 511) : Mth.lvl x ≤ 8 := by
  have h : (List.range 511).all (fun x => Nat.ble (Mth.lvl x) 8) = true := by decide +kernel
  exact Nat.le_of_ble_eq_true (List.all_eq_true.1 h x (List.mem_range.2 hx))
theorem tz64_any (x : Nat) (hx : x < 511) (w : World) (ht : TabsM w) : Calls Tryd.prog 100 #[.int .u64 (18446744073709551615 - (x : Int))] w fun e w' => e = .returned (.int .i64 (Mth.lvl x : Nat)) ∧ w = w' := by
  obtain ⟨key, hi, htab, _⟩ := tz_key hx
  have hcell := ht.at' _ hi
  rw [htab] at hcell
  exact tz64_core _ _ _ w (by rw [beq_eq_false_iff_ne]; omega) key hi (by have := lvl_le hx; omega) hcell
theorem tz_any (x : Nat) (hx : x < 511) (w : World) (ht : TabsM w) : Calls Tryd.prog 96 #[.int .u64 (18446744073709551615 - (x : Int))] w fun e w' => e = .returned (.int .i64 (Mth.lvl x : Nat)) ∧ w = w' := by
  have HT := Lib.hid (tz64_any x hx w ht)
  have h1 : 0 ≤ 18446744073709551615 - (x : Int) := by omega
  have h2 : 18446744073709551615 - (x : Int) ≤ 18446744073709551615 := by omega
  generalize 18446744073709551615 - (x : Int) = u at HT h1 h2
  go_enter Tryd.func96, Tryd.ntmps96
  go_wp2_with (go_at_call 100; refine HT.out.mono ?_; rintro e w' ⟨rfl, rfl⟩)
  go_ret
  exact ⟨rfl, rfl⟩
/-- A node of any tree: as a natural number. -/
theorem in_nat {x n : Int} (h : inB x n = true) : ∃ m k : Nat, x = m ∧ n = k ∧ k ∈ Mth.fulls ∧ m < 2 * k - 1 ∧ m < 511 := by
  obtain ⟨h1, h2, h3⟩ := inB_true h
  obtain ⟨h4, h5, h6⟩ := treeB_true h1
  exact ⟨x.toNat, n.toNat, by omega, by omega, h6, by omega, by omega⟩
theorem any_nat {x : Int} (h : inB x 256 = true) : ∃ m : Nat, x = m ∧ m < 511 := by
  obtain ⟨m, k, h1, h2, h3, h4, h5⟩ := in_nat h
  exact ⟨m, h1, h5⟩
theorem in_any {m : Nat} (h : m < 511) : inB (m : Int) 256 = true := inB_mk (by decide +kernel) (by omega) (by omega)
theorem nat_in {m k : Nat} (hk : k ∈ Mth.fulls) (h : m < 2 * k - 1) : inB (m : Int) (k : Int) = true := inB_mk (treeB_mk hk) (by omega) (by omega)
theorem fulls_bd {k : Nat} (hk : k ∈ Mth.fulls) : 1 ≤ k ∧ k ≤ 256 := by
  have : ∀ m ∈ Mth.fulls, 1 ≤ m ∧ m ≤ 256 := by decide +kernel
  exact this k hk
/-- x is a node that is no leaf. -/
def kidB (x : Int) : Bool := inB x 256 && decide (0 < Mth.lvl x.toNat)
theorem kidB_nat {m : Nat} (h : m < 511) : kidB (m : Int) = decide (0 < Mth.lvl m) := by
  unfold kidB
  rw [in_any h]
  rfl
theorem nine {p : Nat → Bool} (h : (List.range 9).all p = true) {l : Nat} (hl : l ≤ 8) : p l = true := List.all_eq_true.1 h l (List.mem_range.2 (by omega))
theorem reach_num {l : Nat} (hl : l ≤ 8) : wrap64 (wrap64 (2 ^ l) - 1) = ((2 ^ l - 1 : Nat) : Int) := eq_of_beq (nine (p := fun l => wrap64 (wrap64 (2 ^ l) - 1) == ((2 ^ l - 1 : Nat) : Int)) (by decide +kernel) hl)
theorem step_num {l : Nat} (hl : l ≤ 8) : wrap64 (2 ^ (l - 1)) = ((2 ^ (l - 1) : Nat) : Int) := eq_of_beq (nine (p := fun l => wrap64 (2 ^ (l - 1)) == ((2 ^ (l - 1) : Nat) : Int)) (by decide +kernel) hl)
theorem par_num {x : Nat} (hx : x < 511) : bits BinOp.andNot IntKind.i64 (bits BinOp.or IntKind.i64 (x : Int) (wrap64 (2 ^ Mth.lvl x))) (wrap64 (2 ^ (Mth.lvl x + 1))) = (Mth.par x : Nat) ∧ 2 * (Mth.par x : Int) - (x : Int) = (Mth.sib x : Nat) ∧ Mth.par x < 1024 := by
  have h : (List.range 511).all (fun x => (bits BinOp.andNot IntKind.i64 (bits BinOp.or IntKind.i64 (x : Int) (wrap64 (2 ^ Mth.lvl x))) (wrap64 (2 ^ (Mth.lvl x + 1))) == ((Mth.par x : Nat) : Int)) && (2 * (Mth.par x : Int) - (x : Int) == ((Mth.sib x : Nat) : Int)) && Nat.blt (Mth.par x) 1024) = true := by decide +kernel
  have := List.all_eq_true.1 h x (List.mem_range.2 hx)
  rw [Bool.and_eq_true, Bool.and_eq_true] at this
  exact ⟨eq_of_beq this.1.1, eq_of_beq this.1.2, Nat.le_of_ble_eq_true this.2⟩
def pk (b : Bool) (v : Int) : Int := bif b then v else 0
def er (b : Bool) : Int := bif b then 0 else 1
/-! ## told -/
theorem cell_box (w : World) (v : Value) (e : TypeId) : (w.alloc (.cells #[v] e)).cell? ⟨w.heap.size, 0, none⟩ = some v := by
  simp
end Go.Proofs.YtdjfdobcjakmhaaDoor
end

section
/- Walks of the document's answer: full, node, Width, Root, Level, half. -/
set_option linter.unusedSimpArgs false
set_option linter.unusedVariables false
namespace Go.Proofs.YtdjfdobcjakmhaaDoor
open Go.RowKit

def l10 : List Nat := [1, 2, 4, 8, 16, 32, 64, 128, 256, 512]
theorem l10_bd {k : Nat} (h : k ∈ l10) : 1 ≤ k ∧ k ≤ 512 := by
  have : ∀ k ∈ l10, 1 ≤ k ∧ k ≤ 512 := by decide +kernel
  exact this k h
theorem l10_next {k : Nat} (h : k ∈ l10) (hc : k ≤ 256) : 2 * k ∈ l10 ∧ k ∈ Mth.fulls ∧ ∀ m ∈ Mth.fulls, m < 2 * k → m < k ∨ m = k := by
  have : ∀ k ∈ l10, k ≤ 256 → 2 * k ∈ l10 ∧ k ∈ Mth.fulls ∧ ∀ m ∈ Mth.fulls, m < 2 * k → m < k ∨ m = k := by decide +kernel
  exact this k h hc
theorem inB_256 (x : Int) : inB x 256 = (decide (0 ≤ x) && decide (x ≤ 510)) := by
  unfold inB
  rw [show treeB 256 = true by decide +kernel, Bool.true_and]
  congr 1
  exact decide_eq_decide.2 (by omega)
theorem lvlF_odd {f z : Nat} (h : z % 2 = 1) (hz : z < 2 ^ f) : ∃ g, f = g + 1 ∧ Mth.lvlF f z = Mth.lvlF g (z / 2) + 1 ∧ z / 2 < 2 ^ g := by
  cases f with
  | zero => omega
  | succ g =>
    refine ⟨g, rfl, ?_, by rw [Nat.pow_succ] at hz; omega⟩
    show (bif Nat.beq (z % 2) 1 then _ else _) = _
    rw [h]; rfl
theorem lvlF_even {f z : Nat} (h : z % 2 ≠ 1) : Mth.lvlF f z = 0 := by
  cases f with
  | zero => rfl
  | succ g =>
    show (bif Nat.beq (z % 2) 1 then _ else _) = _
    rw [show z % 2 = 0 by omega]; rfl
end Go.Proofs.YtdjfdobcjakmhaaDoor
end

section
/- Walks of the document's answer: leaves, Zero, leaf, some. -/
set_option linter.unusedSimpArgs false
set_option linter.unusedVariables false
namespace Go.Proofs.YtdjfdobcjakmhaaDoor
open Go.RowKit
open Rt

/-- How many leaves a tree of so many nodes has; 0: there is no such tree. -/
def lvsF : List Nat → Nat → Nat
  | [], _ => 0
  | m :: r, len => bif Nat.beq (2 * m - 1) len then m else lvsF r len
def lvs (len : Nat) : Nat := lvsF Mth.fulls len
theorem lvsF_spec (r : List Nat) (len : Nat) : (lvsF r len ∈ r ∧ 2 * lvsF r len - 1 = len) ∨ (lvsF r len = 0 ∧ ∀ m ∈ r, 2 * m - 1 ≠ len) := by
  induction r with
  | nil => exact .inr ⟨rfl, fun m hm => by cases hm⟩
  | cons a r ih =>
    unfold lvsF
    cases e : Nat.beq (2 * a - 1) len with
    | true => exact .inl ⟨List.mem_cons_self, Nat.eq_of_beq_eq_true e⟩
    | false =>
      have hne : 2 * a - 1 ≠ len := fun h => by rw [h, Nat.beq_refl] at e; cases e
      rcases ih with ⟨h1, h2⟩ | ⟨h1, h2⟩
      · exact .inl ⟨List.mem_cons_of_mem _ h1, h2⟩
      · exact .inr ⟨h1, fun m hm => by
          rcases List.mem_cons.1 hm with rfl | hm
          · exact hne
          · exact h2 m hm⟩
theorem lvs_spec (len : Nat) : (lvs len ∈ Mth.fulls ∧ 2 * lvs len - 1 = len) ∨ (lvs len = 0 ∧ ∀ m ∈ Mth.fulls, 2 * m - 1 ≠ len) := lvsF_spec _ _
theorem lvs_of {n : Nat} (hn : n ∈ Mth.fulls) : lvs (2 * n - 1) = n := by
  have : ∀ m ∈ Mth.fulls, lvs (2 * m - 1) = m := by decide +kernel
  exact this n hn
theorem lvs_le (len : Nat) : lvs len ≤ 256 ∧ 2 * lvs len ≤ len + 1 := by
  rcases lvs_spec len with ⟨h, h2⟩ | ⟨h, _⟩
  · have := fulls_bd h; omega
  · omega
/-- All of a node is zero. -/
def zeroB (d : TN) : Bool := d.kd == 0 && d.id == 0 && d.enc == 0 && d.sig == 0 && d.hash == 0 && Nat.beq d.un.length 0
def leafB (d : TN) : Bool := d.kd == 1 && Nat.beq d.un.length 0
theorem beq0 (n : Nat) : ((n : Int) == 0) = Nat.beq n 0 := by
  cases n with
  | zero => rfl
  | succ n => show _ = false; rw [beq_eq_false_iff_ne]; omega
end Go.Proofs.YtdjfdobcjakmhaaDoor
end

section
/- Walks of the document's answer: Zero, some, SameNode. -/
set_option linter.unusedSimpArgs false
set_option linter.unusedVariables false
namespace Go.Proofs.YtdjfdobcjakmhaaDoor
open Go.RowKit
open Rt

def sameNB (a b : TN) : Bool := a.kd == b.kd && a.id == b.id && a.enc == b.enc && a.sig == b.sig && a.hash == b.hash && decide (a.un = b.un)
theorem sameNB_iff {a b : TN} : sameNB a b = true ↔ a = b := by
  unfold sameNB
  obtain ⟨a1, a2, a3, a4, a5, a6⟩ := a
  obtain ⟨b1, b2, b3, b4, b5, b6⟩ := b
  simp only [Bool.and_eq_true, beq_iff_eq, decide_eq_true_eq, TN.mk.injEq]
  constructor
  · rintro ⟨⟨⟨⟨⟨h1, h2⟩, h3⟩, h4⟩, h5⟩, h6⟩; exact ⟨h1, h2, h3, h4, h5, h6⟩
  · rintro ⟨h1, h2, h3, h4, h5, h6⟩; exact ⟨⟨⟨⟨⟨h1, h2⟩, h3⟩, h4⟩, h5⟩, h6⟩
theorem lk_nd (ts : List TN) (i : Nat) : lk ts i = ((nd ts (2 * i)).kd == 1) := by
  unfold lk
  rw [Bool.eq_iff_iff, decide_eq_true_iff, beq_iff_eq]
/-- A leaf from one on up to another one is there. -/
def someB (ts : List TN) (a b : Nat) : Bool := (List.range b).any fun i => Nat.ble a i && lk ts i
theorem someB_true {ts : List TN} {a b : Nat} : someB ts a b = true ↔ ∃ i, a ≤ i ∧ i < b ∧ lk ts i = true := by
  unfold someB
  rw [List.any_eq_true]
  constructor
  · rintro ⟨i, hi, h⟩
    rw [Bool.and_eq_true] at h
    exact ⟨i, Nat.le_of_ble_eq_true h.1, List.mem_range.1 hi, h.2⟩
  · rintro ⟨i, h1, h2, h3⟩
    exact ⟨i, List.mem_range.2 h2, by rw [Bool.and_eq_true]; exact ⟨Nat.ble_eq_true_of_le h1, h3⟩⟩
end Go.Proofs.YtdjfdobcjakmhaaDoor
end

section
/- Walks: what math's calls answer. -/
set_option linter.unusedSimpArgs false
set_option linter.unusedVariables false
namespace Go.Proofs.YtdjfdobcjakmhaaDoor
open Go.RowKit

end Go.Proofs.YtdjfdobcjakmhaaDoor
end

section
/- Walks: Left, Right, Size, Leaves; climb; common. -/
set_option linter.unusedSimpArgs false
set_option linter.unusedVariables false
namespace Go.Proofs.YtdjfdobcjakmhaaDoor
open Go.RowKit

theorem lvl_pow {x : Nat} (hx : x < 511) (hp : 0 < Mth.lvl x) : 2 ^ (Mth.lvl x - 1) ≤ x ∧ x + 2 ^ (Mth.lvl x - 1) < 511 := by
  have h : (List.range 511).all (fun x => Nat.beq (Mth.lvl x) 0 || (Nat.ble (2 ^ (Mth.lvl x - 1)) x && Nat.blt (x + 2 ^ (Mth.lvl x - 1)) 511)) = true := by decide +kernel
  have := List.all_eq_true.1 h x (List.mem_range.2 hx)
  rw [Bool.or_eq_true, Bool.and_eq_true] at this
  rcases this with e | ⟨e1, e2⟩
  · have := Nat.eq_of_beq_eq_true e; omega
  · exact ⟨Nat.le_of_ble_eq_true e1, Nat.le_of_ble_eq_true e2⟩
theorem left_num {x : Nat} (hx : x < 511) (hp : 0 < Mth.lvl x) : (x : Int) - ((2 ^ (Mth.lvl x - 1) : Nat) : Int) = (Mth.left x : Nat) ∧ (x : Int) + ((2 ^ (Mth.lvl x - 1) : Nat) : Int) = (Mth.right x : Nat) ∧ ((2 ^ (Mth.lvl x - 1) : Nat) : Int) ≤ 511 := by
  have := lvl_pow hx hp
  unfold Mth.left Mth.right
  omega
def szB (n : Int) : Bool := decide (0 < n) && decide (n ≤ 256)
end Go.Proofs.YtdjfdobcjakmhaaDoor
end

section
/- Walks: Leaves. -/
set_option linter.unusedSimpArgs false
set_option linter.unusedVariables false
namespace Go.Proofs.YtdjfdobcjakmhaaDoor
open Go.RowKit

theorem lo_num {x : Nat} (hx : x < 511) : ((x : Int) - ((2 ^ Mth.lvl x - 1 : Nat) : Int)) / 2 = (Mth.lo x : Nat) ∧ ((x : Int) + ((2 ^ Mth.lvl x - 1 : Nat) : Int)) / 2 + 1 = (Mth.hi x : Nat) ∧ 2 ^ Mth.lvl x - 1 ≤ 255 ∧ 2 ^ Mth.lvl x - 1 ≤ x := by
  have h : (List.range 511).all (fun x => Nat.ble (2 ^ Mth.lvl x - 1) x && Nat.ble (2 ^ Mth.lvl x - 1) 255) = true := by decide +kernel
  have := List.all_eq_true.1 h x (List.mem_range.2 hx)
  rw [Bool.and_eq_true] at this
  have h1 := Nat.le_of_ble_eq_true this.1
  have h2 := Nat.le_of_ble_eq_true this.2
  unfold Mth.lo Mth.hi
  omega
end Go.Proofs.YtdjfdobcjakmhaaDoor
end

section
/- Walks of the document's answer: half, Left, Right, Leaves, Size. -/
set_option linter.unusedSimpArgs false
set_option linter.unusedVariables false
namespace Go.Proofs.YtdjfdobcjakmhaaDoor
open Go.RowKit

theorem pow_le {i : Nat} (h : i ≤ 8) : 1 ≤ 2 ^ i ∧ 2 ^ i ≤ 256 := by
  have := nine (p := fun l => Nat.ble 1 (2 ^ l) && Nat.ble (2 ^ l) 256) (by decide +kernel) h
  rw [Bool.and_eq_true] at this
  exact ⟨Nat.le_of_ble_eq_true this.1, Nat.le_of_ble_eq_true this.2⟩
theorem kidB_lvl {x : Int} (hi : inB x 256 = true) : kidB x = decide (0 < Mth.lvl x.toNat) := by unfold kidB; rw [hi]; rfl
theorem rlo_num {x : Nat} (hx : x < 511) : 1 ≤ 2 ^ Mth.lvl x ∧ 2 ^ Mth.lvl x ≤ 256 ∧ 2 ^ Mth.lvl x - 1 ≤ x ∧ ((x : Int) - (2 * ((2 ^ Mth.lvl x : Nat) : Int) - 1) / 2) / 2 = (Mth.lo x : Nat) ∧ ((x : Int) + (2 * ((2 ^ Mth.lvl x : Nat) : Int) - 1) / 2) / 2 + 1 = (Mth.hi x : Nat) := by
  obtain ⟨a, b, c, d⟩ := lo_num hx
  have e := pow_le (lvl_le hx)
  refine ⟨e.1, e.2, d, ?_, ?_⟩
  · rw [← a]; omega
  · rw [← b]; omega
theorem size_step {k n : Nat} (h : k ∈ l10) (hk : k < n) (hn : n ≤ 256) (hs : ∀ m ∈ Mth.fulls, m < k → m < n) : 2 * k ∈ l10 ∧ ∀ m ∈ Mth.fulls, m < 2 * k → m < n := by
  obtain ⟨a, b, c⟩ := l10_next h (by omega)
  exact ⟨a, fun m hm hlt => (c m hm hlt).elim (hs m hm) (fun e => by omega)⟩
theorem size_is {k n : Nat} (h : k ∈ l10) (hk : n ≤ k) (h1 : 1 ≤ n) (hn : n ≤ 256) (hs : ∀ m ∈ Mth.fulls, m < k → m < n) : k = Mth.size n := by
  have hall : (List.range 257).all (fun n => Nat.beq n 0 || l10.all fun k => Nat.blt k n || Nat.beq k (Mth.size n) || Mth.fulls.any fun m => Nat.blt m k && Nat.ble n m) = true := by decide +kernel
  have := List.all_eq_true.1 hall n (List.mem_range.2 (by omega))
  rw [Bool.or_eq_true] at this
  rcases this with e | e
  · have := Nat.eq_of_beq_eq_true e; omega
  · have e2 := List.all_eq_true.1 e k h
    rw [Bool.or_eq_true, Bool.or_eq_true] at e2
    rcases e2 with (e3 | e3) | e3
    · have := Nat.le_of_ble_eq_true e3; omega
    · exact Nat.eq_of_beq_eq_true e3
    · obtain ⟨m, hm, hq⟩ := List.any_eq_true.1 e3
      rw [Bool.and_eq_true] at hq
      have a := Nat.le_of_ble_eq_true hq.1
      have b := Nat.le_of_ble_eq_true hq.2
      have := hs m hm a
      omega
end Go.Proofs.YtdjfdobcjakmhaaDoor
end

section
/- Walks of the document's answer: Same, Under. -/
set_option linter.unusedSimpArgs false
set_option linter.unusedVariables false
namespace Go.Proofs.YtdjfdobcjakmhaaDoor
open Go.RowKit
open Rt

def sameTB (a b : List TN) : Bool := Nat.beq a.length b.length && (List.range a.length).all fun i => sameNB (nd a i) (nd b i)
theorem sameTB_iff {a b : List TN} : sameTB a b = true ↔ a = b := by
  unfold sameTB
  rw [Bool.and_eq_true, List.all_eq_true]
  constructor
  · rintro ⟨h1, h2⟩
    exact tn_ext (Nat.eq_of_beq_eq_true h1) fun x hx => sameNB_iff.1 (h2 x (List.mem_range.2 hx))
  · rintro rfl
    exact ⟨Nat.beq_refl _, fun i _ => sameNB_iff.2 rfl⟩
end Go.Proofs.YtdjfdobcjakmhaaDoor
end

section
/- The document's In. -/
set_option linter.unusedSimpArgs false
set_option linter.unusedVariables false
namespace Go.Proofs.YtdjfdobcjakmhaaDoor
open Go.RowKit

theorem getD_memI {l : List Int} {i : Nat} (h : i < l.length) : l.getD i 0 ∈ l := by
  rw [List.getD_eq_getElem?_getD, List.getElem?_eq_getElem h]; exact List.getElem_mem h
set_option maxHeartbeats 4000000 in
set_option maxRecDepth 100000 in
theorem inR_any {w : World} {v : Value} {l : List Int} (h : RdI w v l) {n : Int} (hn : I64 n) :
    Calls Tryd.prog 32 #[v, .int .i64 n] w fun e w' => e = .returned (.bool (decide (n ∈ l))) ∧ w = w' := by
  obtain ⟨la, lc, rfl, l1, l2, l3⟩ := h.len
  have l63 : ((l.length : Nat) : Int) ≤ 9223372036854775807 := by unfold maxLen at l2; omega
  go_enter Tryd.func32, Tryd.ntmps32
  go_wp2
  go_loopw [9] (fun i wr => ∃ k : Nat, k ≤ l.length ∧ i = .int .i64 k ∧ n ∉ l.take k ∧ w = wr) (fun i _ => l.length - (intOf i).toNat)
  case atStart => exact ⟨0, Nat.zero_le _, rfl, by simp, rfl⟩
  case round =>
    obtain ⟨k, hk0, rfl, hno, rfl⟩ := hrel
    have HN := Shut.mk hno
    clear hno
    by_cases hlt : k < l.length
    · obtain ⟨rb, ro, rc, hrv, _, _, hrb, hcl⟩ := h.addr (by omega)
      simp only [Value.slice.injEq] at hrv
      obtain ⟨rfl, _, rfl⟩ := hrv
      have hcw := hcl k hlt
      clear hcl
      have hx : l.getD k 0 = l[k] := by rw [List.getD_eq_getElem?_getD, List.getElem?_eq_getElem hlt]; rfl
      have HT := Shut.mk (show l.take (k + 1) = l.take k ++ [l.getD k 0] by rw [List.take_succ_eq_append_getElem hlt, hx])
      have HM := Shut.mk (getD_memI (l := l) hlt)
      clear hx
      generalize l.getD k 0 = x at hcw HT HM
      by_cases c : x = n
      · subst c
        go_wp2
        go_ret
        exact ⟨by rw [decide_eq_true HM.out]; rfl, rfl⟩
      · have hne : (x == n) = false := by simpa using c
        have hne' : ¬ n = x := fun e => c e.symm
        have HNE := Shut.mk hne'
        clear hne'
        go_wp2
        go_roundw
        case rel => exact ⟨k + 1, hlt, rfl, by rw [HT.out, List.mem_append, List.mem_singleton]; exact fun h => h.elim HN.out HNE.out, by first | rfl | trivial⟩
        case measure => simp [intOf]; omega
    · obtain rfl : k = l.length := by omega
      have HN' : Shut (n ∉ l) := ⟨by have := HN.out; rwa [List.take_length] at this⟩
      go_wp2
      go_ret
      exact ⟨by rw [decide_eq_false HN'.out]; rfl, rfl⟩
end Go.Proofs.YtdjfdobcjakmhaaDoor
end

section
/- Walks of the document's answer: node (whether a node may stand at its place). -/
set_option linter.unusedSimpArgs false
set_option linter.unusedVariables false
namespace Go.Proofs.YtdjfdobcjakmhaaDoor
open Go.RowKit
open Rt

/-- A Parent between a leaf and a node that has not this leaf as not merged. -/
def covZ (t : List TN) (x i z : Nat) : Bool := (nd t z).kd == 2 && decide (z ≠ x) && Mth.underB (2 * i) z && Mth.underB z x && !decide ((i : Int) ∈ (nd t z).un)
def coverB (t : List TN) (x i : Nat) : Bool := (List.range t.length).all fun z => !covZ t x i z
def unB (t : List TN) (x : Nat) : Int → List Int → Bool
  | _, [] => true
  | last, i :: r => !(decide (i ≤ last) || decide ((Mth.hi x : Int) ≤ i) || !lk t i.toNat) && coverB t x i.toNat && unB t x i r
def nodeB (t : List TN) (x : Nat) : Bool :=
  bif (nd t x).kd == 0 then zeroB (nd t x) else bif Nat.beq (x % 2) 0 then leafB (nd t x) else
  bif (nd t x).kd != 2 || (nd t x).id != 0 || (nd t x).sig != 0 then false else unB t x ((Mth.lo x : Int) - 1) (nd t x).un
theorem hi_le {n x : Nat} (hn : n ∈ Mth.fulls) (hx : x < 2 * n - 1) : Mth.hi x ≤ n := by
  have h := Mth.allB_at (p := fun n x => Nat.ble (Mth.hi x) n) (by decide +kernel) hn hx
  exact Nat.le_of_ble_eq_true h
theorem coverB_false {t : List TN} {x i z : Nat} (hz : z < t.length) (h : covZ t x i z = true) : coverB t x i = false := by
  cases e : coverB t x i with
  | false => rfl
  | true =>
    have := List.all_eq_true.1 e z (List.mem_range.2 hz)
    rw [h] at this; cases this
theorem coverB_true {t : List TN} {x i : Nat} (h : ∀ z, z < t.length → covZ t x i z = false) : coverB t x i = true :=
  List.all_eq_true.2 fun z hz => by rw [h z (List.mem_range.1 hz)]; rfl

end Go.Proofs.YtdjfdobcjakmhaaDoor
end

section
/- Walks of the document's answer: node, Check. -/
set_option linter.unusedSimpArgs false
set_option linter.unusedVariables false
namespace Go.Proofs.YtdjfdobcjakmhaaDoor
open Go.RowKit
open Rt

def errI (b : Bool) : Int := bif b then 0 else 1
def chkB (t : List TN) : Bool :=
  !Nat.beq (lvs t.length) 0 && someB t 0 (lvs t.length) && (!decide (1 < lvs t.length) || someB t (lvs t.length / 2) (lvs t.length)) && (List.range t.length).all fun x => nodeB t x
end Go.Proofs.YtdjfdobcjakmhaaDoor
end

section
/- What Check answers, and whether a tree may be: the same (plain). -/
set_option linter.unusedSimpArgs false
set_option linter.unusedVariables false
namespace Go.Proofs.YtdjfdobcjakmhaaDoor
open Rt

theorem zeroB_iff {d : TN} : zeroB d = true ↔ d = tn0 := by
  unfold zeroB
  obtain ⟨a1, a2, a3, a4, a5, a6⟩ := d
  simp only [Bool.and_eq_true, beq_iff_eq, tn0, TN.mk.injEq]
  constructor
  · rintro ⟨⟨⟨⟨⟨h1, h2⟩, h3⟩, h4⟩, h5⟩, h6⟩
    exact ⟨h1, h2, h3, h4, h5, List.eq_nil_of_length_eq_zero (Nat.eq_of_beq_eq_true h6)⟩
  · rintro ⟨h1, h2, h3, h4, h5, h6⟩
    exact ⟨⟨⟨⟨⟨h1, h2⟩, h3⟩, h4⟩, h5⟩, by rw [h6]; rfl⟩
theorem leafB_iff {d : TN} : leafB d = true ↔ d.kd = 1 ∧ d.un = [] := by
  unfold leafB
  rw [Bool.and_eq_true, beq_iff_eq]
  exact ⟨fun h => ⟨h.1, List.eq_nil_of_length_eq_zero (Nat.eq_of_beq_eq_true h.2)⟩, fun h => ⟨h.1, by rw [h.2]; rfl⟩⟩
theorem unB_iff {t : List TN} {x : Nat} {us : List Int} {last : Int} : unB t x last us = true ↔ us.Pairwise (· < ·) ∧ (∀ i ∈ us, last < i) ∧ ∀ i ∈ us, i < (Mth.hi x : Int) ∧ lk t i.toNat = true ∧ coverB t x i.toNat = true := by
  induction us generalizing last with
  | nil => exact ⟨fun _ => ⟨List.Pairwise.nil, ⟨fun i hi => absurd hi (List.not_mem_nil), fun i hi => absurd hi (List.not_mem_nil)⟩⟩, fun _ => rfl⟩
  | cons a us ih =>
    show (!(decide (a ≤ last) || decide ((Mth.hi x : Int) ≤ a) || !lk t a.toNat) && coverB t x a.toNat && unB t x a us) = true ↔ _
    rw [Bool.and_eq_true, Bool.and_eq_true, Bool.not_eq_true', Bool.or_eq_false_iff, Bool.or_eq_false_iff, decide_eq_false_iff_not, decide_eq_false_iff_not, Bool.not_eq_false', ih, List.pairwise_cons]
    constructor
    · rintro ⟨⟨⟨⟨h1, h2⟩, h3⟩, h4⟩, h5, h6, h7⟩
      refine ⟨⟨h6, h5⟩, fun i hi => ?_, fun i hi => ?_⟩
      · rcases List.mem_cons.1 hi with rfl | hi
        · omega
        · have := h6 i hi; omega
      · rcases List.mem_cons.1 hi with rfl | hi
        · exact ⟨by omega, h3, h4⟩
        · exact h7 i hi
    · rintro ⟨⟨h1, h2⟩, h3, h4⟩
      have ha := h4 a List.mem_cons_self
      have hl := h3 a List.mem_cons_self
      exact ⟨⟨⟨⟨by omega, by omega⟩, ha.2.1⟩, ha.2.2⟩, h2, h1, fun i hi => h4 i (List.mem_cons_of_mem _ hi)⟩
theorem covZ_false {t : List TN} {x i z : Nat} : covZ t x i z = false ↔ ((nd t z).kd = 2 → z ≠ x → Mth.underB (2 * i) z = true → Mth.underB z x = true → (i : Int) ∈ (nd t z).un) := by
  unfold covZ
  rw [← Bool.not_eq_true, Bool.and_eq_true, Bool.and_eq_true, Bool.and_eq_true, Bool.and_eq_true, beq_iff_eq, decide_eq_true_iff, Bool.not_eq_true', decide_eq_false_iff_not]
  constructor
  · intro h h1 h2 h3 h4
    by_cases hm : (i : Int) ∈ (nd t z).un
    · exact hm
    · exact absurd ⟨⟨⟨⟨h1, h2⟩, h3⟩, h4⟩, hm⟩ h
  · rintro h ⟨⟨⟨⟨h1, h2⟩, h3⟩, h4⟩, h5⟩
    exact h5 (h h1 h2 h3 h4)
theorem nodeB_iff {t : List TN} {n x : Nat} (hn : n ∈ Mth.fulls) (hlen : t.length = 2 * n - 1) (hx : x < 2 * n - 1) : nodeB t x = true ↔
    ((nd t x).kd = 0 → nd t x = tn0) ∧ ((nd t x).kd ≠ 0 → x % 2 = 0 → (nd t x).kd = 1 ∧ (nd t x).un = []) ∧
    ((nd t x).kd ≠ 0 → x % 2 = 1 → (nd t x).kd = 2 ∧ (nd t x).id = 0 ∧ (nd t x).sig = 0 ∧ (nd t x).un.Pairwise (· < ·) ∧
      ∀ i ∈ (nd t x).un, ∃ j : Nat, i = j ∧ Mth.lo x ≤ j ∧ j < Mth.hi x ∧ lk t j = true ∧ ∀ z, z < 2 * n - 1 → (nd t z).kd = 2 → z ≠ x → Mth.hasB z j = true → Mth.underB z x = true → i ∈ (nd t z).un) := by
  have hb := fulls_bd hn
  have hhi := hi_le hn hx
  by_cases h0 : (nd t x).kd = 0
  · have hq : ((nd t x).kd == 0) = true := by rw [beq_iff_eq]; exact h0
    have e : nodeB t x = zeroB (nd t x) := by unfold nodeB; rw [hq]; rfl
    rw [e, zeroB_iff]
    exact ⟨fun h => ⟨fun _ => h, fun h1 => absurd h0 h1, fun h1 => absurd h0 h1⟩, fun h => h.1 h0⟩
  · have hq : ((nd t x).kd == 0) = false := by rw [beq_eq_false_iff_ne]; exact h0
    by_cases h1 : x % 2 = 0
    · have e : nodeB t x = leafB (nd t x) := by unfold nodeB; rw [hq, h1]; rfl
      rw [e, leafB_iff]
      exact ⟨fun h => ⟨fun h2 => absurd h2 h0, fun _ _ => h, fun _ h2 => by omega⟩, fun h => h.2.1 h0 h1⟩
    · have hbx : Nat.beq (x % 2) 0 = false := by rw [show x % 2 = 1 by omega]; rfl
      by_cases hg : (nd t x).kd = 2 ∧ (nd t x).id = 0 ∧ (nd t x).sig = 0
      · have e : nodeB t x = unB t x ((Mth.lo x : Int) - 1) (nd t x).un := by
          unfold nodeB
          rw [hq, hbx, show ((nd t x).kd != 2 || (nd t x).id != 0 || (nd t x).sig != 0) = false by rw [hg.1, hg.2.1, hg.2.2]; rfl]
          rfl
        rw [e, unB_iff]
        constructor
        · rintro ⟨a, b, c⟩
          refine ⟨fun h => absurd h h0, fun _ h => absurd h h1, fun _ _ => ⟨hg.1, hg.2.1, hg.2.2, a, fun i hi => ?_⟩⟩
          obtain ⟨c1, c2, c3⟩ := c i hi
          have := b i hi
          refine ⟨i.toNat, by omega, by omega, by omega, c2, fun z hz h2 h3 h4 h5 => ?_⟩
          have h6 := covZ_false.1 (show covZ t x i.toNat z = false by
            have := List.all_eq_true.1 c3 z (List.mem_range.2 (by rw [hlen]; exact hz))
            simpa using this) h2 h3 (by rw [Mth.under_leaf hn (by omega) hz]; exact h4) h5
          rwa [show ((i.toNat : Nat) : Int) = i by omega] at h6
        · rintro ⟨_, _, h⟩
          obtain ⟨_, _, _, a, b⟩ := h h0 (by omega)
          refine ⟨a, fun i hi => ?_, fun i hi => ?_⟩
          · obtain ⟨j, rfl, b1, _⟩ := b i hi; omega
          · obtain ⟨j, rfl, b1, b2, b3, b4⟩ := b i hi
            refine ⟨by omega, by rw [Int.toNat_natCast]; exact b3, coverB_true fun z hz => covZ_false.2 fun h2 h3 h4 h5 => ?_⟩
            rw [Int.toNat_natCast] at h4 ⊢
            exact b4 z (by omega) h2 h3 (by rw [← Mth.under_leaf hn (by omega) (by omega)]; exact h4) h5
      · have e : nodeB t x = false := by
          unfold nodeB
          rw [hq, hbx]
          have : ((nd t x).kd != 2 || (nd t x).id != 0 || (nd t x).sig != 0) = true := by
            cases e : ((nd t x).kd != 2 || (nd t x).id != 0 || (nd t x).sig != 0) with
            | true => rfl
            | false =>
              rw [Bool.or_eq_false_iff, Bool.or_eq_false_iff] at e
              exact absurd ⟨by simpa using e.1.1, by simpa using e.1.2, by simpa using e.2⟩ hg
          rw [this]; rfl
        rw [e]
        constructor
        · intro h; cases h
        · rintro ⟨_, _, h⟩
          obtain ⟨a, b, c, _⟩ := h h0 (by omega)
          exact absurd ⟨a, b, c⟩ hg
theorem chkB_may {t : List TN} : chkB t = true ↔ May t (lvs t.length) := by
  unfold chkB
  rw [Bool.and_eq_true, Bool.and_eq_true, Bool.and_eq_true, Bool.not_eq_true', Bool.or_eq_true, Bool.not_eq_true', decide_eq_false_iff_not, someB_true, someB_true, List.all_eq_true]
  have hsp := lvs_spec t.length
  generalize lvs t.length = n at hsp
  constructor
  · rintro ⟨⟨⟨h0, i, h1, h2, h3⟩, h4⟩, h5⟩
    have hne : n ≠ 0 := fun e => by rw [e] at h0; cases h0
    obtain ⟨hn, hlen⟩ : n ∈ Mth.fulls ∧ t.length = 2 * n - 1 := by
      rcases hsp with ⟨a, b⟩ | ⟨a, _⟩
      · exact ⟨a, b.symm⟩
      · exact absurd a hne
    have hnd := fun x (hx : x < 2 * n - 1) => (nodeB_iff hn hlen hx).1 (h5 x (List.mem_range.2 (by rw [hlen]; exact hx)))
    refine ⟨⟨hn, hlen, fun x hx h => (hnd x hx).1 h, fun x hx h1 h2 => (hnd x hx).2.1 h1 h2, fun x hx h1 h2 => (hnd x hx).2.2 h1 h2⟩, ⟨i, h2, h3⟩, ?_⟩
    rcases h4 with h4 | ⟨k, h6, h7, h8⟩
    · exact .inl (by omega)
    · exact .inr ⟨k, h6, h7, h8⟩
  · rintro ⟨m, ⟨i, h1, h2⟩, h3⟩
    have hb := fulls_bd m.hn
    refine ⟨⟨⟨?_, i, Nat.zero_le _, h1, h2⟩, ?_⟩, fun x hx => ?_⟩
    · cases e : Nat.beq n 0 with
      | false => rfl
      | true => have := Nat.eq_of_beq_eq_true e; omega
    · rcases h3 with h3 | ⟨k, h4, h5, h6⟩
      · exact .inl (by omega)
      · exact .inr ⟨k, h4, h5, h6⟩
    · have hx2 : x < 2 * n - 1 := by rw [← m.len]; exact List.mem_range.1 hx
      exact (nodeB_iff m.hn m.len hx2).2 ⟨m.blank x hx2, m.leaf x hx2, m.par x hx2⟩
theorem may_n {t : List TN} {n : Nat} (m : MayN t n) : lvs t.length = n := by rw [m.len]; exact lvs_of m.hn
end Go.Proofs.YtdjfdobcjakmhaaDoor
end

section
/- Walks of the document's answer: Copy. -/
set_option linter.unusedSimpArgs false
set_option linter.unusedVariables false
namespace Go.Proofs.YtdjfdobcjakmhaaDoor
open Go.RowKit
open Rt

theorem getD_snoc1 {l : List Value} {v : Value} {i : Nat} (h : i < l.length) : (l ++ [v]).getD i undef = l.getD i undef := by
  rw [List.getD_eq_getElem?_getD, List.getD_eq_getElem?_getD, List.getElem?_append_left h]
theorem getD_snoc2 {l : List Value} {v : Value} : (l ++ [v]).getD l.length undef = v := by
  rw [List.getD_eq_getElem?_getD, List.getElem?_append_right (Nat.le_refl _), Nat.sub_self]; rfl
theorem nd_snoc1 {l : List TN} {v : TN} {i : Nat} (h : i < l.length) : nd (l ++ [v]) i = nd l i := by
  unfold nd
  rw [List.getD_eq_getElem?_getD, List.getD_eq_getElem?_getD, List.getElem?_append_left h]
theorem nd_snoc2 {l : List TN} {v : TN} : nd (l ++ [v]) l.length = v := by
  unfold nd
  rw [List.getD_eq_getElem?_getD, List.getElem?_append_right (Nat.le_refl _), Nat.sub_self]; rfl
theorem ones6 (d : TN) (la : Option Addr) (ln lc : Nat) : ∀ u ∈ tnCells d (.slice la ln lc), u.oneCell' = true := by
  intro u hu
  simp only [tnCells, List.mem_cons, List.not_mem_nil, or_false] at hu
  rcases hu with rfl | rfl | rfl | rfl | rfl | rfl <;> rfl
theorem take_snocT {t : List TN} {k : Nat} (h : k < t.length) : t.take (k + 1) = t.take k ++ [nd t k] := by
  rw [List.take_succ_eq_append_getElem h, nd_get h]
end Go.Proofs.YtdjfdobcjakmhaaDoor
end

section
/- The document's Beyond. -/
set_option linter.unusedSimpArgs false
set_option linter.unusedVariables false
namespace Go.Proofs.YtdjfdobcjakmhaaDoor
open Go.RowKit Go.Maps

/-- None of some is a term that was made on the way. -/
def Near (n : Int) (l : List Int) : Prop := ∀ x ∈ l, ¬ (n ≤ x ∧ x < 1073741824)
def BeyPost (w : World) (P : Prop) (e : Ending) (w' : World) : Prop := ∃ b : Bool, e = .returned (.bool b) ∧ (b = false → P) ∧ Kept w w'
set_option maxHeartbeats 4000000 in
set_option maxRecDepth 100000 in
theorem beyond_any {w : World} {v : Value} {l : List Int} (h : RdI w v l) (n : Int) :
    Calls Tryd.prog 10 #[.int .i64 n, v] w (BeyPost w (Near n l)) := by
  obtain ⟨la, lc, rfl, l1, l2, l3⟩ := h.len
  have l63 : ((l.length : Nat) : Int) ≤ 9223372036854775807 := by unfold maxLen at l2; omega
  go_enter Tryd.func10, Tryd.ntmps10
  go_wp2
  go_loop [9] (fun s => ∃ k : Nat, (k ≤ l.length ∧ ∀ i, i < k → ¬ (n ≤ l.getD i 0 ∧ l.getD i 0 < 1073741824)) ∧ s = .int .i64 k) (fun s => l.length - (intOf s).toNat)
  case atStart => exact ⟨0, ⟨Nat.zero_le _, fun i hi => absurd hi (Nat.not_lt_zero _)⟩, rfl⟩
  case round =>
    obtain ⟨k, ⟨hk0, hk1⟩, rfl⟩ := hrel
    have HK1 := Shut.mk hk1
    clear hk1
    by_cases hlt : k < l.length
    · obtain ⟨rb, ro, rc, hrv, _, _, hrb, hcell⟩ := h.addr (by omega)
      simp only [Value.slice.injEq] at hrv
      obtain ⟨rfl, hdrop, rfl⟩ := hrv
      clear hdrop
      have hcw := hcell k hlt
      clear hcell
      generalize hx : l.getD k 0 = x at hcw
      have HX := Shut.mk hx
      clear hx
      have c0 : (0 : Int) ≤ (k : Int) := by omega
      have c1 : (k : Int) < (l.length : Int) := by omega
      by_cases q1 : n ≤ x
      · by_cases q2 : x < 1073741824
        · go_wp2
          go_ret
          exact ⟨true, rfl, (fun h => by cases h), Kept.refl _⟩
        · go_wp2
          go_round
          case rel => exact ⟨k + 1, ⟨hlt, fun i hi => by
            by_cases c : i < k
            · exact HK1.out i c
            · obtain rfl : i = k := by omega
              rw [HX.out]; omega⟩, rfl⟩
          case measure => simp [intOf]; omega
      · go_wp2
        go_round
        case rel => exact ⟨k + 1, ⟨hlt, fun i hi => by
          by_cases c : i < k
          · exact HK1.out i c
          · obtain rfl : i = k := by omega
            rw [HX.out]; omega⟩, rfl⟩
        case measure => simp [intOf]; omega
    · obtain rfl : k = l.length := by omega
      go_wp2
      go_ret
      refine ⟨false, rfl, fun _ x hx => ?_, Kept.refl _⟩
      obtain ⟨i, hi, e⟩ := List.mem_iff_getElem.1 hx
      have := HK1.out i hi
      rwa [List.getD_eq_getElem?_getD, List.getElem?_eq_getElem hi, Option.getD_some, e] at this
end Go.Proofs.YtdjfdobcjakmhaaDoor
end

/- Texts of one proof, put together: RtS, RtM, MthR, RtA, RtB, MthC, MthD, MthE, MthT, RtC, InR, RtD, RtE. -/
import Derived.Test.YtnmaiokhndbicaaGreatDoorMg01
import Derived.Lib.BitFns
import Derived.Deep.RegionHeld3
import Derived.StillTailTactics
section
/- A group's tree, plainly: whether it may be, and what adding, removing and updating make of it. Nothing here names a program. -/
set_option linter.unusedVariables false
namespace Go.Proofs.YtnmaiokhndbicaaGreatDoor
namespace Rt
open Mth
structure TN where
  kd : Int
  id : Int
  enc : Int
  sig : Int
  hash : Int
  un : List Int
def tn0 : TN := ⟨0, 0, 0, 0, 0, []⟩
def nd (t : List TN) (x : Nat) : TN := t.getD x tn0
/-- The leaf i is there. -/
def lk (t : List TN) (i : Nat) : Bool := decide ((nd t (2 * i)).kd = 1)
def tab (m : Nat) (g : Nat → TN) : List TN := (List.range m).map g
theorem tab_len (m : Nat) (g : Nat → TN) : (tab m g).length = m := by simp [tab]
theorem tab_nd {m : Nat} {g : Nat → TN} {x : Nat} (h : x < m) : nd (tab m g) x = g x := by
  unfold nd tab
  rw [List.getD_eq_getElem?_getD, List.getElem?_map, List.getElem?_range h]; rfl
theorem nd_out {t : List TN} {x : Nat} (h : t.length ≤ x) : nd t x = tn0 := by
  unfold nd
  rw [List.getD_eq_getElem?_getD, List.getElem?_eq_none h]; rfl
theorem nd_get {t : List TN} {x : Nat} (h : x < t.length) : nd t x = t[x] := by
  unfold nd
  rw [List.getD_eq_getElem?_getD, List.getElem?_eq_getElem h]; rfl
theorem tn_ext {t u : List TN} (hl : t.length = u.length) (h : ∀ x, x < t.length → nd t x = nd u x) : t = u := by
  refine List.ext_getElem hl fun i h1 h2 => ?_
  have := h i h1
  rwa [nd_get h1, nd_get h2] at this
theorem tab_self (t : List TN) : tab t.length (nd t) = t := tn_ext (tab_len _ _) fun x hx => tab_nd (by rwa [tab_len] at hx)

/-- The nodes of a tree of n leaves may stand where they stand. -/
structure MayN (t : List TN) (n : Nat) : Prop where
  hn : n ∈ fulls
  len : t.length = 2 * n - 1
  blank : ∀ x, x < 2 * n - 1 → (nd t x).kd = 0 → nd t x = tn0
  leaf : ∀ x, x < 2 * n - 1 → (nd t x).kd ≠ 0 → x % 2 = 0 → (nd t x).kd = 1 ∧ (nd t x).un = []
  par : ∀ x, x < 2 * n - 1 → (nd t x).kd ≠ 0 → x % 2 = 1 → (nd t x).kd = 2 ∧ (nd t x).id = 0 ∧ (nd t x).sig = 0 ∧ (nd t x).un.Pairwise (· < ·) ∧
    ∀ i ∈ (nd t x).un, ∃ j : Nat, i = j ∧ lo x ≤ j ∧ j < hi x ∧ lk t j = true ∧ ∀ z, z < 2 * n - 1 → (nd t z).kd = 2 → z ≠ x → hasB z j = true → underB z x = true → i ∈ (nd t z).un
structure May (t : List TN) (n : Nat) : Prop where
  mn : MayN t n
  some' : ∃ i, i < n ∧ lk t i = true
  right : n = 1 ∨ ∃ i, n / 2 ≤ i ∧ i < n ∧ lk t i = true

/-! ## nodes above a leaf -/
theorem itr_node {x i : Nat} (hx : x < 511) (h : hasB x i = true) : itr (lvl x) (2 * i) = x := by
  have hall : (List.range 511).all (fun x => (List.range (hi x - lo x)).all fun k => Nat.beq (itr (lvl x) (2 * (lo x + k))) x) = true := by decide +kernel
  have h1 := List.all_eq_true.1 hall x (List.mem_range.2 hx)
  obtain ⟨a, b⟩ := hasB_iff.1 h
  have h2 := List.all_eq_true.1 h1 (i - lo x) (List.mem_range.2 (by omega))
  have := Nat.eq_of_beq_eq_true h2
  rwa [show lo x + (i - lo x) = i by omega] at this
/-- A node that is an even one is a leaf's, another one is above leaves. -/
theorem even_node {x : Nat} (hx : x < 511) : (x % 2 = 0 ↔ lvl x = 0) ∧ (x % 2 = 0 → lo x = x / 2 ∧ hi x = x / 2 + 1) ∧ lo x < hi x := by
  have hall : (List.range 511).all (fun x => (Nat.beq (x % 2) 0 == Nat.beq (lvl x) 0) && (!Nat.beq (x % 2) 0 || (Nat.beq (lo x) (x / 2) && Nat.beq (hi x) (x / 2 + 1))) && Nat.blt (lo x) (hi x)) = true := by decide +kernel
  have h := List.all_eq_true.1 hall x (List.mem_range.2 hx)
  rw [Bool.and_eq_true, Bool.and_eq_true, Bool.or_eq_true] at h
  obtain ⟨⟨h1, h2⟩, h3⟩ := h
  have h1 := eq_of_beq h1
  refine ⟨⟨fun e => ?_, fun e => ?_⟩, fun e => ?_, Nat.le_of_ble_eq_true h3⟩
  · have : Nat.beq (x % 2) 0 = true := by rw [e]; rfl
    rw [this] at h1
    exact Nat.eq_of_beq_eq_true h1.symm
  · have : Nat.beq (lvl x) 0 = true := by rw [e]; rfl
    rw [this] at h1
    exact Nat.eq_of_beq_eq_true h1
  · rcases h2 with h2 | h2
    · rw [show Nat.beq (x % 2) 0 = true by rw [e]; rfl] at h2
      cases h2
    · rw [Bool.and_eq_true] at h2
      exact ⟨Nat.eq_of_beq_eq_true h2.1, Nat.eq_of_beq_eq_true h2.2⟩
theorem hasB_even {x i : Nat} (hx : x < 511) (he : x % 2 = 0) : hasB x i = true ↔ x = 2 * i := by
  obtain ⟨_, h, _⟩ := even_node hx
  obtain ⟨a, b⟩ := h he
  rw [hasB_iff, a, b]
  omega
/-- What is under a node has no more leaves. -/
theorem under_has {z x j : Nat} (hu : underB z x = true) (h : hasB z j = true) : hasB x j = true := by
  unfold underB at hu
  rw [Bool.and_eq_true, Bool.and_eq_true] at hu
  have a := Nat.le_of_ble_eq_true hu.1.1
  have b := Nat.le_of_ble_eq_true hu.1.2
  obtain ⟨c, d⟩ := hasB_iff.1 h
  exact hasB_iff.2 ⟨by omega, by omega⟩
theorem lk_leaf {t : List TN} {n i : Nat} (m : MayN t n) (hi : i < n) : lk t i = true ∨ (lk t i = false ∧ nd t (2 * i) = tn0) := by
  by_cases h : (nd t (2 * i)).kd = 1
  · exact .inl (decide_eq_true h)
  · refine .inr ⟨decide_eq_false h, m.blank _ (by omega) ?_⟩
    by_cases h0 : (nd t (2 * i)).kd = 0
    · exact h0
    · exact absurd (m.leaf _ (by omega) h0 (by omega)).1 h

/-! ## a leaf is blanked, with all above it -/
def blkG (t : List TN) (i : Nat) (x : Nat) : TN := bif hasB x i then tn0 else nd t x
theorem blkG_in {t : List TN} {i x : Nat} (h : hasB x i = true) : blkG t i x = tn0 := by unfold blkG; rw [h]; rfl
theorem blkG_out {t : List TN} {i x : Nat} (h : hasB x i = false) : blkG t i x = nd t x := by unfold blkG; rw [h]; rfl
theorem hasB_leaf {i j : Nat} (h : 2 * j < 511) : hasB (2 * j) i = decide (i = j) := by
  have := hasB_even (i := i) h (by omega)
  by_cases e : i = j
  · rw [decide_eq_true e]; exact this.2 (by omega)
  · rw [decide_eq_false e]
    cases hb : hasB (2 * j) i with
    | false => rfl
    | true => have := this.1 hb; omega
theorem fulls_le {n : Nat} (hn : n ∈ fulls) : 1 ≤ n ∧ n ≤ 256 := mem_bd hn
/-- A leaf is put in the place of another one (or of none), and all above it are blanked. -/
def updG (t : List TN) (i : Nat) (l : TN) (x : Nat) : TN := if x = 2 * i then l else blkG t i x
theorem updG_may {t : List TN} {n i : Nat} {l : TN} (m : MayN t n) (hi : i < n) (hl : l = tn0 ∨ (l.kd = 1 ∧ l.un = [])) : MayN (tab (2 * n - 1) (updG t i l)) n := by
  have hb := fulls_le m.hn
  have hv : ∀ x, x < 2 * n - 1 → nd (tab (2 * n - 1) (updG t i l)) x = updG t i l x := fun x hx => tab_nd hx
  have hkeep : ∀ x, x < 2 * n - 1 → hasB x i = false → updG t i l x = nd t x := fun x hx h => by
    have hne : x ≠ 2 * i := fun e => by
      rw [e, hasB_leaf (by omega), decide_eq_true rfl] at h; cases h
    unfold updG
    rw [if_neg hne, blkG_out h]
  have hgone : ∀ x, x < 2 * n - 1 → hasB x i = true → updG t i l x = if x = 2 * i then l else tn0 := fun x hx h => by
    unfold updG
    rw [blkG_in h]
  have hlk : ∀ j, j < n → j ≠ i → lk (tab (2 * n - 1) (updG t i l)) j = lk t j := fun j hj hne => by
    unfold lk
    rw [hv _ (by omega), hkeep _ (by omega) (by rw [hasB_leaf (by omega)]; exact decide_eq_false (Ne.symm hne))]
  refine ⟨m.hn, tab_len _ _, fun x hx h0 => ?_, fun x hx h0 he => ?_, fun x hx h0 ho => ?_⟩
  · rw [hv x hx] at h0 ⊢
    cases hc : hasB x i with
    | false => rw [hkeep x hx hc] at h0 ⊢; exact m.blank x hx h0
    | true =>
      rw [hgone x hx hc] at h0 ⊢
      by_cases e : x = 2 * i
      · rw [if_pos e] at h0 ⊢
        rcases hl with rfl | hl
        · rfl
        · rw [hl.1] at h0; cases h0
      · rw [if_neg e]
  · rw [hv x hx] at h0 ⊢
    cases hc : hasB x i with
    | false => rw [hkeep x hx hc] at h0 ⊢; exact m.leaf x hx h0 he
    | true =>
      rw [hgone x hx hc] at h0 ⊢
      have e : x = 2 * i := (hasB_even (by omega) he).1 hc
      rw [if_pos e] at h0 ⊢
      rcases hl with rfl | hl
      · exact absurd rfl h0
      · exact hl
  · rw [hv x hx] at h0 ⊢
    cases hc : hasB x i with
    | true =>
      rw [hgone x hx hc, if_neg (by omega)] at h0
      exact absurd rfl h0
    | false =>
      rw [hkeep x hx hc] at h0 ⊢
      obtain ⟨a1, a2, a3, a4, a5⟩ := m.par x hx h0 ho
      refine ⟨a1, a2, a3, a4, fun k hk => ?_⟩
      obtain ⟨j, rfl, b1, b2, b3, b4⟩ := a5 k hk
      have hji : j ≠ i := fun e => by
        rw [← e, hasB_iff.2 ⟨b1, b2⟩] at hc; cases hc
      have hjn : j < n := by
        cases Nat.lt_or_ge j n with
        | inl h => exact h
        | inr h =>
          have : lk t j = false := by
            unfold lk
            rw [nd_out (by rw [m.len]; omega)]
            rfl
          rw [this] at b3; cases b3
      refine ⟨j, rfl, b1, b2, by rw [hlk j hjn hji]; exact b3, fun z hz hz2 hzx hzj hzu => ?_⟩
      rw [hv z hz] at hz2 ⊢
      cases hcz : hasB z i with
      | false => rw [hkeep z hz hcz] at hz2 ⊢; exact b4 z hz hz2 hzx hzj hzu
      | true =>
        rw [hgone z hz hcz] at hz2
        by_cases e : z = 2 * i
        · rw [if_pos e] at hz2
          rcases hl with rfl | hl
          · cases hz2
          · rw [hl.1] at hz2; cases hz2
        · rw [if_neg e] at hz2; cases hz2
/-- The left half of a tree. -/
theorem half_may {t : List TN} {n : Nat} (m : MayN t (2 * n)) (hn : n ∈ fulls) : MayN (tab (2 * n - 1) (nd t)) n := by
  have hv : ∀ x, x < 2 * n - 1 → nd (tab (2 * n - 1) (nd t)) x = nd t x := fun x hx => tab_nd hx
  have hb := fulls_le hn
  have hb2 := fulls_le m.hn
  have hhi : ∀ x, x < 2 * n - 1 → hi x ≤ n := fun x hx => by
    have h := allB_at (p := fun n x => Nat.ble (hi x) n) (by decide +kernel) hn hx
    exact Nat.le_of_ble_eq_true h
  refine ⟨hn, tab_len _ _, fun x hx h0 => ?_, fun x hx h0 he => ?_, fun x hx h0 ho => ?_⟩
  · rw [hv x hx] at h0 ⊢; exact m.blank x (by omega) h0
  · rw [hv x hx] at h0 ⊢; exact m.leaf x (by omega) h0 he
  · rw [hv x hx] at h0 ⊢
    obtain ⟨a1, a2, a3, a4, a5⟩ := m.par x (by omega) h0 ho
    refine ⟨a1, a2, a3, a4, fun k hk => ?_⟩
    obtain ⟨j, rfl, b1, b2, b3, b4⟩ := a5 k hk
    have := hhi x hx
    refine ⟨j, rfl, b1, b2, by unfold lk at b3 ⊢; rw [hv _ (by omega)]; exact b3, fun z hz hz2 hzx hzj hzu => ?_⟩
    rw [hv z hz] at hz2 ⊢
    exact b4 z (by omega) hz2 hzx hzj hzu

/-! ## a leaf is added -/
/-- A rising list with one number more. -/
def ins (i : Int) : List Int → List Int
  | [] => [i]
  | a :: l => if i < a then i :: a :: l else if i = a then a :: l else a :: ins i l
theorem mem_ins {i k : Int} {l : List Int} : k ∈ ins i l ↔ k = i ∨ k ∈ l := by
  induction l with
  | nil => simp [ins]
  | cons a l ih =>
    unfold ins
    by_cases h1 : i < a
    · rw [if_pos h1]; simp
    · rw [if_neg h1]
      by_cases h2 : i = a
      · rw [if_pos h2]; subst h2; simp
      · rw [if_neg h2, List.mem_cons, ih, List.mem_cons]
        constructor
        · rintro (h | h | h)
          · exact .inr (.inl h)
          · exact .inl h
          · exact .inr (.inr h)
        · rintro (h | h | h)
          · exact .inr (.inl h)
          · exact .inl h
          · exact .inr (.inr h)
theorem ins_rising {i : Int} {l : List Int} (h : l.Pairwise (· < ·)) : (ins i l).Pairwise (· < ·) := by
  induction l with
  | nil => exact List.pairwise_singleton _ _
  | cons a l ih =>
    have ha := List.pairwise_cons.1 h
    unfold ins
    by_cases h1 : i < a
    · rw [if_pos h1]
      exact List.pairwise_cons.2 ⟨fun k hk => by
        rcases List.mem_cons.1 hk with rfl | hk
        · exact h1
        · exact Int.lt_trans h1 (ha.1 k hk), h⟩
    · rw [if_neg h1]
      by_cases h2 : i = a
      · rw [if_pos h2]; exact h
      · rw [if_neg h2]
        refine List.pairwise_cons.2 ⟨fun k hk => ?_, ih ha.2⟩
        rcases mem_ins.1 hk with rfl | hk
        · omega
        · exact ha.1 k hk
/-- The leaf i is l, and all Parents above it have it as not merged. -/
def addG (t : List TN) (i : Nat) (l : TN) (x : Nat) : TN :=
  if x = 2 * i then l else if hasB x i = true ∧ (nd t x).kd = 2 then { nd t x with un := ins i (nd t x).un } else nd t x
theorem addG_kd {t : List TN} {i x : Nat} {l : TN} (h : x ≠ 2 * i) : (addG t i l x).kd = (nd t x).kd ∧ (addG t i l x).id = (nd t x).id ∧ (addG t i l x).sig = (nd t x).sig ∧ (addG t i l x).enc = (nd t x).enc ∧ (addG t i l x).hash = (nd t x).hash := by
  unfold addG
  rw [if_neg h]
  split <;> exact ⟨rfl, rfl, rfl, rfl, rfl⟩
theorem addG_un {t : List TN} {i x : Nat} {l : TN} (h : x ≠ 2 * i) {k : Int} (hk : k ∈ (nd t x).un) : k ∈ (addG t i l x).un := by
  unfold addG
  rw [if_neg h]
  split
  · exact mem_ins.2 (.inr hk)
  · exact hk
theorem addG_may {t : List TN} {n i : Nat} {l : TN} (m : MayN t n) (hi : i < n) (hl : l.kd = 1 ∧ l.un = []) : MayN (tab (2 * n - 1) (addG t i l)) n := by
  have hb := fulls_le m.hn
  have hv : ∀ x, x < 2 * n - 1 → nd (tab (2 * n - 1) (addG t i l)) x = addG t i l x := fun x hx => tab_nd hx
  have hself : addG t i l (2 * i) = l := by unfold addG; rw [if_pos rfl]
  have hlk : ∀ j, lk t j = true → j < n → lk (tab (2 * n - 1) (addG t i l)) j = true := fun j h hj => by
    unfold lk at h ⊢
    rw [hv _ (by omega)]
    by_cases e : j = i
    · rw [e, hself]; exact decide_eq_true hl.1
    · rw [(addG_kd (by omega)).1]; exact h
  have hout : ∀ j, lk t j = true → j < n := fun j h => by
    cases Nat.lt_or_ge j n with
    | inl h => exact h
    | inr hge =>
      have : lk t j = false := by
        unfold lk
        rw [nd_out (by rw [m.len]; omega)]
        rfl
      rw [this] at h; cases h
  refine ⟨m.hn, tab_len _ _, fun x hx h0 => ?_, fun x hx h0 he => ?_, fun x hx h0 ho => ?_⟩
  · rw [hv x hx] at h0 ⊢
    by_cases e : x = 2 * i
    · rw [e, hself] at h0; rw [hl.1] at h0; cases h0
    · rw [(addG_kd e).1] at h0
      unfold addG
      rw [if_neg e, if_neg (by rw [h0]; simp)]
      exact m.blank x hx h0
  · rw [hv x hx] at h0 ⊢
    by_cases e : x = 2 * i
    · rw [e, hself]; exact hl
    · rw [(addG_kd e).1] at h0
      have h := m.leaf x hx h0 he
      unfold addG
      rw [if_neg e, if_neg (by rw [h.1]; simp)]
      exact h
  · rw [hv x hx] at h0 ⊢
    have e : x ≠ 2 * i := by omega
    obtain ⟨k1, k2, k3, _⟩ := addG_kd (t := t) (l := l) e
    rw [k1] at h0
    rw [k1, k2, k3]
    obtain ⟨a1, a2, a3, a4, a5⟩ := m.par x hx h0 ho
    have hun : ∀ k ∈ (nd t x).un, ∃ j : Nat, k = j ∧ lo x ≤ j ∧ j < Mth.hi x ∧ lk (tab (2 * n - 1) (addG t i l)) j = true ∧ ∀ z, z < 2 * n - 1 → (nd (tab (2 * n - 1) (addG t i l)) z).kd = 2 → z ≠ x → hasB z j = true → underB z x = true → k ∈ (nd (tab (2 * n - 1) (addG t i l)) z).un := fun k hk => by
      obtain ⟨j, rfl, b1, b2, b3, b4⟩ := a5 k hk
      refine ⟨j, rfl, b1, b2, hlk j b3 (hout j b3), fun z hz hz2 hzx hzj hzu => ?_⟩
      rw [hv z hz] at hz2 ⊢
      by_cases ez : z = 2 * i
      · rw [ez, hself, hl.1] at hz2; cases hz2
      · rw [(addG_kd ez).1] at hz2
        exact addG_un ez (b4 z hz hz2 hzx hzj hzu)
    by_cases hc : hasB x i = true ∧ (nd t x).kd = 2
    · have hu : (addG t i l x).un = ins i (nd t x).un := by unfold addG; rw [if_neg e, if_pos hc]
      rw [hu]
      refine ⟨a1, a2, a3, ins_rising a4, fun k hk => ?_⟩
      rcases mem_ins.1 hk with rfl | hk
      · obtain ⟨h1, h2⟩ := hasB_iff.1 hc.1
        refine ⟨i, rfl, h1, h2, ?_, fun z hz hz2 hzx hzj hzu => ?_⟩
        · unfold lk
          rw [hv _ (by omega), hself]
          exact decide_eq_true hl.1
        · rw [hv z hz] at hz2 ⊢
          by_cases ez : z = 2 * i
          · rw [ez, hself, hl.1] at hz2; cases hz2
          · rw [(addG_kd ez).1] at hz2
            unfold addG
            rw [if_neg ez, if_pos ⟨hzj, hz2⟩]
            exact mem_ins.2 (.inl rfl)
      · exact hun k hk
    · have hu : addG t i l x = nd t x := by unfold addG; rw [if_neg e, if_neg hc]
      rw [hu]
      exact ⟨a1, a2, a3, a4, hun⟩
/-- A full tree gets twice as many leaves. -/
def growG (t : List TN) (n : Nat) (l : TN) (x : Nat) : TN := if x = 2 * n then l else nd t x
theorem grow_may {t : List TN} {n : Nat} {l : TN} (m : MayN t n) (h2 : 2 * n ∈ fulls) (hl : l.kd = 1 ∧ l.un = []) : MayN (tab (4 * n - 1) (growG t n l)) (2 * n) := by
  have hb := fulls_le m.hn
  have hb2 := fulls_le h2
  have hv : ∀ x, x < 4 * n - 1 → nd (tab (4 * n - 1) (growG t n l)) x = growG t n l x := fun x hx => tab_nd hx
  have hout : ∀ x, 2 * n - 1 ≤ x → nd t x = tn0 := fun x hx => nd_out (by rw [m.len]; omega)
  have hself : growG t n l (2 * n) = l := by unfold growG; rw [if_pos rfl]
  have hoth : ∀ x, x ≠ 2 * n → growG t n l x = nd t x := fun x hx => by unfold growG; rw [if_neg hx]
  have hbd : 2 * (2 * n) - 1 = 4 * n - 1 := by omega
  have hlt : ∀ x, (nd t x).kd ≠ 0 → x < 2 * n - 1 := fun x h => by
    cases Nat.lt_or_ge x (2 * n - 1) with
    | inl h => exact h
    | inr hge => rw [hout x hge] at h; exact absurd rfl h
  refine ⟨h2, by rw [tab_len]; omega, fun x hx h0 => ?_, fun x hx h0 he => ?_, fun x hx h0 ho => ?_⟩
  · rw [hv x (by omega)] at h0 ⊢
    by_cases e : x = 2 * n
    · rw [e, hself, hl.1] at h0; cases h0
    · rw [hoth x e] at h0 ⊢
      cases Nat.lt_or_ge x (2 * n - 1) with
      | inl h => exact m.blank x h h0
      | inr hge => exact hout x hge
  · rw [hv x (by omega)] at h0 ⊢
    by_cases e : x = 2 * n
    · rw [e, hself]; exact hl
    · rw [hoth x e] at h0 ⊢
      exact m.leaf x (hlt x h0) h0 he
  · rw [hv x (by omega)] at h0 ⊢
    rw [hoth x (by omega)] at h0 ⊢
    obtain ⟨a1, a2, a3, a4, a5⟩ := m.par x (hlt x h0) h0 ho
    refine ⟨a1, a2, a3, a4, fun k hk => ?_⟩
    obtain ⟨j, rfl, b1, b2, b3, b4⟩ := a5 k hk
    have hj : 2 * j < 2 * n - 1 := hlt _ (by unfold lk at b3; have := of_decide_eq_true b3; omega)
    refine ⟨j, rfl, b1, b2, by unfold lk at b3 ⊢; rw [hv _ (by omega), hoth _ (by omega)]; exact b3, fun z hz hz2 hzx hzj hzu => ?_⟩
    rw [hv z (by omega)] at hz2 ⊢
    by_cases ez : z = 2 * n
    · rw [ez, hself, hl.1] at hz2; cases hz2
    · rw [hoth z ez] at hz2 ⊢
      exact b4 z (hlt z (by omega)) hz2 hzx hzj hzu
end Rt
end Go.Proofs.YtnmaiokhndbicaaGreatDoor
end

section
/- Nodes of a group's tree in memory. -/
set_option linter.unusedSimpArgs false
set_option linter.unusedVariables false
namespace Go.Proofs.YtnmaiokhndbicaaGreatDoor
open Go.RowKit
open Rt

/-- The cells of a node whose Unmerged is the slice lv. -/
def tnCells (d : TN) (lv : Value) : List Value := [.int .i64 d.kd, .int .i64 d.id, .int .i64 d.enc, .int .i64 d.sig, .int .i64 d.hash, lv]
def tflat : List TN → List Value → List Value
  | [], _ => []
  | d :: ds, lvs => tnCells d (lvs.headD undef) ++ tflat ds lvs.tail
theorem tflat_length (ds : List TN) (lvs : List Value) : (tflat ds lvs).length = ds.length * 6 := by
  induction ds generalizing lvs with
  | nil => rfl
  | cons d ds ih => simp [tflat, tnCells, ih]; omega
theorem tflat_at (ds : List TN) (lvs : List Value) (i j : Nat) (hi : i < ds.length) (hj : j < 6) : (tflat ds lvs)[i * 6 + j]? = (tnCells (nd ds i) (lvs.getD i undef))[j]? := by
  unfold nd
  induction ds generalizing lvs i with
  | nil => simp at hi
  | cons d ds ih =>
    cases i with
    | zero =>
      simp only [tflat, Nat.zero_mul, Nat.zero_add]
      rw [List.getElem?_append_left (by simp [tnCells]; omega)]
      cases lvs <;> rfl
    | succ i =>
      simp only [tflat]
      rw [List.getElem?_append_right (by simp [tnCells]; omega)]
      have e : (i + 1) * 6 + j - (tnCells d (lvs.headD undef)).length = i * 6 + j := by simp [tnCells]; omega
      rw [e, ih lvs.tail i (by simpa using hi)]
      cases lvs <;> simp
theorem tflat_snoc (ds : List TN) (lvs : List Value) (h : lvs.length = ds.length) (d : TN) (lv : Value) : tflat (ds ++ [d]) (lvs ++ [lv]) = tflat ds lvs ++ tnCells d lv := by
  induction ds generalizing lvs with
  | nil =>
    cases lvs with
    | nil => simp [tflat]
    | cons => simp at h
  | cons e ds ih =>
    cases lvs with
    | nil => simp at h
    | cons v lvs => simp [tflat, ih lvs (by simpa using h)]

/-- Numbers that are int's. -/
structure TnOk (d : TN) : Prop where
  kd : I64 d.kd
  id : I64 d.id
  enc : I64 d.enc
  sig : I64 d.sig
  hash : I64 d.hash
  un : ∀ x ∈ d.un, I64 x
/-- v is a node. -/
def RdTn (w : World) (v : Value) (d : TN) : Prop := ∃ lv, v = .agg #[.int .i64 d.kd, .int .i64 d.id, .int .i64 d.enc, .int .i64 d.sig, .int .i64 d.hash, lv] ∧ RdI w lv d.un
theorem RdTn.kept {w w' : World} {v : Value} {d : TN} (h : RdTn w v d) (k : Kept w w') : RdTn w' v d := by
  obtain ⟨lv, h1, h2⟩ := h
  exact ⟨lv, h1, h2.kept k⟩
/-- v is a slice of nodes. -/
def RdTs (w : World) (v : Value) (ds : List TN) : Prop :=
  ∃ lvs : List Value, lvs.length = ds.length ∧ Rdv 6 w v ds.length (tflat ds lvs) ∧ ∀ i, i < ds.length → RdI w (lvs.getD i undef) (nd ds i).un
theorem RdTs.kept {w w' : World} {v : Value} {ds : List TN} (h : RdTs w v ds) (k : Kept w w') : RdTs w' v ds := by
  obtain ⟨lvs, h1, h2, h3⟩ := h
  exact ⟨lvs, h1, h2.kept k, fun i hi => (h3 i hi).kept k⟩
theorem RdTs.nil (w : World) : RdTs w (.slice none 0 0) [] := ⟨[], rfl, ⟨none, 0, rfl, rfl, Nat.le_refl _, Nat.zero_le _, fun _ => rfl, fun _ h => by cases h⟩, fun i hi => by simp at hi⟩
theorem RdTs.len {w : World} {v : Value} {ds : List TN} (h : RdTs w v ds) : ∃ a cap, v = .slice a ds.length cap ∧ ds.length ≤ cap ∧ cap ≤ maxLen ∧ (a = none → cap = 0) := by
  obtain ⟨lvs, _, ⟨a, cap, rfl, _, h2, h3, h4, _⟩, _⟩ := h
  exact ⟨a, cap, rfl, h2, h3, h4⟩
/-- The cells of the node at a place. -/
def TnAt (w : World) (b off : Nat) (d : TN) (lv : Value) : Prop :=
  w.cell? ⟨b, off, none⟩ = some (.int .i64 d.kd) ∧ w.cell? ⟨b, off + 1, none⟩ = some (.int .i64 d.id) ∧ w.cell? ⟨b, off + 2, none⟩ = some (.int .i64 d.enc) ∧
  w.cell? ⟨b, off + 3, none⟩ = some (.int .i64 d.sig) ∧ w.cell? ⟨b, off + 4, none⟩ = some (.int .i64 d.hash) ∧ w.cell? ⟨b, off + 5, none⟩ = some lv
theorem RdTs.addr {w : World} {v : Value} {ds : List TN} (h : RdTs w v ds) (hp : 0 < ds.length) :
    ∃ b off cap, ∃ lvs : List Value, v = .slice (some ⟨b, off, none⟩) ds.length cap ∧ ds.length ≤ cap ∧ cap ≤ maxLen ∧ b < w.heap.size ∧
      (∀ i, i < ds.length → TnAt w b (off + i * 6) (nd ds i) (lvs.getD i undef)) ∧ ∀ i, i < ds.length → RdI w (lvs.getD i undef) (nd ds i).un := by
  obtain ⟨lvs, hvs, ⟨ao, cap, rfl, hl, hc, hm, hno, hcell⟩, hr⟩ := h
  cases ao with
  | none => have := hno rfl; omega
  | some ad =>
    obtain ⟨b, off, spot⟩ := ad
    have h0 := hcell _ rfl 0 (.int .i64 (nd ds 0).kd) (by have := tflat_at ds lvs 0 0 hp (by omega); simpa [tnCells] using this)
    obtain rfl : spot = none := by simpa [Addr.add] using World.cell?_spot h0
    have hg : ∀ i j u, i < ds.length → j < 6 → (tnCells (nd ds i) (lvs.getD i undef))[j]? = some u → w.cell? ⟨b, off + i * 6 + j, none⟩ = some u := by
      intro i j u hi hj hu
      have := hcell _ rfl (i * 6 + j) u ((tflat_at ds lvs i j hi hj).trans hu)
      rw [Addr.add_lit] at this
      rwa [Nat.add_assoc]
    refine ⟨b, off, cap, lvs, rfl, hc, hm, ?_, fun i hi => ⟨?_, hg i 1 _ hi (by omega) rfl, hg i 2 _ hi (by omega) rfl, hg i 3 _ hi (by omega) rfl, hg i 4 _ hi (by omega) rfl, hg i 5 _ hi (by omega) rfl⟩, hr⟩
    · have := World.block_lt_of_cell? _ _ h0
      rwa [Addr.add_lit] at this
    · have := hg i 0 _ hi (by omega) rfl
      simpa using this
theorem TnAt.kept {w w' : World} {b off : Nat} {d : TN} {lv : Value} (h : TnAt w b off d lv) (k : Kept w w') : TnAt w' b off d lv := by
  have hb := World.block_lt_of_cell? _ _ h.1
  have hc : ∀ o, w'.cell? ⟨b, o, none⟩ = w.cell? ⟨b, o, none⟩ := fun o => Below.cell (p := ⟨b, o, none⟩) k hb
  exact ⟨(hc _).trans h.1, (hc _).trans h.2.1, (hc _).trans h.2.2.1, (hc _).trans h.2.2.2.1, (hc _).trans h.2.2.2.2.1, (hc _).trans h.2.2.2.2.2⟩
/-- The node at a place of a list, as it is told in every later world. -/
theorem RdTs.at {w : World} {v : Value} {ds : List TN} (h : RdTs w v ds) {k : Nat} (hk : k < ds.length) : ∃ b off cap la lc, v = .slice (some ⟨b, off, none⟩) ds.length cap ∧
    (∀ wr, Kept w wr → TnAt wr b (off + k * 6) (nd ds k) (.slice la (nd ds k).un.length lc)) ∧ RdI w (.slice la (nd ds k).un.length lc) (nd ds k).un := by
  obtain ⟨b, off, cap, lvs, rfl, _, _, _, hc, hl⟩ := h.addr (by omega)
  have hr := hl k hk
  obtain ⟨la, lc, hv, _, _, _⟩ := hr.len
  have h1 := hc k hk
  rw [hv] at h1 hr
  exact ⟨b, off, cap, la, lc, rfl, fun wr hw => h1.kept hw, hr⟩
end Go.Proofs.YtnmaiokhndbicaaGreatDoor
end

section
/- Walks of the document's answer: full, node, Width, Root, Level, half. -/
set_option linter.unusedSimpArgs false
set_option linter.unusedVariables false
namespace Go.Proofs.YtnmaiokhndbicaaGreatDoor
open Go.RowKit

def l10 : List Nat := [1, 2, 4, 8, 16, 32, 64, 128, 256, 512]
theorem l10_bd {k : Nat} (h : k ∈ l10) : 1 ≤ k ∧ k ≤ 512 := by
  have : ∀ k ∈ l10, 1 ≤ k ∧ k ≤ 512 := by decide +kernel
  exact this k h
theorem l10_next {k : Nat} (h : k ∈ l10) (hc : k ≤ 256) : 2 * k ∈ l10 ∧ k ∈ Mth.fulls ∧ ∀ m ∈ Mth.fulls, m < 2 * k → m < k ∨ m = k := by
  have : ∀ k ∈ l10, k ≤ 256 → 2 * k ∈ l10 ∧ k ∈ Mth.fulls ∧ ∀ m ∈ Mth.fulls, m < 2 * k → m < k ∨ m = k := by decide +kernel
  exact this k h hc
theorem inB_256 (x : Int) : inB x 256 = (decide (0 ≤ x) && decide (x ≤ 510)) := by
  unfold inB
  rw [show treeB 256 = true by decide +kernel, Bool.true_and]
  congr 1
  exact decide_eq_decide.2 (by omega)
theorem lvlF_odd {f z : Nat} (h : z % 2 = 1) (hz : z < 2 ^ f) : ∃ g, f = g + 1 ∧ Mth.lvlF f z = Mth.lvlF g (z / 2) + 1 ∧ z / 2 < 2 ^ g := by
  cases f with
  | zero => omega
  | succ g =>
    refine ⟨g, rfl, ?_, by rw [Nat.pow_succ] at hz; omega⟩
    show (bif Nat.beq (z % 2) 1 then _ else _) = _
    rw [h]; rfl
theorem lvlF_even {f z : Nat} (h : z % 2 ≠ 1) : Mth.lvlF f z = 0 := by
  cases f with
  | zero => rfl
  | succ g =>
    show (bif Nat.beq (z % 2) 1 then _ else _) = _
    rw [show z % 2 = 0 by omega]; rfl
set_option maxHeartbeats 1000000 in
theorem RLevel_any (x : Int) (w : World) (hx : I64 x) : Calls Tryz.prog 60 #[.int .i64 x] w fun e w' => e = .returned (.tuple #[.int .i64 (pk (inB x 256) (Mth.lvl x.toNat : Nat)), .int .i64 (er (inB x 256))]) ∧ w = w' := by
  obtain ⟨hl, hu⟩ := hx
  have hi := inB_256 x
  by_cases h0 : x < 0
  · have hd : decide (x < 0) = true := decide_eq_true h0
    rw [show decide (0 ≤ x) = false from decide_eq_false (by omega), Bool.false_and] at hi
    have HI := Shut.mk hi
    clear hi
    go_enter Tryz.func60, Tryz.ntmps60
    go_wp2
    go_ret2
    exact ⟨by rw [HI.out]; rfl, rfl⟩
  · have hd : decide (x < 0) = false := decide_eq_false h0
    by_cases h1 : 510 < x
    · have hd1 : decide (510 < x) = true := decide_eq_true h1
      rw [show decide (x ≤ 510) = false from decide_eq_false (by omega), Bool.and_false] at hi
      have HI := Shut.mk hi
      clear hi
      go_enter Tryz.func60, Tryz.ntmps60
      go_wp2
      go_ret2
      exact ⟨by rw [HI.out]; rfl, rfl⟩
    · have hd1 : decide (510 < x) = false := decide_eq_false h1
      rw [show decide (x ≤ 510) = true from decide_eq_true (by omega), show decide (0 ≤ x) = true from decide_eq_true (by omega)] at hi
      have HI := Shut.mk hi
      clear hi
      obtain ⟨x, rfl⟩ : ∃ m : Nat, x = m := ⟨x.toNat, by omega⟩
      go_enter Tryz.func60, Tryz.ntmps60
      go_wp2
      go_loop [0, 4] (fun u v => ∃ z j f : Nat, u = .int .i64 z ∧ v = .int .i64 j ∧ z ≤ 510 ∧ z < 2 ^ f ∧ j + f ≤ 10 ∧ j + Mth.lvlF f z = Mth.lvl x) (fun u _ => (intOf u).toNat)
      case atStart => exact ⟨x, 0, 10, rfl, rfl, by omega, by omega, by omega, by rw [Nat.zero_add]; rfl⟩
      case round =>
        obtain ⟨z, j, f, rfl, rfl, hz, hzf, hjf, hlv⟩ := hrel
        have HL := Shut.mk hlv
        have HZ := Shut.mk hzf
        clear hlv hzf
        have z0 : (0 : Int) ≤ (z : Int) := by omega
        have z1 : (z : Int) ≤ 510 := by omega
        have j0 : (0 : Int) ≤ (j : Int) := by omega
        have j1 : (j : Int) ≤ 10 := by omega
        by_cases ho : z % 2 = 1
        · obtain ⟨g, hg, e2, e3⟩ := lvlF_odd ho HZ.out
          have hq : ((z : Int) % 2 == 1) = true := by simp; omega
          have E2 := Shut.mk e2
          have E3 := Shut.mk e3
          have HO := Shut.mk ho
          have HG := Shut.mk hg
          clear e2 e3 ho hg
          go_wp2
          go_round
          case rel => exact ⟨z / 2, j + 1, g, by go_num, by go_num, by omega, E3.out, by have := HG.out; omega, by have := HL.out; rw [E2.out] at this; omega⟩
          case measure => have := HO.out; simp [intOf]; omega
        · have hq : ((z : Int) % 2 == 1) = false := by rw [beq_eq_false_iff_ne]; omega
          have E2 := Shut.mk (lvlF_even (f := f) ho)
          clear ho
          go_wp2
          go_ret2
          exact ⟨by rw [HI.out]; show _ = Ending.returned (.tuple #[.int .i64 (Mth.lvl x : Nat), _]); rw [← HL.out, E2.out]; rfl, rfl⟩
end Go.Proofs.YtnmaiokhndbicaaGreatDoor
end

section
/- Walks of the document's answer: leaves, Zero, leaf, some. -/
set_option linter.unusedSimpArgs false
set_option linter.unusedVariables false
namespace Go.Proofs.YtnmaiokhndbicaaGreatDoor
open Go.RowKit
open Rt

/-- How many leaves a tree of so many nodes has; 0: there is no such tree. -/
def lvsF : List Nat → Nat → Nat
  | [], _ => 0
  | m :: r, len => bif Nat.beq (2 * m - 1) len then m else lvsF r len
def lvs (len : Nat) : Nat := lvsF Mth.fulls len
theorem lvsF_spec (r : List Nat) (len : Nat) : (lvsF r len ∈ r ∧ 2 * lvsF r len - 1 = len) ∨ (lvsF r len = 0 ∧ ∀ m ∈ r, 2 * m - 1 ≠ len) := by
  induction r with
  | nil => exact .inr ⟨rfl, fun m hm => by cases hm⟩
  | cons a r ih =>
    unfold lvsF
    cases e : Nat.beq (2 * a - 1) len with
    | true => exact .inl ⟨List.mem_cons_self, Nat.eq_of_beq_eq_true e⟩
    | false =>
      have hne : 2 * a - 1 ≠ len := fun h => by rw [h, Nat.beq_refl] at e; cases e
      rcases ih with ⟨h1, h2⟩ | ⟨h1, h2⟩
      · exact .inl ⟨List.mem_cons_of_mem _ h1, h2⟩
      · exact .inr ⟨h1, fun m hm => by
          rcases List.mem_cons.1 hm with rfl | hm
          · exact hne
          · exact h2 m hm⟩
theorem lvs_spec (len : Nat) : (lvs len ∈ Mth.fulls ∧ 2 * lvs len - 1 = len) ∨ (lvs len = 0 ∧ ∀ m ∈ Mth.fulls, 2 * m - 1 ≠ len) := lvsF_spec _ _
theorem lvs_of {n : Nat} (hn : n ∈ Mth.fulls) : lvs (2 * n - 1) = n := by
  have : ∀ m ∈ Mth.fulls, lvs (2 * m - 1) = m := by decide +kernel
  exact this n hn
theorem lvs_le (len : Nat) : lvs len ≤ 256 ∧ 2 * lvs len ≤ len + 1 := by
  rcases lvs_spec len with ⟨h, h2⟩ | ⟨h, _⟩
  · have := fulls_bd h; omega
  · omega
set_option maxHeartbeats 1000000 in
theorem rleaves_any {w : World} {v : Value} {ts : List TN} (h : RdTs w v ts) : Calls Tryz.prog 13 #[v] w fun e w' => e = .returned (.int .i64 (lvs ts.length : Nat)) ∧ w = w' := by
  obtain ⟨ta, tc, rfl, l1, l2, l3⟩ := h.len
  have l63 : ((ts.length : Nat) : Int) ≤ 9223372036854775807 := by unfold maxLen at l2; omega
  have hsp := Shut.mk (lvs_spec ts.length)
  generalize lvs ts.length = r at hsp
  go_enter Tryz.func13, Tryz.ntmps13
  go_wp2
  go_loop [3] (fun u => ∃ k : Nat, u = .int .i64 k ∧ k ∈ l10 ∧ (∀ m ∈ Mth.fulls, m < k → 2 * m - 1 ≠ ts.length)) (fun u => (600 - intOf u).toNat)
  case atStart => exact ⟨1, rfl, by decide, fun m hm h => absurd (fulls_bd hm).1 (by omega)⟩
  case round =>
    obtain ⟨k, rfl, hk, hall⟩ := hrel
    have hb := l10_bd hk
    have HK := Shut.mk hk
    have HA := Shut.mk hall
    clear hk hall
    have hk1 : (1 : Int) ≤ (k : Int) := by omega
    have hk2 : (k : Int) ≤ 512 := by omega
    by_cases hc : (k : Int) ≤ 256
    · have hd : decide ((k : Int) ≤ 256) = true := decide_eq_true hc
      obtain ⟨n1, n2, n3⟩ := l10_next HK.out (by omega)
      have N1 := Shut.mk n1
      have N2 := Shut.mk n2
      have N3 := Shut.mk n3
      clear n1 n2 n3
      by_cases he : 2 * k - 1 = ts.length
      · have hq : (2 * (k : Int) - 1 == (ts.length : Int)) = true := by rw [beq_iff_eq]; omega
        have hr : r = k := by
          rcases hsp.out with ⟨_, h2⟩ | ⟨_, h2⟩
          · omega
          · exact absurd he (h2 k N2.out)
        have HR := Shut.mk hr
        clear hr he
        go_wp2
        go_ret
        exact ⟨by rw [HR.out]; rfl, rfl⟩
      · have hq : (2 * (k : Int) - 1 == (ts.length : Int)) = false := by rw [beq_eq_false_iff_ne]; omega
        have HE := Shut.mk he
        clear he
        go_wp2
        go_round
        case rel => exact ⟨2 * k, by rw [Int.mul_comm]; rfl, N1.out, fun m hm hlt => (N3.out m hm hlt).elim (fun h => HA.out m hm h) (fun e => by rw [e]; exact HE.out)⟩
        case measure => simp [intOf]; omega
    · have hd : decide ((k : Int) ≤ 256) = false := decide_eq_false hc
      have hr : r = 0 := by
        rcases hsp.out with ⟨h1, h2⟩ | ⟨h1, _⟩
        · exact absurd h2 (HA.out _ h1 (by have := fulls_bd h1; omega))
        · exact h1
      have HR := Shut.mk hr
      clear hr
      go_wp2
      go_ret
      exact ⟨by rw [HR.out]; rfl, rfl⟩
/-- All of a node is zero. -/
def zeroB (d : TN) : Bool := d.kd == 0 && d.id == 0 && d.enc == 0 && d.sig == 0 && d.hash == 0 && Nat.beq d.un.length 0
def leafB (d : TN) : Bool := d.kd == 1 && Nat.beq d.un.length 0
theorem beq0 (n : Nat) : ((n : Int) == 0) = Nat.beq n 0 := by
  cases n with
  | zero => rfl
  | succ n => show _ = false; rw [beq_eq_false_iff_ne]; omega
set_option maxHeartbeats 1000000 in
theorem rleaf_any {w : World} {v : Value} {d : TN} (h : RdTn w v d) : Calls Tryz.prog 34 #[v] w fun e w' => e = .returned (.bool (leafB d)) ∧ Kept w w' := by
  obtain ⟨lv, rfl, hr⟩ := h
  obtain ⟨la, lc, rfl, l1, l2, l3⟩ := hr.len
  have HB := Shut.mk (show leafB d = (d.kd == 1 && ((d.un.length : Int) == 0)) by unfold leafB; rw [beq0])
  cases h1 : (d.kd == 1) with
  | false =>
    have HB2 := Shut.mk (show leafB d = false by rw [HB.out, h1]; rfl)
    go_enter Tryz.func34, Tryz.ntmps34
    go_wp2
    go_ret
    exact ⟨by rw [HB2.out]; rfl, (Kept.refl _).alloc _⟩
  | true =>
    have HB2 := Shut.mk (show leafB d = ((d.un.length : Int) == 0) by rw [HB.out, h1]; rfl)
    generalize hb : ((d.un.length : Int) == 0) = b at HB2
    go_enter Tryz.func34, Tryz.ntmps34
    go_wp2
    go_ret
    exact ⟨by rw [HB2.out]; rfl, (Kept.refl _).alloc _⟩
end Go.Proofs.YtnmaiokhndbicaaGreatDoor
end

section
/- Walks of the document's answer: Zero, some, SameNode. -/
set_option linter.unusedSimpArgs false
set_option linter.unusedVariables false
namespace Go.Proofs.YtnmaiokhndbicaaGreatDoor
open Go.RowKit
open Rt

set_option maxHeartbeats 4000000 in
theorem rzero_any {w : World} {v : Value} {d : TN} (h : RdTn w v d) : Calls Tryz.prog 33 #[v] w fun e w' => e = .returned (.bool (zeroB d)) ∧ Kept w w' := by
  obtain ⟨lv, rfl, hr⟩ := h
  obtain ⟨la, lc, rfl, l1, l2, l3⟩ := hr.len
  have HBB := Shut.mk (show zeroB d = (d.kd == 0 && d.id == 0 && d.enc == 0 && d.sig == 0 && d.hash == 0 && ((d.un.length : Int) == 0)) by unfold zeroB; rw [beq0])
  cases c0 : (d.kd == 0) with
  | false =>
    have HB2 := Shut.mk (show zeroB d = false by rw [HBB.out]; simp only [c0, Bool.and_false, Bool.false_and])
    go_enter Tryz.func33, Tryz.ntmps33
    go_wp2
    go_ret
    exact ⟨by rw [HB2.out]; rfl, (Kept.refl _).alloc _⟩
  | true =>
    cases c1 : (d.id == 0) with
    | false =>
      have HB2 := Shut.mk (show zeroB d = false by rw [HBB.out]; simp only [c0, c1, Bool.and_false, Bool.false_and])
      go_enter Tryz.func33, Tryz.ntmps33
      go_wp2
      go_ret
      exact ⟨by rw [HB2.out]; rfl, (Kept.refl _).alloc _⟩
    | true =>
      cases c2 : (d.enc == 0) with
      | false =>
        have HB2 := Shut.mk (show zeroB d = false by rw [HBB.out]; simp only [c0, c1, c2, Bool.and_false, Bool.false_and])
        go_enter Tryz.func33, Tryz.ntmps33
        go_wp2
        go_ret
        exact ⟨by rw [HB2.out]; rfl, (Kept.refl _).alloc _⟩
      | true =>
        cases c3 : (d.sig == 0) with
        | false =>
          have HB2 := Shut.mk (show zeroB d = false by rw [HBB.out]; simp only [c0, c1, c2, c3, Bool.and_false, Bool.false_and])
          go_enter Tryz.func33, Tryz.ntmps33
          go_wp2
          go_ret
          exact ⟨by rw [HB2.out]; rfl, (Kept.refl _).alloc _⟩
        | true =>
          cases c4 : (d.hash == 0) with
          | false =>
            have HB2 := Shut.mk (show zeroB d = false by rw [HBB.out]; simp only [c0, c1, c2, c3, c4, Bool.and_false, Bool.false_and])
            go_enter Tryz.func33, Tryz.ntmps33
            go_wp2
            go_ret
            exact ⟨by rw [HB2.out]; rfl, (Kept.refl _).alloc _⟩
          | true =>
            cases c5 : ((d.un.length : Int) == 0) with
            | false =>
              have HB2 := Shut.mk (show zeroB d = false by rw [HBB.out]; simp only [c0, c1, c2, c3, c4, c5, Bool.and_false, Bool.false_and])
              go_enter Tryz.func33, Tryz.ntmps33
              go_wp2
              go_ret
              exact ⟨by rw [HB2.out]; rfl, (Kept.refl _).alloc _⟩
            | true =>
              have HB2 := Shut.mk (show zeroB d = true by rw [HBB.out]; simp only [c0, c1, c2, c3, c4, c5, Bool.and_true])
              go_enter Tryz.func33, Tryz.ntmps33
              go_wp2
              go_ret
              exact ⟨by rw [HB2.out]; rfl, (Kept.refl _).alloc _⟩

def sameNB (a b : TN) : Bool := a.kd == b.kd && a.id == b.id && a.enc == b.enc && a.sig == b.sig && a.hash == b.hash && decide (a.un = b.un)
theorem sameNB_iff {a b : TN} : sameNB a b = true ↔ a = b := by
  unfold sameNB
  obtain ⟨a1, a2, a3, a4, a5, a6⟩ := a
  obtain ⟨b1, b2, b3, b4, b5, b6⟩ := b
  simp only [Bool.and_eq_true, beq_iff_eq, decide_eq_true_eq, TN.mk.injEq]
  constructor
  · rintro ⟨⟨⟨⟨⟨h1, h2⟩, h3⟩, h4⟩, h5⟩, h6⟩; exact ⟨h1, h2, h3, h4, h5, h6⟩
  · rintro ⟨h1, h2, h3, h4, h5, h6⟩; exact ⟨⟨⟨⟨⟨h1, h2⟩, h3⟩, h4⟩, h5⟩, h6⟩
theorem lk_nd (ts : List TN) (i : Nat) : lk ts i = ((nd ts (2 * i)).kd == 1) := by
  unfold lk
  rw [Bool.eq_iff_iff, decide_eq_true_iff, beq_iff_eq]
/-- A leaf from one on up to another one is there. -/
def someB (ts : List TN) (a b : Nat) : Bool := (List.range b).any fun i => Nat.ble a i && lk ts i
theorem someB_true {ts : List TN} {a b : Nat} : someB ts a b = true ↔ ∃ i, a ≤ i ∧ i < b ∧ lk ts i = true := by
  unfold someB
  rw [List.any_eq_true]
  constructor
  · rintro ⟨i, hi, h⟩
    rw [Bool.and_eq_true] at h
    exact ⟨i, Nat.le_of_ble_eq_true h.1, List.mem_range.1 hi, h.2⟩
  · rintro ⟨i, h1, h2, h3⟩
    exact ⟨i, List.mem_range.2 h2, by rw [Bool.and_eq_true]; exact ⟨Nat.ble_eq_true_of_le h1, h3⟩⟩
set_option maxHeartbeats 4000000 in
theorem rsome_any {w : World} {v : Value} {ts : List TN} (h : RdTs w v ts) (a b : Nat) (hb : 2 * b ≤ ts.length + 1) (hb2 : b ≤ 1000000) (hab : a ≤ 1000000) : Calls Tryz.prog 14 #[v, .int .i64 a, .int .i64 b] w fun e w' => e = .returned (.bool (someB ts a b)) ∧ w = w' := by
  obtain ⟨ta, tc, rfl, l1, l2, l3⟩ := h.len
  have l63 : ((ts.length : Nat) : Int) ≤ 9223372036854775807 := by unfold maxLen at l2; omega
  have a0 : (0 : Int) ≤ (a : Int) := by omega
  have a1 : (a : Int) ≤ 1000000 := by omega
  have b1 : (b : Int) ≤ 1000000 := by omega
  have hsb : ∀ c, someB ts a b = c → Shut (someB ts a b = c) := fun c h => ⟨h⟩
  go_enter Tryz.func14, Tryz.ntmps14
  go_wp2
  go_loop [7] (fun u => ∃ k : Nat, u = .int .i64 k ∧ a ≤ k ∧ k ≤ max a b ∧ (∀ i, a ≤ i → i < k → lk ts i = false)) (fun u => (2000000 - intOf u).toNat)
  case atStart => exact ⟨a, rfl, Nat.le_refl _, Nat.le_max_left _ _, fun i h1 h2 => absurd h1 (by omega)⟩
  case round =>
    obtain ⟨k, rfl, hk1, hk2, hall⟩ := hrel
    have HA := Shut.mk hall
    clear hall
    have k0 : (0 : Int) ≤ (k : Int) := by omega
    have k1 : (k : Int) ≤ 1000000 := by omega
    by_cases hlt : k < b
    · obtain ⟨tb, to, tc', la, lc, hv, hat, _⟩ := h.at (k := 2 * k) (by omega)
      simp only [Value.slice.injEq] at hv
      obtain ⟨rfl, -, rfl⟩ := hv
      have g0 := (hat w (Kept.refl _)).1
      have HLk := Shut.mk (lk_nd ts k)
      generalize (nd ts (2 * k)).kd = kd at g0 HLk
      have hd : decide (k < b) = true := decide_eq_true hlt
      have k2 : 2 * (k : Int) < (ts.length : Int) := by omega
      clear hat
      cases hq : (kd == 1) with
      | true =>
        have HT := Shut.mk (show someB ts a b = true from someB_true.2 ⟨k, hk1, hlt, by rw [HLk.out, hq]⟩)
        go_wp2
        go_ret
        exact ⟨by rw [HT.out]; rfl, rfl⟩
      | false =>
        have HT := Shut.mk (show lk ts k = false by rw [HLk.out, hq])
        go_wp2
        go_round
        case rel => exact ⟨k + 1, by go_num, by omega, by omega, fun i h1 h2 => by
          by_cases c : i < k
          · exact HA.out i h1 c
          · obtain rfl : i = k := by omega
            exact HT.out⟩
        case measure => simp [intOf]; omega
    · have hd : decide (k < b) = false := decide_eq_false hlt
      have HT := Shut.mk (show someB ts a b = false by
        cases e : someB ts a b with
        | false => rfl
        | true =>
          obtain ⟨i, h1, h2, h3⟩ := someB_true.1 e
          rw [HA.out i h1 (by omega)] at h3; cases h3)
      go_wp2
      go_ret
      exact ⟨by rw [HT.out]; rfl, rfl⟩
end Go.Proofs.YtnmaiokhndbicaaGreatDoor
end

section
/- Walks: what math's calls answer. -/
set_option linter.unusedSimpArgs false
set_option linter.unusedVariables false
namespace Go.Proofs.YtnmaiokhndbicaaGreatDoor
open Go.RowKit

theorem Width1_any (b : Nat) (x : Int) (h0 : 0 < x) (h1 : x ≤ 256) (w : World) (hc : w.cell? ⟨b, 0, none⟩ = some (.int .i64 x)) :
    Calls Tryz.prog 112 #[.pointer (some ⟨b, 0, none⟩)] w fun e w' => e = .returned (.int .i64 (2 * x - 1)) ∧ Kept w w' := by
  have HC := Lib.hid (width_any x w h0 h1)
  go_enter Tryz.func112, Tryz.ntmps112
  go_wp2_with (go_at_call 113; refine HC.out.mono ?_; rintro e w' ⟨rfl, rfl⟩)
  go_ret
  exact ⟨rfl, Kept.refl _⟩
theorem Width_any (x : Int) (w : World) (hx : I64 x) : Calls Tryz.prog 90 #[.int .i64 x] w fun e w' => e = .returned (.tuple #[.int .i64 (pk (treeB x) (2 * x - 1)), .int .i64 (er (treeB x))]) ∧ Kept w w' := by
  have HA := Lib.hid (fun w => tree_any x w hx)
  have hk0 : Kept w (w.alloc (.cells #[.int .i64 x] 3)) := (Kept.refl w).alloc _

  cases hi : treeB x with
  | false =>
    rw [hi] at HA
    clear hi
    go_enter Tryz.func90, Tryz.ntmps90
    go_wp2_with (first | (go_at_call 111; refine (HA.out _).mono ?_; rintro e w' ⟨rfl, rfl⟩) | (go_at_call 71; refine (told_no _ _).mono ?_; rintro e w' ⟨rfl, rfl⟩))
    go_ret2
    exact ⟨rfl, hk0⟩
  | true =>
    obtain ⟨h0, h1, _⟩ := treeB_true hi
    have HT := Lib.hid (told_val (g := 112) (enters_of Tryz.func112 (by kernel_rfl) rfl) (Width1_any w.heap.size x h0 h1 (w.alloc (.cells #[.int .i64 x] 3)) (cell_box _ _ _)))
    rw [hi] at HA
    clear hi
    go_enter Tryz.func90, Tryz.ntmps90
    go_wp2_with (first | (go_at_call 111; refine (HA.out _).mono ?_; rintro e w' ⟨rfl, rfl⟩) | (go_at_call 71; refine HT.out.mono ?_; rintro e w' ⟨rfl, hk⟩))
    go_ret2
    exact ⟨rfl, hk0.trans hk⟩
theorem Parent1_any (b : Nat) (x : Nat) (hx : x < 511) (w : World) (hc : w.cell? ⟨b, 0, none⟩ = some (.int .i64 x)) (ht : TabsM w) :
    Calls Tryz.prog 73 #[.pointer (some ⟨b, 0, none⟩)] w fun e w' => e = .returned (.int .i64 ((Mth.par x : Nat))) ∧ Kept w w' := by
  have HC := Lib.hid (parent_any x hx w ht)
  go_enter Tryz.func73, Tryz.ntmps73
  go_wp2_with (go_at_call 74; refine HC.out.mono ?_; rintro e w' ⟨rfl, hk⟩)
  go_ret
  exact ⟨rfl, hk⟩
theorem Sibling1_any (b : Nat) (x : Nat) (hx : x < 511) (w : World) (hc : w.cell? ⟨b, 0, none⟩ = some (.int .i64 x)) (ht : TabsM w) :
    Calls Tryz.prog 75 #[.pointer (some ⟨b, 0, none⟩)] w fun e w' => e = .returned (.int .i64 ((Mth.sib x : Nat))) ∧ Kept w w' := by
  have HC := Lib.hid (sibling_any x hx w ht)
  go_enter Tryz.func75, Tryz.ntmps75
  go_wp2_with (go_at_call 76; refine HC.out.mono ?_; rintro e w' ⟨rfl, hk⟩)
  go_ret
  exact ⟨rfl, hk⟩
end Go.Proofs.YtnmaiokhndbicaaGreatDoor
end

section
/- Walks: Left, Right, Size, Leaves; climb; common. -/
set_option linter.unusedSimpArgs false
set_option linter.unusedVariables false
namespace Go.Proofs.YtnmaiokhndbicaaGreatDoor
open Go.RowKit

theorem lvl_pow {x : Nat} (hx : x < 511) (hp : 0 < Mth.lvl x) : 2 ^ (Mth.lvl x - 1) ≤ x ∧ x + 2 ^ (Mth.lvl x - 1) < 511 := by
  have h : (List.range 511).all (fun x => Nat.beq (Mth.lvl x) 0 || (Nat.ble (2 ^ (Mth.lvl x - 1)) x && Nat.blt (x + 2 ^ (Mth.lvl x - 1)) 511)) = true := by decide +kernel
  have := List.all_eq_true.1 h x (List.mem_range.2 hx)
  rw [Bool.or_eq_true, Bool.and_eq_true] at this
  rcases this with e | ⟨e1, e2⟩
  · have := Nat.eq_of_beq_eq_true e; omega
  · exact ⟨Nat.le_of_ble_eq_true e1, Nat.le_of_ble_eq_true e2⟩
theorem left_num {x : Nat} (hx : x < 511) (hp : 0 < Mth.lvl x) : (x : Int) - ((2 ^ (Mth.lvl x - 1) : Nat) : Int) = (Mth.left x : Nat) ∧ (x : Int) + ((2 ^ (Mth.lvl x - 1) : Nat) : Int) = (Mth.right x : Nat) ∧ ((2 ^ (Mth.lvl x - 1) : Nat) : Int) ≤ 511 := by
  have := lvl_pow hx hp
  unfold Mth.left Mth.right
  omega
theorem Left1_any (b : Nat) (x : Nat) (hx : x < 511) (hp : 0 < Mth.lvl x) (w : World) (hc : w.cell? ⟨b, 0, none⟩ = some (.int .i64 x)) (ht : TabsM w) :
    Calls Tryz.prog 105 #[.pointer (some ⟨b, 0, none⟩)] w fun e w' => e = .returned (.int .i64 (Mth.left x : Nat)) ∧ Kept w w' := by
  have hS := fun n => Calls.quiet_of_same ((step_any x hx hp (w.drewN n) (ht.kept ((Kept.refl w).drewN n))).mono fun e w' ⟨x, y⟩ => ⟨x, y.symm⟩)
  obtain ⟨n1, n2, n3⟩ := left_num hx hp
  generalize 2 ^ (Mth.lvl x - 1) = s at hS n1 n2 n3
  have HN := Shut.mk n1
  have hs0 : (0 : Int) ≤ (s : Int) := by omega
  have hx0 : (0 : Int) ≤ (x : Int) := by omega
  have hx1 : (x : Int) ≤ 510 := by omega
  have e1 : IntKind.i64.wrap ((x : Int) - (s : Int)) = (x : Int) - (s : Int) := IntWalk.i64_in _ (by omega)
  have HS := Lib.hid hS
  clear hS n1 n2
  go_enter Tryz.func105, Tryz.ntmps105
  go_wp2
  go_quiet ((go_at_call 106; exact HS.out _))
  go_wp2
  go_ret
  exact ⟨by rw [← HN.out]; rfl, (Kept.refl _).drewN _⟩
theorem Right1_any (b : Nat) (x : Nat) (hx : x < 511) (hp : 0 < Mth.lvl x) (w : World) (hc : w.cell? ⟨b, 0, none⟩ = some (.int .i64 x)) (ht : TabsM w) :
    Calls Tryz.prog 107 #[.pointer (some ⟨b, 0, none⟩)] w fun e w' => e = .returned (.int .i64 (Mth.right x : Nat)) ∧ Kept w w' := by
  have hS := fun n => Calls.quiet_of_same ((step_any x hx hp (w.drewN n) (ht.kept ((Kept.refl w).drewN n))).mono fun e w' ⟨x, y⟩ => ⟨x, y.symm⟩)
  obtain ⟨n1, n2, n3⟩ := left_num hx hp
  generalize 2 ^ (Mth.lvl x - 1) = s at hS n1 n2 n3
  have HN := Shut.mk n2
  have hs0 : (0 : Int) ≤ (s : Int) := by omega
  have hx0 : (0 : Int) ≤ (x : Int) := by omega
  have hx1 : (x : Int) ≤ 510 := by omega
  have e1 : IntKind.i64.wrap ((x : Int) + (s : Int)) = (x : Int) + (s : Int) := IntWalk.i64_in _ (by omega)
  have HS := Lib.hid hS
  clear hS n1 n2
  go_enter Tryz.func107, Tryz.ntmps107
  go_wp2
  go_quiet ((go_at_call 106; exact HS.out _))
  go_wp2
  go_ret
  exact ⟨by rw [← HN.out]; rfl, (Kept.refl _).drewN _⟩
theorem Left_any (x : Int) (w : World) (hx : I64 x) (ht : TabsM w) : Calls Tryz.prog 81 #[.int .i64 x] w fun e w' => e = .returned (.tuple #[.int .i64 (pk (kidB x) ((Mth.left x.toNat : Nat))), .int .i64 (er (kidB x))]) ∧ Kept w w' := by
  have HA := Lib.hid (fun w (ht : TabsM w) => hasChildren_any x w hx ht)
  have hk0 : Kept w (w.alloc (.cells #[.int .i64 x] 3)) := (Kept.refl w).alloc _
  have ht1 : TabsM (w.alloc (.cells #[.int .i64 x] 3)) := ht.kept hk0
  cases hi : kidB x with
  | false =>
    rw [hi] at HA
    clear hi
    go_enter Tryz.func81, Tryz.ntmps81
    go_wp2_with (first | (go_at_call 104; refine (HA.out _ ht1).mono ?_; rintro e w' ⟨rfl, rfl⟩) | (go_at_call 71; refine (told_no _ _).mono ?_; rintro e w' ⟨rfl, rfl⟩))
    go_ret2
    exact ⟨rfl, hk0⟩
  | true =>
    obtain ⟨x, rfl, h0⟩ := any_nat (show inB x 256 = true by unfold kidB at hi; rw [Bool.and_eq_true] at hi; exact hi.1)
    have h1 : 0 < Mth.lvl x := by rw [kidB_nat h0] at hi; exact of_decide_eq_true hi
    have HT := Lib.hid (told_val (g := 105) (enters_of Tryz.func105 (by kernel_rfl) rfl) (Left1_any w.heap.size x h0 h1 (w.alloc (.cells #[.int .i64 x] 3)) (cell_box _ _ _) ht1))
    rw [hi] at HA
    clear hi
    go_enter Tryz.func81, Tryz.ntmps81
    go_wp2_with (first | (go_at_call 104; refine (HA.out _ ht1).mono ?_; rintro e w' ⟨rfl, rfl⟩) | (go_at_call 71; refine HT.out.mono ?_; rintro e w' ⟨rfl, hk⟩))
    go_ret2
    exact ⟨rfl, hk0.trans hk⟩
theorem Right_any (x : Int) (w : World) (hx : I64 x) (ht : TabsM w) : Calls Tryz.prog 82 #[.int .i64 x] w fun e w' => e = .returned (.tuple #[.int .i64 (pk (kidB x) ((Mth.right x.toNat : Nat))), .int .i64 (er (kidB x))]) ∧ Kept w w' := by
  have HA := Lib.hid (fun w (ht : TabsM w) => hasChildren_any x w hx ht)
  have hk0 : Kept w (w.alloc (.cells #[.int .i64 x] 3)) := (Kept.refl w).alloc _
  have ht1 : TabsM (w.alloc (.cells #[.int .i64 x] 3)) := ht.kept hk0
  cases hi : kidB x with
  | false =>
    rw [hi] at HA
    clear hi
    go_enter Tryz.func82, Tryz.ntmps82
    go_wp2_with (first | (go_at_call 104; refine (HA.out _ ht1).mono ?_; rintro e w' ⟨rfl, rfl⟩) | (go_at_call 71; refine (told_no _ _).mono ?_; rintro e w' ⟨rfl, rfl⟩))
    go_ret2
    exact ⟨rfl, hk0⟩
  | true =>
    obtain ⟨x, rfl, h0⟩ := any_nat (show inB x 256 = true by unfold kidB at hi; rw [Bool.and_eq_true] at hi; exact hi.1)
    have h1 : 0 < Mth.lvl x := by rw [kidB_nat h0] at hi; exact of_decide_eq_true hi
    have HT := Lib.hid (told_val (g := 107) (enters_of Tryz.func107 (by kernel_rfl) rfl) (Right1_any w.heap.size x h0 h1 (w.alloc (.cells #[.int .i64 x] 3)) (cell_box _ _ _) ht1))
    rw [hi] at HA
    clear hi
    go_enter Tryz.func82, Tryz.ntmps82
    go_wp2_with (first | (go_at_call 104; refine (HA.out _ ht1).mono ?_; rintro e w' ⟨rfl, rfl⟩) | (go_at_call 71; refine HT.out.mono ?_; rintro e w' ⟨rfl, hk⟩))
    go_ret2
    exact ⟨rfl, hk0.trans hk⟩
def szB (n : Int) : Bool := decide (0 < n) && decide (n ≤ 256)
theorem Parent_any (x n : Int) (w : World) (hx : I64 x) (hn : I64 n) (ht : TabsM w) : Calls Tryz.prog 44 #[.int .i64 x, .int .i64 n] w fun e w' => e = .returned (.tuple #[.int .i64 (pk (upB x n) (Mth.par x.toNat : Nat)), .int .i64 (er (upB x n))]) ∧ Kept w w' := by
  have HA := Lib.hid (fun w => hasParent_any x n w hx hn)
  have hk0 : Kept w (w.alloc (.cells #[.int .i64 x] 3)) := (Kept.refl w).alloc _
  have ht1 : TabsM (w.alloc (.cells #[.int .i64 x] 3)) := ht.kept hk0
  cases hi : upB x n with
  | false =>
    rw [hi] at HA
    clear hi
    go_enter Tryz.func44, Tryz.ntmps44
    go_wp2_with (first | (go_at_call 72; refine (HA.out _).mono ?_; rintro e w' ⟨rfl, rfl⟩) | (go_at_call 71; refine (told_no _ _).mono ?_; rintro e w' ⟨rfl, rfl⟩))
    go_ret2
    exact ⟨rfl, hk0⟩
  | true =>
    obtain ⟨m, k, hm, -, -, -, h5⟩ := in_nat (upB_true hi).1
    subst hm
    have HT := Lib.hid (told_val (g := 73) (enters_of Tryz.func73 (by kernel_rfl) rfl) (Parent1_any w.heap.size m h5 (w.alloc (.cells #[.int .i64 m] 3)) (cell_box _ _ _) ht1))
    rw [hi] at HA
    clear hi
    go_enter Tryz.func44, Tryz.ntmps44
    go_wp2_with (first | (go_at_call 72; refine (HA.out _).mono ?_; rintro e w' ⟨rfl, rfl⟩) | (go_at_call 71; refine HT.out.mono ?_; rintro e w' ⟨rfl, hk⟩))
    go_ret2
    exact ⟨rfl, hk0.trans hk⟩
theorem Sibling_any (x n : Int) (w : World) (hx : I64 x) (hn : I64 n) (ht : TabsM w) : Calls Tryz.prog 46 #[.int .i64 x, .int .i64 n] w fun e w' => e = .returned (.tuple #[.int .i64 (pk (upB x n) (Mth.sib x.toNat : Nat)), .int .i64 (er (upB x n))]) ∧ Kept w w' := by
  have HA := Lib.hid (fun w => hasParent_any x n w hx hn)
  have hk0 : Kept w (w.alloc (.cells #[.int .i64 x] 3)) := (Kept.refl w).alloc _
  have ht1 : TabsM (w.alloc (.cells #[.int .i64 x] 3)) := ht.kept hk0
  cases hi : upB x n with
  | false =>
    rw [hi] at HA
    clear hi
    go_enter Tryz.func46, Tryz.ntmps46
    go_wp2_with (first | (go_at_call 72; refine (HA.out _).mono ?_; rintro e w' ⟨rfl, rfl⟩) | (go_at_call 71; refine (told_no _ _).mono ?_; rintro e w' ⟨rfl, rfl⟩))
    go_ret2
    exact ⟨rfl, hk0⟩
  | true =>
    obtain ⟨m, k, hm, -, -, -, h5⟩ := in_nat (upB_true hi).1
    subst hm
    have HT := Lib.hid (told_val (g := 75) (enters_of Tryz.func75 (by kernel_rfl) rfl) (Sibling1_any w.heap.size m h5 (w.alloc (.cells #[.int .i64 m] 3)) (cell_box _ _ _) ht1))
    rw [hi] at HA
    clear hi
    go_enter Tryz.func46, Tryz.ntmps46
    go_wp2_with (first | (go_at_call 72; refine (HA.out _).mono ?_; rintro e w' ⟨rfl, rfl⟩) | (go_at_call 71; refine HT.out.mono ?_; rintro e w' ⟨rfl, hk⟩))
    go_ret2
    exact ⟨rfl, hk0.trans hk⟩
end Go.Proofs.YtnmaiokhndbicaaGreatDoor
end

section
/- Walks: Leaves. -/
set_option linter.unusedSimpArgs false
set_option linter.unusedVariables false
namespace Go.Proofs.YtnmaiokhndbicaaGreatDoor
open Go.RowKit

theorem lo_num {x : Nat} (hx : x < 511) : ((x : Int) - ((2 ^ Mth.lvl x - 1 : Nat) : Int)) / 2 = (Mth.lo x : Nat) ∧ ((x : Int) + ((2 ^ Mth.lvl x - 1 : Nat) : Int)) / 2 + 1 = (Mth.hi x : Nat) ∧ 2 ^ Mth.lvl x - 1 ≤ 255 ∧ 2 ^ Mth.lvl x - 1 ≤ x := by
  have h : (List.range 511).all (fun x => Nat.ble (2 ^ Mth.lvl x - 1) x && Nat.ble (2 ^ Mth.lvl x - 1) 255) = true := by decide +kernel
  have := List.all_eq_true.1 h x (List.mem_range.2 hx)
  rw [Bool.and_eq_true] at this
  have h1 := Nat.le_of_ble_eq_true this.1
  have h2 := Nat.le_of_ble_eq_true this.2
  unfold Mth.lo Mth.hi
  omega
theorem Leaves1_any (b : Nat) (x : Nat) (hx : x < 511) (w : World) (hc : w.cell? ⟨b, 0, none⟩ = some (.int .i64 x)) (ht : TabsM w) :
    Calls Tryz.prog 128 #[.pointer (some ⟨b, 0, none⟩)] w fun e w' => e = .returned (.agg #[.int .i64 (Mth.lo x : Nat), .int .i64 (Mth.hi x : Nat)]) ∧ Kept w w' := by
  obtain ⟨n1, n2, n3, n4⟩ := lo_num hx
  have hw : b < w.heap.size := World.block_lt_of_cell? _ _ hc
  have hk1 : Kept w (w.alloc (.cells #[.int .i64 0, .int .i64 0] 133)) := (Kept.refl w).alloc _
  have hq := fun W (k : Kept (w.alloc (.cells #[.int .i64 0, .int .i64 0] 133)) W) => reach_any x hx W (ht.kept (hk1.trans k))
  have hc1 : (w.alloc (.cells #[.int .i64 0, .int .i64 0] 133)).cell? ⟨b, 0, none⟩ = some (.int .i64 x) := (Below.cell hk1 hw).trans hc
  generalize 2 ^ Mth.lvl x - 1 = r at hq n1 n2 n3 n4
  have HQ := Lib.hid hq
  have hck := fun (v0 v1 : Value) => (Below.cell (p := ⟨b, 0, none⟩) (((Kept.refl w).alloc (.cells #[v0, v1] 133)).drew) hw).trans hc
  have HCK := Lib.hid hck
  clear hck
  have hr0 : (0 : Int) ≤ (r : Int) := by omega
  have hr1 : (r : Int) ≤ 255 := by omega
  have hr2 : (r : Int) ≤ (x : Int) := by omega
  have hx1 : (x : Int) ≤ 510 := by omega
  have e1 : IntKind.i64.wrap ((x : Int) - (r : Int)) = (x : Int) - (r : Int) := IntWalk.i64_in _ (by omega)
  have e2 : IntKind.i64.wrap ((x : Int) + (r : Int)) = (x : Int) + (r : Int) := IntWalk.i64_in _ (by omega)
  have N1 := Shut.mk n1
  have N2 := Shut.mk n2
  clear hq n1 n2 n3 n4 hc
  go_enter Tryz.func128, Tryz.ntmps128
  go_wp2
  go_region_held3 (fun w' => w'.cell? ⟨b, 0, none⟩ = some (.int .i64 x)) (first | exact hc1 | exact HCK.out _ _ | go_keep | assumption)
    ((go_at_call 129; refine (HQ.out _ (by first | exact Kept.refl _ | exact (Kept.refl _).drew | exact (Kept.refl _).drewN _)).mono ?_; rintro e' w_1 ⟨rfl, rfl⟩))
  have t1 : IntKind.i64.wrap (((x : Int) - (r : Int)).tdiv 2) = (Mth.lo x : Nat) := by
    rw [← N1.out, Int.tdiv_eq_ediv_of_nonneg (by omega)]; exact IntWalk.i64_in _ (by omega)
  have t2 : IntKind.i64.wrap (IntKind.i64.wrap (((x : Int) + (r : Int)).tdiv 2) + 1) = (Mth.hi x : Nat) := by
    rw [← N2.out, Int.tdiv_eq_ediv_of_nonneg (by omega)]
    rw [show IntKind.i64.wrap (((x : Int) + (r : Int)) / 2) = ((x : Int) + (r : Int)) / 2 from IntWalk.i64_in _ (by omega)]; exact IntWalk.i64_in _ (by omega)
  rw [t1, t2]
  clear t1 t2
  go_wp2
  exact bodyPost_ret (v := .agg #[.int .i64 (Mth.lo x : Nat), .int .i64 (Mth.hi x : Nat)]) (by simp [results, Tryz.results128, go_sem]) rfl ⟨rfl, ((Kept.refl _).alloc _).drew⟩
theorem Leaves_any (x : Int) (w : World) (hx : I64 x) (ht : TabsM w) : Calls Tryz.prog 115 #[.int .i64 x] w fun e w' => e = .returned (.tuple #[.int .i64 (pk (inB x 256) (Mth.lo x.toNat : Nat)), .int .i64 (pk (inB x 256) (Mth.hi x.toNat : Nat)), .int .i64 (er (inB x 256))]) ∧ Kept w w' := by
  have HA := Lib.hid (fun w => anywhere_any x w hx)
  have hk0 : Kept w (w.alloc (.cells #[.int .i64 x] 3)) := (Kept.refl w).alloc _
  have ht1 : TabsM (w.alloc (.cells #[.int .i64 x] 3)) := ht.kept hk0
  cases hi : inB x 256 with
  | false =>
    rw [hi] at HA
    clear hi
    go_enter Tryz.func115, Tryz.ntmps115
    go_wp2_with (first | (go_at_call 122; refine (HA.out _).mono ?_; rintro e w' ⟨rfl, rfl⟩) | (go_at_call 127; refine (told_no2 _ _).mono ?_; rintro e w1 ⟨rfl, hk⟩))
    go_quiet (fail)
    go_wp2
    go_ret3
    exact ⟨rfl, ((hk0.trans hk).alloc _).drewN _⟩
  | true =>
    obtain ⟨x, rfl, h0⟩ := any_nat hi
    have HT := Lib.hid (told_yes2 (w := w.alloc (.cells #[.int .i64 (x : Int)] 3)) (g := 128) (enters_of Tryz.func128 (by kernel_rfl) rfl) (fun w1 k1 => Leaves1_any w.heap.size x h0 w1 ((Below.cell (p := ⟨w.heap.size, 0, none⟩) k1 (by simp)).trans (cell_box _ _ _)) (ht1.kept k1)))
    rw [hi] at HA
    clear hi
    go_enter Tryz.func115, Tryz.ntmps115
    go_wp2_with (first | (go_at_call 122; refine (HA.out _).mono ?_; rintro e w' ⟨rfl, rfl⟩) | (go_at_call 127; refine HT.out.mono ?_; rintro e w1 ⟨rfl, hk⟩))
    go_quiet (fail)
    go_wp2
    go_ret3
    exact ⟨rfl, ((hk0.trans hk).alloc _).drewN _⟩
end Go.Proofs.YtnmaiokhndbicaaGreatDoor
end

section
/- Walks of the document's answer: half, Left, Right, Leaves, Size. -/
set_option linter.unusedSimpArgs false
set_option linter.unusedVariables false
namespace Go.Proofs.YtnmaiokhndbicaaGreatDoor
open Go.RowKit

theorem pow_le {i : Nat} (h : i ≤ 8) : 1 ≤ 2 ^ i ∧ 2 ^ i ≤ 256 := by
  have := nine (p := fun l => Nat.ble 1 (2 ^ l) && Nat.ble (2 ^ l) 256) (by decide +kernel) h
  rw [Bool.and_eq_true] at this
  exact ⟨Nat.le_of_ble_eq_true this.1, Nat.le_of_ble_eq_true this.2⟩
set_option maxHeartbeats 1000000 in
theorem rhalf_any (k : Nat) (h0 : 1 ≤ k) (h1 : k ≤ 9) (w : World) : Calls Tryz.prog 61 #[.int .i64 k] w fun e w' => e = .returned (.int .i64 ((2 ^ (k - 1) : Nat) : Int)) ∧ w = w' := by
  have hk0 : (1 : Int) ≤ (k : Int) := by omega
  have hk1 : (k : Int) ≤ 9 := by omega
  generalize hq : 2 ^ (k - 1) = q
  have HQ := Shut.mk hq
  clear hq
  go_enter Tryz.func61, Tryz.ntmps61
  go_wp2
  go_loop [3, 6] (fun u v => ∃ i p : Nat, i ≤ k - 1 ∧ u = .int .i64 p ∧ v = .int .i64 i ∧ p = 2 ^ i) (fun _ v => k - (intOf v).toNat)
  case atStart => exact ⟨0, 1, by omega, rfl, rfl, rfl⟩
  case round =>
    obtain ⟨i, p, hi, rfl, rfl, hp⟩ := hrel
    have hb := pow_le (i := i) (by omega)
    rw [← hp] at hb
    have HP := Shut.mk hp
    clear hp
    have p0 : (1 : Int) ≤ (p : Int) := by omega
    have p1 : (p : Int) ≤ 256 := by omega
    have i0 : (0 : Int) ≤ (i : Int) := by omega
    by_cases hlt : (i : Int) < (k : Int) - 1
    · have hd : decide ((i : Int) < (k : Int) - 1) = true := decide_eq_true hlt
      go_wp2
      go_round
      case rel => exact ⟨i + 1, p * 2, by omega, by go_num, by go_num, by rw [HP.out, Nat.pow_succ]⟩
      case measure => simp [intOf]; omega
    · have hd : decide ((i : Int) < (k : Int) - 1) = false := decide_eq_false hlt
      have e : i = k - 1 := by omega
      have HE := Shut.mk e
      clear e
      go_wp2
      go_ret
      exact ⟨by rw [← HQ.out, ← HE.out, ← HP.out]; rfl, rfl⟩
theorem kidB_lvl {x : Int} (hi : inB x 256 = true) : kidB x = decide (0 < Mth.lvl x.toNat) := by unfold kidB; rw [hi]; rfl
theorem rlo_num {x : Nat} (hx : x < 511) : 1 ≤ 2 ^ Mth.lvl x ∧ 2 ^ Mth.lvl x ≤ 256 ∧ 2 ^ Mth.lvl x - 1 ≤ x ∧ ((x : Int) - (2 * ((2 ^ Mth.lvl x : Nat) : Int) - 1) / 2) / 2 = (Mth.lo x : Nat) ∧ ((x : Int) + (2 * ((2 ^ Mth.lvl x : Nat) : Int) - 1) / 2) / 2 + 1 = (Mth.hi x : Nat) := by
  obtain ⟨a, b, c, d⟩ := lo_num hx
  have e := pow_le (lvl_le hx)
  refine ⟨e.1, e.2, d, ?_, ?_⟩
  · rw [← a]; omega
  · rw [← b]; omega
set_option maxHeartbeats 1000000 in
theorem RLeaves_any (x : Int) (w : World) (hx : I64 x) : Calls Tryz.prog 35 #[.int .i64 x] w fun e w' => e = .returned (.tuple #[.int .i64 (pk (inB x 256) (Mth.lo x.toNat : Nat)), .int .i64 (pk (inB x 256) (Mth.hi x.toNat : Nat)), .int .i64 (er (inB x 256))]) ∧ w = w' := by
  have HA := Lib.hid (fun w => RLevel_any x w hx)
  cases hi : inB x 256 with
  | false =>
    rw [hi] at HA
    clear hi
    go_enter Tryz.func35, Tryz.ntmps35
    go_wp2_with (go_at_call 60; refine (HA.out _).mono ?_; rintro e w' ⟨rfl, rfl⟩)
    go_ret3
    exact ⟨rfl, rfl⟩
  | true =>
    rw [hi] at HA
    obtain ⟨x, rfl, h5⟩ := any_nat hi
    have HA : Hid (∀ w, Calls Tryz.prog 60 #[.int .i64 (x : Int)] w fun e w' => e = .returned (.tuple #[.int .i64 (Mth.lvl x : Nat), .int .i64 0]) ∧ w = w') := HA
    obtain ⟨s0, s1, s2, n1, n2⟩ := rlo_num h5
    have hl8 := lvl_le h5
    have HH : Hid (∀ w, Calls Tryz.prog 61 #[.int .i64 ((Mth.lvl x : Int) + 1)] w fun e w' => e = .returned (.int .i64 ((2 ^ Mth.lvl x : Nat) : Int)) ∧ w = w') := Lib.hid (fun w => rhalf_any (Mth.lvl x + 1) (by omega) (by omega) w)
    have N1 := Shut.mk n1
    have N2 := Shut.mk n2
    clear n1 n2 hi
    generalize 2 ^ Mth.lvl x = s at s0 s1 s2 N1 N2 HH
    generalize Mth.lvl x = l at HA HH hl8
    have s3 : (1 : Int) ≤ (s : Int) := by omega
    have s4 : (s : Int) ≤ 256 := by omega
    have s5 : (s : Int) - 1 ≤ (x : Int) := by omega
    have x0 : (0 : Int) ≤ (x : Int) := by omega
    have x1 : (x : Int) ≤ 510 := by omega
    have l0 : (0 : Int) ≤ (l : Int) := by omega
    have l1 : (l : Int) ≤ 8 := by omega
    go_enter Tryz.func35, Tryz.ntmps35
    go_wp2_with (first | (go_at_call 60; refine (HA.out _).mono ?_; rintro e w' ⟨rfl, rfl⟩) | (go_at_call 61; refine (HH.out _).mono ?_; rintro e w' ⟨rfl, rfl⟩))
    go_ret3
    exact ⟨by show _ = Ending.returned (.tuple #[.int .i64 (Mth.lo x : Nat), .int .i64 (Mth.hi x : Nat), _]); rw [← N1.out, ← N2.out]; rfl, rfl⟩
theorem size_step {k n : Nat} (h : k ∈ l10) (hk : k < n) (hn : n ≤ 256) (hs : ∀ m ∈ Mth.fulls, m < k → m < n) : 2 * k ∈ l10 ∧ ∀ m ∈ Mth.fulls, m < 2 * k → m < n := by
  obtain ⟨a, b, c⟩ := l10_next h (by omega)
  exact ⟨a, fun m hm hlt => (c m hm hlt).elim (hs m hm) (fun e => by omega)⟩
theorem size_is {k n : Nat} (h : k ∈ l10) (hk : n ≤ k) (h1 : 1 ≤ n) (hn : n ≤ 256) (hs : ∀ m ∈ Mth.fulls, m < k → m < n) : k = Mth.size n := by
  have hall : (List.range 257).all (fun n => Nat.beq n 0 || l10.all fun k => Nat.blt k n || Nat.beq k (Mth.size n) || Mth.fulls.any fun m => Nat.blt m k && Nat.ble n m) = true := by decide +kernel
  have := List.all_eq_true.1 hall n (List.mem_range.2 (by omega))
  rw [Bool.or_eq_true] at this
  rcases this with e | e
  · have := Nat.eq_of_beq_eq_true e; omega
  · have e2 := List.all_eq_true.1 e k h
    rw [Bool.or_eq_true, Bool.or_eq_true] at e2
    rcases e2 with (e3 | e3) | e3
    · have := Nat.le_of_ble_eq_true e3; omega
    · exact Nat.eq_of_beq_eq_true e3
    · obtain ⟨m, hm, hq⟩ := List.any_eq_true.1 e3
      rw [Bool.and_eq_true] at hq
      have a := Nat.le_of_ble_eq_true hq.1
      have b := Nat.le_of_ble_eq_true hq.2
      have := hs m hm a
      omega
end Go.Proofs.YtnmaiokhndbicaaGreatDoor
end

section
/- Walks of the document's answer: Same, Under. -/
set_option linter.unusedSimpArgs false
set_option linter.unusedVariables false
namespace Go.Proofs.YtnmaiokhndbicaaGreatDoor
open Go.RowKit
open Rt

def sameTB (a b : List TN) : Bool := Nat.beq a.length b.length && (List.range a.length).all fun i => sameNB (nd a i) (nd b i)
theorem sameTB_iff {a b : List TN} : sameTB a b = true ↔ a = b := by
  unfold sameTB
  rw [Bool.and_eq_true, List.all_eq_true]
  constructor
  · rintro ⟨h1, h2⟩
    exact tn_ext (Nat.eq_of_beq_eq_true h1) fun x hx => sameNB_iff.1 (h2 x (List.mem_range.2 hx))
  · rintro rfl
    exact ⟨Nat.beq_refl _, fun i _ => sameNB_iff.2 rfl⟩
set_option maxHeartbeats 1000000 in
theorem runder_any (x y : Nat) (hx : x < 511) (hy : y < 511) (w : World) : Calls Tryz.prog 36 #[.int .i64 x, .int .i64 y] w fun e w' => e = .returned (.bool (Mth.underB x y)) ∧ w = w' := by
  have hl : ∀ z : Nat, z < 511 → ∀ W, Calls Tryz.prog 35 #[.int .i64 z] W fun e w' => e = .returned (.tuple #[.int .i64 (Mth.lo z : Nat), .int .i64 (Mth.hi z : Nat), .int .i64 0]) ∧ W = w' := fun z hz W => by
    have := RLeaves_any z W ⟨by omega, by omega⟩
    rw [in_any hz] at this
    exact this
  have hv : ∀ z : Nat, z < 511 → ∀ W, Calls Tryz.prog 60 #[.int .i64 z] W fun e w' => e = .returned (.tuple #[.int .i64 (Mth.lvl z : Nat), .int .i64 0]) ∧ W = w' := fun z hz W => by
    have := RLevel_any z W ⟨by omega, by omega⟩
    rw [in_any hz] at this
    exact this
  have H1 := Lib.hid (hl x hx)
  have H2 := Lib.hid (hl y hy)
  have H3 := Lib.hid (hv x hx)
  have H4 := Lib.hid (hv y hy)
  have HU := Shut.mk (show Mth.underB x y = (decide (Mth.lo y ≤ Mth.lo x) && decide (Mth.hi x ≤ Mth.hi y) && decide (Mth.lvl x ≤ Mth.lvl y)) by
    unfold Mth.underB
    have hb : ∀ a b, Nat.ble a b = decide (a ≤ b) := fun a b => by
      rw [Bool.eq_iff_iff, Nat.ble_eq, decide_eq_true_iff]
    rw [hb, hb, hb])
  clear hl hv
  generalize Mth.lo x = a at H1 HU
  generalize Mth.hi x = b at H1 HU
  generalize Mth.lo y = c at H2 HU
  generalize Mth.hi y = d at H2 HU
  generalize Mth.lvl x = k at H3 HU
  generalize Mth.lvl y = m at H4 HU
  have p1 : decide (c ≤ a) = true ∨ decide (c ≤ a) = false := by cases decide (c ≤ a) <;> simp
  have p2 : decide (b ≤ d) = true ∨ decide (b ≤ d) = false := by cases decide (b ≤ d) <;> simp
  rcases p1 with p1 | p1
  · rcases p2 with p2 | p2
    · have HR := Shut.mk (show Mth.underB x y = decide (k ≤ m) by rw [HU.out, p1, p2]; rfl)
      generalize hq : decide (k ≤ m) = q at HR
      go_enter Tryz.func36, Tryz.ntmps36
      go_wp2_with fail
      refine (H1.out _).mono ?_; rintro e w' ⟨rfl, rfl⟩
      go_wp2_with fail
      refine (H2.out _).mono ?_; rintro e w' ⟨rfl, rfl⟩
      go_wp2_with fail
      refine (H3.out _).mono ?_; rintro e w' ⟨rfl, rfl⟩
      go_wp2_with fail
      refine (H4.out _).mono ?_; rintro e w' ⟨rfl, rfl⟩
      go_wp2
      go_ret
      exact ⟨by rw [HR.out]; rfl, rfl⟩
    · have HR := Shut.mk (show Mth.underB x y = false by rw [HU.out, p1, p2]; rfl)
      go_enter Tryz.func36, Tryz.ntmps36
      go_wp2_with fail
      refine (H1.out _).mono ?_; rintro e w' ⟨rfl, rfl⟩
      go_wp2_with fail
      refine (H2.out _).mono ?_; rintro e w' ⟨rfl, rfl⟩
      go_wp2_with fail
      refine (H3.out _).mono ?_; rintro e w' ⟨rfl, rfl⟩
      go_wp2_with fail
      refine (H4.out _).mono ?_; rintro e w' ⟨rfl, rfl⟩
      go_wp2
      go_ret
      exact ⟨by rw [HR.out]; rfl, rfl⟩
  · have HR := Shut.mk (show Mth.underB x y = false by rw [HU.out, p1]; rfl)
    go_enter Tryz.func36, Tryz.ntmps36
    go_wp2_with fail
    refine (H1.out _).mono ?_; rintro e w' ⟨rfl, rfl⟩
    go_wp2_with fail
    refine (H2.out _).mono ?_; rintro e w' ⟨rfl, rfl⟩
    go_wp2_with fail
    refine (H3.out _).mono ?_; rintro e w' ⟨rfl, rfl⟩
    go_wp2_with fail
    refine (H4.out _).mono ?_; rintro e w' ⟨rfl, rfl⟩
    go_wp2
    go_ret
    exact ⟨by rw [HR.out]; rfl, rfl⟩
end Go.Proofs.YtnmaiokhndbicaaGreatDoor
end

section
/- The document's In. -/
set_option linter.unusedSimpArgs false
set_option linter.unusedVariables false
namespace Go.Proofs.YtnmaiokhndbicaaGreatDoor
open Go.RowKit

theorem getD_memI {l : List Int} {i : Nat} (h : i < l.length) : l.getD i 0 ∈ l := by
  rw [List.getD_eq_getElem?_getD, List.getElem?_eq_getElem h]; exact List.getElem_mem h
set_option maxHeartbeats 4000000 in
set_option maxRecDepth 100000 in
theorem inR_any {w : World} {v : Value} {l : List Int} (h : RdI w v l) {n : Int} (hn : I64 n) :
    Calls Tryz.prog 37 #[v, .int .i64 n] w fun e w' => e = .returned (.bool (decide (n ∈ l))) ∧ w = w' := by
  obtain ⟨la, lc, rfl, l1, l2, l3⟩ := h.len
  have l63 : ((l.length : Nat) : Int) ≤ 9223372036854775807 := by unfold maxLen at l2; omega
  go_enter Tryz.func37, Tryz.ntmps37
  go_wp2
  go_loopw [9] (fun i wr => ∃ k : Nat, k ≤ l.length ∧ i = .int .i64 k ∧ n ∉ l.take k ∧ w = wr) (fun i _ => l.length - (intOf i).toNat)
  case atStart => exact ⟨0, Nat.zero_le _, rfl, by simp, rfl⟩
  case round =>
    obtain ⟨k, hk0, rfl, hno, rfl⟩ := hrel
    have HN := Shut.mk hno
    clear hno
    by_cases hlt : k < l.length
    · obtain ⟨rb, ro, rc, hrv, _, _, hrb, hcl⟩ := h.addr (by omega)
      simp only [Value.slice.injEq] at hrv
      obtain ⟨rfl, _, rfl⟩ := hrv
      have hcw := hcl k hlt
      clear hcl
      have hx : l.getD k 0 = l[k] := by rw [List.getD_eq_getElem?_getD, List.getElem?_eq_getElem hlt]; rfl
      have HT := Shut.mk (show l.take (k + 1) = l.take k ++ [l.getD k 0] by rw [List.take_succ_eq_append_getElem hlt, hx])
      have HM := Shut.mk (getD_memI (l := l) hlt)
      clear hx
      generalize l.getD k 0 = x at hcw HT HM
      by_cases c : x = n
      · subst c
        go_wp2
        go_ret
        exact ⟨by rw [decide_eq_true HM.out]; rfl, rfl⟩
      · have hne : (x == n) = false := by simpa using c
        have hne' : ¬ n = x := fun e => c e.symm
        have HNE := Shut.mk hne'
        clear hne'
        go_wp2
        go_roundw
        case rel => exact ⟨k + 1, hlt, rfl, by rw [HT.out, List.mem_append, List.mem_singleton]; exact fun h => h.elim HN.out HNE.out, by first | rfl | trivial⟩
        case measure => simp [intOf]; omega
    · obtain rfl : k = l.length := by omega
      have HN' : Shut (n ∉ l) := ⟨by have := HN.out; rwa [List.take_length] at this⟩
      go_wp2
      go_ret
      exact ⟨by rw [decide_eq_false HN'.out]; rfl, rfl⟩
end Go.Proofs.YtnmaiokhndbicaaGreatDoor
end

section
/- Walks of the document's answer: node (whether a node may stand at its place). -/
set_option linter.unusedSimpArgs false
set_option linter.unusedVariables false
namespace Go.Proofs.YtnmaiokhndbicaaGreatDoor
open Go.RowKit
open Rt

/-- A Parent between a leaf and a node that has not this leaf as not merged. -/
def covZ (t : List TN) (x i z : Nat) : Bool := (nd t z).kd == 2 && decide (z ≠ x) && Mth.underB (2 * i) z && Mth.underB z x && !decide ((i : Int) ∈ (nd t z).un)
def coverB (t : List TN) (x i : Nat) : Bool := (List.range t.length).all fun z => !covZ t x i z
def unB (t : List TN) (x : Nat) : Int → List Int → Bool
  | _, [] => true
  | last, i :: r => !(decide (i ≤ last) || decide ((Mth.hi x : Int) ≤ i) || !lk t i.toNat) && coverB t x i.toNat && unB t x i r
def nodeB (t : List TN) (x : Nat) : Bool :=
  bif (nd t x).kd == 0 then zeroB (nd t x) else bif Nat.beq (x % 2) 0 then leafB (nd t x) else
  bif (nd t x).kd != 2 || (nd t x).id != 0 || (nd t x).sig != 0 then false else unB t x ((Mth.lo x : Int) - 1) (nd t x).un
theorem hi_le {n x : Nat} (hn : n ∈ Mth.fulls) (hx : x < 2 * n - 1) : Mth.hi x ≤ n := by
  have h := Mth.allB_at (p := fun n x => Nat.ble (Mth.hi x) n) (by decide +kernel) hn hx
  exact Nat.le_of_ble_eq_true h
theorem coverB_false {t : List TN} {x i z : Nat} (hz : z < t.length) (h : covZ t x i z = true) : coverB t x i = false := by
  cases e : coverB t x i with
  | false => rfl
  | true =>
    have := List.all_eq_true.1 e z (List.mem_range.2 hz)
    rw [h] at this; cases this
theorem coverB_true {t : List TN} {x i : Nat} (h : ∀ z, z < t.length → covZ t x i z = false) : coverB t x i = true :=
  List.all_eq_true.2 fun z hz => by rw [h z (List.mem_range.1 hz)]; rfl

set_option maxHeartbeats 16000000 in
set_option maxRecDepth 100000 in
theorem rnode7_par {w : World} {tv yv : Value} {t : List TN} {n x : Nat} (hn : n ∈ Mth.fulls) (hlen : t.length = 2 * n - 1) (hx : x < t.length) (ht : RdTs w tv t) (hok : ∀ d ∈ t, TnOk d) (hy : RdTn w yv (nd t x))
    (h0 : ((nd t x).kd == 0) = false) (h1 : x % 2 = 1) (h2 : ((nd t x).kd != 2) = false) (h3 : ((nd t x).id != 0) = false) (h4 : ((nd t x).sig != 0) = false) :
    Calls Tryz.prog 15 #[tv, .int .i64 x, yv] w fun e w' => e = .returned (.bool (unB t x ((Mth.lo x : Int) - 1) (nd t x).un)) ∧ Kept w w' := by
  have hnb := fulls_bd hn
  have hx5 : x < 511 := by omega
  have hhi := hi_le hn (by omega : x < 2 * n - 1)
  have HLv : Hid (∀ W, Calls Tryz.prog 35 #[.int .i64 x] W fun e w' => e = .returned (.tuple #[.int .i64 (Mth.lo x : Nat), .int .i64 (Mth.hi x : Nat), .int .i64 0]) ∧ W = w') := Lib.hid (fun W => by
    have := RLeaves_any x W ⟨by omega, by omega⟩
    rw [in_any hx5] at this
    exact this)
  have HUn := Shut.mk (show ∀ last i r, unB t x last (i :: r) = (!(decide (i ≤ last) || decide ((Mth.hi x : Int) ≤ i) || !lk t i.toNat) && coverB t x i.toNat && unB t x i r) from fun _ _ _ => rfl)
  have HNil := Shut.mk (show ∀ last, unB t x last [] = true from fun _ => rfl)
  obtain ⟨lv, rfl, hru⟩ := hy
  have hmem : nd t x ∈ t := by rw [nd_get hx]; exact List.getElem_mem hx
  have HUok := Shut.mk (hok _ hmem).un
  obtain ⟨la, lc, rfl, l1, l2, l3⟩ := hru.len
  obtain ⟨ta, tc, rfl, t1, t2, t3⟩ := ht.len
  have u63 : (((nd t x).un.length : Nat) : Int) ≤ 9223372036854775807 := by unfold maxLen at l2; omega
  generalize hus : (nd t x).un = us at hru HUok u63 ⊢
  generalize (nd t x).kd = kd at h0 h2 ⊢
  generalize (nd t x).id = id' at h3 ⊢
  generalize (nd t x).sig = sg at h4 ⊢
  generalize (nd t x).enc = en
  generalize (nd t x).hash = hs
  generalize hlo : Mth.lo x = lo at HLv ⊢
  generalize hhe : Mth.hi x = hi' at HLv hhi HUn
  generalize hres : unB t x ((lo : Int) - 1) us = res
  have HRes := Shut.mk hres
  have HOk := Shut.mk hok
  have t63 : (t.length : Int) ≤ 511 := by omega
  have HLen := Shut.mk hlen
  have lob : lo ≤ 600 := by rw [← hlo]; unfold Mth.lo; omega
  have x0 : (0 : Int) ≤ (x : Int) := by omega
  have x1 : (x : Int) ≤ 510 := by omega
  have xm : ((x : Int) % 2 == 0) = false := by rw [beq_eq_false_iff_ne]; omega
  clear hres hok hlen hmem hus hlo hhe h1
  go_enter Tryz.func15, Tryz.ntmps15
  go_wp2_with fail
  refine (HLv.out _).mono ?_; rintro e w1 ⟨rfl, rfl⟩
  go_wp2_with fail
  have ka : Kept w (w.alloc (.cells #[.int .i64 kd, .int .i64 id', .int .i64 en, .int .i64 sg, .int .i64 hs, .slice la us.length lc] 29)) := (Kept.refl w).alloc _
  generalize (w.alloc (.cells #[.int .i64 kd, .int .i64 id', .int .i64 en, .int .i64 sg, .int .i64 hs, .slice la us.length lc] 29)) = wA at ka ⊢
  have hruA := hru.kept ka
  go_loopw [10, 52] (fun l c wr => ∃ (i : Nat) (last : Int), i ≤ us.length ∧ c = .int .i64 i ∧ l = .int .i64 last ∧ -1 ≤ last ∧ last ≤ 600 ∧ unB t x last (us.drop i) = res ∧ Kept wA wr) (fun _ c _ => us.length - (intOf c).toNat)
  case atStart => exact ⟨0, _, Nat.zero_le _, rfl, rfl, by omega, by omega, HRes.out, Kept.refl _⟩
  case round =>
    obtain ⟨i, last, hi, rfl, rfl, hl0, hl1, hun, hk⟩ := hrel
    have HUnR := Shut.mk hun
    clear hun
    by_cases hlt : i < us.length
    · obtain ⟨ub, uo, uc, huv, _, _, hub, hcl⟩ := hruA.addr (by omega)
      simp only [Value.slice.injEq] at huv
      obtain ⟨rfl, -, rfl⟩ := huv
      have q0 := hk.cell (p := ⟨ub, uo + i, none⟩) hub |>.trans (hcl i hlt)
      have hu := HUok.out _ (getD_memI hlt)
      have hdr : us.drop i = us.getD i 0 :: us.drop (i + 1) := by
        rw [List.drop_eq_getElem_cons hlt, List.getD_eq_getElem?_getD, List.getElem?_eq_getElem hlt]; rfl
      have hr := HUnR.out
      rw [hdr, HUn.out] at hr
      clear hcl hdr
      generalize us.getD i 0 = u at q0 hu hr
      obtain ⟨hu0, hu1⟩ := hu
      have HR := Shut.mk hr
      clear hr
      have i0 : (0 : Int) ≤ (i : Int) := by omega
      have i1 : (i : Int) < (us.length : Int) := by omega
      by_cases c1 : u ≤ last
      · have d1 : decide (u ≤ last) = true := decide_eq_true c1
        have HF := Shut.mk (show res = false by rw [← HR.out, d1]; rfl)
        clear HR
        go_wp2
        go_ret
        exact ⟨by rw [HF.out]; rfl, ka.trans hk⟩
      · have d1 : decide (u ≤ last) = false := decide_eq_false c1
        by_cases c2 : (hi' : Int) ≤ u
        · have d2 : decide ((hi' : Int) ≤ u) = true := decide_eq_true c2
          have HF := Shut.mk (show res = false by rw [← HR.out, d1, d2]; rfl)
          clear HR
          go_wp2
          go_ret
          exact ⟨by rw [HF.out]; rfl, ka.trans hk⟩
        · have d2 : decide ((hi' : Int) ≤ u) = false := decide_eq_false c2
          obtain ⟨j, rfl⟩ : ∃ j : Nat, u = j := ⟨u.toNat, by omega⟩
          obtain ⟨tb, to, tcc, ja, jc, hv, hat, _⟩ := (ht.kept ka).at (k := 2 * j) (by have := HLen.out; omega)
          simp only [Value.slice.injEq] at hv
          obtain ⟨rfl, -, rfl⟩ := hv
          have s0 := (hat wr hk).1
          have HLk := Shut.mk (lk_nd t j)
          have j0 : (0 : Int) ≤ (j : Int) := by omega
          have j1 : 2 * (j : Int) < (t.length : Int) := by have := HLen.out; omega
          have j2 : (j : Int) ≤ 255 := by omega
          generalize (nd t (2 * j)).kd = kj at s0 HLk
          clear hat
          cases hkj : (kj != 1) with
          | true =>
            have HF := Shut.mk (show res = false by
              rw [← HR.out, d1, d2, Int.toNat_natCast, HLk.out]
              have : (kj == 1) = false := by simpa using hkj
              rw [this]; rfl)
            clear HR
            go_wp2
            go_ret
            exact ⟨by rw [HF.out]; rfl, ka.trans hk⟩
          | false =>
            have HG := Shut.mk (show (coverB t x j && unB t x (j : Int) (us.drop (i + 1))) = res by
              rw [← HR.out, d1, d2, Int.toNat_natCast, HLk.out]
              have : (kj == 1) = true := by simpa using hkj
              rw [this]
              simp)
            clear HR
            go_wp2_with fail
            have kwr := hk
            obtain ⟨wo, hwo⟩ : ∃ wo : World, wo = wr := ⟨_, rfl⟩
            subst hwo
            go_loopw [76] (fun c wq => ∃ z : Nat, z ≤ t.length ∧ c = .int .i64 z ∧ (∀ y, y < z → covZ t x j y = false) ∧ Kept wo wq) (fun c _ => t.length - (intOf c).toNat)
            case atStart => exact ⟨0, Nat.zero_le _, rfl, fun y hy => absurd hy (Nat.not_lt_zero _), Kept.refl _⟩
            case round =>
              obtain ⟨z, hz, rfl, hall, hkz⟩ := hrel
              have HAll := Shut.mk hall
              clear hall
              by_cases hzl : z < t.length
              · obtain ⟨zb, zo, zc, za, zcc, hzv, hzat, hzun⟩ := (ht.kept ka).at (k := z) hzl
                simp only [Value.slice.injEq, Option.some.injEq, Addr.mk.injEq, and_true, true_and] at hzv
                obtain ⟨⟨rfl, rfl⟩, rfl⟩ := hzv
                obtain ⟨g0, g1, g2, g3, g4, g5⟩ := hzat wr (kwr.trans hkz)
                have HCz := Shut.mk (show covZ t x j z = ((nd t z).kd == 2 && decide (z ≠ x) && Mth.underB (2 * j) z && Mth.underB z x && !decide ((j : Int) ∈ (nd t z).un)) from rfl)
                have HU1 : Hid (∀ W, Calls Tryz.prog 36 #[.int .i64 (2 * (j : Int)), .int .i64 z] W fun e w' => e = .returned (.bool (Mth.underB (2 * j) z)) ∧ W = w') := Lib.hid (fun W => runder_any (2 * j) z (by omega) (by omega) W)
                have HU2 := Lib.hid (fun W => runder_any z x (by omega) (by omega) W)
                have HIn := Lib.hid (inR_any ((hzun.kept (kwr.trans hkz)).kept ((Kept.refl wr).alloc (.cells #[.int .i64 (nd t z).kd, .int .i64 (nd t z).id, .int .i64 (nd t z).enc, .int .i64 (nd t z).sig, .int .i64 (nd t z).hash, .slice za (nd t z).un.length zcc] 29))) (n := (j : Int)) ⟨by omega, by omega⟩)
                have z0 : (0 : Int) ≤ (z : Int) := by omega
                have z1 : (z : Int) < (t.length : Int) := by omega
                clear hzat hzun
                generalize hb1 : Mth.underB (2 * j) z = b1 at HU1 HCz
                generalize hb2 : Mth.underB z x = b2 at HU2 HCz
                generalize hb3 : decide ((j : Int) ∈ (nd t z).un) = b3 at HIn HCz
                generalize (nd t z).kd = zk at g0 HIn HCz
                clear hb1 hb2 hb3
                cases e1 : (zk == 2) with
                | false =>
                  replace HCz := Shut.mk (show covZ t x j z = false by rw [HCz.out, e1]; rfl)
                  go_wp2
                  go_roundw
                  case rel => exact ⟨z + 1, hzl, by go_num, fun y hy => by
                    by_cases c : y < z
                    · exact HAll.out y c
                    · obtain rfl : y = z := by omega
                      exact HCz.out, hkz.alloc _⟩
                  case measure => simp [intOf]; omega
                | true =>
                  by_cases e2 : z = x
                  · replace HCz := Shut.mk (show covZ t x j z = false by rw [HCz.out, e1, decide_eq_false (by simpa using e2)]; rfl)
                    have e3 : ((z : Int) != (x : Int)) = false := by simp; omega
                    clear e2
                    go_wp2
                    go_roundw
                    case rel => exact ⟨z + 1, hzl, by go_num, fun y hy => by
                      by_cases c : y < z
                      · exact HAll.out y c
                      · obtain rfl : y = z := by omega
                        exact HCz.out, hkz.alloc _⟩
                    case measure => simp [intOf]; omega
                  · have e3 : ((z : Int) != (x : Int)) = true := by simp; omega
                    replace HCz := Shut.mk (show covZ t x j z = (b1 && b2 && !b3) by rw [HCz.out, e1, decide_eq_true (show z ≠ x from e2)]; simp)
                    clear e2
                    cases b1 with
                    | false =>
                      replace HCz := Shut.mk (show covZ t x j z = false by rw [HCz.out]; rfl)
                      go_wp2_with fail
                      refine (HU1.out _).mono ?_; rintro e w' ⟨rfl, rfl⟩
                      go_wp2
                      go_roundw
                      case rel => exact ⟨z + 1, hzl, by go_num, fun y hy => by
                        by_cases c : y < z
                        · exact HAll.out y c
                        · obtain rfl : y = z := by omega
                          exact HCz.out, hkz.alloc _⟩
                      case measure => simp [intOf]; omega
                    | true =>
                      cases b2 with
                      | false =>
                        replace HCz := Shut.mk (show covZ t x j z = false by rw [HCz.out]; rfl)
                        go_wp2_with fail
                        refine (HU1.out _).mono ?_; rintro e w' ⟨rfl, rfl⟩
                        go_wp2_with fail
                        refine (HU2.out _).mono ?_; rintro e w' ⟨rfl, rfl⟩
                        go_wp2
                        go_roundw
                        case rel => exact ⟨z + 1, hzl, by go_num, fun y hy => by
                          by_cases c : y < z
                          · exact HAll.out y c
                          · obtain rfl : y = z := by omega
                            exact HCz.out, hkz.alloc _⟩
                        case measure => simp [intOf]; omega
                      | true =>
                        cases b3 with
                        | true =>
                          replace HCz := Shut.mk (show covZ t x j z = false by rw [HCz.out]; rfl)
                          go_wp2_with fail
                          refine (HU1.out _).mono ?_; rintro e w' ⟨rfl, rfl⟩
                          go_wp2_with fail
                          refine (HU2.out _).mono ?_; rintro e w' ⟨rfl, rfl⟩
                          go_wp2_with fail
                          refine HIn.out.mono ?_; rintro e w' ⟨rfl, rfl⟩
                          go_wp2
                          go_roundw
                          case rel => exact ⟨z + 1, hzl, by go_num, fun y hy => by
                            by_cases c : y < z
                            · exact HAll.out y c
                            · obtain rfl : y = z := by omega
                              exact HCz.out, hkz.alloc _⟩
                          case measure => simp [intOf]; omega
                        | false =>
                          have HF := Shut.mk (show res = false by rw [← HG.out, coverB_false hzl (by rw [HCz.out]; rfl)]; rfl)
                          go_wp2_with fail
                          refine (HU1.out _).mono ?_; rintro e w' ⟨rfl, rfl⟩
                          go_wp2_with fail
                          refine (HU2.out _).mono ?_; rintro e w' ⟨rfl, rfl⟩
                          go_wp2_with fail
                          refine HIn.out.mono ?_; rintro e w' ⟨rfl, rfl⟩
                          go_wp2
                          go_ret
                          exact ⟨by rw [HF.out]; rfl, (ka.trans (kwr.trans hkz)).alloc _⟩
              · have e : z = t.length := by omega
                have HC := Shut.mk (show coverB t x j = true from coverB_true fun y hy => HAll.out y (by omega))
                have z9 : ¬ (z : Int) < (t.length : Int) := by omega
                clear e
                go_wp2
                go_roundw
                case rel => exact ⟨i + 1, j, hlt, by go_num, rfl, by omega, by omega, by have h := HG.out; rw [HC.out] at h; exact h, kwr.trans hkz⟩
                case measure => simp [intOf]; omega
    · have e : i = us.length := by omega
      have HF := Shut.mk (show res = true by
        have h := HUnR.out
        rw [e, List.drop_length, HNil.out] at h
        exact h.symm)
      have i9 : ¬ (i : Int) < (us.length : Int) := by omega
      clear e
      go_wp2
      go_ret
      exact ⟨by rw [HF.out]; rfl, ka.trans hk⟩
end Go.Proofs.YtnmaiokhndbicaaGreatDoor
end

section
/- Walks of the document's answer: node, Check. -/
set_option linter.unusedSimpArgs false
set_option linter.unusedVariables false
namespace Go.Proofs.YtnmaiokhndbicaaGreatDoor
open Go.RowKit
open Rt

set_option maxHeartbeats 4000000 in
set_option maxRecDepth 100000 in
theorem rnode7_any {w : World} {tv yv : Value} {t : List TN} {n x : Nat} (hn : n ∈ Mth.fulls) (hlen : t.length = 2 * n - 1) (hx : x < t.length) (ht : RdTs w tv t) (hok : ∀ d ∈ t, TnOk d) (hy : RdTn w yv (nd t x)) :
    Calls Tryz.prog 15 #[tv, .int .i64 x, yv] w fun e w' => e = .returned (.bool (nodeB t x)) ∧ Kept w w' := by
  have hnb := fulls_bd hn
  have x0 : (0 : Int) ≤ (x : Int) := by omega
  have x1 : (x : Int) ≤ 510 := by omega
  cases h0 : ((nd t x).kd == 0) with
  | true =>
    have HB := Shut.mk (show nodeB t x = zeroB (nd t x) by unfold nodeB; rw [h0]; rfl)
    have hy2 := fun o => hy.kept ((Kept.refl w).alloc o)
    have hy0 := hy
    obtain ⟨lv, rfl, hru⟩ := hy
    have HZ := Lib.hid (rzero_any (hy2 (.cells #[.int .i64 (nd t x).kd, .int .i64 (nd t x).id, .int .i64 (nd t x).enc, .int .i64 (nd t x).sig, .int .i64 (nd t x).hash, lv] 29)))
    generalize zeroB (nd t x) = zb at HB HZ
    clear hy2 hy0 hru
    go_enter Tryz.func15, Tryz.ntmps15
    go_wp2_with fail
    refine HZ.out.mono ?_; rintro e w1 ⟨rfl, q⟩
    go_wp2
    go_ret
    exact ⟨by rw [HB.out]; rfl, ((Kept.refl w).alloc _).trans q⟩
  | false =>
    by_cases h1 : x % 2 = 1
    · have hbx : Nat.beq (x % 2) 0 = false := by rw [h1]; rfl
      have xm : ((x : Int) % 2 == 0) = false := by rw [beq_eq_false_iff_ne]; omega
      cases h2 : ((nd t x).kd != 2) with
      | true =>
        have HB := Shut.mk (show nodeB t x = false by unfold nodeB; rw [h0, hbx, h2]; rfl)
        obtain ⟨lv, rfl, hru⟩ := hy
        go_enter Tryz.func15, Tryz.ntmps15
        go_wp2
        go_ret
        exact ⟨by rw [HB.out]; rfl, (Kept.refl w).alloc _⟩
      | false =>
        cases h3 : ((nd t x).id != 0) with
        | true =>
          have HB := Shut.mk (show nodeB t x = false by unfold nodeB; rw [h0, hbx, h2, h3]; rfl)
          obtain ⟨lv, rfl, hru⟩ := hy
          go_enter Tryz.func15, Tryz.ntmps15
          go_wp2
          go_ret
          exact ⟨by rw [HB.out]; rfl, (Kept.refl w).alloc _⟩
        | false =>
          cases h4 : ((nd t x).sig != 0) with
          | true =>
            have HB := Shut.mk (show nodeB t x = false by unfold nodeB; rw [h0, hbx, h2, h3, h4]; rfl)
            obtain ⟨lv, rfl, hru⟩ := hy
            go_enter Tryz.func15, Tryz.ntmps15
            go_wp2
            go_ret
            exact ⟨by rw [HB.out]; rfl, (Kept.refl w).alloc _⟩
          | false =>
            have HB : nodeB t x = unB t x ((Mth.lo x : Int) - 1) (nd t x).un := by unfold nodeB; rw [h0, hbx, h2, h3, h4]; rfl
            rw [HB]
            exact rnode7_par hn hlen hx ht hok hy h0 h1 h2 h3 h4
    · have hbx : Nat.beq (x % 2) 0 = true := by rw [show x % 2 = 0 by omega]; rfl
      have xm : ((x : Int) % 2 == 0) = true := by rw [beq_iff_eq]; omega
      have HB := Shut.mk (show nodeB t x = leafB (nd t x) by unfold nodeB; rw [h0, hbx]; rfl)
      have hy2 := fun o => hy.kept ((Kept.refl w).alloc o)
      obtain ⟨lv, rfl, hru⟩ := hy
      have HZ := Lib.hid (rleaf_any (hy2 (.cells #[.int .i64 (nd t x).kd, .int .i64 (nd t x).id, .int .i64 (nd t x).enc, .int .i64 (nd t x).sig, .int .i64 (nd t x).hash, lv] 29)))
      generalize leafB (nd t x) = zb at HB HZ
      clear hy2 hru h1
      go_enter Tryz.func15, Tryz.ntmps15
      go_wp2_with fail
      refine HZ.out.mono ?_; rintro e w1 ⟨rfl, q⟩
      go_wp2
      go_ret
      exact ⟨by rw [HB.out]; rfl, ((Kept.refl w).alloc _).trans q⟩

def errI (b : Bool) : Int := bif b then 0 else 1
def chkB (t : List TN) : Bool :=
  !Nat.beq (lvs t.length) 0 && someB t 0 (lvs t.length) && (!decide (1 < lvs t.length) || someB t (lvs t.length / 2) (lvs t.length)) && (List.range t.length).all fun x => nodeB t x
set_option maxHeartbeats 8000000 in
set_option maxRecDepth 100000 in
theorem rcheck_any {w : World} {tv : Value} {t : List TN} (ht : RdTs w tv t) (hok : ∀ d ∈ t, TnOk d) :
    Calls Tryz.prog 6 #[tv] w fun e w' => e = .returned (.int .i64 (errI (chkB t))) ∧ Kept w w' := by
  have HLv := Lib.hid (rleaves_any ht)
  have HCk := Shut.mk (show chkB t = (!Nat.beq (lvs t.length) 0 && someB t 0 (lvs t.length) && (!decide (1 < lvs t.length) || someB t (lvs t.length / 2) (lvs t.length)) && (List.range t.length).all fun x => nodeB t x) from rfl)
  have hsp := lvs_spec t.length
  obtain ⟨hl1, hl2⟩ := lvs_le t.length
  have hs1 := rsome_any ht 0 (lvs t.length) hl2 (by omega) (by omega)
  have hs2 := rsome_any ht (lvs t.length / 2) (lvs t.length) hl2 (by omega) (by omega)
  generalize hn : lvs t.length = n at HLv HCk hsp hl1 hl2 hs1 hs2
  clear hn
  obtain ⟨ta, tc, rfl, t1, t2, t3⟩ := ht.len
  have t63 : ((t.length : Nat) : Int) ≤ 9223372036854775807 := by unfold maxLen at t2; omega
  have n0 : (0 : Int) ≤ (n : Int) := by omega
  have n1 : (n : Int) ≤ 256 := by omega
  have HS1 : Hid (Calls Tryz.prog 14 #[.slice ta t.length tc, .int .i64 0, .int .i64 n] w fun e w' => e = .returned (.bool (someB t 0 n)) ∧ w = w') := Lib.hid hs1
  have HS2 : Hid (Calls Tryz.prog 14 #[.slice ta t.length tc, .int .i64 ((n : Int) / 2), .int .i64 n] w fun e w' => e = .returned (.bool (someB t (n / 2) n)) ∧ w = w') := Lib.hid hs2
  clear hs1 hs2
  generalize someB t 0 n = s1 at HS1 HCk
  generalize someB t (n / 2) n = s2 at HS2 HCk
  by_cases hn0 : n = 0
  · have HF := Shut.mk (show chkB t = false by rw [HCk.out, hn0]; rfl)
    have e0 : ((n : Int) == 0) = true := by rw [beq_iff_eq]; omega
    clear hn0
    go_enter Tryz.func6, Tryz.ntmps6
    go_wp2_with fail
    refine HLv.out.mono ?_; rintro e w1 ⟨rfl, rfl⟩
    go_wp2
    go_ret
    exact ⟨by rw [HF.out]; rfl, Kept.refl _⟩
  · have e0 : ((n : Int) == 0) = false := by rw [beq_eq_false_iff_ne]; omega
    have hb0 : Nat.beq n 0 = false := by
      cases e : Nat.beq n 0 with
      | false => rfl
      | true => exact absurd (Nat.eq_of_beq_eq_true e) hn0
    have hfull : n ∈ Mth.fulls ∧ t.length = 2 * n - 1 := by
      rcases hsp with ⟨h1, h2⟩ | ⟨h1, _⟩
      · exact ⟨h1, h2.symm⟩
      · exact absurd h1 hn0
    have HFull := Shut.mk hfull
    clear hfull hsp hn0
    cases s1 with
    | false =>
      have HF := Shut.mk (show chkB t = false by rw [HCk.out, hb0]; rfl)
      go_enter Tryz.func6, Tryz.ntmps6
      go_wp2_with fail
      refine HLv.out.mono ?_; rintro e w1 ⟨rfl, rfl⟩
      go_wp2_with fail
      refine HS1.out.mono ?_; rintro e w1 ⟨rfl, rfl⟩
      go_wp2
      go_ret
      exact ⟨by rw [HF.out]; rfl, Kept.refl _⟩
    | true =>
      have hcase : (decide (1 < n) = true ∧ s2 = false) ∨ (decide (1 < n) = true ∧ s2 = true) ∨ decide (1 < n) = false := by
        cases decide (1 < n) <;> cases s2 <;> simp
      rcases hcase with ⟨d1, rfl⟩ | ⟨d1, rfl⟩ | d1
      · have d1i : decide ((1 : Int) < (n : Int)) = true := decide_eq_true (by have := of_decide_eq_true d1; omega)
        have HF := Shut.mk (show chkB t = false by rw [HCk.out, hb0, d1]; rfl)
        go_enter Tryz.func6, Tryz.ntmps6
        go_wp2_with fail
        refine HLv.out.mono ?_; rintro e w1 ⟨rfl, rfl⟩
        go_wp2_with fail
        refine HS1.out.mono ?_; rintro e w1 ⟨rfl, rfl⟩
        go_wp2_with fail
        refine HS2.out.mono ?_; rintro e w1 ⟨rfl, rfl⟩
        go_wp2
        go_ret
        exact ⟨by rw [HF.out]; rfl, Kept.refl _⟩
      · have d1i : decide ((1 : Int) < (n : Int)) = true := decide_eq_true (by have := of_decide_eq_true d1; omega)
        have HA := Shut.mk (show chkB t = (List.range t.length).all fun x => nodeB t x by rw [HCk.out, hb0, d1]; simp)
        go_enter Tryz.func6, Tryz.ntmps6
        go_wp2_with fail
        refine HLv.out.mono ?_; rintro e w1 ⟨rfl, rfl⟩
        go_wp2_with fail
        refine HS1.out.mono ?_; rintro e w1 ⟨rfl, rfl⟩
        go_wp2_with fail
        refine HS2.out.mono ?_; rintro e w1 ⟨rfl, rfl⟩
        go_wp2
        go_loopw [30] (fun c wr => ∃ k : Nat, k ≤ t.length ∧ c = .int .i64 k ∧ (∀ y, y < k → nodeB t y = true) ∧ Kept w wr) (fun c _ => t.length - (intOf c).toNat)
        case atStart => exact ⟨0, Nat.zero_le _, rfl, fun y hy => absurd hy (Nat.not_lt_zero _), Kept.refl _⟩
        case round =>
          obtain ⟨k, hk, rfl, hall, hkw⟩ := hrel
          have HAll := Shut.mk hall
          clear hall
          by_cases hlt : k < t.length
          · obtain ⟨zb, zo, zc, za, zcc, hzv, hzat, hzun⟩ := ht.at (k := k) hlt
            simp only [Value.slice.injEq] at hzv
            obtain ⟨rfl, -, rfl⟩ := hzv
            obtain ⟨g0, g1, g2, g3, g4, g5⟩ := hzat wr hkw
            have k0 : (0 : Int) ≤ (k : Int) := by omega
            have k1 : (k : Int) < (t.length : Int) := by omega
            have hkb : Kept w (wr.alloc (.cells #[.int .i64 (nd t k).kd, .int .i64 (nd t k).id, .int .i64 (nd t k).enc, .int .i64 (nd t k).sig, .int .i64 (nd t k).hash, .slice za (nd t k).un.length zcc] 29)) := hkw.alloc _
            have HN := Lib.hid (rnode7_any HFull.out.1 HFull.out.2 hlt (ht.kept hkb) hok ⟨_, rfl, hzun.kept hkb⟩)
            have HB := Shut.mk (show nodeB t k = nodeB t k from rfl)
            generalize hnb : nodeB t k = nb at HN
            have HNB := Shut.mk hnb
            clear hnb hzat hzun HB
            cases nb with
            | true =>
              go_wp2_with fail
              refine HN.out.mono ?_; rintro e w2 ⟨rfl, q⟩
              go_wp2
              go_roundw
              case rel => exact ⟨k + 1, hlt, by go_num, fun y hy => by
                by_cases c : y < k
                · exact HAll.out y c
                · obtain rfl : y = k := by omega
                  exact HNB.out, hkb.trans q⟩
              case measure => simp [intOf]; omega
            | false =>
              have HF := Shut.mk (show chkB t = false by
                rw [HA.out]
                cases e : ((List.range t.length).all fun x => nodeB t x) with
                | false => rfl
                | true =>
                  have := List.all_eq_true.1 e k (List.mem_range.2 hlt)
                  rw [HNB.out] at this; cases this)
              go_wp2_with fail
              refine HN.out.mono ?_; rintro e w2 ⟨rfl, q⟩
              go_wp2
              go_ret
              exact ⟨by rw [HF.out]; rfl, hkb.trans q⟩
          · have e : k = t.length := by omega
            have HF := Shut.mk (show chkB t = true by
              rw [HA.out, List.all_eq_true]
              exact fun i hi => HAll.out i (by rw [e]; exact List.mem_range.1 hi))
            have k9 : ¬ (k : Int) < (t.length : Int) := by omega
            clear e
            go_wp2
            go_ret
            exact ⟨by rw [HF.out]; rfl, hkw⟩
      · have d1i : decide ((1 : Int) < (n : Int)) = false := decide_eq_false (by have := of_decide_eq_false d1; omega)
        have HA := Shut.mk (show chkB t = (List.range t.length).all fun x => nodeB t x by rw [HCk.out, hb0, d1]; simp)
        go_enter Tryz.func6, Tryz.ntmps6
        go_wp2_with fail
        refine HLv.out.mono ?_; rintro e w1 ⟨rfl, rfl⟩
        go_wp2_with fail
        refine HS1.out.mono ?_; rintro e w1 ⟨rfl, rfl⟩
        go_wp2
        go_loopw [30] (fun c wr => ∃ k : Nat, k ≤ t.length ∧ c = .int .i64 k ∧ (∀ y, y < k → nodeB t y = true) ∧ Kept w wr) (fun c _ => t.length - (intOf c).toNat)
        case atStart => exact ⟨0, Nat.zero_le _, rfl, fun y hy => absurd hy (Nat.not_lt_zero _), Kept.refl _⟩
        case round =>
          obtain ⟨k, hk, rfl, hall, hkw⟩ := hrel
          have HAll := Shut.mk hall
          clear hall
          by_cases hlt : k < t.length
          · obtain ⟨zb, zo, zc, za, zcc, hzv, hzat, hzun⟩ := ht.at (k := k) hlt
            simp only [Value.slice.injEq] at hzv
            obtain ⟨rfl, -, rfl⟩ := hzv
            obtain ⟨g0, g1, g2, g3, g4, g5⟩ := hzat wr hkw
            have k0 : (0 : Int) ≤ (k : Int) := by omega
            have k1 : (k : Int) < (t.length : Int) := by omega
            have hkb : Kept w (wr.alloc (.cells #[.int .i64 (nd t k).kd, .int .i64 (nd t k).id, .int .i64 (nd t k).enc, .int .i64 (nd t k).sig, .int .i64 (nd t k).hash, .slice za (nd t k).un.length zcc] 29)) := hkw.alloc _
            have HN := Lib.hid (rnode7_any HFull.out.1 HFull.out.2 hlt (ht.kept hkb) hok ⟨_, rfl, hzun.kept hkb⟩)
            have HB := Shut.mk (show nodeB t k = nodeB t k from rfl)
            generalize hnb : nodeB t k = nb at HN
            have HNB := Shut.mk hnb
            clear hnb hzat hzun HB
            cases nb with
            | true =>
              go_wp2_with fail
              refine HN.out.mono ?_; rintro e w2 ⟨rfl, q⟩
              go_wp2
              go_roundw
              case rel => exact ⟨k + 1, hlt, by go_num, fun y hy => by
                by_cases c : y < k
                · exact HAll.out y c
                · obtain rfl : y = k := by omega
                  exact HNB.out, hkb.trans q⟩
              case measure => simp [intOf]; omega
            | false =>
              have HF := Shut.mk (show chkB t = false by
                rw [HA.out]
                cases e : ((List.range t.length).all fun x => nodeB t x) with
                | false => rfl
                | true =>
                  have := List.all_eq_true.1 e k (List.mem_range.2 hlt)
                  rw [HNB.out] at this; cases this)
              go_wp2_with fail
              refine HN.out.mono ?_; rintro e w2 ⟨rfl, q⟩
              go_wp2
              go_ret
              exact ⟨by rw [HF.out]; rfl, hkb.trans q⟩
          · have e : k = t.length := by omega
            have HF := Shut.mk (show chkB t = true by
              rw [HA.out, List.all_eq_true]
              exact fun i hi => HAll.out i (by rw [e]; exact List.mem_range.1 hi))
            have k9 : ¬ (k : Int) < (t.length : Int) := by omega
            clear e
            go_wp2
            go_ret
            exact ⟨by rw [HF.out]; rfl, hkw⟩
end Go.Proofs.YtnmaiokhndbicaaGreatDoor
end

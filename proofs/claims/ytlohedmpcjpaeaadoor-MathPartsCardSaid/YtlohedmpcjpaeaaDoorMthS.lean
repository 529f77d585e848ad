/- A tree in an array: plain facts over its 511 nodes. Nothing here names a program. -/
set_option linter.unusedVariables false
namespace Go.Proofs.YtlohedmpcjpaeaaDoor

namespace Mth
/-- How many leaves a tree may have. -/
def fulls : List Nat := [1, 2, 4, 8, 16, 32, 64, 128, 256]
def fullB (n : Nat) : Bool := fulls.any (Nat.beq n)
/-- A node's level: how many ones its number ends with. -/
def lvlF : Nat → Nat → Nat
  | 0, _ => 0
  | f + 1, x => bif Nat.beq (x % 2) 1 then lvlF f (x / 2) + 1 else 0
def lvl (x : Nat) : Nat := lvlF 10 x
def left (x : Nat) : Nat := x - 2 ^ (lvl x - 1)
def right (x : Nat) : Nat := x + 2 ^ (lvl x - 1)
def par (x : Nat) : Nat := bif Nat.beq (x / 2 ^ (lvl x + 1) % 2) 0 then x + 2 ^ lvl x else x - 2 ^ lvl x
def sib (x : Nat) : Nat := bif Nat.beq (x / 2 ^ (lvl x + 1) % 2) 0 then x + 2 * 2 ^ lvl x else x - 2 * 2 ^ lvl x
def pathF : Nat → Nat → Nat → List Nat
  | 0, _, _ => []
  | f + 1, x, n => bif Nat.beq x (n - 1) then [] else par x :: pathF f (par x) n
def path (x n : Nat) : List Nat := pathF 9 x n
def coF : Nat → Nat → Nat → List Nat
  | 0, _, _ => []
  | f + 1, x, n => bif Nat.beq x (n - 1) then [] else sib x :: coF f (par x) n
def copath (x n : Nat) : List Nat := coF 9 x n
def lo (x : Nat) : Nat := (x - (2 ^ lvl x - 1)) / 2
def hi (x : Nat) : Nat := (x + (2 ^ lvl x - 1)) / 2 + 1
def underB (x y : Nat) : Bool := Nat.ble (lo y) (lo x) && Nat.ble (hi x) (hi y) && Nat.ble (lvl x) (lvl y)
/-- The node of the least level that has both under it. -/
def commF : List Nat → Nat → Nat
  | [], _ => 0
  | p :: l, y => bif underB y p then p else commF l y
def comm (x y n : Nat) : Nat := commF (x :: path x n) y
def sizeF : List Nat → Nat → Nat
  | [], _ => 0
  | k :: l, n => bif Nat.ble n k then k else sizeF l n
def size (n : Nat) : Nat := sizeF fulls n
def hasB (y i : Nat) : Bool := Nat.ble (lo y) i && Nat.blt i (hi y)
/-- How many of some nodes have a leaf under them. -/
def cnt (i : Nat) : List Nat → Nat
  | [] => 0
  | y :: l => (bif hasB y i then 1 else 0) + cnt i l

/-! ## what is so of each node of each tree -/
def allB (p : Nat → Nat → Bool) : Bool := fulls.all fun n => (List.range (2 * n - 1)).all fun x => p n x
theorem allB_at {p : Nat → Nat → Bool} (h : allB p = true) {n x : Nat} (hn : n ∈ fulls) (hx : x < 2 * n - 1) : p n x = true :=
  List.all_eq_true.1 (List.all_eq_true.1 h n hn) x (List.mem_range.2 hx)
def disB (y z : Nat) : Bool := Nat.ble (hi y) (lo z) || Nat.ble (hi z) (lo y)
def pairB : List Nat → Bool
  | [] => true
  | y :: l => l.all (disB y) && pairB l
def wide : List Nat → Nat
  | [] => 0
  | y :: l => (hi y - lo y) + wide l
def partB (n x : Nat) : Bool := pairB (x :: copath x n) && Nat.beq (wide (x :: copath x n)) n && (x :: copath x n).all fun y => Nat.ble (hi y) n && Nat.blt (lo y) (hi y)
theorem part_all : allB partB = true := by decide +kernel
/-- Each node of a path is the one below it and its sibling put together. -/
def stepB (n x : Nat) : Bool := Nat.beq x (n - 1) || (Nat.blt (par x) (2 * n - 1) && Nat.blt (sib x) (2 * n - 1) && Nat.beq (sib (sib x)) x && Nat.beq (par (sib x)) (par x) && Nat.beq (lvl (par x)) (lvl x + 1) && Nat.beq (lvl (sib x)) (lvl x) &&
  ((Nat.beq (left (par x)) x && Nat.beq (right (par x)) (sib x)) || (Nat.beq (right (par x)) x && Nat.beq (left (par x)) (sib x))))
theorem step_all : allB stepB = true := by decide +kernel
/-- A path ends at the root. -/
def endB (n x : Nat) : Bool := Nat.beq ((path x n).getLastD x) (n - 1) && Nat.beq (path x n).length (copath x n).length && Nat.beq (lvl x + (path x n).length) (lvl (n - 1))
theorem end_all : allB endB = true := by decide +kernel

/-! ## each leaf just once -/
theorem sum_range_cnt (n : Nat) (y : Nat) (h1 : hi y ≤ n) (h2 : lo y ≤ hi y) : ((List.range n).map fun i => (bif hasB y i then 1 else 0)).sum = hi y - lo y := by
  have key : ∀ n, ((List.range n).map fun i => (bif hasB y i then 1 else 0)).sum = min n (hi y) - min n (lo y) := by
    intro n
    induction n with
    | zero => simp
    | succ n ih =>
      rw [List.range_succ, List.map_append, List.sum_append, ih]
      simp only [List.map_cons, List.map_nil, List.sum_cons, List.sum_nil, Nat.add_zero]
      unfold hasB
      by_cases c1 : lo y ≤ n
      · by_cases c2 : n < hi y
        · have e1 : Nat.ble (lo y) n = true := Nat.ble_eq_true_of_le c1
          have e2 : Nat.blt n (hi y) = true := Nat.ble_eq_true_of_le c2
          rw [e1, e2]
          simp only [Bool.and_self, cond_true]
          omega
        · have e2 : Nat.blt n (hi y) = false := by
            cases h : Nat.blt n (hi y) with
            | false => rfl
            | true => exact absurd (Nat.le_of_ble_eq_true h) c2
          rw [e2, Bool.and_false]
          simp only [cond_false]
          omega
      · have e1 : Nat.ble (lo y) n = false := by
          cases h : Nat.ble (lo y) n with
          | false => rfl
          | true => exact absurd (Nat.le_of_ble_eq_true h) c1
        rw [e1, Bool.false_and]
        simp only [cond_false]
        omega
  rw [key n]
  omega
theorem sum_cnt (n : Nat) (l : List Nat) (h : ∀ y ∈ l, hi y ≤ n ∧ lo y ≤ hi y) : ((List.range n).map fun i => cnt i l).sum = wide l := by
  induction l with
  | nil =>
    have hz : ∀ l : List Nat, (l.map fun _ => (0 : Nat)).sum = 0 := fun l => by induction l <;> simp_all
    exact hz _
  | cons y l ih =>
    have hy := h y List.mem_cons_self
    have h1 := ih (fun z hz => h z (List.mem_cons_of_mem _ hz))
    have h2 := sum_range_cnt n y hy.1 hy.2
    have hs : ∀ (l : List Nat) (f g : Nat → Nat), (l.map fun i => f i + g i).sum = (l.map f).sum + (l.map g).sum := by
      intro l f g
      induction l with
      | nil => rfl
      | cons a l ih => simp only [List.map_cons, List.sum_cons, ih]; omega
    show ((List.range n).map fun i => (bif hasB y i then 1 else 0) + cnt i l).sum = (hi y - lo y) + wide l
    rw [hs, h1, h2]
theorem cnt_none {i y : Nat} {l : List Nat} (hd : l.all (disB y) = true) (hy : hasB y i = true) : cnt i l = 0 := by
  induction l with
  | nil => rfl
  | cons z l ih =>
    simp only [List.all_cons, Bool.and_eq_true] at hd
    unfold cnt
    rw [ih hd.2]
    have hz : hasB z i = false := by
      cases h : hasB z i with
      | false => rfl
      | true =>
        unfold hasB at h hy
        rw [Bool.and_eq_true] at h hy
        have a1 := Nat.le_of_ble_eq_true h.1
        have a2 := Nat.le_of_ble_eq_true h.2
        have a3 := Nat.le_of_ble_eq_true hy.1
        have a4 := Nat.le_of_ble_eq_true hy.2
        have hdd := hd.1
        unfold disB at hdd
        rw [Bool.or_eq_true] at hdd
        rcases hdd with c | c
        · have := Nat.le_of_ble_eq_true c; omega
        · have := Nat.le_of_ble_eq_true c; omega
    rw [hz]
    rfl
theorem cnt_le {i : Nat} {l : List Nat} (hp : pairB l = true) : cnt i l ≤ 1 := by
  induction l with
  | nil => simp [cnt]
  | cons y l ih =>
    unfold pairB at hp
    rw [Bool.and_eq_true] at hp
    unfold cnt
    cases hy : hasB y i with
    | false =>
      have := ih hp.2
      simp only [cond_false]
      omega
    | true =>
      rw [cnt_none hp.1 hy]
      simp
theorem sum_full {f : Nat → Nat} {n : Nat} (h1 : ∀ i, i < n → f i ≤ 1) (h2 : ((List.range n).map f).sum = n) : ∀ i, i < n → f i = 1 := by
  have le : ∀ n, (∀ i, i < n → f i ≤ 1) → ((List.range n).map f).sum ≤ n := by
    intro n
    induction n with
    | zero => intro _; simp
    | succ n ih =>
      intro h
      rw [List.range_succ, List.map_append, List.sum_append]
      have := ih (fun i hi => h i (by omega))
      have := h n (Nat.lt_succ_self n)
      simp only [List.map_cons, List.map_nil, List.sum_cons, List.sum_nil]
      omega
  induction n with
  | zero => intro i hi; omega
  | succ n ih =>
    rw [List.range_succ, List.map_append, List.sum_append] at h2
    simp only [List.map_cons, List.map_nil, List.sum_cons, List.sum_nil] at h2
    have a := le n (fun i hi => h1 i (by omega))
    have b := h1 n (Nat.lt_succ_self n)
    intro i hi
    by_cases c : i = n
    · rw [c]; omega
    · exact ih (fun i hi => h1 i (by omega)) (by omega) i (by omega)
/-- A node and its copath have each leaf of the tree just once. -/
theorem parts_once {n x : Nat} (hn : n ∈ fulls) (hx : x < 2 * n - 1) : ∀ i, i < n → cnt i (x :: copath x n) = 1 := by
  have h := allB_at part_all hn hx
  unfold partB at h
  rw [Bool.and_eq_true, Bool.and_eq_true] at h
  have hall := List.all_eq_true.1 h.2
  refine sum_full (fun i _ => cnt_le h.1.1) ?_
  rw [sum_cnt n _ (fun y hy => by
    have := hall y hy
    rw [Bool.and_eq_true] at this
    exact ⟨Nat.le_of_ble_eq_true this.1, Nat.le_of_lt (Nat.le_of_ble_eq_true this.2)⟩)]
  exact Nat.eq_of_beq_eq_true h.1.2

/-! ## of two leaves -/
def unionB (n x : Nat) : Bool := Nat.beq x (n - 1) || (Nat.beq (lo (par x)) (min (lo x) (lo (sib x))) && Nat.beq (hi (par x)) (max (hi x) (hi (sib x))) && (Nat.beq (hi x) (lo (sib x)) || Nat.beq (hi (sib x)) (lo x)))
theorem union_all : allB unionB = true := by decide +kernel
def topB (n x : Nat) : Bool := Nat.ble (lvl x) (lvl (n - 1)) && (Nat.beq x (n - 1) || Nat.blt (lvl x) (lvl (n - 1))) && Nat.beq (lo (n - 1)) 0 && Nat.beq (hi (n - 1)) n && (Nat.blt 0 (x % 2) || (Nat.beq (lvl x) 0 && Nat.beq (lo x) (x / 2) && Nat.beq (hi x) (x / 2 + 1)))
theorem top_all : allB topB = true := by decide +kernel

structure StepP (n x : Nat) : Prop where
  inP : par x < 2 * n - 1
  inS : sib x < 2 * n - 1
  back : sib (sib x) = x
  same : par (sib x) = par x
  up : lvl (par x) = lvl x + 1
  beside : lvl (sib x) = lvl x
  kids : (left (par x) = x ∧ right (par x) = sib x) ∨ (right (par x) = x ∧ left (par x) = sib x)
  lo' : lo (par x) = min (lo x) (lo (sib x))
  hi' : hi (par x) = max (hi x) (hi (sib x))
  meet : hi x = lo (sib x) ∨ hi (sib x) = lo x
theorem step_at {n x : Nat} (hn : n ∈ fulls) (hx : x < 2 * n - 1) (hr : x ≠ n - 1) : StepP n x := by
  have h := allB_at step_all hn hx
  have u := allB_at union_all hn hx
  have hb : Nat.beq x (n - 1) = false := by
    cases e : Nat.beq x (n - 1) with
    | false => rfl
    | true => exact absurd (Nat.eq_of_beq_eq_true e) hr
  unfold stepB at h
  unfold unionB at u
  rw [hb, Bool.false_or] at h u
  simp only [Bool.and_eq_true, Bool.or_eq_true] at h u
  obtain ⟨⟨⟨⟨⟨⟨a1, a2⟩, a3⟩, a4⟩, a5⟩, a6⟩, a7⟩ := h
  obtain ⟨⟨b1, b2⟩, b3⟩ := u
  exact ⟨Nat.le_of_ble_eq_true a1, Nat.le_of_ble_eq_true a2, Nat.eq_of_beq_eq_true a3, Nat.eq_of_beq_eq_true a4, Nat.eq_of_beq_eq_true a5, Nat.eq_of_beq_eq_true a6,
    a7.imp (fun h => ⟨Nat.eq_of_beq_eq_true h.1, Nat.eq_of_beq_eq_true h.2⟩) (fun h => ⟨Nat.eq_of_beq_eq_true h.1, Nat.eq_of_beq_eq_true h.2⟩), Nat.eq_of_beq_eq_true b1, Nat.eq_of_beq_eq_true b2,
    b3.imp Nat.eq_of_beq_eq_true Nat.eq_of_beq_eq_true⟩
structure TopP (n x : Nat) : Prop where
  le : lvl x ≤ lvl (n - 1)
  root : x = n - 1 ∨ lvl x < lvl (n - 1)
  lo0 : lo (n - 1) = 0
  hin : hi (n - 1) = n
  leaf : x % 2 = 0 → lvl x = 0 ∧ lo x = x / 2 ∧ hi x = x / 2 + 1
theorem top_at {n x : Nat} (hn : n ∈ fulls) (hx : x < 2 * n - 1) : TopP n x := by
  have h := allB_at top_all hn hx
  unfold topB at h
  simp only [Bool.and_eq_true, Bool.or_eq_true] at h
  obtain ⟨⟨⟨⟨a1, a2⟩, a3⟩, a4⟩, a5⟩ := h
  refine ⟨Nat.le_of_ble_eq_true a1, a2.imp Nat.eq_of_beq_eq_true Nat.le_of_ble_eq_true, Nat.eq_of_beq_eq_true a3, Nat.eq_of_beq_eq_true a4, fun e => ?_⟩
  rcases a5 with c | ⟨⟨c1, c2⟩, c3⟩
  · have := Nat.le_of_ble_eq_true c
    omega
  · exact ⟨Nat.eq_of_beq_eq_true c1, Nat.eq_of_beq_eq_true c2, Nat.eq_of_beq_eq_true c3⟩
theorem hasB_iff {y i : Nat} : hasB y i = true ↔ lo y ≤ i ∧ i < hi y := by
  unfold hasB
  rw [Bool.and_eq_true]
  exact ⟨fun h => ⟨Nat.le_of_ble_eq_true h.1, Nat.le_of_ble_eq_true h.2⟩, fun h => ⟨Nat.ble_eq_true_of_le h.1, Nat.ble_eq_true_of_le h.2⟩⟩
theorem under_leaf {n j p : Nat} (hn : n ∈ fulls) (hj : 2 * j < 2 * n - 1) (hp : p < 2 * n - 1) : underB (2 * j) p = hasB p j := by
  obtain ⟨a, b, c⟩ := (top_at hn hj).leaf (by omega)
  have e : 2 * j / 2 = j := by omega
  rw [e] at b c
  unfold underB
  rw [a, b, c, show Nat.ble 0 (lvl p) = true from Nat.ble_eq_true_of_le (Nat.zero_le _), Bool.and_true]
  unfold hasB
  rfl
/-- Of a leaf that is not under a node: the one of its copath that has it, and what they have in common. -/
theorem meet_up {n j : Nat} (hn : n ∈ fulls) (hj : j < n) : ∀ (f z : Nat), z < 2 * n - 1 → lvl (n - 1) ≤ lvl z + f → hasB z j = false → ∃ y ∈ coF f z n, hasB y j = true ∧ commF (pathF f z n) (2 * j) = par y := by
  intro f
  induction f with
  | zero =>
    intro z hz hf hh
    have ht := top_at hn hz
    rcases ht.root with e | e
    · rw [e] at hh
      have : hasB (n - 1) j = true := hasB_iff.2 ⟨by rw [ht.lo0]; omega, by rw [ht.hin]; exact hj⟩
      rw [this] at hh; cases hh
    · omega
  | succ f ih =>
    intro z hz hf hh
    by_cases hr : z = n - 1
    · have ht := top_at hn hz
      rw [hr] at hh
      have : hasB (n - 1) j = true := hasB_iff.2 ⟨by rw [ht.lo0]; omega, by rw [ht.hin]; exact hj⟩
      rw [this] at hh; cases hh
    · have st := step_at hn hz hr
      have hb : Nat.beq z (n - 1) = false := by
        cases e : Nat.beq z (n - 1) with
        | false => rfl
        | true => exact absurd (Nat.eq_of_beq_eq_true e) hr
      have e1 : coF (f + 1) z n = sib z :: coF f (par z) n := by show (bif Nat.beq z (n - 1) then [] else _) = _; rw [hb]; rfl
      have e2 : pathF (f + 1) z n = par z :: pathF f (par z) n := by show (bif Nat.beq z (n - 1) then [] else _) = _; rw [hb]; rfl
      rw [e1, e2]
      have hu := under_leaf hn (j := j) (by omega) st.inP
      have hnz : ¬ (lo z ≤ j ∧ j < hi z) := fun c => by rw [hasB_iff.2 c] at hh; cases hh
      cases hs : hasB (sib z) j with
      | true =>
        refine ⟨sib z, List.mem_cons_self, hs, ?_⟩
        have h1 := hasB_iff.1 hs
        have hp : hasB (par z) j = true := hasB_iff.2 ⟨by rw [st.lo']; omega, by rw [st.hi']; omega⟩
        unfold commF
        rw [hu, hp, st.same]
        rfl
      | false =>
        have hns : ¬ (lo (sib z) ≤ j ∧ j < hi (sib z)) := fun c => by rw [hasB_iff.2 c] at hs; cases hs
        have hp : hasB (par z) j = false := by
          cases e : hasB (par z) j with
          | false => rfl
          | true =>
            have h1 := hasB_iff.1 e
            rw [st.lo', st.hi'] at h1
            have hm := st.meet
            omega
        obtain ⟨y, hy1, hy2, hy3⟩ := ih (par z) st.inP (by rw [st.up]; omega) hp
        refine ⟨y, List.mem_cons_of_mem _ hy1, hy2, ?_⟩
        unfold commF
        rw [hu, hp]
        exact hy3
/-- Of two leaves the one's copath has just one node that has the other one, and its parent is what they have in common. -/
theorem meet_leaves {n i j : Nat} (hn : n ∈ fulls) (hi : i < n) (hj : j < n) (hne : i ≠ j) : cnt j (copath (2 * i) n) = 1 ∧ ∃ y ∈ copath (2 * i) n, hasB y j = true ∧ comm (2 * i) (2 * j) n = par y := by
  have hx : 2 * i < 2 * n - 1 := by omega
  obtain ⟨a, b, c⟩ := (top_at hn hx).leaf (by omega)
  have e : 2 * i / 2 = i := by omega
  rw [e] at b c
  have hno : hasB (2 * i) j = false := by
    cases h : hasB (2 * i) j with
    | false => rfl
    | true =>
      have h1 := hasB_iff.1 h
      rw [b, c] at h1
      omega
  have h1 := parts_once hn hx j hj
  unfold cnt at h1
  rw [hno] at h1
  simp only [cond_false, Nat.zero_add] at h1
  have hl9 : lvl (n - 1) ≤ 9 := by
    have : ∀ m ∈ fulls, lvl (m - 1) ≤ 9 := by decide +kernel
    exact this n hn
  obtain ⟨y, hy1, hy2, hy3⟩ := meet_up hn hj 9 (2 * i) hx (by omega) hno
  refine ⟨h1, y, hy1, hy2, ?_⟩
  unfold comm commF
  rw [under_leaf hn (by omega) hx, hno]
  exact hy3

/-! ## paths, step by step -/
def itr : Nat → Nat → Nat
  | 0, z => z
  | i + 1, z => itr i (par z)
theorem itr_succ (i z : Nat) : itr (i + 1) z = par (itr i z) := by
  induction i generalizing z with
  | zero => rfl
  | succ i ih => exact ih (par z)
structure PathP (n f z : Nat) : Prop where
  len : (pathF f z n).length = lvl (n - 1) - lvl z
  clen : (coF f z n).length = lvl (n - 1) - lvl z
  at' : ∀ i, i < lvl (n - 1) - lvl z → (pathF f z n).getD i 0 = itr (i + 1) z ∧ (coF f z n).getD i 0 = sib (itr i z) ∧ itr i z < 2 * n - 1 ∧ itr i z ≠ n - 1 ∧ lvl (itr i z) = lvl z + i
  last : itr (lvl (n - 1) - lvl z) z = n - 1
theorem path_at {n : Nat} (hn : n ∈ fulls) : ∀ (f z : Nat), z < 2 * n - 1 → lvl (n - 1) ≤ lvl z + f → PathP n f z := by
  intro f
  induction f with
  | zero =>
    intro z hz hf
    have ht := top_at hn hz
    have e : z = n - 1 := ht.root.resolve_right (by omega)
    have e0 : lvl (n - 1) - lvl z = 0 := by omega
    exact ⟨by rw [e0]; rfl, by rw [e0]; rfl, fun i hi => by omega, by rw [e0]; exact e⟩
  | succ f ih =>
    intro z hz hf
    by_cases hr : z = n - 1
    · have e0 : lvl (n - 1) - lvl z = 0 := by rw [hr]; omega
      have hb : Nat.beq z (n - 1) = true := by rw [hr]; exact Nat.beq_refl _
      have e1 : coF (f + 1) z n = [] := by show (bif Nat.beq z (n - 1) then [] else _) = _; rw [hb]; rfl
      have e2 : pathF (f + 1) z n = [] := by show (bif Nat.beq z (n - 1) then [] else _) = _; rw [hb]; rfl
      exact ⟨by rw [e0, e2]; rfl, by rw [e0, e1]; rfl, fun i hi => by omega, by rw [e0]; exact hr⟩
    · have st := step_at hn hz hr
      have ht := top_at hn hz
      have hb : Nat.beq z (n - 1) = false := by
        cases e : Nat.beq z (n - 1) with
        | false => rfl
        | true => exact absurd (Nat.eq_of_beq_eq_true e) hr
      have e1 : coF (f + 1) z n = sib z :: coF f (par z) n := by show (bif Nat.beq z (n - 1) then [] else _) = _; rw [hb]; rfl
      have e2 : pathF (f + 1) z n = par z :: pathF f (par z) n := by show (bif Nat.beq z (n - 1) then [] else _) = _; rw [hb]; rfl
      have hl : lvl z < lvl (n - 1) := ht.root.resolve_left hr
      have q := ih (par z) st.inP (by rw [st.up]; omega)
      have eu := st.up
      refine ⟨by rw [e2, List.length_cons, q.len]; omega, by rw [e1, List.length_cons, q.clen]; omega, fun i hi => ?_, ?_⟩
      · cases i with
        | zero => rw [e1, e2]; exact ⟨rfl, rfl, hz, hr, rfl⟩
        | succ i =>
          have h := q.at' i (by omega)
          rw [e1, e2]
          exact ⟨h.1, h.2.1, h.2.2.1, h.2.2.2.1, by have := h.2.2.2.2; show lvl (itr i (par z)) = _; omega⟩
      · obtain ⟨m, hm⟩ : ∃ m, lvl (n - 1) - lvl z = m + 1 := ⟨lvl (n - 1) - lvl z - 1, by omega⟩
        rw [hm]
        have h := q.last
        have e3 : lvl (n - 1) - lvl (par z) = m := by omega
        rw [e3] at h
        exact h
theorem path_of {n x : Nat} (hn : n ∈ fulls) (hx : x < 2 * n - 1) : PathP n 9 x := path_at hn 9 x hx (by
  have : ∀ m ∈ fulls, lvl (m - 1) ≤ 9 := by decide +kernel
  have := this n hn
  omega)
/-- What siblings have in common. -/
theorem comm_sib {n x : Nat} (hn : n ∈ fulls) (hx : x < 2 * n - 1) (hr : x ≠ n - 1) : comm x (sib x) n = par x := by
  have h : allB (fun n x => Nat.beq x (n - 1) || Nat.beq (comm x (sib x) n) (par x)) = true := by decide +kernel
  have h1 := allB_at h hn hx
  simp only [Bool.or_eq_true] at h1
  rcases h1 with e | e
  · exact absurd (Nat.eq_of_beq_eq_true e) hr
  · exact Nat.eq_of_beq_eq_true e
/-- A node's leaves are its children's. -/
theorem kids_leaves {x : Nat} (hx : x < 511) (hl : 0 < lvl x) : lo (left x) = lo x ∧ hi (left x) = lo (right x) ∧ hi (right x) = hi x ∧ hi (left x) - lo (left x) = hi (right x) - lo (right x) ∧ left x < 511 ∧ right x < 511 ∧ par (left x) = x ∧ par (right x) = x ∧ sib (left x) = right x ∧ sib (right x) = left x := by
  have h : (List.range 511).all (fun x => Nat.beq (lvl x) 0 || (Nat.beq (lo (left x)) (lo x) && Nat.beq (hi (left x)) (lo (right x)) && Nat.beq (hi (right x)) (hi x) && Nat.beq (hi (left x) - lo (left x)) (hi (right x) - lo (right x)) && Nat.blt (left x) 511 && Nat.blt (right x) 511 && Nat.beq (par (left x)) x && Nat.beq (par (right x)) x && Nat.beq (sib (left x)) (right x) && Nat.beq (sib (right x)) (left x))) = true := by decide +kernel
  have h1 := List.all_eq_true.1 h x (List.mem_range.2 hx)
  simp only [Bool.or_eq_true, Bool.and_eq_true] at h1
  rcases h1 with e | ⟨⟨⟨⟨⟨⟨⟨⟨⟨a1, a2⟩, a3⟩, a4⟩, a5⟩, a6⟩, a7⟩, a8⟩, a9⟩, a10⟩
  · have := Nat.eq_of_beq_eq_true e; omega
  · exact ⟨Nat.eq_of_beq_eq_true a1, Nat.eq_of_beq_eq_true a2, Nat.eq_of_beq_eq_true a3, Nat.eq_of_beq_eq_true a4, Nat.le_of_ble_eq_true a5, Nat.le_of_ble_eq_true a6, Nat.eq_of_beq_eq_true a7, Nat.eq_of_beq_eq_true a8, Nat.eq_of_beq_eq_true a9, Nat.eq_of_beq_eq_true a10⟩
theorem size_ok {n : Nat} (h1 : 1 ≤ n) (h2 : n ≤ 256) : size n ∈ fulls ∧ n ≤ size n ∧ (size n = 1 ∨ size n / 2 < n) := by
  have h : (List.range 257).all (fun n => Nat.beq n 0 || (fullB (size n) && Nat.ble n (size n) && (Nat.beq (size n) 1 || Nat.blt (size n / 2) n))) = true := by decide +kernel
  have h3 := List.all_eq_true.1 h n (List.mem_range.2 (by omega))
  simp only [Bool.or_eq_true, Bool.and_eq_true] at h3
  rcases h3 with e | ⟨⟨a1, a2⟩, a3⟩
  · have := Nat.eq_of_beq_eq_true e; omega
  · refine ⟨?_, Nat.le_of_ble_eq_true a2, a3.imp Nat.eq_of_beq_eq_true Nat.le_of_ble_eq_true⟩
    unfold fullB at a1
    obtain ⟨m, hm, he⟩ := List.any_eq_true.1 a1
    rw [Nat.eq_of_beq_eq_true he]
    exact hm
end Mth
end Go.Proofs.YtlohedmpcjpaeaaDoor

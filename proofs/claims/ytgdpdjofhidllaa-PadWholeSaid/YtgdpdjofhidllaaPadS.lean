/- What pad's functions come to, on lists of numbers. -/
import Derived.Test.YtgdpdjofhidllaaCore
set_option linter.unusedSimpArgs false
set_option linter.unusedVariables false
namespace Go.Proofs.Ytgdpdjofhidllaa
open Go.RowKit

/-- A bucket. -/
def isB (s : Int) : Prop := s = 32 ∨ s = 64 ∨ s = 128 ∨ s = 256 ∨ s = 512 ∨ s = 1024 ∨ s = 2048 ∨ s = 4096 ∨ s = 8192 ∨ s = 16384 ∨ s = 32768 ∨ s = 65536

/-- The bucket of n bytes. -/
def bk (n : Int) : Int := if n < 32 then 32 else if n < 64 then 64 else if n < 128 then 128 else if n < 256 then 256 else if n < 512 then 512 else if n < 1024 then 1024 else
  if n < 2048 then 2048 else if n < 4096 then 4096 else if n < 8192 then 8192 else if n < 16384 then 16384 else if n < 32768 then 32768 else 65536

def BkOk (n s : Int) : Prop := isB s ∧ (s = 32 ∨ s ≤ 2 * n)

theorem bk_ok (n : Int) : BkOk n (bk n) := by
  unfold BkOk isB bk
  repeat' split
  all_goals omega
theorem bk_gt {n : Int} (h : n < 65536) : n < bk n := by
  unfold bk
  repeat' split
  all_goals omega
theorem bk_le (n : Int) : 32 ≤ bk n ∧ bk n ≤ 65536 := by
  unfold bk
  repeat' split
  all_goals omega
theorem BkOk.uniq {n s t : Int} (h : BkOk n s) (h1 : n < s) (k : BkOk n t) (k1 : n < t) : s = t := by
  obtain ⟨ha, hb⟩ := h
  obtain ⟨ka, kb⟩ := k
  unfold isB at ha ka
  rcases ha with rfl | rfl | rfl | rfl | rfl | rfl | rfl | rfl | rfl | rfl | rfl | rfl <;> rcases ka with rfl | rfl | rfl | rfl | rfl | rfl | rfl | rfl | rfl | rfl | rfl | rfl <;> omega
theorem BkOk.eq {n s : Int} (h : BkOk n s) (h1 : n < s) (hn : n < 65536) : s = bk n := h.uniq h1 (bk_ok n) (bk_gt hn)
theorem BkOk.start (n : Int) : BkOk n 32 := ⟨.inl rfl, .inl rfl⟩
theorem BkOk.step {n s : Int} (h : BkOk n s) (h1 : s ≤ n) (hn : n < 65536) : BkOk n (s * 2) := by
  obtain ⟨ha, hb⟩ := h
  unfold isB at ha
  unfold BkOk isB
  omega
theorem BkOk.bd {n s : Int} (h : BkOk n s) : 32 ≤ s ∧ s ≤ 65536 := by
  obtain ⟨ha, hb⟩ := h
  unfold isB at ha
  omega

/-- zs filled up. -/
def padS (zs : List Int) : List Int := zs ++ 128 :: List.replicate ((bk zs.length).toNat - zs.length - 1) 0

theorem padS_length {zs : List Int} (h : (zs.length : Int) < 65536) : ((padS zs).length : Int) = bk zs.length := by
  have := bk_gt h
  have := bk_le zs.length
  unfold padS
  simp only [List.length_append, List.length_cons, List.length_replicate]
  omega
theorem padS_by {zs : List Int} (h : By zs) : By (padS zs) := by
  unfold padS
  refine h.append (By.cons (by omega) fun z hz => ?_)
  have := List.eq_of_mem_replicate hz
  omega

/-- How many are left, where zeros at the end are taken off. -/
def trimN : List Int → Nat
  | [] => 0
  | z :: r => if z = 0 ∧ trimN r = 0 then 0 else trimN r + 1

theorem trimN_le (zs : List Int) : trimN zs ≤ zs.length := by
  induction zs with
  | nil => simp [trimN]
  | cons z r ih => unfold trimN; split <;> simp <;> omega
theorem trimN_zeros (zs : List Int) (i : Nat) (h1 : trimN zs ≤ i) (h2 : i < zs.length) : zs.getD i 0 = 0 := by
  induction zs generalizing i with
  | nil => simp at h2
  | cons z r ih =>
    unfold trimN at h1
    split at h1
    · rename_i hc
      cases i with
      | zero => simp; exact hc.1
      | succ i => simp only [List.getD_cons_succ]; exact ih i (by omega) (by simpa using h2)
    · cases i with
      | zero => omega
      | succ i => simp only [List.getD_cons_succ]; exact ih i (by omega) (by simpa using h2)
theorem trimN_last (zs : List Int) (h : 0 < trimN zs) : zs.getD (trimN zs - 1) 0 ≠ 0 := by
  induction zs with
  | nil => simp [trimN] at h
  | cons z r ih =>
    unfold trimN at h ⊢
    split
    · rename_i hc; rw [if_pos hc] at h; omega
    · rename_i hc
      by_cases hr : 0 < trimN r
      · have := ih hr
        rw [show trimN r + 1 - 1 = (trimN r - 1) + 1 by omega, List.getD_cons_succ]
        exact this
      · have h0 : trimN r = 0 := by omega
        rw [h0]
        simp only [Nat.zero_add, Nat.sub_self, List.getD_cons_zero]
        intro hz; exact hc ⟨hz, h0⟩
/-- A place is where the trimming ends, if all behind it is zero, and what stands ahead of it is none. -/
theorem trimN_uniq (zs : List Int) (n : Nat) (h0 : n ≤ zs.length) (h1 : ∀ i, n ≤ i → i < zs.length → zs.getD i 0 = 0) (h2 : n = 0 ∨ zs.getD (n - 1) 0 ≠ 0) : n = trimN zs := by
  rcases Nat.lt_trichotomy n (trimN zs) with h | h | h
  · have := trimN_last zs (by omega)
    exact absurd (h1 (trimN zs - 1) (by omega) (by have := trimN_le zs; omega)) this
  · exact h
  · rcases h2 with h2 | h2
    · omega
    · exact absurd (trimN_zeros zs (n - 1) (by omega) (by omega)) h2

/-- Where the mark stands that has zeros alone behind it: none: 0 and false. -/
def fillS (zs : List Int) : Option Nat := if trimN zs = 0 then none else if zs.getD (trimN zs - 1) 0 = 128 then some (trimN zs - 1) else none

/-- What Unpad tells. -/
def unpS (zs : List Int) : Option (List Int) := match fillS zs with
  | none => none
  | some n => if (n : Int) < 65536 ∧ bk n = zs.length then some (zs.take n) else none

theorem fillS_lt {zs : List Int} {n : Nat} (h : fillS zs = some n) : n < zs.length := by
  unfold fillS at h
  split at h
  · cases h
  · split at h
    · cases h; have := trimN_le zs; omega
    · cases h

theorem trimN_pad (zs : List Int) (k : Nat) : trimN (zs ++ 128 :: List.replicate k 0) = zs.length + 1 := by
  symm
  refine trimN_uniq _ _ (by simp) ?_ (.inr ?_)
  · intro i h1 h2
    simp only [List.getD_eq_getElem?_getD]
    rw [List.getElem?_append_right (by omega), show i - zs.length = (i - zs.length - 1) + 1 by omega, List.getElem?_cons_succ, List.getElem?_replicate]
    split <;> rfl
  · simp only [Nat.add_sub_cancel, List.getD_eq_getElem?_getD]
    rw [List.getElem?_append_right (Nat.le_refl _)]
    simp

theorem fillS_pad (zs : List Int) (k : Nat) : fillS (zs ++ 128 :: List.replicate k 0) = some zs.length := by
  unfold fillS
  rw [trimN_pad, if_neg (by omega), if_pos]
  · rfl
  · simp only [Nat.add_sub_cancel, List.getD_eq_getElem?_getD]
    rw [List.getElem?_append_right (Nat.le_refl _)]
    simp

theorem unpS_pad {zs : List Int} (h : (zs.length : Int) < 65536) : unpS (padS zs) = some zs := by
  have hl := padS_length h
  unfold unpS
  have hf : fillS (padS zs) = some zs.length := fillS_pad zs _
  rw [hf]
  simp only
  rw [if_pos ⟨h, hl.symm⟩]
  unfold padS
  simp

theorem split_at (zs : List Int) (n : Nat) (h : n < zs.length) (h1 : ∀ i, n + 1 ≤ i → i < zs.length → zs.getD i 0 = 0) : zs = zs.take n ++ zs.getD n 0 :: List.replicate (zs.length - n - 1) 0 := by
  apply List.ext_getElem?
  intro i
  rcases Nat.lt_trichotomy i n with g | g | g
  · rw [List.getElem?_append_left (by simp; omega), List.getElem?_take]; simp [g]
  · subst g
    rw [List.getElem?_append_right (by simp; omega)]
    simp [Nat.min_eq_left (Nat.le_of_lt h), List.getD, List.getElem?_eq_getElem h]
  · rw [List.getElem?_append_right (by simp; omega), List.length_take, Nat.min_eq_left (Nat.le_of_lt h), show i - n = (i - n - 1) + 1 by omega, List.getElem?_cons_succ, List.getElem?_replicate]
    by_cases hi : i < zs.length
    · rw [if_pos (by omega), List.getElem?_eq_getElem hi]
      have := h1 i (by omega) hi
      simp only [List.getD, List.getElem?_eq_getElem hi, Option.getD_some] at this
      rw [this]
    · rw [if_neg (by omega), List.getElem?_eq_none (by omega)]

theorem fillS_form {zs : List Int} {n : Nat} (h : fillS zs = some n) : zs = zs.take n ++ 128 :: List.replicate (zs.length - n - 1) 0 := by
  have hl := fillS_lt h
  unfold fillS at h
  split at h
  · cases h
  · split at h
    · rename_i h0 h1
      cases h
      have := split_at zs (trimN zs - 1) hl (fun i h2 h3 => trimN_zeros zs i (by omega) h3)
      rw [h1] at this
      exact this
    · cases h

theorem pad_unpS {zs ys : List Int} (h : unpS zs = some ys) : padS ys = zs ∧ (ys.length : Int) < 65536 ∧ ys.length < zs.length := by
  unfold unpS at h
  cases hf : fillS zs with
  | none => rw [hf] at h; cases h
  | some n =>
    rw [hf] at h
    simp only at h
    split at h
    · rename_i hc
      cases h
      have hl := fillS_lt hf
      have hlen : (zs.take n).length = n := by rw [List.length_take]; omega
      refine ⟨?_, by rw [hlen]; exact hc.1, by rw [hlen]; exact hl⟩
      unfold padS
      rw [hlen, hc.2, show ((zs.length : Int)).toNat - n - 1 = zs.length - n - 1 by omega]
      exact (fillS_form hf).symm
    · cases h

theorem padS_inj {x y : List Int} (hx : (x.length : Int) < 65536) (hy : (y.length : Int) < 65536) (h : padS x = padS y) : x = y := by
  have h1 := unpS_pad hx
  have h2 := unpS_pad hy
  rw [h] at h1
  exact Option.some.inj (h1.symm.trans h2)
end Go.Proofs.Ytgdpdjofhidllaa

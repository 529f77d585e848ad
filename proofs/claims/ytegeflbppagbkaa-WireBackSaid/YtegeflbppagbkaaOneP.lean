/- The walk of the statement on what is read. -/
import Derived.Test.YtegeflbppagbkaaOptW
import Derived.Deep.DeepCutAuto
set_option linter.unusedSimpArgs false
set_option linter.unusedVariables false
namespace Go.Proofs.Ytegeflbppagbkaa
open Go.RowKit

theorem list1 (zs : List Int) (h : 0 < zs.length) : ∃ a r, zs = a :: r := by
  cases zs with
  | nil => simp at h
  | cons a r => exact ⟨a, r, rfl⟩

/-- What is read as a number is that number's bytes. -/
theorem ib_takeI {zs : List Int} (hb : By zs) {n k : Int} (h : takeI zs = (n, k, 0)) : ib n = zs.take k.toNat := by
  unfold takeI at h
  by_cases g0 : zs.length = 0
  · rw [if_pos g0] at h; simp at h
  rw [if_neg g0] at h
  obtain ⟨x0, r0, rfl⟩ := list1 zs (by omega)
  have b0 := hb.at 0
  have b1 := hb.at 1
  have b2 := hb.at 2
  have b3 := hb.at 3
  have e0 : (x0 :: r0).getD 0 0 = x0 := rfl
  rw [e0] at h b0
  by_cases g1 : 192 ≤ x0
  · rw [if_pos g1] at h; simp at h
  rw [if_neg g1] at h
  by_cases g2 : x0 < 64
  · rw [if_pos g2] at h
    simp only [Prod.mk.injEq] at h
    obtain ⟨rfl, rfl, _⟩ := h
    rw [ib_1 g2]; rfl
  rw [if_neg g2] at h
  by_cases g3 : x0 < 128
  · rw [if_pos g3] at h
    by_cases g4 : (x0 :: r0).length < 2
    · rw [if_pos g4] at h; simp at h
    rw [if_neg g4] at h
    simp only [List.length_cons] at g4
    obtain ⟨x1, r1, rfl⟩ := list1 r0 (by omega)
    have e1 : (x0 :: x1 :: r1).getD 1 0 = x1 := rfl
    rw [e1] at h b1
    by_cases g5 : (x0 - 64) * 256 + x1 < 64
    · rw [if_pos g5] at h; simp at h
    rw [if_neg g5] at h
    simp only [Prod.mk.injEq] at h
    obtain ⟨rfl, rfl, _⟩ := h
    rw [ib_2 (by omega) (by omega)]
    have q1 : 64 + ((x0 - 64) * 256 + x1) / 256 = x0 := by omega
    have q2 : ((x0 - 64) * 256 + x1) % 256 = x1 := by omega
    rw [q1, q2]; rfl
  rw [if_neg g3] at h
  by_cases g4 : (x0 :: r0).length < 4
  · rw [if_pos g4] at h; simp at h
  rw [if_neg g4] at h
  simp only [List.length_cons] at g4
  obtain ⟨x1, r1, rfl⟩ := list1 r0 (by omega)
  simp only [List.length_cons] at g4
  obtain ⟨x2, r2, rfl⟩ := list1 r1 (by omega)
  simp only [List.length_cons] at g4
  obtain ⟨x3, r3, rfl⟩ := list1 r2 (by omega)
  have e1 : (x0 :: x1 :: x2 :: x3 :: r3).getD 1 0 = x1 := rfl
  have e2 : (x0 :: x1 :: x2 :: x3 :: r3).getD 2 0 = x2 := rfl
  have e3 : (x0 :: x1 :: x2 :: x3 :: r3).getD 3 0 = x3 := rfl
  rw [e1, e2, e3] at h
  rw [e1] at b1
  rw [e2] at b2
  rw [e3] at b3
  by_cases g5 : (((x0 - 128) * 256 + x1) * 256 + x2) * 256 + x3 < 16384
  · rw [if_pos g5] at h; simp at h
  rw [if_neg g5] at h
  simp only [Prod.mk.injEq] at h
  obtain ⟨rfl, rfl, _⟩ := h
  rw [ib_4 (by omega)]
  have q1 : 128 + ((((x0 - 128) * 256 + x1) * 256 + x2) * 256 + x3) / 16777216 = x0 := by omega
  have q2 : ((((x0 - 128) * 256 + x1) * 256 + x2) * 256 + x3) / 65536 % 256 = x1 := by omega
  have q3 : ((((x0 - 128) * 256 + x1) * 256 + x2) * 256 + x3) / 256 % 256 = x2 := by omega
  have q4 : ((((x0 - 128) * 256 + x1) * 256 + x2) * 256 + x3) % 256 = x3 := by omega
  rw [q1, q2, q3, q4]; rfl

/-- A vector that is read is these very bytes. -/
theorem vecB_take {zs : List Int} (hb : By zs) {n k : Int} (h : takeI zs = (n, k, 0)) (hs : n ≤ zs.length - k) :
    vecB ((zs.take (k + n).toNat).drop k.toNat) = zs.take (k + n).toNat := by
  obtain ⟨p1, p2, p3, p4⟩ := takeI_ok hb (by rw [h])
  rw [h] at p1 p2 p3 p4
  dsimp only at p1 p2 p3 p4
  have hl : (((zs.take (k + n).toNat).drop k.toNat).length : Int) = n := by simp only [List.length_drop, List.length_take]; omega
  unfold vecB
  rw [hl, ib_takeI hb h]
  have e : zs.take k.toNat = (zs.take (k + n).toNat).take k.toNat := by rw [List.take_take, Nat.min_eq_left (by omega)]
  rw [e, List.take_append_drop]

/-- What TakeBytes comes to. -/
theorem takeI_err {zs : List Int} (h : (takeI zs).2.2 ≠ 0) : ∃ e, (takeI zs).2.2 = e ∧ e ≠ 0 := ⟨_, rfl, h⟩

theorem takeBytes_bad (zs : List Int) (hb : By zs) (h : (takeI zs).2.2 ≠ 0 ∨ (∃ n k, takeI zs = (n, k, 0) ∧ zs.length - k < n)) :
    ∃ e, e ≠ 0 ∧ ∀ v w, Rd w v zs → Calls Try.prog 16 #[v] w fun x w' => x = .returned (.tuple #[.slice none 0 0, .int .i64 0, .int .i64 e]) ∧ Kept w w' := by
  rcases h with h | ⟨n, k, h, hs⟩
  · exact ⟨_, h, fun v w hr => takeBytes_err v zs w hr hb _ rfl h⟩
  · exact ⟨10, by omega, fun v w hr => takeBytes_short v zs w hr hb n k h hs⟩

/-- Any bytes are vectors, and then an end: nothing, or what is no vector. -/
theorem parse (m : Nat) : ∀ zs : List Int, zs.length ≤ m → By zs → ∃ (yss : List (List Int)) (tail : List Int), zs = vecs yss ++ tail ∧
    (tail = [] ∨ (tail ≠ [] ∧ ((takeI tail).2.2 ≠ 0 ∨ ∃ n k, takeI tail = (n, k, 0) ∧ tail.length - k < n))) := by
  induction m with
  | zero =>
    intro zs hl hb
    exact ⟨[], [], by have : zs = [] := List.eq_nil_of_length_eq_zero (by omega); simp [this, vecs], .inl rfl⟩
  | succ m ih =>
    intro zs hl hb
    by_cases h0 : zs = []
    · exact ⟨[], [], by simp [h0, vecs], .inl rfl⟩
    by_cases h1 : (takeI zs).2.2 = 0
    · obtain ⟨n, k, ht⟩ : ∃ n k, takeI zs = (n, k, 0) := ⟨(takeI zs).1, (takeI zs).2.1, by rw [← h1]⟩
      by_cases h2 : zs.length - k < n
      · exact ⟨[], zs, by simp [vecs], .inr ⟨h0, .inr ⟨n, k, ht, h2⟩⟩⟩
      · have hv := vecB_take hb ht (by omega)
        obtain ⟨p1, p2, p3, p4⟩ := takeI_ok hb (by rw [ht])
        rw [ht] at p1 p2 p3 p4
        dsimp only at p1 p2 p3 p4
        obtain ⟨yss, tail, hy, htl⟩ := ih (zs.drop (k + n).toNat) (by rw [List.length_drop]; omega) (hb.drop _)
        refine ⟨((zs.take (k + n).toNat).drop k.toNat) :: yss, tail, ?_, htl⟩
        rw [vecs_cons, hv, List.append_assoc, ← hy, List.take_append_drop]
    · exact ⟨[], zs, by simp [vecs], .inr ⟨h0, .inl h1⟩⟩
end Go.Proofs.Ytegeflbppagbkaa

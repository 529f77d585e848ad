/- A tree in an array: what two nodes have in common. Nothing here names a program. -/
import Derived.Test.YtlohedmpcjpaeaaDoorMthS
set_option linter.unusedVariables false
namespace Go.Proofs.YtlohedmpcjpaeaaDoor
namespace Mth
/-- y is p, or under it. -/
def insB (y p : Nat) : Bool := Nat.ble (p - (2 ^ lvl p - 1)) y && Nat.ble y (p + (2 ^ lvl p - 1))
/-- The first node from x on, upward, that has y under it. -/
def comcF : Nat → Nat → Nat → Nat
  | 0, x, _ => x
  | f + 1, x, y => bif insB y x then x else comcF f (par x) y
def comc (x y : Nat) : Nat := comcF 10 x y
theorem insB_root {n y : Nat} (hn : n ∈ fulls) (hy : y < 2 * n - 1) : insB y (n - 1) = true := by
  have h : ∀ m ∈ fulls, 2 ^ lvl (m - 1) - 1 = m - 1 := by decide +kernel
  unfold insB
  rw [h n hn, Bool.and_eq_true]
  exact ⟨Nat.ble_eq_true_of_le (by omega), Nat.ble_eq_true_of_le (by omega)⟩
theorem insB_leaf {p j : Nat} (hp : p < 511) : insB (2 * j) p = hasB p j := by
  have h : (List.range 511).all (fun p => Nat.beq ((p - (2 ^ lvl p - 1)) % 2) 0 && Nat.beq ((p + (2 ^ lvl p - 1)) % 2) 0) = true := by decide +kernel
  have := List.all_eq_true.1 h p (List.mem_range.2 hp)
  rw [Bool.and_eq_true] at this
  have h1 := Nat.eq_of_beq_eq_true this.1
  have h2 := Nat.eq_of_beq_eq_true this.2
  rw [Bool.eq_iff_iff, hasB_iff]
  unfold insB lo hi
  rw [Bool.and_eq_true, Nat.ble_eq, Nat.ble_eq]
  omega
theorem mem_bd {n : Nat} (hn : n ∈ fulls) : 1 ≤ n ∧ n ≤ 256 := by
  have : ∀ m ∈ fulls, 1 ≤ m ∧ m ≤ 256 := by decide +kernel
  exact this n hn
theorem comcF_leaf {n j : Nat} (hn : n ∈ fulls) (hj : j < n) : ∀ (f z : Nat), z < 2 * n - 1 → lvl (n - 1) ≤ lvl z + f → comcF (f + 1) z (2 * j) = commF (z :: pathF f z n) (2 * j) := by
  have hb := mem_bd hn
  intro f
  induction f with
  | zero =>
    intro z hz hf
    have e : z = n - 1 := (top_at hn hz).root.resolve_right (by omega)
    have hu := under_leaf hn (j := j) (by omega) hz
    have hi := insB_leaf (p := z) (j := j) (by omega)
    have hr := insB_root hn (y := 2 * j) (by omega)
    rw [← e] at hr
    unfold comcF commF
    rw [hu, ← hi, hr]
    rfl
  | succ f ih =>
    intro z hz hf
    have hu := under_leaf hn (j := j) (by omega) hz
    have hi := insB_leaf (p := z) (j := j) (by omega)
    show (bif insB (2 * j) z then z else comcF (f + 1) (par z) (2 * j)) = (bif underB (2 * j) z then z else commF (pathF (f + 1) z n) (2 * j))
    rw [hu, ← hi]
    cases hc : insB (2 * j) z with
    | true => rfl
    | false =>
      have hr : z ≠ n - 1 := fun e => by rw [e, insB_root hn (by omega)] at hc; cases hc
      have st := step_at hn hz hr
      have hbq : Nat.beq z (n - 1) = false := by
        cases e : Nat.beq z (n - 1) with
        | false => rfl
        | true => exact absurd (Nat.eq_of_beq_eq_true e) hr
      have e2 : pathF (f + 1) z n = par z :: pathF f (par z) n := by show (bif Nat.beq z (n - 1) then [] else _) = _; rw [hbq]; rfl
      rw [e2]
      exact ih (par z) st.inP (by rw [st.up]; omega)
theorem comc_leaf {n i j : Nat} (hn : n ∈ fulls) (hi : i < n) (hj : j < n) : comc (2 * i) (2 * j) = comm (2 * i) (2 * j) n :=
  comcF_leaf hn hj 9 (2 * i) (by omega) (by
    have : ∀ m ∈ fulls, lvl (m - 1) ≤ 9 := by decide +kernel
    have := this n hn
    omega)
/-- What siblings have in common. -/
theorem comc_sib {n x : Nat} (hn : n ∈ fulls) (hx : x < 2 * n - 1) (hr : x ≠ n - 1) : comc x (sib x) = par x := by
  have h : allB (fun n x => Nat.beq x (n - 1) || Nat.beq (comc x (sib x)) (par x)) = true := by decide +kernel
  have h1 := allB_at h hn hx
  simp only [Bool.or_eq_true] at h1
  rcases h1 with e | e
  · exact absurd (Nat.eq_of_beq_eq_true e) hr
  · exact Nat.eq_of_beq_eq_true e
/-- Of two leaves the one's copath has just one node that has the other one, and its parent is what they have in common. -/
theorem meet_leaves' {n i j : Nat} (hn : n ∈ fulls) (hi : i < n) (hj : j < n) (hne : i ≠ j) : cnt j (copath (2 * i) n) = 1 ∧ ∃ y ∈ copath (2 * i) n, hasB y j = true ∧ comc (2 * i) (2 * j) = par y := by
  obtain ⟨h1, y, h2, h3, h4⟩ := meet_leaves hn hi hj hne
  exact ⟨h1, y, h2, h3, by rw [comc_leaf hn hi hj, h4]⟩
end Mth
end Go.Proofs.YtlohedmpcjpaeaaDoor

/- Walks: a tree's size, a node, levels (the program's own, unexported). -/
import Derived.Test.YtlohedmpcjpaeaaDoorMthM
import Derived.Test.YtlohedmpcjpaeaaDoorMthS
set_option linter.unusedSimpArgs false
set_option linter.unusedVariables false
namespace Go.Proofs.YtlohedmpcjpaeaaDoor
open Go.RowKit

def treeB (n : Int) : Bool := decide (0 < n) && decide (n ≤ 256) && Mth.fullB n.toNat
theorem tree_and {n : Int} (h0 : 0 < n) (h1 : n ≤ 256) : (bits BinOp.and IntKind.i64 n (n - 1) == 0) = Mth.fullB n.toNat := by
  have h : (List.range 257).all (fun m => (Nat.beq m 0) || ((bits BinOp.and IntKind.i64 (m : Int) ((m : Int) - 1) == 0) == Mth.fullB m)) = true := by decide +kernel
  have := List.all_eq_true.1 h n.toNat (List.mem_range.2 (by omega))
  rw [Bool.or_eq_true] at this
  rcases this with e | e
  · have := Nat.eq_of_beq_eq_true e; omega
  · have e2 := eq_of_beq e
    have e3 : ((n.toNat : Nat) : Int) = n := by omega
    rwa [e3] at e2

theorem tree_any (n : Int) (w : World) (h : I64 n) : Calls Tryd.prog 34 #[.int .i64 n] w fun e w' => e = .returned (.bool (treeB n)) ∧ w = w' := by
  obtain ⟨hl, hu⟩ := h
  by_cases h0 : 0 < n
  · have hd0 : decide (0 < n) = true := decide_eq_true h0
    by_cases h1 : n ≤ 256
    · have ha := tree_and h0 h1
      have hd1 : decide (n ≤ 256) = true := decide_eq_true h1
      have HT := Shut.mk (show treeB n = Mth.fullB n.toNat by unfold treeB; rw [decide_eq_true h0, decide_eq_true h1]; rfl)
      generalize Mth.fullB n.toNat = b at ha HT
      go_enter Tryd.func34, Tryd.ntmps34
      go_wp2
      go_ret
      exact ⟨by rw [HT.out]; rfl, rfl⟩
    · have hd1 : decide (n ≤ 256) = false := decide_eq_false h1
      have HT := Shut.mk (show treeB n = false by unfold treeB; rw [decide_eq_false h1, Bool.and_false]; rfl)
      go_enter Tryd.func34, Tryd.ntmps34
      go_wp2
      go_ret
      exact ⟨by rw [HT.out]; rfl, rfl⟩
  · have hd0 : decide (0 < n) = false := decide_eq_false h0
    have HT := Shut.mk (show treeB n = false by unfold treeB; rw [decide_eq_false h0]; rfl)
    go_enter Tryd.func34, Tryd.ntmps34
    go_wp2
    go_ret
    exact ⟨by rw [HT.out]; rfl, rfl⟩

theorem treeB_true {n : Int} (h : treeB n = true) : 0 < n ∧ n ≤ 256 ∧ n.toNat ∈ Mth.fulls := by
  unfold treeB at h
  rw [Bool.and_eq_true, Bool.and_eq_true] at h
  refine ⟨of_decide_eq_true h.1.1, of_decide_eq_true h.1.2, ?_⟩
  have h2 := h.2
  unfold Mth.fullB at h2
  obtain ⟨m, hm, he⟩ := List.any_eq_true.1 h2
  rw [Nat.eq_of_beq_eq_true he]
  exact hm
theorem treeB_mk {n : Nat} (h : n ∈ Mth.fulls) : treeB (n : Int) = true := by
  have : ∀ m ∈ Mth.fulls, treeB (m : Int) = true := by decide +kernel
  exact this n h

theorem width_any (n : Int) (w : World) (h0 : 0 < n) (h1 : n ≤ 256) : Calls Tryd.prog 36 #[.int .i64 n] w fun e w' => e = .returned (.int .i64 (2 * n - 1)) ∧ w = w' := by
  go_enter Tryd.func36, Tryd.ntmps36
  go_wp2
  go_ret
  exact ⟨rfl, rfl⟩
theorem root_any (n : Int) (w : World) (h0 : 0 < n) (h1 : n ≤ 256) : Calls Tryd.prog 39 #[.int .i64 n] w fun e w' => e = .returned (.int .i64 (n - 1)) ∧ w = w' := by
  go_enter Tryd.func39, Tryd.ntmps39
  go_wp2
  go_ret
  exact ⟨rfl, rfl⟩

/-- x is a node of a tree of n leaves. -/
def inB (x n : Int) : Bool := treeB n && decide (0 ≤ x) && decide (x < 2 * n - 1)
theorem inB_true {x n : Int} (h : inB x n = true) : treeB n = true ∧ 0 ≤ x ∧ x < 2 * n - 1 := by
  unfold inB at h
  rw [Bool.and_eq_true, Bool.and_eq_true] at h
  exact ⟨h.1.1, of_decide_eq_true h.1.2, of_decide_eq_true h.2⟩
theorem inB_mk {x n : Int} (h : treeB n = true) (h0 : 0 ≤ x) (h1 : x < 2 * n - 1) : inB x n = true := by
  unfold inB
  rw [h, decide_eq_true h0, decide_eq_true h1]; rfl
theorem within_any (x n : Int) (w : World) (hx : I64 x) (h : I64 n) : Calls Tryd.prog 60 #[.int .i64 x, .int .i64 n] w fun e w' => e = .returned (.bool (inB x n)) ∧ w = w' := by
  have HT := Lib.hid (fun w => tree_any n w h)
  obtain ⟨hl, hu⟩ := hx
  cases ht : treeB n with
  | false =>
    have HR := Shut.mk (show inB x n = false by unfold inB; rw [ht]; rfl)
    rw [ht] at HT
    clear ht
    go_enter Tryd.func60, Tryd.ntmps60
    go_wp2_with (go_at_call 34; refine (HT.out _).mono ?_; rintro e w' ⟨rfl, rfl⟩)
    go_ret
    exact ⟨by rw [HR.out]; rfl, rfl⟩
  | true =>
    obtain ⟨h0, h1, _⟩ := treeB_true ht
    have HW := Lib.hid (fun w => width_any n w h0 h1)
    rw [ht] at HT
    by_cases x0 : 0 ≤ x
    · have hd0 : decide (0 ≤ x) = true := decide_eq_true x0
      have HR := Shut.mk (show inB x n = decide (x < 2 * n - 1) by unfold inB; rw [ht, hd0]; rfl)
      generalize hb : decide (x < 2 * n - 1) = b at HR
      clear ht
      go_enter Tryd.func60, Tryd.ntmps60
      go_wp2_with (first | (go_at_call 34; refine (HT.out _).mono ?_; rintro e w' ⟨rfl, rfl⟩) | (go_at_call 36; refine (HW.out _).mono ?_; rintro e w' ⟨rfl, rfl⟩))
      go_ret
      exact ⟨by rw [HR.out]; rfl, rfl⟩
    · have hd0 : decide (0 ≤ x) = false := decide_eq_false x0
      have HR := Shut.mk (show inB x n = false by unfold inB; rw [ht, hd0]; rfl)
      clear ht
      go_enter Tryd.func60, Tryd.ntmps60
      go_wp2_with (first | (go_at_call 34; refine (HT.out _).mono ?_; rintro e w' ⟨rfl, rfl⟩) | (go_at_call 36; refine (HW.out _).mono ?_; rintro e w' ⟨rfl, rfl⟩))
      go_ret
      exact ⟨by rw [HR.out]; rfl, rfl⟩
theorem anywhere_any (x : Int) (w : World) (hx : I64 x) : Calls Tryd.prog 40 #[.int .i64 x] w fun e w' => e = .returned (.bool (inB x 256)) ∧ w = w' := by
  have HT := Lib.hid (fun w => within_any x 256 w hx ⟨by omega, by omega⟩)
  go_enter Tryd.func40, Tryd.ntmps40
  go_wp2_with (go_at_call 60; refine (HT.out _).mono ?_; rintro e w' ⟨rfl, rfl⟩)
  go_ret
  exact ⟨rfl, rfl⟩
/-- x is a node that is not the root. -/
def upB (x n : Int) : Bool := inB x n && (x != n - 1)
theorem upB_true {x n : Int} (h : upB x n = true) : inB x n = true ∧ x ≠ n - 1 := by
  unfold upB at h
  rw [Bool.and_eq_true] at h
  exact ⟨h.1, by simpa using h.2⟩
theorem hasParent_any (x n : Int) (w : World) (hx : I64 x) (h : I64 n) : Calls Tryd.prog 53 #[.int .i64 x, .int .i64 n] w fun e w' => e = .returned (.bool (upB x n)) ∧ w = w' := by
  have HT := Lib.hid (fun w => within_any x n w hx h)
  cases ht : inB x n with
  | false =>
    have HR := Shut.mk (show upB x n = false by unfold upB; rw [ht]; rfl)
    rw [ht] at HT
    clear ht
    go_enter Tryd.func53, Tryd.ntmps53
    go_wp2_with (go_at_call 60; refine (HT.out _).mono ?_; rintro e w' ⟨rfl, rfl⟩)
    go_ret
    exact ⟨by rw [HR.out]; rfl, rfl⟩
  | true =>
    obtain ⟨h0, h1, _⟩ := treeB_true (inB_true ht).1
    have HW := Lib.hid (fun w => root_any n w h0 h1)
    have HR := Shut.mk (show upB x n = (x != n - 1) by unfold upB; rw [ht]; rfl)
    generalize hb : (x != n - 1) = b at HR
    rw [ht] at HT
    clear ht
    go_enter Tryd.func53, Tryd.ntmps53
    go_wp2_with (first | (go_at_call 60; refine (HT.out _).mono ?_; rintro e w' ⟨rfl, rfl⟩) | (go_at_call 39; refine (HW.out _).mono ?_; rintro e w' ⟨rfl, rfl⟩))
    go_ret
    exact ⟨by rw [HR.out]; rfl, rfl⟩
end Go.Proofs.YtlohedmpcjpaeaaDoor

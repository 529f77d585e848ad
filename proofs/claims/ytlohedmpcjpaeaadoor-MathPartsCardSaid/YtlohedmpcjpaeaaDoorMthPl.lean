/- What the statement MathParts asks of plain numbers; rows of counts; make([]int, n). -/
import Derived.Test.YtlohedmpcjpaeaaDoorMthL
set_option linter.unusedSimpArgs false
set_option linter.unusedVariables false
namespace Go.Proofs.YtlohedmpcjpaeaaDoor
open Go.RowKit

structure PF (x n L : Nat) (pl co : List Nat) (z : Nat → Nat) : Prop where
  z0 : z 0 = x
  zL : z L = n - 1
  pll : pl.length = L
  col : co.length = L
  pa : ∀ c, c < L → pl.getD c 0 = z (c + 1)
  ca : ∀ c, c < L → co.getD c 0 = Mth.sib (z c)
  zb : ∀ c, c ≤ L → z c < 511
  lv : ∀ c, c ≤ L → Mth.lvl (z c) = Mth.lvl x + c
  kid : ∀ c, c < L → (Mth.left (z (c + 1)) = z c ∧ Mth.right (z (c + 1)) = Mth.sib (z c)) ∨ (Mth.right (z (c + 1)) = z c ∧ Mth.left (z (c + 1)) = Mth.sib (z c) ∧ Mth.left (z (c + 1)) ≠ z c)
  sb : ∀ c, c < L → Mth.sib (z c) < 511
  inn : ∀ y ∈ x :: co, y < 511 ∧ Mth.hi y ≤ n ∧ Mth.lo y < Mth.hi y
  one : ∀ k, k < n → Mth.cnt k (x :: co) = 1
  L8 : L ≤ 8
theorem pf_of {x n : Nat} (hn : n ∈ Mth.fulls) (hx : x < 2 * n - 1) : ∃ L z, PF x n L (Mth.path x n) (Mth.copath x n) z := by
  have hp := Mth.path_of hn hx
  have hl8 := lvl_top hn
  have hnb := fulls_bd hn
  have htop := (Mth.top_at hn hx).le
  have hzr : ∀ c, c ≤ Mth.lvl (n - 1) - Mth.lvl x → Mth.itr c x < 2 * n - 1 ∧ Mth.lvl (Mth.itr c x) = Mth.lvl x + c := fun c hc => by
    by_cases e : c < Mth.lvl (n - 1) - Mth.lvl x
    · obtain ⟨_, _, a, _, b⟩ := hp.at' c e
      exact ⟨a, b⟩
    · have e2 : c = Mth.lvl (n - 1) - Mth.lvl x := by omega
      rw [e2, hp.last]
      exact ⟨by omega, by omega⟩
  have hst : ∀ c, c < Mth.lvl (n - 1) - Mth.lvl x → Mth.StepP n (Mth.itr c x) := fun c hc => by
    obtain ⟨_, _, a, b, _⟩ := hp.at' c hc
    exact Mth.step_at hn a b
  refine ⟨_, fun c => Mth.itr c x, rfl, hp.last, hp.len, hp.clen, fun c hc => (hp.at' c hc).1, fun c hc => (hp.at' c hc).2.1, fun c hc => by have := (hzr c hc).1; omega, fun c hc => (hzr c hc).2, fun c hc => ?_, fun c hc => by have := (hst c hc).inS; omega, fun y hy => ?_, Mth.parts_once hn hx, by omega⟩
  · have h := (hst c hc).kids
    rw [← Mth.itr_succ] at h
    rcases h with h | h
    · exact .inl h
    · refine .inr ⟨h.1, h.2, fun e => ?_⟩
      have hb := (hzr (c + 1) (by omega))
      have hl : 0 < Mth.lvl (Mth.itr (c + 1) x) := by omega
      have := (pow_le (i := Mth.lvl (Mth.itr (c + 1) x) - 1) (by have := lvl_le (x := Mth.itr (c + 1) x) (by omega); omega)).1
      have hlp := lvl_pow (x := Mth.itr (c + 1) x) (by omega) hl
      have e1 := h.1
      unfold Mth.left at e
      unfold Mth.right at e1
      omega
  · have h := Mth.allB_at Mth.part_all hn hx
    unfold Mth.partB at h
    rw [Bool.and_eq_true, Bool.and_eq_true] at h
    have := List.all_eq_true.1 h.2 y hy
    rw [Bool.and_eq_true] at this
    refine ⟨?_, Nat.le_of_ble_eq_true this.1, Nat.le_of_ble_eq_true this.2⟩
    rcases List.mem_cons.1 hy with rfl | hy
    · omega
    · obtain ⟨c, hc, hg⟩ := List.getElem_of_mem hy
      have hcl : (Mth.copath x n).length = _ := hp.clen
      have h2 := (hp.at' c (by omega)).2.1
      have h2 : (Mth.copath x n).getD c 0 = Mth.sib (Mth.itr c x) := h2
      rw [List.getD_eq_getElem?_getD, List.getElem?_eq_getElem hc, hg] at h2
      have h2 : y = Mth.sib (Mth.itr c x) := h2
      have := (hst c (by omega)).inS
      omega
/-- A row of counts. -/
def rowN (n : Nat) (f : Nat → Nat) : List Value := (List.range n).map fun k => Value.int .i64 ((f k : Nat) : Int)
theorem rowN_len (n : Nat) (f : Nat → Nat) : (rowN n f).length = n := by simp [rowN]
theorem rowN_at {n : Nat} {f : Nat → Nat} {k : Nat} (h : k < n) : (rowN n f)[k]? = some (.int .i64 ((f k : Nat) : Int)) := by
  simp [rowN, List.getElem?_map, List.getElem?_range h]
theorem rowN_set {n : Nat} {f : Nat → Nat} {i : Nat} (v : Nat) : (rowN n f).set i (.int .i64 (v : Int)) = rowN n (fun k => if k = i then v else f k) := by
  refine List.ext_getElem? fun k => ?_
  by_cases hk : k < n
  · rw [rowN_at hk, List.getElem?_set]
    by_cases e : i = k
    · subst e
      rw [if_pos rfl, if_pos (by rw [rowN_len]; exact hk), if_pos rfl]
    · rw [if_neg e, rowN_at hk, if_neg (Ne.symm e)]
  · rw [List.getElem?_eq_none (by rw [List.length_set, rowN_len]; omega), List.getElem?_eq_none (by rw [rowN_len]; omega)]
theorem rowN_zero (n : Nat) : (List.replicate n (0 : Int)).map (Value.int .i64) = rowN n (fun _ => 0) := by
  refine List.ext_getElem? fun k => ?_
  by_cases hk : k < n
  · rw [rowN_at hk]
    simp [List.getElem?_map, List.getElem?_replicate, hk]
  · rw [List.getElem?_eq_none (by simp; omega), List.getElem?_eq_none (by rw [rowN_len]; omega)]
/-- make([]int, n). -/
theorem go_mki {w : World} {ops : Array Oper} {rest : List Oper} {a : Act} {Q : Exit → Act → World → Prop} {d : Option Tmp} {ty : TypeId} {ps : String} {af : Array Edge} {l c : Operand}
    (n : Nat) (hl : a.eval l = .int .i64 n) (hc : a.eval c = .int .i64 n) (h1 : n ≤ 1000000)
    (hK : ∀ w', Blk w' w.heap.size 3 (rowN n fun _ => 0) → Kept w w' → wpList Tryd.prog ops Q rest (a.put d (.slice (some ⟨w.heap.size, 0, none⟩) n n)) w') :
    wpList Tryd.prog ops Q (⟨d, .makeSlice 32 l c, ty, ps, af, none⟩ :: rest) a w := by
  obtain ⟨i0, hi, hz0, hz1, hz2⟩ := info_parts Tryd.infoInt
  refine wpList_make_full w rfl l c 32 rfl w.heap.size 3 i0 (.int .i64 0) 1 Tryd.underlying32 hi hz0 hz1 .i64 .i64 n n n hl hc rfl rfl (by rw [hz2]; omega) (by unfold maxLen; omega) (Nat.le_refl _) ?_
  intro w' ho hg
  refine hK w' ?_ ((Below.refl w.heap.size w).grown hg (Nat.le_refl _) fun k hk => by cases hk)
  have ho2 : Ownv w.heap.size 3 1 w' (.slice (some ⟨w.heap.size, 0, none⟩) n n) n ((List.replicate n (0 : Int)).map (Value.int .i64)) := by
    unfold Ownv
    rw [List.map_replicate]
    simpa [toList_madeCells_one, Value.cells] using ho
  rw [rowN_zero] at ho2
  exact (Ownv.blk ho2).1
theorem cnt_take {b : Nat} {l : List Nat} {c : Nat} (h : c < l.length) : Mth.cnt b (l.take (c + 1)) = Mth.cnt b (l.take c) + (bif Mth.hasB (l.getD c 0) b then 1 else 0) := by
  have e : l.take (c + 1) = l.take c ++ [l.getD c 0] := by
    rw [List.take_succ_eq_append_getElem h, List.getD_eq_getElem?_getD, List.getElem?_eq_getElem h]; rfl
  have s : ∀ l y, Mth.cnt b (l ++ [y]) = Mth.cnt b l + (bif Mth.hasB y b then 1 else 0) := by
    intro l y
    induction l with
    | nil => simp [Mth.cnt]
    | cons z l ih => show _ + Mth.cnt b (l ++ [y]) = _ + Mth.cnt b l + _; rw [ih]; omega
  rw [e, s]
theorem cnt_len (b : Nat) (l : List Nat) : Mth.cnt b l ≤ l.length := by
  induction l with
  | nil => simp [Mth.cnt]
  | cons z l ih =>
    show (bif Mth.hasB z b then 1 else 0) + Mth.cnt b l ≤ l.length + 1
    cases Mth.hasB z b <;> simp <;> omega
/-- What was there is read as before, when new memory and one new block alone have turned. -/
theorem RdI.turnB {w0 w w' : World} {v : Value} {zs : List Int} {M : Nat} (h : RdI w0 v zs) (hk : Kept w0 w) (t : Turn (fun b => b = M) w w') (hM : w0.heap.size ≤ M) : RdI w' v zs := by
  obtain ⟨a, cap, rfl, h1, h2, h3, h4, h5⟩ := h
  refine ⟨a, cap, rfl, h1, h2, h3, h4, fun ad ha j u hj => ?_⟩
  have hc := h5 ad ha j u hj
  have hb := World.block_lt_of_cell? _ _ hc
  have hc2 := (Below.cell hk hb).trans hc
  have hb2 := World.block_lt_of_cell? _ _ hc2
  exact (World.cell?_of_block (t.block _ hb2 (by omega))).trans hc2
theorem OwnI.turnM {B M : Nat} {w w' : World} {v : Value} {zs : List Int} (h : OwnI B w v zs) (t : Turn (fun b => b = M) w w') (hM : M < B) : OwnI B w' v zs :=
  Ownv.turn h t fun b hb e => by have := (Ownv.lt h hb).2; omega
theorem ints_cons (x : Nat) (l : List Nat) : [(x : Int)] ++ ints l = ints (x :: l) := rfl
end Go.Proofs.YtlohedmpcjpaeaaDoor

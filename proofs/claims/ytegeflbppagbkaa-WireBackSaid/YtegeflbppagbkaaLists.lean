/- Lists of slices of bytes; sums over them; the statements' own helpers 'big' and 'SameList'. -/
import Derived.Test.YtegeflbppagbkaaBase
import Derived.Outline
set_option linter.unusedSimpArgs false
set_option linter.unusedVariables false
namespace Go.Proofs.Ytegeflbppagbkaa
open Go.RowKit

/-- v is a slice of slices of bytes. -/
def Rds (w : World) (v : Value) (xss : List (List Int)) : Prop :=
  ∃ vs : List Value, vs.length = xss.length ∧ Rdv 1 w v xss.length vs ∧ ∀ i, i < xss.length → Rd w (vs.getD i undef) (xss.getD i [])

theorem Rds.kept {w w' : World} {v : Value} {xss : List (List Int)} (h : Rds w v xss) (k : Kept w w') : Rds w' v xss := by
  obtain ⟨vs, h1, h2, h3⟩ := h
  exact ⟨vs, h1, h2.kept k, fun i hi => (h3 i hi).kept k⟩

def Olds (B : Nat) (w : World) (v : Value) (xss : List (List Int)) : Prop := ∃ w0 : World, w0.heap.size ≤ B ∧ Below B w0 w ∧ Rds w0 v xss
theorem Olds.rds {B : Nat} {w : World} {v : Value} {zs : List (List Int)} (h : Olds B w v zs) : Rds w v zs := by
  obtain ⟨w0, h1, h2, h3⟩ := h
  exact h3.kept (Below.mono h2 h1)
theorem Olds.below {B : Nat} {w w' : World} {v : Value} {zs : List (List Int)} (h : Olds B w v zs) (k : Below B w w') : Olds B w' v zs := by
  obtain ⟨w0, h1, h2, h3⟩ := h
  exact ⟨w0, h1, h2.trans k, h3⟩
theorem Rds.olds {w : World} {v : Value} {zs : List (List Int)} (h : Rds w v zs) : Olds w.heap.size w v zs := ⟨w, Nat.le_refl _, Below.refl _ _, h⟩

theorem Rds.len {w : World} {v : Value} {xss : List (List Int)} (h : Rds w v xss) : ∃ a cap, v = .slice a xss.length cap ∧ xss.length ≤ cap ∧ cap ≤ maxLen ∧ (a = none → cap = 0) := by
  obtain ⟨vs, _, ⟨a, cap, rfl, _, h2, h3, h4, _⟩, _⟩ := h
  exact ⟨a, cap, rfl, h2, h3, h4⟩

theorem Rds.nil (w : World) : Rds w (.slice none 0 0) [] := ⟨[], rfl, ⟨none, 0, rfl, rfl, Nat.le_refl _, Nat.zero_le _, fun _ => rfl, fun _ h => by cases h⟩, fun i hi => by simp at hi⟩

/-- A slice of slices that is not empty: its address, its cells, and what each reads as. -/
theorem Rds.addr {w : World} {v : Value} {xss : List (List Int)} (h : Rds w v xss) (hp : 0 < xss.length) :
    ∃ b off cap, ∃ vs : List Value, v = .slice (some ⟨b, off, none⟩) xss.length cap ∧ xss.length ≤ cap ∧ cap ≤ maxLen ∧ b < w.heap.size ∧
      (∀ i, i < xss.length → w.cell? ⟨b, off + i, none⟩ = some (vs.getD i undef)) ∧ ∀ i, i < xss.length → Rd w (vs.getD i undef) (xss.getD i []) := by
  obtain ⟨vs, hvs, ⟨ao, cap, rfl, hl, hc, hm, hno, hcell⟩, hr⟩ := h
  cases ao with
  | none => have := hno rfl; omega
  | some ad =>
    obtain ⟨b, off, spot⟩ := ad
    have hg : ∀ i, i < xss.length → w.cell? ((⟨b, off, spot⟩ : Addr).add i) = some (vs.getD i undef) := by
      intro i hi
      refine hcell _ rfl i _ ?_
      simp [List.getD, List.getElem?_eq_getElem (show i < vs.length by omega)]
    have h0 := hg 0 hp
    obtain rfl : spot = none := by simpa [Addr.add] using World.cell?_spot h0
    refine ⟨b, off, cap, vs, rfl, hc, hm, World.block_lt_of_cell? _ _ h0, fun i hi => ?_, hr⟩
    have := hg i hi
    rwa [Addr.add_lit] at this

/-- A literal list of slices of bytes. -/
theorem Rds.lit {w : World} (e : TypeId) (vs : List Value) (xss : List (List Int)) (hl : vs.length = xss.length) (hm : vs.length ≤ 1000000) (hr : ∀ i, i < xss.length → Rd w (vs.getD i undef) (xss.getD i [])) :
    Rds (w.alloc (.cells vs.toArray e)) (.slice (some ⟨w.heap.size, 0, none⟩) vs.length vs.length) xss := by
  have h0 := (Ownv.lit (B := w.heap.size) e (w := w) vs (Nat.le_refl _) (by unfold maxLen; omega)).rdv
  refine ⟨vs, hl, by rw [← hl]; exact h0, fun i hi => (hr i hi).kept ((Kept.refl w).alloc _)⟩
theorem Rds.lit1 {w : World} (e : TypeId) {v : Value} {zs : List Int} (h : Rd w v zs) : Rds (w.alloc (.cells #[v] e)) (.slice (some ⟨w.heap.size, 0, none⟩) 1 1) [zs] :=
  Rds.lit e [v] [zs] rfl (by simp) (fun i hi => by obtain rfl : i = 0 := by simp at hi; omega
                                                   exact h)

/-- Sums over lists. -/
def lsum (f : List Int → Int) : List (List Int) → Int
  | [] => 0
  | x :: r => f x + lsum f r

theorem lsum_append (f : List Int → Int) (a b : List (List Int)) : lsum f (a ++ b) = lsum f a + lsum f b := by
  induction a with
  | nil => simp [lsum]
  | cons x r ih => simp only [List.cons_append, lsum, ih]; omega
theorem lsum_take (f : List Int → Int) (l : List (List Int)) (k : Nat) (h : k < l.length) : lsum f (l.take (k + 1)) = lsum f (l.take k) + f (l.getD k []) := by
  rw [List.take_succ_eq_append_getElem h, lsum_append]
  simp [lsum, List.getD, List.getElem?_eq_getElem h]
theorem lsum_nonneg (f : List Int → Int) (hf : ∀ x, 0 ≤ f x) (l : List (List Int)) : 0 ≤ lsum f l := by
  induction l with
  | nil => simp [lsum]
  | cons x r ih => have := hf x; simp only [lsum]; omega
theorem lsum_take_le (f : List Int → Int) (hf : ∀ x, 0 ≤ f x) (l : List (List Int)) (k : Nat) : lsum f (l.take k) ≤ lsum f l := by
  have h := lsum_append f (l.take k) (l.drop k)
  rw [List.take_append_drop] at h
  have := lsum_nonneg f hf (l.drop k)
  omega

/-- What 'big' counts. -/
def bigN (x : List Int) : Int := x.length + 1
theorem bigN_nonneg (x : List Int) : 0 ≤ bigN x := by unfold bigN; omega

theorem big_any (v : Value) (xss : List (List Int)) (w : World) (h : Rds w v xss) (hs : lsum bigN xss ≤ 9223372036854775807) :
    Calls Try.prog 5 #[v] w fun e w' => e = .returned (.bool (decide (100000 < lsum bigN xss))) ∧ w = w' := by
  by_cases hp : 0 < xss.length
  · obtain ⟨b, off, cap, vs, rfl, hc, hm, hb, hcell, hr⟩ := h.addr hp
    have HX := Lib.hid hcell; clear hcell
    have HR := Lib.hid hr; clear hr
    have HS := Lib.hid hs; clear hs
    unfold maxLen at hm
    go_enter Try.func5, Try.ntmps5
    go_wp2
    go_loop [3, 8] (fun n i => ∃ k : Nat, k ≤ xss.length ∧ i = .int .i64 k ∧ n = .int .i64 (lsum bigN (xss.take k))) (fun _ i => xss.length - (intOf i).toNat)
    case atStart => exact ⟨0, Nat.zero_le _, rfl, rfl⟩
    case round =>
      obtain ⟨k, hk, rfl, rfl⟩ := hrel
      by_cases hlt : k < xss.length
      · have hcx := HX.out k hlt
        have hrx := HR.out k hlt
        have t1 := Lib.hid (lsum_take bigN xss k hlt)
        have t2 := lsum_take_le bigN bigN_nonneg xss (k + 1)
        have t3 := lsum_nonneg bigN bigN_nonneg (xss.take k)
        have t4 := HS.out
        rw [t1.out] at t2
        generalize vs.getD k undef = y at *
        obtain ⟨ya, ycap, rfl, y1, y2, y3⟩ := hrx.len
        have t5 : bigN (xss.getD k []) = (xss.getD k []).length + 1 := rfl
        rw [t5] at t1 t2
        clear t5
        generalize xss.getD k [] = ys at *
        generalize lsum bigN (xss.take k) = s at *
        generalize lsum bigN xss = s2 at *
        go_wp2
        go_round
        case rel => exact ⟨k + 1, by omega, by go_num, by rw [t1.out]⟩
        case measure => simp [intOf]; omega
      · obtain rfl : k = xss.length := by omega
        have ht : xss.take xss.length = xss := List.take_length
        rw [ht]
        go_wp2
        go_ret
        exact ⟨rfl, rfl⟩
  · obtain rfl : xss = [] := List.eq_nil_of_length_eq_zero (by omega)
    obtain ⟨a, cap, rfl, h1, h2, h3⟩ := h.len
    go_enter Try.func5, Try.ntmps5
    go_wp2
    refine wp_loop_rounds 1 ?_
    rw [rounds_succ]
    go_wp2
    go_ret
    exact ⟨rfl, rfl⟩

theorem sameList_yes (va vb : Value) (xss : List (List Int)) (w : World) (ha : Rds w va xss) (hb : Rds w vb xss) :
    Calls Try.prog 8 #[va, vb] w fun e w' => e = .returned (.bool true) ∧ Kept w w' := by
  by_cases hp : 0 < xss.length
  · obtain ⟨b, off, cap, vs, rfl, hc, hm, hb1, hcell, hr⟩ := ha.addr hp
    obtain ⟨b', off', cap', vs', rfl, hc', hm', hb', hcell', hr'⟩ := hb.addr hp
    have HX := Lib.hid hcell; clear hcell
    have HR := Lib.hid hr; clear hr
    have HX' := Lib.hid hcell'; clear hcell'
    have HR' := Lib.hid hr'; clear hr'
    have hne : ((xss.length : Int) != xss.length) = false := by simp
    unfold maxLen at hm hm'
    go_enter Try.func8, Try.ntmps8
    go_wp2
    go_loopw [13] (fun i wr => ∃ k : Nat, k ≤ xss.length ∧ i = .int .i64 k ∧ Kept w wr) (fun i _ => xss.length - (intOf i).toNat)
    case atStart => exact ⟨0, Nat.zero_le _, rfl, Kept.refl _⟩
    case round =>
      obtain ⟨k, hk, rfl, hkept⟩ := hrel
      by_cases hlt : k < xss.length
      · have hcx : wr.cell? ⟨b, off + k, none⟩ = some (vs.getD k undef) := by rw [Below.cell hkept (by exact hb1)]; exact HX.out k hlt
        have hcy : wr.cell? ⟨b', off' + k, none⟩ = some (vs'.getD k undef) := by rw [Below.cell hkept (by exact hb')]; exact HX'.out k hlt
        have hsx := fun n => go_str_run (P := Try.prog) Try.underlying23 Try.underlying5 ((HR.out k hlt).kept (hkept.drewN n)) 9 Try.underlying9
        have hsy := fun n => go_str_run (P := Try.prog) Try.underlying23 Try.underlying5 ((HR'.out k hlt).kept (hkept.drewN n)) 9 Try.underlying9
        generalize vs.getD k undef = y at *
        generalize vs'.getD k undef = y' at *
        generalize strOfNums (xss.getD k []) = st at *
        go_wp2
        go_quiet (fail)
        go_wp2
        go_roundw
        case rel => exact ⟨k + 1, by omega, by go_num, hkept.drewN _⟩
        case measure => simp [intOf]; omega
      · obtain rfl : k = xss.length := by omega
        go_wp2
        go_ret
        exact ⟨rfl, hkept⟩
  · obtain rfl : xss = [] := List.eq_nil_of_length_eq_zero (by omega)
    obtain ⟨a, cap, rfl, h1, h2, h3⟩ := ha.len
    obtain ⟨a', cap', rfl, h1', h2', h3'⟩ := hb.len
    go_enter Try.func8, Try.ntmps8
    go_wp2
    refine wp_loop_rounds 1 ?_
    rw [rounds_succ]
    go_wp2
    go_ret
    exact ⟨rfl, Kept.refl _⟩
end Go.Proofs.Ytegeflbppagbkaa

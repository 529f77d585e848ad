/- Walks of package wire: numbers are read. -/
import Derived.Test.YtegeflbppagbkaaWireA
import Derived.Outline
set_option linter.unusedSimpArgs false
set_option linter.unusedVariables false
namespace Go.Proofs.Ytegeflbppagbkaa
open Go.RowKit

/-- Bytes' numbers are 0 to 255. -/
def By (zs : List Int) : Prop := ∀ z ∈ zs, 0 ≤ z ∧ z ≤ 255

theorem By.at {zs : List Int} (h : By zs) (i : Nat) : 0 ≤ zs.getD i 0 ∧ zs.getD i 0 ≤ 255 := by
  by_cases hi : i < zs.length
  · have : zs.getD i 0 = zs[i] := by simp [List.getD, List.getElem?_eq_getElem hi]
    rw [this]; exact h _ (List.getElem_mem hi)
  · have : zs.getD i 0 = 0 := by simp [List.getD, List.getElem?_eq_none (Nat.le_of_not_lt hi)]
    rw [this]; omega

/-- What is read at the beginning, its length, and what went wrong. -/
def takeI (zs : List Int) : Int × Int × Int :=
  if zs.length = 0 then (0, 0, 10) else
  if 192 ≤ zs.getD 0 0 then (0, 0, 11) else
  if zs.getD 0 0 < 64 then (zs.getD 0 0, 1, 0) else
  if zs.getD 0 0 < 128 then
    if zs.length < 2 then (0, 0, 10) else
    if (zs.getD 0 0 - 64) * 256 + zs.getD 1 0 < 64 then (0, 0, 11) else ((zs.getD 0 0 - 64) * 256 + zs.getD 1 0, 2, 0)
  else
    if zs.length < 4 then (0, 0, 10) else
    if (((zs.getD 0 0 - 128) * 256 + zs.getD 1 0) * 256 + zs.getD 2 0) * 256 + zs.getD 3 0 < 16384 then (0, 0, 11) else
      ((((zs.getD 0 0 - 128) * 256 + zs.getD 1 0) * 256 + zs.getD 2 0) * 256 + zs.getD 3 0, 4, 0)

theorem takeInt_1 (v : Value) (zs : List Int) (w : World) (h : Rd w v zs) (hb : By zs) (hp : 0 < zs.length) (h1 : zs.getD 0 0 < 64) :
    Calls Try.prog 10 #[v] w fun e w' => e = .returned (.tuple #[.int .i64 (zs.getD 0 0), .int .i64 1, .int .i64 0]) ∧ Kept w w' := by
  obtain ⟨b, off, cap, rfl, hc, hm, hbw, hcell⟩ := h.addr hp
  have c0 := hcell 0 hp
  obtain ⟨l0, u0⟩ := hb.at 0
  have HX := Lib.hid hcell; clear hcell
  obtain ⟨x, hx⟩ : ∃ x, x = zs.getD 0 0 := ⟨_, rfl⟩
  rw [← hx] at c0 l0 u0 h1 ⊢
  have HXX := Lib.hid hx; clear hx
  simp only [Nat.add_zero] at c0
  have hne : ((zs.length : Int) == 0) = false := by rw [beq_eq_false_iff_ne]; omega
  have hz : x / 64 = 0 := by omega
  have hmod : x % 64 = x := by omega
  have HC := Lib.hid (intSize_any x w)
  rw [isz_1 h1] at HC
  unfold maxLen at hm
  go_enter Try.func10, Try.ntmps10
  go_wp2_with fail
  all_goals
    refine wp_loop_rounds 1 ?_
    rw [rounds_succ]
    go_wp2_with (go_at_call 12; refine HC.out.mono ?_; rintro e w' ⟨rfl, rfl⟩)
    go_ret3
    exact ⟨rfl, Kept.refl _⟩

theorem i64_or8 (m y : Int) (h0 : 0 ≤ m) (h1 : m < 1099511627776) (y0 : 0 ≤ y) (y1 : y ≤ 255) : bits .or .i64 (m * 256) y = m * 256 + y :=
  bits_join .i64 63 (by decide) (fun n a b => IntWalk.i64_in n ⟨by omega, by omega⟩) 8 (m * 256) y (by omega) (by omega) (by omega) y0 (by omega) (by omega)

theorem takeInt_2 (v : Value) (zs : List Int) (w : World) (h : Rd w v zs) (hb : By zs) (hp : 2 ≤ zs.length) (h1 : 64 ≤ zs.getD 0 0) (h2 : zs.getD 0 0 < 128) (hn1 : 64 ≤ (zs.getD 0 0 - 64) * 256 + zs.getD 1 0) :
    Calls Try.prog 10 #[v] w fun e w' => e = .returned (.tuple #[.int .i64 ((zs.getD 0 0 - 64) * 256 + zs.getD 1 0), .int .i64 2, .int .i64 0]) ∧ Kept w w' := by
  obtain ⟨b, off, cap, rfl, hc, hm, hbw, hcell⟩ := h.addr (by omega)
  have c0 := hcell 0 (by omega)
  obtain ⟨l0, u0⟩ := hb.at 0
  have c1 := hcell 1 (by omega)
  obtain ⟨l1, u1⟩ := hb.at 1
  have HX := Lib.hid hcell; clear hcell
  generalize zs.getD 0 0 = x0 at *
  generalize zs.getD 1 0 = x1 at *
  simp only [Nat.add_zero] at c0
  have hne : ((zs.length : Int) == 0) = false := by rw [beq_eq_false_iff_ne]; omega
  have hz : x0 / 64 = 1 := by omega
  have hmod : x0 % 64 = x0 - 64 := by omega
  have hcap : ¬ cap = 1 := by omega
  have hor0 := i64_or8 (x0 - 64) (x1) (by omega) (by omega) (by omega) (by omega)
  have HC := Lib.hid (intSize_any ((x0 - 64) * 256 + x1) w)
  rw [isz_2 hn1 (by omega)] at HC
  unfold maxLen at hm
  go_enter Try.func10, Try.ntmps10
  go_wp2_with fail
  refine wp_loop_rounds 2 ?_
  rw [rounds_succ]
  go_wp2_with fail
  rw [rounds_succ]
  go_wp2_with (go_at_call 12; refine HC.out.mono ?_; rintro e w' ⟨rfl, rfl⟩)
  go_ret3
  exact ⟨rfl, Kept.refl _⟩

theorem takeInt_2n (v : Value) (zs : List Int) (w : World) (h : Rd w v zs) (hb : By zs) (hp : 2 ≤ zs.length) (h1 : 64 ≤ zs.getD 0 0) (h2 : zs.getD 0 0 < 128) (hn1 : (zs.getD 0 0 - 64) * 256 + zs.getD 1 0 < 64) :
    Calls Try.prog 10 #[v] w fun e w' => e = .returned (.tuple #[.int .i64 0, .int .i64 0, .int .i64 11]) ∧ Kept w w' := by
  obtain ⟨b, off, cap, rfl, hc, hm, hbw, hcell⟩ := h.addr (by omega)
  have c0 := hcell 0 (by omega)
  obtain ⟨l0, u0⟩ := hb.at 0
  have c1 := hcell 1 (by omega)
  obtain ⟨l1, u1⟩ := hb.at 1
  have HX := Lib.hid hcell; clear hcell
  generalize zs.getD 0 0 = x0 at *
  generalize zs.getD 1 0 = x1 at *
  simp only [Nat.add_zero] at c0
  have hne : ((zs.length : Int) == 0) = false := by rw [beq_eq_false_iff_ne]; omega
  have hz : x0 / 64 = 1 := by omega
  have hmod : x0 % 64 = x0 - 64 := by omega
  have hcap : ¬ cap = 1 := by omega
  have hor0 := i64_or8 (x0 - 64) (x1) (by omega) (by omega) (by omega) (by omega)
  have HC := Lib.hid (intSize_any ((x0 - 64) * 256 + x1) w)
  rw [isz_1 hn1] at HC
  unfold maxLen at hm
  go_enter Try.func10, Try.ntmps10
  go_wp2_with fail
  refine wp_loop_rounds 2 ?_
  rw [rounds_succ]
  go_wp2_with fail
  rw [rounds_succ]
  go_wp2_with (go_at_call 12; refine HC.out.mono ?_; rintro e w' ⟨rfl, rfl⟩)
  go_ret3
  exact ⟨rfl, Kept.refl _⟩

theorem takeInt_2s (v : Value) (zs : List Int) (w : World) (h : Rd w v zs) (hb : By zs) (hp : zs.length = 1) (h1 : 64 ≤ zs.getD 0 0) (h2 : zs.getD 0 0 < 128) :
    Calls Try.prog 10 #[v] w fun e w' => e = .returned (.tuple #[.int .i64 0, .int .i64 0, .int .i64 10]) ∧ Kept w w' := by
  obtain ⟨b, off, cap, rfl, hc, hm, hbw, hcell⟩ := h.addr (by omega)
  have c0 := hcell 0 (by omega)
  obtain ⟨l0, u0⟩ := hb.at 0
  have HX := Lib.hid hcell; clear hcell
  generalize zs.getD 0 0 = x0 at *
  have HP : zs.length < 2 := by omega
  have HP0 : 0 < zs.length := by omega
  clear hp
  simp only [Nat.add_zero] at c0
  have hne : ((zs.length : Int) == 0) = false := by rw [beq_eq_false_iff_ne]; omega
  have hz : x0 / 64 = 1 := by omega
  unfold maxLen at hm
  go_enter Try.func10, Try.ntmps10
  go_wp2
  go_ret3
  exact ⟨rfl, Kept.refl _⟩

theorem takeInt_4 (v : Value) (zs : List Int) (w : World) (h : Rd w v zs) (hb : By zs) (hp : 4 ≤ zs.length) (h1 : 128 ≤ zs.getD 0 0) (h2 : zs.getD 0 0 < 192) (hn1 : 16384 ≤ (((zs.getD 0 0 - 128) * 256 + zs.getD 1 0) * 256 + zs.getD 2 0) * 256 + zs.getD 3 0) :
    Calls Try.prog 10 #[v] w fun e w' => e = .returned (.tuple #[.int .i64 ((((zs.getD 0 0 - 128) * 256 + zs.getD 1 0) * 256 + zs.getD 2 0) * 256 + zs.getD 3 0), .int .i64 4, .int .i64 0]) ∧ Kept w w' := by
  obtain ⟨b, off, cap, rfl, hc, hm, hbw, hcell⟩ := h.addr (by omega)
  have c0 := hcell 0 (by omega)
  obtain ⟨l0, u0⟩ := hb.at 0
  have c1 := hcell 1 (by omega)
  obtain ⟨l1, u1⟩ := hb.at 1
  have c2 := hcell 2 (by omega)
  obtain ⟨l2, u2⟩ := hb.at 2
  have c3 := hcell 3 (by omega)
  obtain ⟨l3, u3⟩ := hb.at 3
  have HX := Lib.hid hcell; clear hcell
  generalize zs.getD 0 0 = x0 at *
  generalize zs.getD 1 0 = x1 at *
  generalize zs.getD 2 0 = x2 at *
  generalize zs.getD 3 0 = x3 at *
  simp only [Nat.add_zero] at c0
  have hne : ((zs.length : Int) == 0) = false := by rw [beq_eq_false_iff_ne]; omega
  have hz : x0 / 64 = 2 := by omega
  have hmod : x0 % 64 = x0 - 128 := by omega
  have hcap : ¬ cap = 1 := by omega
  have hor0 := i64_or8 (x0 - 128) (x1) (by omega) (by omega) (by omega) (by omega)
  have hor1 := i64_or8 ((x0 - 128) * 256 + x1) (x2) (by omega) (by omega) (by omega) (by omega)
  have hor2 := i64_or8 (((x0 - 128) * 256 + x1) * 256 + x2) (x3) (by omega) (by omega) (by omega) (by omega)
  have HC := Lib.hid (intSize_any ((((x0 - 128) * 256 + x1) * 256 + x2) * 256 + x3) w)
  rw [isz_4 hn1] at HC
  unfold maxLen at hm
  go_enter Try.func10, Try.ntmps10
  go_wp2_with fail
  refine wp_loop_rounds 4 ?_
  rw [rounds_succ]
  go_wp2_with fail
  rw [rounds_succ]
  go_wp2_with fail
  rw [rounds_succ]
  go_wp2_with fail
  rw [rounds_succ]
  go_wp2_with (go_at_call 12; refine HC.out.mono ?_; rintro e w' ⟨rfl, rfl⟩)
  go_ret3
  exact ⟨rfl, Kept.refl _⟩

theorem takeInt_4n (v : Value) (zs : List Int) (w : World) (h : Rd w v zs) (hb : By zs) (hp : 4 ≤ zs.length) (h1 : 128 ≤ zs.getD 0 0) (h2 : zs.getD 0 0 < 192) (hn1 : (((zs.getD 0 0 - 128) * 256 + zs.getD 1 0) * 256 + zs.getD 2 0) * 256 + zs.getD 3 0 < 16384) :
    Calls Try.prog 10 #[v] w fun e w' => e = .returned (.tuple #[.int .i64 0, .int .i64 0, .int .i64 11]) ∧ Kept w w' := by
  obtain ⟨b, off, cap, rfl, hc, hm, hbw, hcell⟩ := h.addr (by omega)
  have c0 := hcell 0 (by omega)
  obtain ⟨l0, u0⟩ := hb.at 0
  have c1 := hcell 1 (by omega)
  obtain ⟨l1, u1⟩ := hb.at 1
  have c2 := hcell 2 (by omega)
  obtain ⟨l2, u2⟩ := hb.at 2
  have c3 := hcell 3 (by omega)
  obtain ⟨l3, u3⟩ := hb.at 3
  have HX := Lib.hid hcell; clear hcell
  generalize zs.getD 0 0 = x0 at *
  generalize zs.getD 1 0 = x1 at *
  generalize zs.getD 2 0 = x2 at *
  generalize zs.getD 3 0 = x3 at *
  simp only [Nat.add_zero] at c0
  have hne : ((zs.length : Int) == 0) = false := by rw [beq_eq_false_iff_ne]; omega
  have hz : x0 / 64 = 2 := by omega
  have hmod : x0 % 64 = x0 - 128 := by omega
  have hcap : ¬ cap = 1 := by omega
  have hor0 := i64_or8 (x0 - 128) (x1) (by omega) (by omega) (by omega) (by omega)
  have hor1 := i64_or8 ((x0 - 128) * 256 + x1) (x2) (by omega) (by omega) (by omega) (by omega)
  have hor2 := i64_or8 (((x0 - 128) * 256 + x1) * 256 + x2) (x3) (by omega) (by omega) (by omega) (by omega)
  have hne4 : ((isz ((((x0 - 128) * 256 + x1) * 256 + x2) * 256 + x3) : Int) != 4) = true := by rw [bne_iff_ne]; unfold isz; split <;> (try split) <;> omega
  have HC := Lib.hid (intSize_any ((((x0 - 128) * 256 + x1) * 256 + x2) * 256 + x3) w)
  unfold maxLen at hm
  go_enter Try.func10, Try.ntmps10
  go_wp2_with fail
  refine wp_loop_rounds 4 ?_
  rw [rounds_succ]
  go_wp2_with fail
  rw [rounds_succ]
  go_wp2_with fail
  rw [rounds_succ]
  go_wp2_with fail
  rw [rounds_succ]
  go_wp2_with (go_at_call 12; refine HC.out.mono ?_; rintro e w' ⟨rfl, rfl⟩)
  go_ret3
  exact ⟨rfl, Kept.refl _⟩

theorem takeInt_4s (v : Value) (zs : List Int) (w : World) (h : Rd w v zs) (hb : By zs) (hp : zs.length < 4) (hp0 : 0 < zs.length) (h1 : 128 ≤ zs.getD 0 0) (h2 : zs.getD 0 0 < 192) :
    Calls Try.prog 10 #[v] w fun e w' => e = .returned (.tuple #[.int .i64 0, .int .i64 0, .int .i64 10]) ∧ Kept w w' := by
  obtain ⟨b, off, cap, rfl, hc, hm, hbw, hcell⟩ := h.addr (by omega)
  have c0 := hcell 0 (by omega)
  obtain ⟨l0, u0⟩ := hb.at 0
  have HX := Lib.hid hcell; clear hcell
  generalize zs.getD 0 0 = x0 at *
  simp only [Nat.add_zero] at c0
  have hne : ((zs.length : Int) == 0) = false := by rw [beq_eq_false_iff_ne]; omega
  have hz : x0 / 64 = 2 := by omega
  unfold maxLen at hm
  go_enter Try.func10, Try.ntmps10
  go_wp2
  go_ret3
  exact ⟨rfl, Kept.refl _⟩

theorem takeInt_f (v : Value) (zs : List Int) (w : World) (h : Rd w v zs) (hb : By zs) (hp0 : 0 < zs.length) (h1 : 192 ≤ zs.getD 0 0) :
    Calls Try.prog 10 #[v] w fun e w' => e = .returned (.tuple #[.int .i64 0, .int .i64 0, .int .i64 11]) ∧ Kept w w' := by
  obtain ⟨b, off, cap, rfl, hc, hm, hbw, hcell⟩ := h.addr (by omega)
  have c0 := hcell 0 (by omega)
  obtain ⟨l0, u0⟩ := hb.at 0
  have HX := Lib.hid hcell; clear hcell
  generalize zs.getD 0 0 = x0 at *
  simp only [Nat.add_zero] at c0
  have hne : ((zs.length : Int) == 0) = false := by rw [beq_eq_false_iff_ne]; omega
  have hz : x0 / 64 = 3 := by omega
  unfold maxLen at hm
  go_enter Try.func10, Try.ntmps10
  go_wp2
  go_ret3
  exact ⟨rfl, Kept.refl _⟩

theorem takeInt_0 (v : Value) (zs : List Int) (w : World) (h : Rd w v zs) (hb : By zs) (hp : zs.length = 0) :
    Calls Try.prog 10 #[v] w fun e w' => e = .returned (.tuple #[.int .i64 0, .int .i64 0, .int .i64 10]) ∧ Kept w w' := by
  obtain ⟨a, cap, rfl, h1, h2, h3⟩ := h.len
  rw [hp]
  clear hp
  go_enter Try.func10, Try.ntmps10
  go_wp2
  go_ret3
  exact ⟨rfl, Kept.refl _⟩


theorem takeInt_any (v : Value) (zs : List Int) (w : World) (h : Rd w v zs) (hb : By zs) :
    Calls Try.prog 10 #[v] w fun e w' => e = .returned (.tuple #[.int .i64 (takeI zs).1, .int .i64 (takeI zs).2.1, .int .i64 (takeI zs).2.2]) ∧ Kept w w' := by
  unfold takeI
  by_cases g0 : zs.length = 0
  · rw [if_pos g0]; exact takeInt_0 v zs w h hb g0
  rw [if_neg g0]
  by_cases g1 : 192 ≤ zs.getD 0 0
  · rw [if_pos g1]; exact takeInt_f v zs w h hb (by omega) g1
  rw [if_neg g1]
  by_cases g2 : zs.getD 0 0 < 64
  · rw [if_pos g2]; exact takeInt_1 v zs w h hb (by omega) g2
  rw [if_neg g2]
  by_cases g3 : zs.getD 0 0 < 128
  · rw [if_pos g3]
    by_cases g4 : zs.length < 2
    · rw [if_pos g4]; exact takeInt_2s v zs w h hb (by omega) (by omega) g3
    rw [if_neg g4]
    by_cases g5 : (zs.getD 0 0 - 64) * 256 + zs.getD 1 0 < 64
    · rw [if_pos g5]; exact takeInt_2n v zs w h hb (by omega) (by omega) g3 g5
    rw [if_neg g5]
    exact takeInt_2 v zs w h hb (by omega) (by omega) g3 (by omega)
  rw [if_neg g3]
  by_cases g4 : zs.length < 4
  · rw [if_pos g4]; exact takeInt_4s v zs w h hb (by omega) (by omega) (by omega) (by omega)
  rw [if_neg g4]
  by_cases g5 : (((zs.getD 0 0 - 128) * 256 + zs.getD 1 0) * 256 + zs.getD 2 0) * 256 + zs.getD 3 0 < 16384
  · rw [if_pos g5]; exact takeInt_4n v zs w h hb (by omega) (by omega) (by omega) g5
  rw [if_neg g5]
  exact takeInt_4 v zs w h hb (by omega) (by omega) (by omega) (by omega)
end Go.Proofs.Ytegeflbppagbkaa

/- Walks of package wire: vectors and options are read. -/
import Derived.Test.YtegeflbppagbkaaWireC
import Derived.Outline
set_option linter.unusedSimpArgs false
set_option linter.unusedVariables false
namespace Go.Proofs.Ytegeflbppagbkaa
open Go.RowKit

theorem takeI_ok {zs : List Int} (hb : By zs) (h : (takeI zs).2.2 = 0) : 0 ≤ (takeI zs).1 ∧ (takeI zs).1 < 1073741824 ∧ 1 ≤ (takeI zs).2.1 ∧ (takeI zs).2.1 ≤ zs.length := by
  have b0 := hb.at 0
  have b1 := hb.at 1
  have b2 := hb.at 2
  have b3 := hb.at 3
  revert h
  unfold takeI
  generalize zs.getD 0 0 = x0 at *
  generalize zs.getD 1 0 = x1 at *
  generalize zs.getD 2 0 = x2 at *
  generalize zs.getD 3 0 = x3 at *
  by_cases g0 : zs.length = 0
  · rw [if_pos g0]; intro h; cases h
  rw [if_neg g0]
  by_cases g1 : 192 ≤ x0
  · rw [if_pos g1]; intro h; cases h
  rw [if_neg g1]
  by_cases g2 : x0 < 64
  · rw [if_pos g2]; intro h; dsimp only; omega
  rw [if_neg g2]
  by_cases g3 : x0 < 128
  · rw [if_pos g3]
    by_cases g4 : zs.length < 2
    · rw [if_pos g4]; intro h; cases h
    rw [if_neg g4]
    by_cases g5 : (x0 - 64) * 256 + x1 < 64
    · rw [if_pos g5]; intro h; cases h
    rw [if_neg g5]; intro h; dsimp only; omega
  rw [if_neg g3]
  by_cases g4 : zs.length < 4
  · rw [if_pos g4]; intro h; cases h
  rw [if_neg g4]
  by_cases g5 : (((x0 - 128) * 256 + x1) * 256 + x2) * 256 + x3 < 16384
  · rw [if_pos g5]; intro h; cases h
  rw [if_neg g5]; intro h; dsimp only; omega

theorem look_err (v : Value) (zs : List Int) (w : World) (h : Rd w v zs) (hb : By zs) (e : Int) (he : (takeI zs).2.2 = e) (hne : e ≠ 0) :
    Calls Try.prog 15 #[v] w fun x w' => x = .returned (.tuple #[.slice none 0 0, .int .i64 0, .int .i64 e]) ∧ Kept w w' := by
  have HC := Lib.hid (takeInt_any v zs w h hb)
  rw [he] at HC
  have HN : (e != 0) = true := by rw [bne_iff_ne]; exact hne
  clear he hne
  go_enter Try.func15, Try.ntmps15
  go_wp2_with (go_at_call 10; refine HC.out.mono ?_; rintro e w1 ⟨rfl, hk⟩)
  go_ret3
  exact ⟨rfl, hk⟩

theorem look_short (v : Value) (zs : List Int) (w : World) (h : Rd w v zs) (hb : By zs) (n k : Int) (ht : takeI zs = (n, k, 0)) (hs : zs.length - k < n) :
    Calls Try.prog 15 #[v] w fun x w' => x = .returned (.tuple #[.slice none 0 0, .int .i64 0, .int .i64 10]) ∧ Kept w w' := by
  have HC := Lib.hid (takeInt_any v zs w h hb)
  obtain ⟨p1, p2, p3, p4⟩ := takeI_ok hb (by rw [ht])
  rw [ht] at HC p1 p2 p3 p4
  dsimp only at HC p1 p2 p3 p4
  clear ht
  obtain ⟨a, cap, rfl, h1, h2, h3⟩ := h.len
  have hl : zs.length ≤ maxLen := by omega
  unfold maxLen at hl
  have HH := Lib.hid h; clear h
  go_enter Try.func15, Try.ntmps15
  go_wp2_with (go_at_call 10; refine HC.out.mono ?_; rintro e w1 ⟨rfl, hk⟩)
  go_ret3
  exact ⟨rfl, hk⟩

theorem look_ok (v : Value) (zs : List Int) (w : World) (h : Rd w v zs) (hb : By zs) (n k : Int) (ht : takeI zs = (n, k, 0)) (hs : n ≤ zs.length - k) :
    Calls Try.prog 15 #[v] w fun x w' => ∃ v', x = .returned (.tuple #[v', .int .i64 (k + n), .int .i64 0]) ∧ Rd w' v' ((zs.take (k + n).toNat).drop k.toNat) ∧ Kept w w' := by
  have HC := Lib.hid (takeInt_any v zs w h hb)
  obtain ⟨p1, p2, p3, p4⟩ := takeI_ok hb (by rw [ht])
  rw [ht] at HC p1 p2 p3 p4
  dsimp only at HC p1 p2 p3 p4
  clear ht
  obtain ⟨a, cap, rfl, h1, h2, h3⟩ := h.len
  have hl : zs.length ≤ maxLen := by omega
  unfold maxLen at hl
  have HH := Lib.hid h; clear h
  go_enter Try.func15, Try.ntmps15
  go_wp2_with (first | (go_at_call 10; refine HC.out.mono ?_; rintro e w1 ⟨rfl, hk⟩; have hr1 := Rd.kept HH.out hk) | ((with_reducible refine go_cut_lh _ zs ?_ hr1 k (k + n) ?_ ?_ ?_ ?_ ?_ ?_); rfl; rfl; rfl; omega; omega; omega; intro v' hv'))
  go_ret3
  exact ⟨_, rfl, hv', hk⟩

theorem clone_any (v : Value) (zs : List Int) (w : World) (h : Rd w v zs) (hl : zs.length ≤ 2147483648) :
    Calls Try.prog 17 #[v] w fun x w' => ∃ v', x = .returned v' ∧ Own w.heap.size 5 w' v' zs ∧ Kept w w' := by
  obtain ⟨a, cap, hv, h1, h2, h3⟩ := h.len
  cases a with
  | none =>
    obtain rfl := h3 rfl
    obtain rfl : zs = [] := List.eq_nil_of_length_eq_zero (by omega)
    subst hv
    have hn := fun w => Lib.run_eql_slice_nil (P := Try.prog) w 23 5 none 0 0 0 0 Try.underlying23
    go_enter Try.func17, Try.ntmps17
    go_wp2
    go_ret
    exact ⟨_, rfl, Own.nil _ _ _, Kept.refl _⟩
  | some ad =>
    subst hv
    have hn := fun w => Lib.run_eql_slice_nil (P := Try.prog) w 23 5 (some ad) zs.length cap 0 0 Try.underlying23
    have HL := Own.lit (w := w) [] (by simp)
    have hk0 := (Kept.refl w).alloc (.cells #[] 5)
    have hr0 := h.kept hk0
    go_enter Try.func17, Try.ntmps17
    go_wp2_with (at_builtin; refine go_appb w.heap.size _ [] rfl HL _ zs rfl hr0 ?_ ?_ ?_; rotate_right; intro v1 w1 ho1 hb1)
    · go_ret
      exact ⟨_, rfl, ho1, hk0.trans' hb1⟩
    · simp only [List.length_nil]; omega
    · exact hk0.size

theorem takeBytes_err (v : Value) (zs : List Int) (w : World) (h : Rd w v zs) (hb : By zs) (e : Int) (he : (takeI zs).2.2 = e) (hne : e ≠ 0) :
    Calls Try.prog 16 #[v] w fun x w' => x = .returned (.tuple #[.slice none 0 0, .int .i64 0, .int .i64 e]) ∧ Kept w w' := by
  have HC := Lib.hid (look_err v zs w h hb e he hne)
  have HN : (e != 0) = true := by rw [bne_iff_ne]; exact hne
  clear he hne
  go_enter Try.func16, Try.ntmps16
  go_wp2_with (go_at_call 15; refine HC.out.mono ?_; rintro e w1 ⟨rfl, hk⟩)
  go_ret3
  exact ⟨rfl, hk⟩

theorem takeBytes_short (v : Value) (zs : List Int) (w : World) (h : Rd w v zs) (hb : By zs) (n k : Int) (ht : takeI zs = (n, k, 0)) (hs : zs.length - k < n) :
    Calls Try.prog 16 #[v] w fun x w' => x = .returned (.tuple #[.slice none 0 0, .int .i64 0, .int .i64 10]) ∧ Kept w w' := by
  have HC := Lib.hid (look_short v zs w h hb n k ht hs)
  clear ht hs
  go_enter Try.func16, Try.ntmps16
  go_wp2_with (go_at_call 15; refine HC.out.mono ?_; rintro e w1 ⟨rfl, hk⟩)
  go_ret3
  exact ⟨rfl, hk⟩

theorem takeBytes_ok (v : Value) (zs : List Int) (w : World) (h : Rd w v zs) (hb : By zs) (n k : Int) (ht : takeI zs = (n, k, 0)) (hs : n ≤ zs.length - k) (hl : zs.length ≤ 2147483648) :
    Calls Try.prog 16 #[v] w fun x w' => ∃ v', x = .returned (.tuple #[v', .int .i64 (k + n), .int .i64 0]) ∧ Own w.heap.size 5 w' v' ((zs.take (k + n).toNat).drop k.toNat) ∧ Kept w w' := by
  have HC := Lib.hid (look_ok v zs w h hb n k ht hs)
  have HL := Lib.hid (show ((zs.take (k + n).toNat).drop k.toNat).length ≤ 2147483648 by simp; omega)
  clear ht hs hl
  go_enter Try.func16, Try.ntmps16
  go_wp2_with (first | (go_at_call 15; refine HC.out.mono ?_; rintro e w1 ⟨v1, rfl, hr1, hk1⟩) | (go_at_call 17; refine (clone_any _ _ _ hr1 HL.out).mono ?_; rintro e w2 ⟨v2, rfl, ho2, hk2⟩))
  go_ret3
  exact ⟨_, rfl, ho2.mono hk1.size, hk1.trans hk2⟩
end Go.Proofs.Ytegeflbppagbkaa

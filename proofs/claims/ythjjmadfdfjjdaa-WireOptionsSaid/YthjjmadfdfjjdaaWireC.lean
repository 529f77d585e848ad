/- Walks of package wire: vectors and options as bytes. -/
import Derived.Test.YthjjmadfdfjjdaaWireB
import Derived.Outline
set_option linter.unusedSimpArgs false
set_option linter.unusedVariables false
namespace Go.Proofs.Ythjjmadfdfjjdaa
open Go.RowKit

theorem isz_pos (n : Int) : 1 ≤ isz n ∧ isz n ≤ 4 := by unfold isz; split <;> (try split) <;> omega

/-- A vector's bytes. -/
def vecB (xs : List Int) : List Int := ib xs.length ++ xs

theorem ib_length {n : Int} : ((ib n).length : Int) = isz n := by
  unfold ib isz
  split
  · rfl
  · split <;> rfl

theorem vecB_length (xs : List Int) : ((vecB xs).length : Int) = isz xs.length + xs.length := by
  unfold vecB; rw [List.length_append]; have := @ib_length (xs.length : Int); omega

theorem vectorSize_any (v : Value) (xs : List Int) (w : World) (h : Rd w v xs) (hl : xs.length ≤ 140737488355328) :
    Calls Try.prog 28 #[v] w fun e w' => e = .returned (.int .i64 (vecB xs).length) ∧ w = w' := by
  obtain ⟨a, cap, rfl, h1, h2, h3⟩ := h.len
  have HC := Lib.hid (intSize_any (xs.length : Int) w)
  have HE := Lib.hid (vecB_length xs)
  obtain ⟨p1, p2⟩ := isz_pos xs.length
  go_enter Try.func28, Try.ntmps28
  go_wp2_with (go_at_call 29; refine HC.out.mono ?_; rintro e w' ⟨rfl, rfl⟩)
  go_ret
  exact ⟨by rw [HE.out]; rfl, rfl⟩

theorem appendVector_any (B : Nat) (v : Value) (zs : List Int) (x : Value) (xs : List Int) (w : World) (hB : B ≤ w.heap.size) (ho : Own B 5 w v zs) (hx : Old B w x xs) (hz : zs.length ≤ 4294967296) (hl : (xs.length : Int) < 1073741824) :
    Calls Try.prog 30 #[v, x] w fun e w' => ∃ v', e = .returned v' ∧ Own B 5 w' v' (zs ++ vecB xs) ∧ Below B w w' := by
  obtain ⟨a, cap, rfl, h1, h2, h3⟩ := hx.rd.len
  have HC := Lib.hid (appendInt_any B v zs (xs.length : Int) w hB ho hz (by omega) (by omega))
  have hI : (ib (xs.length : Int)).length ≤ 4 := by have := @ib_length (xs.length : Int); have := isz_pos xs.length; omega
  go_enter Try.func30, Try.ntmps30
  go_wp2_with (first | (go_at_call 26; refine HC.out.mono ?_; rintro e w1 ⟨v1, rfl, ho1, hb1⟩) | (at_builtin; refine go_appb B _ _ rfl (by assumption) _ xs rfl (hx.below (by assumption)).rd ?_ ?_ ?_; rotate_right; intro v2 w2 ho2 hb2))
  · go_ret
    exact ⟨_, rfl, by unfold vecB; rw [← List.append_assoc]; exact ho2, hb1.trans hb2⟩
  · simp only [List.length_append]; omega
  · exact Nat.le_trans hB hb1.size

theorem vector_ok (x : Value) (xs : List Int) (hd : Value) (hs : List Int) (w : World) (hx : Rd w x xs) (hh : Rd w hd hs) (hl : (xs.length : Int) < 1073741824) (hhl : hs.length ≤ 1000) :
    Calls Try.prog 31 #[x, hd] w fun e w' => ∃ v, e = .returned (.tuple #[v, .int .i64 0]) ∧ Own w.heap.size 5 w' v (hs ++ vecB xs) ∧ Kept w w' := by
  obtain ⟨a, cap, rfl, h1, h2, h3⟩ := hx.len
  obtain ⟨a', cap', rfl, h1', h2', h3'⟩ := hh.len
  have HC := Lib.hid (vectorSize_any _ xs w hx (by omega))
  have hV : ((vecB xs).length : Int) ≤ 1073741828 := by have := vecB_length xs; have := isz_pos xs.length; omega
  have hge : decide ((1073741824 : Int) ≤ (xs.length : Int)) = false := by simp; omega
  have HL := Lib.hid hl; clear hl
  go_enter Try.func31, Try.ntmps31
  go_wp2_with (first | (go_at_call 28; refine HC.out.mono ?_; rintro e w1 ⟨rfl, rfl⟩) | (at_make; refine go_mkb _ rfl (by omega) (by omega) ?_; intro v1 w1 ho1 hk1) | (at_builtin; refine go_appb w.heap.size _ _ rfl (by assumption) _ hs rfl (hh.kept (by assumption)) ?_ ?_ ?_; rotate_right; intro v2 w2 ho2 hb2))
  · refine (appendVector_any w.heap.size v2 _ _ xs w2 (Nat.le_trans hk1.size hb2.size) ho2 (hx.old.below (hk1.trans' hb2)) (by simp only [List.length_append, List.length_nil]; omega) HL.out).mono ?_
    rintro e w3 ⟨v3, rfl, ho3, hb3⟩
    go_wp2_with fail
    go_ret2
    exact ⟨_, rfl, ho3, (Below.trans hk1 hb2).trans hb3⟩
  · simp only [List.length_nil]; omega
  · exact hk1.size

theorem vector_bad (x : Value) (xs : List Int) (hd : Value) (w : World) (hx : Rd w x xs) (hl : 1073741824 ≤ (xs.length : Int)) :
    Calls Try.prog 31 #[x, hd] w fun e w' => e = .returned (.tuple #[.slice none 0 0, .int .i64 1]) ∧ w = w' := by
  obtain ⟨a, cap, rfl, h1, h2, h3⟩ := hx.len
  have hge : decide ((1073741824 : Int) ≤ (xs.length : Int)) = true := by simp; omega
  go_enter Try.func31, Try.ntmps31
  go_wp2
  go_ret2
  exact ⟨rfl, rfl⟩

/-- wire.Bytes. -/
theorem bytes_ok (x : Value) (xs : List Int) (w : World) (hx : Rd w x xs) (hl : (xs.length : Int) < 1073741824) :
    Calls Try.prog 19 #[x] w fun e w' => ∃ v, e = .returned (.tuple #[v, .int .i64 0]) ∧ Own w.heap.size 5 w' v (vecB xs) ∧ Kept w w' := by
  have HC := Lib.hid (vector_ok x xs _ [] w hx (Rd.nil w) hl (by simp))
  go_enter Try.func19, Try.ntmps19
  go_wp2_with (go_at_call 31; refine HC.out.mono ?_; rintro e w1 ⟨v, rfl, ho, hk⟩)
  go_ret2
  exact ⟨_, rfl, ho, hk⟩
theorem bytes_bad (x : Value) (xs : List Int) (w : World) (hx : Rd w x xs) (hl : 1073741824 ≤ (xs.length : Int)) :
    Calls Try.prog 19 #[x] w fun e w' => e = .returned (.tuple #[.slice none 0 0, .int .i64 1]) ∧ w = w' := by
  have HC := Lib.hid (vector_bad x xs (.slice none 0 0) w hx hl)
  go_enter Try.func19, Try.ntmps19
  go_wp2_with (go_at_call 31; refine HC.out.mono ?_; rintro e w1 ⟨rfl, rfl⟩)
  go_ret2
  exact ⟨rfl, rfl⟩

/-- wire.Opt. -/
theorem opt_none (x : Value) (w : World) :
    Calls Try.prog 17 #[x, .bool false] w fun e w' => ∃ v, e = .returned (.tuple #[v, .int .i64 0]) ∧ Own w.heap.size 5 w' v [0] ∧ Kept w w' := by
  have HL := Own.lit (w := w) [0] (by simp)
  go_enter Try.func17, Try.ntmps17
  go_wp2
  go_ret2
  exact ⟨_, rfl, HL, (Kept.refl w).alloc _⟩
theorem opt_ok (x : Value) (xs : List Int) (w : World) (hx : Rd w x xs) (hl : (xs.length : Int) < 1073741824) :
    Calls Try.prog 17 #[x, .bool true] w fun e w' => ∃ v, e = .returned (.tuple #[v, .int .i64 0]) ∧ Own w.heap.size 5 w' v (1 :: vecB xs) ∧ Kept w w' := by
  have HL := Own.lit (w := w) [1] (by simp)
  have hk0 := (Kept.refl w).alloc (.cells #[.int .u8 1] 5)
  have HC := Lib.hid (vector_ok x xs _ [1] _ (hx.kept hk0) HL.rd hl (by simp))
  go_enter Try.func17, Try.ntmps17
  go_wp2_with (go_at_call 31; refine HC.out.mono ?_; rintro e w1 ⟨v, rfl, ho, hk⟩)
  go_ret2
  exact ⟨_, rfl, ho.mono hk0.size, hk0.trans hk⟩
theorem opt_bad (x : Value) (xs : List Int) (w : World) (hx : Rd w x xs) (hl : 1073741824 ≤ (xs.length : Int)) :
    Calls Try.prog 17 #[x, .bool true] w fun e w' => e = .returned (.tuple #[.slice none 0 0, .int .i64 1]) ∧ Kept w w' := by
  have hk0 := (Kept.refl w).alloc (.cells #[.int .u8 1] 5)
  have HC := Lib.hid (fun hd => vector_bad x xs hd _ (hx.kept hk0) hl)
  go_enter Try.func17, Try.ntmps17
  go_wp2_with (go_at_call 31; refine (HC.out _).mono ?_; rintro e w1 ⟨rfl, rfl⟩)
  go_ret2
  exact ⟨rfl, hk0⟩
end Go.Proofs.Ythjjmadfdfjjdaa

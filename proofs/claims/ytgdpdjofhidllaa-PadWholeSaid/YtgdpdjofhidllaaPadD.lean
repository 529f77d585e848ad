/- Walks of package pad: Unpad, and the document's answer. -/
import Derived.Test.YtgdpdjofhidllaaPadB
import Derived.Test.YtgdpdjofhidllaaPadC
import Derived.Outline
set_option linter.unusedSimpArgs false
set_option linter.unusedVariables false
namespace Go.Proofs.Ytgdpdjofhidllaa
open Go.RowKit

theorem clone_any (v : Value) (zs : List Int) (w : World) (h : Rd w v zs) (hl : zs.length ≤ 2147483648) :
    Calls Try.prog 18 #[v] w fun x w' => ∃ v', x = .returned v' ∧ Own w.heap.size 5 w' v' zs ∧ Kept w w' := by
  obtain ⟨a, cap, hv, h1, h2, h3⟩ := h.len
  cases a with
  | none =>
    obtain rfl := h3 rfl
    obtain rfl : zs = [] := List.eq_nil_of_length_eq_zero (by omega)
    subst hv
    have hn := fun w => Lib.run_eql_slice_nil (P := Try.prog) w 22 5 none 0 0 0 0 Try.underlying22
    go_enter Try.func18, Try.ntmps18
    go_wp2
    go_ret
    exact ⟨_, rfl, Own.nil _ _ _, Kept.refl _⟩
  | some ad =>
    subst hv
    have hn := fun w => Lib.run_eql_slice_nil (P := Try.prog) w 22 5 (some ad) zs.length cap 0 0 Try.underlying22
    have HL := Own.lit (w := w) [] (by simp)
    have hk0 := (Kept.refl w).alloc (.cells #[] 5)
    have hr0 := h.kept hk0
    go_enter Try.func18, Try.ntmps18
    go_wp2_with (at_builtin; refine go_appb w.heap.size _ [] rfl HL _ zs rfl hr0 ?_ ?_ ?_; rotate_right; intro v1 w1 ho1 hb1)
    · go_ret
      exact ⟨_, rfl, ho1, hk0.trans' hb1⟩
    · simp only [List.length_nil]; omega
    · exact hk0.size

theorem filling_some (v : Value) (zs : List Int) (w : World) (h : Rd w v zs) (hl : zs.length ≤ 140737488351232) (n : Nat) (hf : fillS zs = some n) :
    Calls Try.prog 17 #[v] w fun e w' => e = .returned (.tuple #[.int .i64 n, .bool true]) ∧ Kept w w' :=
  (filling_any v zs w h hl).mono fun e w' ⟨he, hk⟩ => ⟨(by
    rcases he with ⟨m, h1, rfl⟩ | ⟨h1, rfl⟩
    · rw [hf] at h1; cases h1; rfl
    · rw [hf] at h1; cases h1), hk⟩
theorem filling_none (v : Value) (zs : List Int) (w : World) (h : Rd w v zs) (hl : zs.length ≤ 140737488351232) (hf : fillS zs = none) :
    Calls Try.prog 17 #[v] w fun e w' => e = .returned (.tuple #[.int .i64 0, .bool false]) ∧ Kept w w' :=
  (filling_any v zs w h hl).mono fun e w' ⟨he, hk⟩ => ⟨(by
    rcases he with ⟨m, h1, rfl⟩ | ⟨h1, rfl⟩
    · rw [hf] at h1; cases h1
    · rfl), hk⟩

theorem unpad_1 (v : Value) (zs : List Int) (w : World) (h : Rd w v zs) (hl : zs.length ≤ 140737488351232) (hf : fillS zs = none) :
    Calls Try.prog 11 #[v] w fun e w' => e = .returned (.tuple #[.slice none 0 0, .int .i64 11]) ∧ Kept w w' := by
  have HC := Lib.hid (filling_none v zs w h hl hf)
  obtain ⟨a, cap, rfl, h1, h2, h3⟩ := h.len
  clear hl hf
  go_enter Try.func11, Try.ntmps11
  go_wp2_with fail
  refine HC.out.mono ?_
  rintro e w1 ⟨rfl, hk⟩
  go_wp2_with fail
  go_ret2
  exact ⟨rfl, hk⟩
theorem unpad_2 (v : Value) (zs : List Int) (w : World) (h : Rd w v zs) (hl : zs.length ≤ 140737488351232) (n : Nat) (hf : fillS zs = some n) (hn : 65536 ≤ (n : Int)) :
    Calls Try.prog 11 #[v] w fun e w' => e = .returned (.tuple #[.slice none 0 0, .int .i64 11]) ∧ Kept w w' := by
  have HC := Lib.hid (filling_some v zs w h hl n hf)
  have HD := Lib.hid (fun w => bucket_big n w hn)
  obtain ⟨a, cap, rfl, h1, h2, h3⟩ := h.len
  clear hl hf hn
  go_enter Try.func11, Try.ntmps11
  go_wp2_with fail
  refine HC.out.mono ?_
  rintro e w1 ⟨rfl, hk⟩
  go_wp2_with fail
  refine (HD.out _).mono ?_
  rintro e w2 ⟨rfl, rfl⟩
  go_wp2_with fail
  go_ret2
  exact ⟨rfl, hk⟩
theorem unpad_3 (v : Value) (zs : List Int) (w : World) (h : Rd w v zs) (hl : zs.length ≤ 140737488351232) (n : Nat) (hf : fillS zs = some n) (hn : (n : Int) < 65536) (hne : bk n ≠ zs.length) :
    Calls Try.prog 11 #[v] w fun e w' => e = .returned (.tuple #[.slice none 0 0, .int .i64 11]) ∧ Kept w w' := by
  have HC := Lib.hid (filling_some v zs w h hl n hf)
  have HD := Lib.hid (fun w => bucket_ok n w (by omega) hn)
  have hb : (bk n != (zs.length : Int)) = true := by rw [bne_iff_ne]; exact hne
  obtain ⟨a, cap, rfl, h1, h2, h3⟩ := h.len
  clear hl hf hn hne
  go_enter Try.func11, Try.ntmps11
  go_wp2_with fail
  refine HC.out.mono ?_
  rintro e w1 ⟨rfl, hk⟩
  go_wp2_with fail
  refine (HD.out _).mono ?_
  rintro e w2 ⟨rfl, rfl⟩
  go_wp2_with fail
  go_ret2
  exact ⟨rfl, hk⟩
theorem unpad_4 (v : Value) (zs : List Int) (w : World) (h : Rd w v zs) (hl : zs.length ≤ 140737488351232) (n : Nat) (hf : fillS zs = some n) (hn : (n : Int) < 65536) (hne : bk n = zs.length) :
    Calls Try.prog 11 #[v] w fun e w' => ∃ v', e = .returned (.tuple #[v', .int .i64 0]) ∧ Own w.heap.size 5 w' v' (zs.take n) ∧ Kept w w' := by
  have HC := Lib.hid (filling_some v zs w h hl n hf)
  have HD := Lib.hid (fun w => bucket_ok n w (by omega) hn)
  have hb : (bk n != (zs.length : Int)) = false := by rw [bne_eq_false_iff_eq]; exact hne
  have hlt := fillS_lt hf
  have HLT := Lib.hid hn
  have HR := Lib.hid h
  obtain ⟨a, cap, rfl, h1, h2, h3⟩ := h.len
  clear hl hf hn hne
  go_enter Try.func11, Try.ntmps11
  go_wp2_with fail
  refine HC.out.mono ?_
  rintro e w1 ⟨rfl, hk⟩
  have hr1 := HR.out.kept hk
  go_wp2_with fail
  refine (HD.out _).mono ?_
  rintro e w2 ⟨rfl, rfl⟩
  go_wp2_with (first | ((with_reducible refine go_cut_h (.slice a zs.length cap) zs ?_ hr1 (n : Int) ?_ ?_ ?_ ?_); rfl; rfl; omega; omega; intro v3 hr3) | (go_at_call 18; refine (clone_any _ _ _ hr3 ?_).mono ?_; rotate_right; rintro e w4 ⟨v4, rfl, ho4, hk4⟩))
  · go_ret2
    exact ⟨_, rfl, ho4.mono hk.size, hk.trans hk4⟩
  · have := HLT.out
    rw [List.length_take]; omega

/-- What Unpad tells, and what it leaves. -/
def UnpPost (zs : List Int) (w : World) (e : Ending) (w' : World) : Prop :=
  ((unpS zs = none ∧ e = .returned (.tuple #[.slice none 0 0, .int .i64 11])) ∨ ∃ ys v', unpS zs = some ys ∧ e = .returned (.tuple #[v', .int .i64 0]) ∧ Own w.heap.size 5 w' v' ys) ∧ Kept w w'

theorem unpad_any (v : Value) (zs : List Int) (w : World) (h : Rd w v zs) (hl : zs.length ≤ 140737488351232) :
    Calls Try.prog 11 #[v] w (UnpPost zs w) := by
  cases hf : fillS zs with
  | none => exact (unpad_1 v zs w h hl hf).mono fun e w' ⟨he, hk⟩ => ⟨.inl ⟨(by unfold unpS; rw [hf]), he⟩, hk⟩
  | some n =>
    by_cases h1 : (n : Int) < 65536
    · by_cases h2 : bk n = zs.length
      · exact (unpad_4 v zs w h hl n hf h1 h2).mono fun e w' ⟨v', he, ho, hk⟩ => ⟨.inr ⟨_, v', (by unfold unpS; rw [hf]; exact if_pos ⟨h1, h2⟩), he, ho⟩, hk⟩
      · exact (unpad_3 v zs w h hl n hf h1 h2).mono fun e w' ⟨he, hk⟩ => ⟨.inl ⟨(by unfold unpS; rw [hf]; exact if_neg (fun q => h2 q.2)), he⟩, hk⟩
    · exact (unpad_2 v zs w h hl n hf (by omega)).mono fun e w' ⟨he, hk⟩ => ⟨.inl ⟨(by unfold unpS; rw [hf]; exact if_neg (fun q => h1 q.1)), he⟩, hk⟩
end Go.Proofs.Ytgdpdjofhidllaa

/- The statements' own helper 'live'. -/
import Derived.Test.YtgdpdjofhidllaaPadF
import Derived.Lib.SlBytesConst
import Derived.Outline
set_option linter.unusedSimpArgs false
set_option linter.unusedVariables false
namespace Go.Proofs.Ytgdpdjofhidllaa
open Go.RowKit

theorem unpad_zeros : unpS (List.replicate 32 0) = none := by decide
theorem bk31 : bk 31 = 32 := by decide
theorem bk32 : bk 32 = 64 := by decide

set_option maxRecDepth 100000 in
set_option maxHeartbeats 2000000 in
theorem live_any (w : World) : Calls Try.prog 7 #[] w fun e w' => e = .returned (.bool true) ∧ Kept w w' := by
  have HA := Lib.hid (fun w => bucket_ok 31 w (by omega) (by omega))
  have HB := Lib.hid (fun w => bucket_ok 32 w (by omega) (by omega))
  rw [bk31] at HA
  rw [bk32] at HB
  have kc := fun (w : World) (C : Array Value) (n c : Nat) => Lib.run_convert_bytes_const (P := Try.prog) w 22 5 C n c Try.underlying22 Try.underlying5
  go_enter Try.func7, Try.ntmps7
  go_wp2_with fail
  refine (HA.out _).mono ?_
  rintro e w1 ⟨rfl, rfl⟩
  go_wp2_with fail
  refine (HB.out _).mono ?_
  rintro e w1 ⟨rfl, rfl⟩
  go_wp2_with (at_make; refine go_mkf 32 rfl rfl (by omega) ?_; intro w1 ho1 hk1)
  have C3 := Lib.hid (unpad_any _ _ _ ho1.rd (by simp))
  refine C3.out.mono ?_
  rintro e w2 ⟨⟨_, rfl⟩ | ⟨ys, v', hh, _⟩, hk2⟩
  rotate_left
  · rw [unpad_zeros] at hh; cases hh
  clear C3
  go_wp2_with fail
  have hr4 := Rd.marked (w := w2) [97] (1, 2) (by simp)
  have hk3 := (Kept.refl w2).alloc (.cells #[Value.int .u8 97] 5 (1, 2))
  refine (pad_ok _ [97] _ hr4 (by simp)).mono ?_
  rintro e w3 ⟨v3, rfl, ho3, hk4⟩
  have hpl : (padS [97]).length = 32 := by decide
  obtain ⟨b, off, cap, rfl, hc, hm, hbw, hcell⟩ := ho3.rd.addr (by rw [hpl]; omega)
  rw [hpl] at hcell hc ⊢
  have c0 := hcell 0 (by omega)
  have c1 := hcell 1 (by omega)
  have c2 := hcell 2 (by omega)
  rw [show (padS [97]).getD 0 0 = 97 from by decide, Nat.add_zero] at c0
  rw [show (padS [97]).getD 1 0 = 128 from by decide] at c1
  rw [show (padS [97]).getD 2 0 = 0 from by decide] at c2
  clear hcell ho3 ho1 hr4 hpl kc
  have hkk := hk1.trans (hk2.trans (hk3.trans hk4))
  go_wp2_with fail
  go_ret
  exact ⟨rfl, hkk⟩

/-- What Pad, Unpad and Bucket tell, with their errors. -/
def padE (zs : List Int) : List Int × Int := if (zs.length : Int) < 65536 then (padS zs, 0) else ([], 2)
def unpE (zs : List Int) : List Int × Int := match unpS zs with
  | none => ([], 11)
  | some ys => (ys, 0)
def bkE (n : Int) : Int × Int := if n < 0 then (0, 1) else if n < 65536 then (bk n, 0) else (0, 2)

theorem padE_any (v : Value) (zs : List Int) (w : World) (hr : Rd w v zs) :
    Calls Try.prog 9 #[v] w fun e w' => ∃ v', e = .returned (.tuple #[v', .int .i64 (padE zs).2]) ∧ Rd w' v' (padE zs).1 ∧ Kept w w' := by
  unfold padE
  by_cases h : (zs.length : Int) < 65536
  · rw [if_pos h]
    exact (pad_ok v zs w hr h).mono fun e w' ⟨v', he, ho, hk⟩ => ⟨v', he, ho.rd, hk⟩
  · rw [if_neg h]
    exact (pad_bad v zs w hr (by omega)).mono fun e w' ⟨he, hk⟩ => ⟨_, he, Rd.nil _, hk ▸ Kept.refl _⟩
theorem rpadE_any (v : Value) (zs : List Int) (w : World) (hr : Rd w v zs) :
    Calls Try.prog 10 #[v] w fun e w' => ∃ v', e = .returned (.tuple #[v', .int .i64 (padE zs).2]) ∧ Rd w' v' (padE zs).1 ∧ Kept w w' := by
  unfold padE
  by_cases h : (zs.length : Int) < 65536
  · rw [if_pos h]
    exact (rpad_ok v zs w hr h).mono fun e w' ⟨v', he, ho, hk⟩ => ⟨v', he, ho.rd, hk⟩
  · rw [if_neg h]
    exact (rpad_bad v zs w hr (by omega)).mono fun e w' ⟨he, hk⟩ => ⟨_, he, Rd.nil _, hk ▸ Kept.refl _⟩
theorem UnpPost.rd {zs : List Int} {w w' : World} {e : Ending} (h : UnpPost zs w e w') : ∃ v', e = .returned (.tuple #[v', .int .i64 (unpE zs).2]) ∧ Rd w' v' (unpE zs).1 ∧ Kept w w' := by
  unfold unpE
  obtain ⟨⟨h1, rfl⟩ | ⟨ys, v', h1, rfl, h2⟩, hk⟩ := h
  · rw [h1]; exact ⟨_, rfl, Rd.nil _, hk⟩
  · rw [h1]; exact ⟨_, rfl, h2.rd, hk⟩
theorem unpE_any (v : Value) (zs : List Int) (w : World) (hr : Rd w v zs) (hl : zs.length ≤ 140737488351232) :
    Calls Try.prog 11 #[v] w fun e w' => ∃ v', e = .returned (.tuple #[v', .int .i64 (unpE zs).2]) ∧ Rd w' v' (unpE zs).1 ∧ Kept w w' :=
  (unpad_any v zs w hr hl).mono fun e w' h => h.rd
theorem runpE_any (v : Value) (zs : List Int) (w : World) (hr : Rd w v zs) (hl : zs.length ≤ 140737488351232) :
    Calls Try.prog 12 #[v] w fun e w' => ∃ v', e = .returned (.tuple #[v', .int .i64 (unpE zs).2]) ∧ Rd w' v' (unpE zs).1 ∧ Kept w w' :=
  (runpad_any v zs w hr hl).mono fun e w' h => h.rd
theorem bkE_any (n : Int) (w : World) : Calls Try.prog 13 #[.int .i64 n] w fun e w' => e = .returned (.tuple #[.int .i64 (bkE n).1, .int .i64 (bkE n).2]) ∧ w = w' := by
  unfold bkE
  by_cases h0 : n < 0
  · rw [if_pos h0]; exact bucket_neg n w h0
  rw [if_neg h0]
  by_cases h1 : n < 65536
  · rw [if_pos h1]; exact bucket_ok n w (by omega) h1
  · rw [if_neg h1]; exact bucket_big n w (by omega)
theorem rbkE_any (n : Int) (w : World) : Calls Try.prog 14 #[.int .i64 n] w fun e w' => e = .returned (.tuple #[.int .i64 (bkE n).1, .int .i64 (bkE n).2]) ∧ w = w' := by
  unfold bkE
  by_cases h0 : n < 0
  · rw [if_pos h0]; exact rbucket_neg n w h0
  rw [if_neg h0]
  by_cases h1 : n < 65536
  · rw [if_pos h1]; exact rbucket_ok n w (by omega) h1
  · rw [if_neg h1]; exact rbucket_big n w (by omega)
end Go.Proofs.Ytgdpdjofhidllaa

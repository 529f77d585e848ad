/- Walks of package pad: Same, and the document's answer; the statements' own helpers 'big' and 'live'. -/
import Derived.Test.YtgdpdjofhidllaaPadE
import Derived.Outline
set_option linter.unusedSimpArgs false
set_option linter.unusedVariables false
namespace Go.Proofs.Ytgdpdjofhidllaa
open Go.RowKit

/-- The i-th can be filled up, and to the first one's length. -/
def OkAt (xss : List (List Int)) (i : Nat) : Prop := ((xss.getD i []).length : Int) < 65536 ∧ bk (xss.getD i []).length = bk (xss.getD 0 []).length
def sameB (xss : List (List Int)) : Bool := (List.range xss.length).all fun i => decide (((xss.getD i []).length : Int) < 65536) && decide (bk (xss.getD i []).length = bk (xss.getD 0 []).length)
theorem sameB_true {xss : List (List Int)} (h : ∀ i, i < xss.length → OkAt xss i) : sameB xss = true := by
  unfold sameB
  rw [List.all_eq_true]
  intro i hi
  obtain ⟨h1, h2⟩ := h i (List.mem_range.1 hi)
  simp only [h1, h2, decide_true, Bool.and_self]
theorem sameB_false {xss : List (List Int)} {i : Nat} (hi : i < xss.length) (h : ¬ OkAt xss i) : sameB xss = false := by
  unfold sameB
  rw [List.all_eq_false]
  refine ⟨i, List.mem_range.2 hi, ?_⟩
  unfold OkAt at h
  simp only [Bool.and_eq_true, decide_eq_true_eq]
  exact h

/-- What 'first' holds ahead of round k. -/
def fstB (xss : List (List Int)) (k : Nat) : Int := if k = 0 then 0 else bk (xss.getD 0 []).length
theorem fstB_0 (xss : List (List Int)) : fstB xss 0 = 0 := by unfold fstB; rw [if_pos rfl]
theorem fstB_s (xss : List (List Int)) (k : Nat) : fstB xss (k + 1) = bk (xss.getD 0 []).length := by unfold fstB; rw [if_neg (by omega)]

set_option maxRecDepth 100000 in
set_option maxHeartbeats 2000000 in
theorem same_any (v : Value) (xss : List (List Int)) (w : World) (h : Rds w v xss) :
    Calls Try.prog 15 #[v] w fun e w' => e = .returned (.bool (sameB xss)) ∧ w = w' := by
  by_cases hp : 0 < xss.length
  · obtain ⟨b, off, cap, vs, rfl, hc, hm, hb, hcell, hr⟩ := h.addr hp
    have HX := Lib.hid hcell; clear hcell
    have HR := Lib.hid hr; clear hr
    have HM := Lib.hid hm
    unfold maxLen at hm
    go_enter Try.func15, Try.ntmps15
    go_wp2
    go_loop [3, 10] (fun n i => ∃ k : Nat, k ≤ xss.length ∧ i = .int .i64 k ∧ n = .int .i64 (fstB xss k) ∧ ∀ j, j < k → OkAt xss j) (fun _ i => xss.length - (intOf i).toNat)
    case atStart => exact ⟨0, Nat.zero_le _, rfl, by rw [fstB_0], fun j hj => by omega⟩
    case round =>
      obtain ⟨k, hk, rfl, rfl, hok⟩ := hrel
      have HO := Lib.hid hok; clear hok
      by_cases hlt : k < xss.length
      · have hcx := HX.out k hlt
        have hrx := HR.out k hlt
        obtain ⟨L, hL⟩ : ∃ L, L = (xss.getD k []).length := ⟨_, rfl⟩
        have HA : ∀ x : Prop, (OkAt xss k → x) → ((L : Int) < 65536) → (bk L = bk (xss.getD 0 []).length) → x := fun x hx h1 h2 => hx ⟨by rw [← hL]; exact h1, by rw [← hL]; exact h2⟩
        have HNA : ((L : Int) < 65536 → bk L = bk (xss.getD 0 []).length → False) → sameB xss = false := fun hx => sameB_false hlt fun q => hx (by rw [hL]; exact q.1) (by rw [hL]; exact q.2)
        obtain ⟨ya, ycap, hy, y1, y2, y3⟩ := hrx.len
        rw [hy] at hcx
        rw [← hL] at hcx
        clear hrx hy y1 y2 y3
        have HL0 := Lib.hid (show k = 0 → bk L = bk (xss.getD 0 []).length from fun e => by subst e; rw [hL])
        clear hL
        by_cases hs : (L : Int) < 65536
        · have HC := Lib.hid (bucket_ok L w (by omega) hs)
          cases k with
          | zero =>
            have h0 := HL0.out rfl
            rw [fstB_0]
            simp only [Nat.add_zero] at hcx
            have HOk := Lib.hid (HA (∀ j, j < 1 → OkAt xss j) (fun q j hj => (show 0 = j by omega) ▸ q) hs h0)
            have HF := Lib.hid (show fstB xss 1 = bk L by rw [fstB_s, h0])
            clear HA HNA h0 hs
            have hne : (bk L != bk L) = false := by simp
            go_wp2_with (go_at_call 13; refine HC.out.mono ?_; rintro e w' ⟨rfl, rfl⟩)
            go_round
            case rel => exact ⟨1, by omega, rfl, by rw [HF.out], HOk.out⟩
            case measure => simp [intOf]; omega
          | succ k =>
            have hkz : (((k + 1 : Nat) : Int) == 0) = false := by rw [beq_eq_false_iff_ne]; omega
            rw [fstB_s]
            by_cases he : bk L = bk (xss.getD 0 []).length
            · have HOk := Lib.hid (HA (∀ j, j < k + 1 + 1 → OkAt xss j) (fun q j hj => by
                by_cases hj' : j = k + 1
                · subst hj'; exact q
                · exact HO.out j (by omega)) hs he)
              have hne : (bk L != bk (xss.getD 0 []).length) = false := by rw [bne_eq_false_iff_eq]; exact he
              have HF := Lib.hid (show fstB xss (k + 1 + 1) = bk (xss.getD 0 []).length from fstB_s _ _)
              clear HA HNA hs he
              generalize bk (xss.getD 0 []).length = F at *
              generalize bk L = G at *
              go_wp2_with (go_at_call 13; refine HC.out.mono ?_; rintro e w' ⟨rfl, rfl⟩)
              go_round
              case rel => exact ⟨k + 1 + 1, by omega, by go_num, by rw [HF.out], HOk.out⟩
              case measure => simp [intOf]; omega
            · have HF := Lib.hid (HNA fun _ q => he q)
              have hne : (bk L != bk (xss.getD 0 []).length) = true := by rw [bne_iff_ne]; exact he
              clear HA HNA hs he
              generalize bk (xss.getD 0 []).length = F at *
              generalize bk L = G at *
              go_wp2_with (go_at_call 13; refine HC.out.mono ?_; rintro e w' ⟨rfl, rfl⟩)
              go_ret
              exact ⟨by rw [HF.out]; rfl, rfl⟩
        · have HC := Lib.hid (bucket_big L w (by omega))
          have HF := Lib.hid (HNA fun q _ => hs q)
          clear HA HNA hs
          go_wp2_with (go_at_call 13; refine HC.out.mono ?_; rintro e w' ⟨rfl, rfl⟩)
          go_ret
          exact ⟨by rw [HF.out]; rfl, rfl⟩
      · obtain rfl : k = xss.length := by omega
        have HF := Lib.hid (sameB_true HO.out)
        go_wp2
        go_ret
        exact ⟨by rw [HF.out]; rfl, rfl⟩
  · obtain rfl : xss = [] := List.eq_nil_of_length_eq_zero (by omega)
    obtain ⟨a, cap, rfl, h1, h2, h3⟩ := h.len
    go_enter Try.func15, Try.ntmps15
    go_wp2
    refine wp_loop_rounds 1 ?_
    rw [rounds_succ]
    go_wp2
    go_ret
    exact ⟨rfl, rfl⟩
set_option maxRecDepth 100000 in
set_option maxHeartbeats 2000000 in
theorem rsame_any (v : Value) (xss : List (List Int)) (w : World) (h : Rds w v xss) :
    Calls Try.prog 16 #[v] w fun e w' => e = .returned (.bool (sameB xss)) ∧ w = w' := by
  by_cases hp : 0 < xss.length
  · obtain ⟨b, off, cap, vs, rfl, hc, hm, hb, hcell, hr⟩ := h.addr hp
    have HX := Lib.hid hcell; clear hcell
    have HR := Lib.hid hr; clear hr
    have HM := Lib.hid hm
    unfold maxLen at hm
    go_enter Try.func16, Try.ntmps16
    go_wp2
    go_loop [3, 10] (fun n i => ∃ k : Nat, k ≤ xss.length ∧ i = .int .i64 k ∧ n = .int .i64 (fstB xss k) ∧ ∀ j, j < k → OkAt xss j) (fun _ i => xss.length - (intOf i).toNat)
    case atStart => exact ⟨0, Nat.zero_le _, rfl, by rw [fstB_0], fun j hj => by omega⟩
    case round =>
      obtain ⟨k, hk, rfl, rfl, hok⟩ := hrel
      have HO := Lib.hid hok; clear hok
      by_cases hlt : k < xss.length
      · have hcx := HX.out k hlt
        have hrx := HR.out k hlt
        obtain ⟨L, hL⟩ : ∃ L, L = (xss.getD k []).length := ⟨_, rfl⟩
        have HA : ∀ x : Prop, (OkAt xss k → x) → ((L : Int) < 65536) → (bk L = bk (xss.getD 0 []).length) → x := fun x hx h1 h2 => hx ⟨by rw [← hL]; exact h1, by rw [← hL]; exact h2⟩
        have HNA : ((L : Int) < 65536 → bk L = bk (xss.getD 0 []).length → False) → sameB xss = false := fun hx => sameB_false hlt fun q => hx (by rw [hL]; exact q.1) (by rw [hL]; exact q.2)
        obtain ⟨ya, ycap, hy, y1, y2, y3⟩ := hrx.len
        rw [hy] at hcx
        rw [← hL] at hcx
        clear hrx hy y1 y2 y3
        have HL0 := Lib.hid (show k = 0 → bk L = bk (xss.getD 0 []).length from fun e => by subst e; rw [hL])
        clear hL
        by_cases hs : (L : Int) < 65536
        · have HC := Lib.hid (rbucket_ok L w (by omega) hs)
          cases k with
          | zero =>
            have h0 := HL0.out rfl
            rw [fstB_0]
            simp only [Nat.add_zero] at hcx
            have HOk := Lib.hid (HA (∀ j, j < 1 → OkAt xss j) (fun q j hj => (show 0 = j by omega) ▸ q) hs h0)
            have HF := Lib.hid (show fstB xss 1 = bk L by rw [fstB_s, h0])
            clear HA HNA h0 hs
            have hne : (bk L != bk L) = false := by simp
            go_wp2_with (go_at_call 14; refine HC.out.mono ?_; rintro e w' ⟨rfl, rfl⟩)
            go_round
            case rel => exact ⟨1, by omega, rfl, by rw [HF.out], HOk.out⟩
            case measure => simp [intOf]; omega
          | succ k =>
            have hkz : decide ((0 : Int) < (k : Int) + 1) = true := by rw [decide_eq_true_eq]; omega
            rw [fstB_s]
            by_cases he : bk L = bk (xss.getD 0 []).length
            · have HOk := Lib.hid (HA (∀ j, j < k + 1 + 1 → OkAt xss j) (fun q j hj => by
                by_cases hj' : j = k + 1
                · subst hj'; exact q
                · exact HO.out j (by omega)) hs he)
              have hne : (bk L != bk (xss.getD 0 []).length) = false := by rw [bne_eq_false_iff_eq]; exact he
              have HE := Lib.hid he
              have HF := Lib.hid (show fstB xss (k + 1 + 1) = bk (xss.getD 0 []).length from fstB_s _ _)
              clear HA HNA hs he
              generalize bk (xss.getD 0 []).length = F at *
              generalize bk L = G at *
              go_wp2_with (go_at_call 14; refine HC.out.mono ?_; rintro e w' ⟨rfl, rfl⟩)
              go_round
              case rel => exact ⟨k + 1 + 1, by omega, by go_num, by rw [HF.out, HE.out], HOk.out⟩
              case measure => simp [intOf]; omega
            · have HF := Lib.hid (HNA fun _ q => he q)
              have hne : (bk L != bk (xss.getD 0 []).length) = true := by rw [bne_iff_ne]; exact he
              clear HA HNA hs he
              generalize bk (xss.getD 0 []).length = F at *
              generalize bk L = G at *
              go_wp2_with (go_at_call 14; refine HC.out.mono ?_; rintro e w' ⟨rfl, rfl⟩)
              go_ret
              exact ⟨by rw [HF.out]; rfl, rfl⟩
        · have HC := Lib.hid (rbucket_big L w (by omega))
          have HF := Lib.hid (HNA fun q _ => hs q)
          clear HA HNA hs
          go_wp2_with (go_at_call 14; refine HC.out.mono ?_; rintro e w' ⟨rfl, rfl⟩)
          go_ret
          exact ⟨by rw [HF.out]; rfl, rfl⟩
      · obtain rfl : k = xss.length := by omega
        have HF := Lib.hid (sameB_true HO.out)
        go_wp2
        go_ret
        exact ⟨by rw [HF.out]; rfl, rfl⟩
  · obtain rfl : xss = [] := List.eq_nil_of_length_eq_zero (by omega)
    obtain ⟨a, cap, rfl, h1, h2, h3⟩ := h.len
    go_enter Try.func16, Try.ntmps16
    go_wp2
    refine wp_loop_rounds 1 ?_
    rw [rounds_succ]
    go_wp2
    go_ret
    exact ⟨rfl, rfl⟩

theorem big_any (v : Value) (xss : List (List Int)) (w : World) (h : Rds w v xss) (hs : lsum bigN xss ≤ 9223372036854775807) :
    Calls Try.prog 8 #[v] w fun e w' => e = .returned (.bool (decide (300000 < lsum bigN xss))) ∧ w = w' := by
  by_cases hp : 0 < xss.length
  · obtain ⟨b, off, cap, vs, rfl, hc, hm, hb, hcell, hr⟩ := h.addr hp
    have HX := Lib.hid hcell; clear hcell
    have HR := Lib.hid hr; clear hr
    have HS := Lib.hid hs; clear hs
    unfold maxLen at hm
    go_enter Try.func8, Try.ntmps8
    go_wp2
    go_loop [3, 8] (fun n i => ∃ k : Nat, k ≤ xss.length ∧ i = .int .i64 k ∧ n = .int .i64 (lsum bigN (xss.take k))) (fun _ i => xss.length - (intOf i).toNat)
    case atStart => exact ⟨0, Nat.zero_le _, rfl, rfl⟩
    case round =>
      obtain ⟨k, hk, rfl, rfl⟩ := hrel
      by_cases hlt : k < xss.length
      · have hcx := HX.out k hlt
        have hrx := HR.out k hlt
        have t1 := Lib.hid (lsum_take bigN xss k hlt)
        have t2 := lsum_take_le bigN bigN_nonneg xss (k + 1)
        have t3 := lsum_nonneg bigN bigN_nonneg (xss.take k)
        have t4 := HS.out
        rw [t1.out] at t2
        generalize vs.getD k undef = y at *
        obtain ⟨ya, ycap, rfl, y1, y2, y3⟩ := hrx.len
        have t5 : bigN (xss.getD k []) = (xss.getD k []).length + 1 := rfl
        rw [t5] at t1 t2
        clear t5
        generalize xss.getD k [] = ys at *
        generalize lsum bigN (xss.take k) = s at *
        generalize lsum bigN xss = s2 at *
        go_wp2
        go_round
        case rel => exact ⟨k + 1, by omega, by go_num, by rw [t1.out]⟩
        case measure => simp [intOf]; omega
      · obtain rfl : k = xss.length := by omega
        have ht : xss.take xss.length = xss := List.take_length
        rw [ht]
        go_wp2
        go_ret
        exact ⟨rfl, rfl⟩
  · obtain rfl : xss = [] := List.eq_nil_of_length_eq_zero (by omega)
    obtain ⟨a, cap, rfl, h1, h2, h3⟩ := h.len
    go_enter Try.func8, Try.ntmps8
    go_wp2
    refine wp_loop_rounds 1 ?_
    rw [rounds_succ]
    go_wp2
    go_ret
    exact ⟨rfl, rfl⟩


def SomeBool (w : World) (e : Ending) (w' : World) : Prop := (∃ b, e = .returned (.bool b)) ∧ w = w'

/-- However long: it tells something. -/
theorem big_some (v : Value) (xss : List (List Int)) (w : World) (h : Rds w v xss) :
    Calls Try.prog 8 #[v] w (SomeBool w) := by
  by_cases hp : 0 < xss.length
  · obtain ⟨b, off, cap, vs, rfl, hc, hm, hb, hcell, hr⟩ := h.addr hp
    have HX := Lib.hid hcell; clear hcell
    have HR := Lib.hid hr; clear hr
    unfold maxLen at hm
    go_enter Try.func8, Try.ntmps8
    go_wp2
    go_loop [3, 8] (fun n i => ∃ k : Nat, k ≤ xss.length ∧ i = .int .i64 k ∧ ∃ s : Int, n = .int .i64 s) (fun _ i => xss.length - (intOf i).toNat)
    case atStart => exact ⟨0, Nat.zero_le _, rfl, 0, rfl⟩
    case round =>
      obtain ⟨k, hk, rfl, s, rfl⟩ := hrel
      by_cases hlt : k < xss.length
      · have hcx := HX.out k hlt
        have hrx := HR.out k hlt
        generalize vs.getD k undef = y at *
        obtain ⟨ya, ycap, rfl, y1, y2, y3⟩ := hrx.len
        generalize xss.getD k [] = ys at *
        go_wp2
        go_round
        case rel => exact ⟨k + 1, by omega, by go_num, _, rfl⟩
        case measure => simp [intOf]; omega
      · obtain rfl : k = xss.length := by omega
        go_wp2
        go_ret
        exact ⟨⟨_, rfl⟩, rfl⟩
  · obtain rfl : xss = [] := List.eq_nil_of_length_eq_zero (by omega)
    obtain ⟨a, cap, rfl, h1, h2, h3⟩ := h.len
    go_enter Try.func8, Try.ntmps8
    go_wp2
    refine wp_loop_rounds 1 ?_
    rw [rounds_succ]
    go_wp2
    go_ret
    exact ⟨⟨_, rfl⟩, rfl⟩
end Go.Proofs.Ytgdpdjofhidllaa

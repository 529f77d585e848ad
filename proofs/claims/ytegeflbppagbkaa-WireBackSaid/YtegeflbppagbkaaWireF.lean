/- Walks of package wire: lists as bytes. -/
import Derived.Test.YtegeflbppagbkaaWireE
import Derived.Test.YtegeflbppagbkaaLists
set_option linter.unusedSimpArgs false
set_option linter.unusedVariables false
namespace Go.Proofs.Ytegeflbppagbkaa
open Go.RowKit

/-- All the elements' vectors, one behind the other. -/
def vecs (xss : List (List Int)) : List Int := (xss.map vecB).flatten
/-- The number of a vector's bytes. -/
def vsz (x : List Int) : Int := (vecB x).length
theorem vsz_nonneg (x : List Int) : 0 ≤ vsz x := by unfold vsz; omega
theorem vecs_length (xss : List (List Int)) : ((vecs xss).length : Int) = lsum vsz xss := by
  induction xss with
  | nil => rfl
  | cons x r ih =>
    have e : vecs (x :: r) = vecB x ++ vecs r := by simp [vecs]
    rw [e, List.length_append]
    simp only [lsum, vsz]
    omega
theorem vecs_take (l : List (List Int)) (k : Nat) (h : k < l.length) : vecs (l.take (k + 1)) = vecs (l.take k) ++ vecB (l.getD k []) := by
  have e : vecs (l.take k ++ [l[k]]) = vecs (l.take k) ++ vecB l[k] := by
    unfold vecs
    rw [List.map_append, List.flatten_append]
    simp
  rw [List.take_succ_eq_append_getElem h, e]
  simp [List.getD, List.getElem?_eq_getElem h]

theorem lsum_elem (f : List Int → Int) (hf : ∀ x, 0 ≤ f x) (l : List (List Int)) (k : Nat) (h : k < l.length) : f (l.getD k []) ≤ lsum f l := by
  have h1 := lsum_take f l k h
  have h2 := lsum_take_le f hf l (k + 1)
  have h3 := lsum_nonneg f hf (l.take k)
  omega

theorem join_bad (v : Value) (xss : List (List Int)) (w : World) (h : Rds w v xss) (hl : ∀ i, i < xss.length → (xss.getD i []).length ≤ 140737488355328) (hs : 1073741824 ≤ lsum vsz xss) :
    Calls Try.prog 6 #[v] w fun e w' => e = .returned (.tuple #[.slice none 0 0, .int .i64 1]) ∧ w = w' := by
  have hp : 0 < xss.length := by
    rcases Nat.eq_zero_or_pos xss.length with h0 | h0
    · obtain rfl : xss = [] := List.eq_nil_of_length_eq_zero h0
      simp [lsum] at hs
    · exact h0
  obtain ⟨b, off, cap, vs, rfl, hc, hm, hb, hcell, hr⟩ := h.addr hp
  have HX := Lib.hid hcell; clear hcell
  have HR := Lib.hid hr; clear hr
  have HS := Lib.hid hs; clear hs
  have HL := Lib.hid hl; clear hl
  unfold maxLen at hm
  go_enter Try.func6, Try.ntmps6
  go_wp2_with fail
  go_loop [4, 12] (fun n i => ∃ k : Nat, k ≤ xss.length ∧ i = .int .i64 k ∧ n = .int .i64 (lsum vsz (xss.take k)) ∧ lsum vsz (xss.take k) < 1073741824) (fun _ i => xss.length - (intOf i).toNat)
  case atStart => exact ⟨0, Nat.zero_le _, rfl, rfl, by simp [lsum]⟩
  case round =>
    obtain ⟨k, hk, rfl, rfl, hbd⟩ := hrel
    have hlt : k < xss.length := by
      rcases Nat.lt_or_ge k xss.length with h1 | h1
      · exact h1
      · have := HS.out
        rw [List.take_of_length_le h1] at hbd
        omega
    have hcx := HX.out k hlt
    have HV := Lib.hid (vectorSize_any _ _ w (HR.out k hlt) (HL.out k hlt))
    have t1 := Lib.hid (lsum_take vsz xss k hlt)
    have t3 := lsum_nonneg vsz vsz_nonneg (xss.take k)
    have t5 : ((vecB (xss.getD k [])).length : Int) = vsz (xss.getD k []) := rfl
    rw [t5] at HV
    have t6 := vsz_nonneg (xss.getD k [])
    have t7 : vsz (xss.getD k []) ≤ 140737488355332 := by
      have a1 := vecB_length (xss.getD k [])
      have a2 := isz_pos (xss.getD k []).length
      have a3 := HL.out k hlt
      unfold vsz; omega
    clear t5
    generalize vs.getD k undef = y at *
    generalize vsz (xss.getD k []) = ys at *
    generalize lsum vsz (xss.take k) = s at *
    by_cases hlim : s + ys < 1073741824
    · have hlim' : decide (1073741824 ≤ s + ys) = false := by simp; omega
      go_wp2_with (go_at_call 11; refine HV.out.mono ?_; rintro e w' ⟨rfl, rfl⟩)
      go_round
      case rel => exact ⟨k + 1, by omega, by go_num, by rw [t1.out], by rw [t1.out]; exact hlim⟩
      case measure => simp [intOf]; omega
    · have hlim' : decide (1073741824 ≤ s + ys) = true := by simp; omega
      go_wp2_with (go_at_call 11; refine HV.out.mono ?_; rintro e w' ⟨rfl, rfl⟩)
      go_ret2
      exact ⟨rfl, rfl⟩

theorem join_ok (v : Value) (xss : List (List Int)) (w : World) (h : Rds w v xss) (hs : lsum vsz xss < 1073741824) :
    Calls Try.prog 6 #[v] w fun e w' => ∃ v', e = .returned (.tuple #[v', .int .i64 0]) ∧ Own w.heap.size 5 w' v' (vecB (vecs xss)) ∧ Kept w w' := by
  have tn := lsum_nonneg vsz vsz_nonneg xss
  have tv := vecs_length xss
  have HLs := Lib.hid (fun i hi => lsum_elem vsz vsz_nonneg xss i hi)
  have hib : (ib (lsum vsz xss)).length ≤ 4 := by have := @ib_length (lsum vsz xss); have := isz_pos (lsum vsz xss); omega
  have HVB := Lib.hid (show vecB (vecs xss) = ib (lsum vsz xss) ++ vecs xss by unfold vecB; rw [tv])
  have HTV := Lib.hid tv; clear tv
  have HSZ := Lib.hid (intSize_any (lsum vsz xss) w)
  obtain ⟨p1, p2⟩ := isz_pos (lsum vsz xss)
  by_cases hp : 0 < xss.length
  · have hrds := h
    obtain ⟨b, off, cap, vs, rfl, hc, hm, hb, hcell, hr⟩ := h.addr hp
    have HX := Lib.hid hcell; clear hcell
    have HR := Lib.hid hr; clear hr
    have HS := Lib.hid hs; clear hs
    unfold maxLen at hm
    go_enter Try.func6, Try.ntmps6
    go_wp2_with fail
    go_loop [4, 12] (fun n i => ∃ k : Nat, k ≤ xss.length ∧ i = .int .i64 k ∧ n = .int .i64 (lsum vsz (xss.take k))) (fun _ i => xss.length - (intOf i).toNat)
    case atStart => exact ⟨0, Nat.zero_le _, rfl, rfl⟩
    case round =>
      obtain ⟨k, hk, rfl, rfl⟩ := hrel
      by_cases hlt : k < xss.length
      · have hcx := HX.out k hlt
        have e1 := HLs.out k hlt
        have e2 := vsz_nonneg (xss.getD k [])
        have e3 : (xss.getD k []).length ≤ 140737488355328 := by
          have a1 := vecB_length (xss.getD k [])
          have a2 := isz_pos (xss.getD k []).length
          have a3 : ((vecB (xss.getD k [])).length : Int) = vsz (xss.getD k []) := rfl
          have a4 := HS.out
          omega
        have HV := Lib.hid (vectorSize_any _ _ w (HR.out k hlt) e3)
        clear e3
        have t1 := Lib.hid (lsum_take vsz xss k hlt)
        have t2 := lsum_take_le vsz vsz_nonneg xss (k + 1)
        have t3 := lsum_nonneg vsz vsz_nonneg (xss.take k)
        rw [t1.out] at t2
        have t5 : ((vecB (xss.getD k [])).length : Int) = vsz (xss.getD k []) := rfl
        rw [t5] at HV
        clear t5
        have t8 : lsum vsz (xss.take k) + vsz (xss.getD k []) < 1073741824 := by have := HS.out; omega
        clear e1
        generalize vs.getD k undef = y at *
        generalize vsz (xss.getD k []) = ys at *
        generalize lsum vsz (xss.take k) = s at *
        have hlim' : decide (1073741824 ≤ s + ys) = false := by simp; omega
        go_wp2_with (go_at_call 11; refine HV.out.mono ?_; rintro e w' ⟨rfl, rfl⟩)
        go_round
        case rel => exact ⟨k + 1, by omega, by go_num, by rw [t1.out]⟩
        case measure => simp [intOf]; omega
      · obtain rfl : k = xss.length := by omega
        have ht : xss.take xss.length = xss := List.take_length
        rw [ht]
        clear ht
        have hs := HS.out
        have HA := Lib.hid (fun (v : Value) w1 (hk1 : Own w.heap.size 5 w1 v []) (hs1 : w.heap.size ≤ w1.heap.size) => appendInt_any w.heap.size v [] (lsum vsz xss) w1 hs1 hk1 (by simp) tn hs)
        have HTL := Lib.hid (fun k => lsum_take_le vsz vsz_nonneg xss k)
        generalize lsum vsz xss = T at *
        go_wp2_with (first | (go_at_call 12; refine HSZ.out.mono ?_; rintro e w' ⟨rfl, rfl⟩) | (at_make; refine go_mkb (isz T + T) rfl (by omega) (by omega) ?_; intro v1 w1 ho1 hk1) | (go_at_call 13; refine (HA.out _ _ ho1 hk1.size).mono ?_; rintro e w2 ⟨v2, rfl, ho2, hb2⟩))
        have hb0 : Kept w w2 := hk1.trans' hb2
        have HLT := Lib.hid (fun k => vecs_length (xss.take k))
        clear hk1 hb2 ho1
        go_loopw [7, 33] (fun v i wr => ∃ k : Nat, k ≤ xss.length ∧ i = .int .i64 k ∧ Own w.heap.size 5 wr v (ib T ++ vecs (xss.take k)) ∧ Kept w wr) (fun _ i _ => xss.length - (intOf i).toNat)
        case atStart => exact ⟨0, Nat.zero_le _, rfl, by simpa [vecs] using ho2, hb0⟩
        case round =>
          obtain ⟨k, hk, rfl, hown, hkept⟩ := hrel
          clear ho2 hb0
          by_cases hlt : k < xss.length
          · have hcx : wr.cell? ⟨b, off + k, none⟩ = some (vs.getD k undef) := by rw [Below.cell hkept (by exact hb)]; exact HX.out k hlt
            have e1 := HLs.out k hlt
            have e2 := HTL.out k
            have e3 := HLT.out k
            have e4 : ((xss.getD k []).length : Int) < 1073741824 := by
              have a1 := vecB_length (xss.getD k [])
              have a2 := isz_pos (xss.getD k []).length
              have a3 : ((vecB (xss.getD k [])).length : Int) = vsz (xss.getD k []) := rfl
              omega
            have e5 : (ib T ++ vecs (xss.take k)).length ≤ 4294967296 := by rw [List.length_append]; omega
            have HV := Lib.hid (appendVector_any w.heap.size _ _ _ _ wr hkept.size hown ((HR.out k hlt).old' (Nat.le_refl _) hkept) e5 e4)
            have HT := Lib.hid (vecs_take xss k hlt)
            clear e1 e2 e3 e4 e5
            generalize vs.getD k undef = y at *
            go_wp2_with (go_at_call 14; refine HV.out.mono ?_; rintro e w3 ⟨v3, rfl, ho3, hb3⟩)
            go_roundw
            case rel => exact ⟨k + 1, by omega, by go_num, by rw [HT.out, ← List.append_assoc]; exact ho3, hkept.trans' hb3⟩
            case measure => simp [intOf]; omega
          · obtain rfl : k = xss.length := by omega
            have ht : xss.take xss.length = xss := List.take_length
            rw [ht] at hown
            go_wp2_with fail
            go_ret2
            exact ⟨_, rfl, by rw [HVB.out]; exact hown, hkept⟩
  · obtain rfl : xss = [] := List.eq_nil_of_length_eq_zero (by omega)
    obtain ⟨a, cap, rfl, h1, h2, h3⟩ := h.len
    have HA := Lib.hid (fun (v : Value) w1 (hk1 : Own w.heap.size 5 w1 v []) (hs1 : w.heap.size ≤ w1.heap.size) => appendInt_any w.heap.size v [] 0 w1 hs1 hk1 (by simp) (by omega) (by omega))
    have e0 : lsum vsz [] = 0 := rfl
    rw [e0] at HSZ p1 p2 hib HVB
    clear e0 tn hs
    go_enter Try.func6, Try.ntmps6
    go_wp2_with fail
    refine wp_loop_rounds 1 ?_
    rw [rounds_succ]
    go_wp2_with (first | (go_at_call 12; refine HSZ.out.mono ?_; rintro e w' ⟨rfl, rfl⟩) | (at_make; refine go_mkb (isz 0) rfl (by omega) (by omega) ?_; intro v1 w1 ho1 hk1) | (go_at_call 13; refine (HA.out _ _ ho1 hk1.size).mono ?_; rintro e w2 ⟨v2, rfl, ho2, hb2⟩))
    refine wp_loop_rounds 1 ?_
    rw [rounds_succ]
    go_wp2_with fail
    go_ret2
    exact ⟨_, rfl, by rw [HVB.out]; simpa [vecs] using ho2, hk1.trans' hb2⟩
end Go.Proofs.Ytegeflbppagbkaa

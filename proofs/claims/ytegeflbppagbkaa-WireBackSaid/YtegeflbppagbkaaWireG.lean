/- Walks of package wire: lists are read. -/
import Derived.Test.YtegeflbppagbkaaWireF
import Derived.Test.YtegeflbppagbkaaBaseL
set_option linter.unusedSimpArgs false
set_option linter.unusedVariables false
namespace Go.Proofs.Ytegeflbppagbkaa
open Go.RowKit

theorem takeI_ib (n : Int) (h0 : 0 ≤ n) (h1 : n < 1073741824) (r : List Int) : takeI (ib n ++ r) = (n, isz n, 0) := by
  by_cases c1 : n < 64
  · rw [ib_1 c1, isz_1 c1]
    unfold takeI
    have e0 : ([n] ++ r).getD 0 0 = n := rfl
    rw [e0, if_neg (by simp), if_neg (by omega), if_pos c1]
  by_cases c2 : n < 16384
  · rw [ib_2 (by omega) c2, isz_2 (by omega) c2]
    unfold takeI
    have e0 : ([64 + n / 256, n % 256] ++ r).getD 0 0 = 64 + n / 256 := rfl
    have e1 : ([64 + n / 256, n % 256] ++ r).getD 1 0 = n % 256 := rfl
    rw [e0, e1, if_neg (by simp), if_neg (by omega), if_neg (by omega), if_pos (by omega), if_neg (by simp), if_neg (by omega)]
    congr 1; omega
  · rw [ib_4 (by omega), isz_4 (by omega)]
    unfold takeI
    have e0 : ([128 + n / 16777216, n / 65536 % 256, n / 256 % 256, n % 256] ++ r).getD 0 0 = 128 + n / 16777216 := rfl
    have e1 : ([128 + n / 16777216, n / 65536 % 256, n / 256 % 256, n % 256] ++ r).getD 1 0 = n / 65536 % 256 := rfl
    have e2 : ([128 + n / 16777216, n / 65536 % 256, n / 256 % 256, n % 256] ++ r).getD 2 0 = n / 256 % 256 := rfl
    have e3 : ([128 + n / 16777216, n / 65536 % 256, n / 256 % 256, n % 256] ++ r).getD 3 0 = n % 256 := rfl
    rw [e0, e1, e2, e3, if_neg (by simp), if_neg (by omega), if_neg (by omega), if_neg (by omega), if_neg (by simp), if_neg (by omega)]
    congr 1; omega

/-- A vector at the beginning is read as what it was. -/
theorem takeI_vec (y r : List Int) (hy : (y.length : Int) < 1073741824) : takeI (vecB y ++ r) = ((y.length : Int), isz y.length, 0) := by
  unfold vecB; rw [List.append_assoc]; exact takeI_ib _ (by omega) hy _
theorem vec_cut (y r : List Int) : ((vecB y ++ r).take (isz y.length + y.length).toNat).drop (isz y.length).toNat = y := by
  have h1 := vecB_length y
  have h2 := @ib_length (y.length : Int)
  have e1 : (isz y.length + y.length).toNat = (vecB y).length := by omega
  have e2 : (isz y.length).toNat = (ib y.length).length := by omega
  rw [e1, e2, List.take_left]
  unfold vecB
  rw [List.drop_left]
theorem vec_rest (y r : List Int) : (vecB y ++ r).drop (isz y.length + y.length).toNat = r := by
  have h1 := vecB_length y
  have e1 : (isz y.length + y.length).toNat = (vecB y).length := by omega
  rw [e1, List.drop_left]
theorem vecs_cons (y : List Int) (l : List (List Int)) : vecs (y :: l) = vecB y ++ vecs l := by simp [vecs]
theorem vecs_drop (l : List (List Int)) (k : Nat) (h : k < l.length) : vecs (l.drop k) = vecB (l.getD k []) ++ vecs (l.drop (k + 1)) := by
  rw [List.drop_eq_getElem_cons h, vecs_cons]
  simp [List.getD, List.getElem?_eq_getElem h]
theorem By.right {a b : List Int} (h : By (a ++ b)) : By b := fun z hz => h z (List.mem_append_right _ hz)
theorem By.left {a b : List Int} (h : By (a ++ b)) : By a := fun z hz => h z (List.mem_append_left _ hz)
theorem vecs_split (l : List (List Int)) (k : Nat) : vecs l = vecs (l.take k) ++ vecs (l.drop k) := by
  have e : vecs (l.take k ++ l.drop k) = vecs (l.take k) ++ vecs (l.drop k) := by
    unfold vecs
    rw [List.map_append, List.flatten_append]
  rw [← e, List.take_append_drop]
theorem vecs_len_le (l : List (List Int)) : l.length ≤ (vecs l).length := by
  induction l with
  | nil => simp
  | cons y r ih =>
    rw [vecs_cons, List.length_append]
    have h1 := vecB_length y
    have h2 := isz_pos y.length
    simp only [List.length_cons]
    omega

def lenOf : Value → Nat | .slice _ n _ => n | _ => 0

theorem one_maxLen : 1 ≤ maxLen := by unfold maxLen; omega

theorem Try.ones_slice (v : Value) {w : World} {zs : List Int} (h : Rd w v zs) : ∀ u ∈ [v], u.oneCell' = true := by
  obtain ⟨a, cap, rfl, _⟩ := h.len
  intro u hu
  simp at hu
  subst hu
  rfl

set_option maxRecDepth 100000 in
theorem split_ok (v : Value) (zs : List Int) (w : World) (h : Rd w v zs) (hb : By zs) (hl : zs.length ≤ 2147483648) (n k : Int) (ht : takeI zs = (n, k, 0)) (hs : n ≤ zs.length - k) (yss : List (List Int)) (hy : (zs.take (k + n).toNat).drop k.toNat = vecs yss) :
    Calls Try.prog 7 #[v] w fun x w' => ∃ v', x = .returned (.tuple #[v', .int .i64 (k + n), .int .i64 0]) ∧ Rds w' v' yss ∧ Kept w w' := by
  have HC := Lib.hid (look_ok v zs w h hb n k ht hs)
  rw [hy] at HC
  have hby : By (vecs yss) := by rw [← hy]; exact (hb.take _).drop _
  have hlen : (vecs yss).length ≤ 1073741824 := by
    rw [← hy]
    obtain ⟨p1, p2, p3, p4⟩ := takeI_ok hb (by rw [ht])
    rw [ht] at p1 p2 p3 p4
    dsimp only at p1 p2 p3 p4
    rw [List.length_drop, List.length_take]; omega
  clear hy ht hs h hb hl
  have hyl : yss.length ≤ 1073741824 := by have := vecs_len_le yss; omega
  have HBY := Lib.hid hby; clear hby
  have HYL := Lib.hid hyl; clear hyl
  have HLN := Lib.hid hlen; clear hlen
  go_enter Try.func7, Try.ntmps7
  go_wp2_with (go_at_call 15; refine HC.out.mono ?_; rintro e w1 ⟨v1, rfl, hr1, hk1⟩)
  go_loopw [5, 8] (fun r l wr => ∃ (j : Nat) (vs : List Value), j ≤ yss.length ∧ vs.length = j ∧ Old w1.heap.size wr r (vecs (yss.drop j)) ∧ Ownv w1.heap.size 23 1 wr l j vs ∧ (∀ i, i < j → Own w1.heap.size 5 wr (vs.getD i undef) (yss.getD i [])) ∧ Kept w1 wr) (fun r _ _ => lenOf r)
  case atStart => exact ⟨0, [], Nat.zero_le _, rfl, by simpa using hr1.old, World.ownsRow_nil _ _ _ _, fun i hi => by omega, Kept.refl _⟩
  case round =>
    obtain ⟨j, vs, hj, hvs, hold, hown, hels, hkept⟩ := hrel
    have HVS := Lib.hid hvs; clear hvs
    have HE := Lib.hid hels; clear hels
    obtain ⟨ra, rcap, rfl, rh1, rh2, rh3⟩ := hold.rd.len
    by_cases hlt : j < yss.length
    · have hvd := vecs_drop yss j hlt
      have hyl1 : ((yss.getD j []).length : Int) < 1073741824 := by
        have a1 := vecB_length (yss.getD j [])
        have a2 := isz_pos (yss.getD j []).length
        have a3 := HLN.out
        rw [vecs_split yss j, hvd] at a3
        simp only [List.length_append] at a3
        omega
      have hrd := hold.rd
      have hbr : By (vecs (yss.drop j)) := by
        have := HBY.out
        rw [vecs_split yss j] at this
        exact this.right
      have hrl : (vecs (yss.drop j)).length ≤ 2147483648 := by
        have a3 := HLN.out
        rw [vecs_split yss j, List.length_append] at a3
        omega
      have hR : vecs (yss.drop j) = vecB (yss.getD j []) ++ (vecs (yss.drop (j + 1))) := by rw [hvd]
      have hvl := vecB_length (yss.getD j [])
      have HT1 := Lib.hid (takeBytes_ok _ _ wr hrd hbr _ _ (by rw [hR]; exact takeI_vec _ _ hyl1) (by rw [hR, List.length_append]; omega) hrl)
      have hcut := vec_cut (yss.getD j []) (vecs (yss.drop (j + 1)))
      rw [← hR] at hcut
      rw [hcut] at HT1
      have HRS := Lib.hid (vec_rest (yss.getD j []) (vecs (yss.drop (j + 1))))
      rw [← hR] at HRS
      have hkl : isz (yss.getD j []).length + (yss.getD j []).length ≤ (vecs (yss.drop j)).length := by rw [hR, List.length_append]; omega
      have hk0 := isz_pos (yss.getD j []).length
      clear hcut hR hvd hbr hrl
      have hg : 0 < (vecs (yss.drop j)).length := by omega
      generalize vecs (yss.drop j) = rest at *
      generalize isz (yss.getD j []).length = ik at *
      generalize hyj : yss.getD j [] = yj at *
      have HYJ := Lib.hid hyj; clear hyj
      have hmx : (rest.length : Int) ≤ 9223372036854775807 := by unfold maxLen at rh2; omega
      clear hvl
      clear HC
      go_wp2_with (first | (go_at_call 16; refine HT1.out.mono ?_; rintro e w2 ⟨v2, rfl, ho2, hk2⟩; have hlt2 := (Ownv.lit 23 (w := w2) (B := w2.heap.size) [v2] (Nat.le_refl _) one_maxLen).rdv; have hon2 := Lib.hid (Try.ones_slice v2 ho2.rd); have hown2 := (Ownv.kept hown hk2).kept ((Kept.refl w2).alloc (.cells #[v2] 23)); obtain ⟨va, vcap, rfl, vq1, vq2, vq3⟩ := ho2.rd.len; have hs1 := hkept.size; have hs2 := hk2.size; have hs3 := ((Kept.refl w2).alloc (.cells #[Value.slice va yj.length vcap] 23)).size) | (at_builtin; refine go_appl w1.heap.size _ j vs rfl hown2 _ 1 _ rfl hlt2 hon2.out ?_ ?_ ?_; rotate_right; intro v3 w3 ho3 hb3 hg3) | ((with_reducible refine go_cut_lw (.slice ra rest.length rcap) rest ?_ ?_ (ik + yj.length) ?_ ?_ ?_ ?_); rotate_right; intro v4 hv4))
      · have hbw : Below w1.heap.size wr w3 := ((Below.mono hk2 hs1).trans (Below.mono ((Kept.refl w2).alloc (.cells #[Value.slice va yj.length vcap] 23)) (Nat.le_trans hs1 hs2))).trans hb3
        have hln := (hv4 w3 (hold.below hbw).rd).len
        go_roundw
        case rel =>
          refine ⟨j + 1, vs ++ [.slice va yj.length vcap], by omega, by simp [HVS.out], ?_, ho3, ?_, hkept.trans' hbw⟩
          · obtain ⟨w0, q1, q2, q3⟩ := hold
            exact ⟨w0, q1, q2.trans hbw, by rw [← HRS.out]; exact hv4 w0 q3⟩
          · intro i hi
            by_cases hij : i < j
            · have e1 : (vs ++ [Value.slice va yj.length vcap]).getD i undef = vs.getD i undef := by
                simp only [List.getD]
                rw [List.getElem?_append_left (by rw [HVS.out]; exact hij)]
              rw [e1]
              exact Ownv.other (((HE.out i hij).kept hk2).kept ((Kept.refl w2).alloc _)) hown2 (by decide) hg3
            · obtain rfl : i = j := by omega
              have e1 : (vs ++ [Value.slice va yj.length vcap]).getD i undef = .slice va yj.length vcap := by
                simp only [List.getD]
                rw [List.getElem?_append_right (by rw [HVS.out]; exact Nat.le_refl _), HVS.out]
                simp
              rw [e1, HYJ.out]
              exact Ownv.other ((Own.mono ho2 hs1).kept ((Kept.refl w2).alloc _)) hown2 (by decide) hg3
        case measure =>
          obtain ⟨a4, c4, rfl, _⟩ := hln
          simp only [lenOf, List.length_drop]; omega
      · rfl
      · exact (hold.below (((Below.mono hk2 hs1).trans (Below.mono ((Kept.refl w2).alloc (.cells #[Value.slice va yj.length vcap] 23)) (Nat.le_trans hs1 hs2))).trans hb3)).rd
      · rfl
      · omega
      · exact hkl
      · have := HYL.out; omega
      · exact Nat.le_trans hs1 (Nat.le_trans hs2 hs3)
    · obtain rfl : j = yss.length := by omega
      have hd : yss.drop yss.length = [] := List.drop_eq_nil_of_le (Nat.le_refl _)
      have hz : vecs (yss.drop yss.length) = [] := by rw [hd]; rfl
      rw [hz]
      simp only [List.length_nil]
      go_wp2_with fail
      go_ret3
      exact ⟨_, rfl, ⟨vs, HVS.out, hown.rdv, fun i hi => (HE.out i hi).rd⟩, hk1.trans hkept⟩

set_option maxRecDepth 100000 in
theorem split_bad (v : Value) (zs : List Int) (w : World) (h : Rd w v zs) (hb : By zs) (hl : zs.length ≤ 2147483648) (n k : Int) (ht : takeI zs = (n, k, 0)) (hs : n ≤ zs.length - k) (yss : List (List Int)) (tail : List Int) (htl : tail ≠ []) (e : Int) (hne : e ≠ 0) (HT : ∀ v w, Rd w v tail → Calls Try.prog 16 #[v] w fun x w' => x = .returned (.tuple #[.slice none 0 0, .int .i64 0, .int .i64 e]) ∧ Kept w w') (hy : (zs.take (k + n).toNat).drop k.toNat = vecs yss ++ tail) :
    Calls Try.prog 7 #[v] w fun x w' => x = .returned (.tuple #[.slice none 0 0, .int .i64 0, .int .i64 11]) ∧ Kept w w' := by
  have HC := Lib.hid (look_ok v zs w h hb n k ht hs)
  rw [hy] at HC
  have hby : By (vecs yss ++ tail) := by rw [← hy]; exact (hb.take _).drop _
  have hlen : (vecs yss ++ tail).length ≤ 1073741824 := by
    rw [← hy]
    obtain ⟨p1, p2, p3, p4⟩ := takeI_ok hb (by rw [ht])
    rw [ht] at p1 p2 p3 p4
    dsimp only at p1 p2 p3 p4
    rw [List.length_drop, List.length_take]; omega
  clear hy ht hs h hb hl
  have hyl : yss.length ≤ 1073741824 := by have := vecs_len_le yss; rw [List.length_append] at hlen; omega
  have HTT := Lib.hid HT; clear HT
  have hne' : (e != 0) = true := by rw [bne_iff_ne]; exact hne
  have htl' : 0 < tail.length := List.length_pos_iff.2 htl
  clear hne htl
  have HBY := Lib.hid hby; clear hby
  have HYL := Lib.hid hyl; clear hyl
  have HLN := Lib.hid hlen; clear hlen
  go_enter Try.func7, Try.ntmps7
  go_wp2_with (go_at_call 15; refine HC.out.mono ?_; rintro e w1 ⟨v1, rfl, hr1, hk1⟩)
  go_loopw [5, 8] (fun r l wr => ∃ (j : Nat) (vs : List Value), j ≤ yss.length ∧ vs.length = j ∧ Old w1.heap.size wr r (vecs (yss.drop j) ++ tail) ∧ Ownv w1.heap.size 23 1 wr l j vs ∧ (∀ i, i < j → Own w1.heap.size 5 wr (vs.getD i undef) (yss.getD i [])) ∧ Kept w1 wr) (fun r _ _ => lenOf r)
  case atStart => exact ⟨0, [], Nat.zero_le _, rfl, by simpa using hr1.old, World.ownsRow_nil _ _ _ _, fun i hi => by omega, Kept.refl _⟩
  case round =>
    obtain ⟨j, vs, hj, hvs, hold, hown, hels, hkept⟩ := hrel
    have HVS := Lib.hid hvs; clear hvs
    have HE := Lib.hid hels; clear hels
    obtain ⟨ra, rcap, rfl, rh1, rh2, rh3⟩ := hold.rd.len
    by_cases hlt : j < yss.length
    · have hvd := vecs_drop yss j hlt
      have hyl1 : ((yss.getD j []).length : Int) < 1073741824 := by
        have a1 := vecB_length (yss.getD j [])
        have a2 := isz_pos (yss.getD j []).length
        have a3 := HLN.out
        rw [vecs_split yss j, hvd] at a3
        simp only [List.length_append] at a3
        omega
      have hrd := hold.rd
      have hbr : By (vecs (yss.drop j) ++ tail) := by
        have := HBY.out
        rw [vecs_split yss j, List.append_assoc] at this
        exact this.right
      have hrl : (vecs (yss.drop j) ++ tail).length ≤ 2147483648 := by
        have a3 := HLN.out
        rw [vecs_split yss j, List.append_assoc, List.length_append] at a3
        omega
      have hR : vecs (yss.drop j) ++ tail = vecB (yss.getD j []) ++ (vecs (yss.drop (j + 1)) ++ tail) := by rw [hvd, List.append_assoc]
      have hvl := vecB_length (yss.getD j [])
      have HT1 := Lib.hid (takeBytes_ok _ _ wr hrd hbr _ _ (by rw [hR]; exact takeI_vec _ _ hyl1) (by rw [hR, List.length_append]; omega) hrl)
      have hcut := vec_cut (yss.getD j []) (vecs (yss.drop (j + 1)) ++ tail)
      rw [← hR] at hcut
      rw [hcut] at HT1
      have HRS := Lib.hid (vec_rest (yss.getD j []) (vecs (yss.drop (j + 1)) ++ tail))
      rw [← hR] at HRS
      have hkl : isz (yss.getD j []).length + (yss.getD j []).length ≤ (vecs (yss.drop j) ++ tail).length := by rw [hR, List.length_append]; omega
      have hk0 := isz_pos (yss.getD j []).length
      clear hcut hR hvd hbr hrl
      have hg : 0 < (vecs (yss.drop j) ++ tail).length := by omega
      generalize vecs (yss.drop j) ++ tail = rest at *
      generalize isz (yss.getD j []).length = ik at *
      generalize hyj : yss.getD j [] = yj at *
      have HYJ := Lib.hid hyj; clear hyj
      have hmx : (rest.length : Int) ≤ 9223372036854775807 := by unfold maxLen at rh2; omega
      clear hvl
      clear HC
      go_wp2_with (first | (go_at_call 16; refine HT1.out.mono ?_; rintro e w2 ⟨v2, rfl, ho2, hk2⟩; have hlt2 := (Ownv.lit 23 (w := w2) (B := w2.heap.size) [v2] (Nat.le_refl _) one_maxLen).rdv; have hon2 := Lib.hid (Try.ones_slice v2 ho2.rd); have hown2 := (Ownv.kept hown hk2).kept ((Kept.refl w2).alloc (.cells #[v2] 23)); obtain ⟨va, vcap, rfl, vq1, vq2, vq3⟩ := ho2.rd.len; have hs1 := hkept.size; have hs2 := hk2.size; have hs3 := ((Kept.refl w2).alloc (.cells #[Value.slice va yj.length vcap] 23)).size) | (at_builtin; refine go_appl w1.heap.size _ j vs rfl hown2 _ 1 _ rfl hlt2 hon2.out ?_ ?_ ?_; rotate_right; intro v3 w3 ho3 hb3 hg3) | ((with_reducible refine go_cut_lw (.slice ra rest.length rcap) rest ?_ ?_ (ik + yj.length) ?_ ?_ ?_ ?_); rotate_right; intro v4 hv4))
      · have hbw : Below w1.heap.size wr w3 := ((Below.mono hk2 hs1).trans (Below.mono ((Kept.refl w2).alloc (.cells #[Value.slice va yj.length vcap] 23)) (Nat.le_trans hs1 hs2))).trans hb3
        have hln := (hv4 w3 (hold.below hbw).rd).len
        go_roundw
        case rel =>
          refine ⟨j + 1, vs ++ [.slice va yj.length vcap], by omega, by simp [HVS.out], ?_, ho3, ?_, hkept.trans' hbw⟩
          · obtain ⟨w0, q1, q2, q3⟩ := hold
            exact ⟨w0, q1, q2.trans hbw, by rw [← HRS.out]; exact hv4 w0 q3⟩
          · intro i hi
            by_cases hij : i < j
            · have e1 : (vs ++ [Value.slice va yj.length vcap]).getD i undef = vs.getD i undef := by
                simp only [List.getD]
                rw [List.getElem?_append_left (by rw [HVS.out]; exact hij)]
              rw [e1]
              exact Ownv.other (((HE.out i hij).kept hk2).kept ((Kept.refl w2).alloc _)) hown2 (by decide) hg3
            · obtain rfl : i = j := by omega
              have e1 : (vs ++ [Value.slice va yj.length vcap]).getD i undef = .slice va yj.length vcap := by
                simp only [List.getD]
                rw [List.getElem?_append_right (by rw [HVS.out]; exact Nat.le_refl _), HVS.out]
                simp
              rw [e1, HYJ.out]
              exact Ownv.other ((Own.mono ho2 hs1).kept ((Kept.refl w2).alloc _)) hown2 (by decide) hg3
        case measure =>
          obtain ⟨a4, c4, rfl, _⟩ := hln
          simp only [lenOf, List.length_drop]; omega
      · rfl
      · exact (hold.below (((Below.mono hk2 hs1).trans (Below.mono ((Kept.refl w2).alloc (.cells #[Value.slice va yj.length vcap] 23)) (Nat.le_trans hs1 hs2))).trans hb3)).rd
      · rfl
      · omega
      · exact hkl
      · have := HYL.out; omega
      · exact Nat.le_trans hs1 (Nat.le_trans hs2 hs3)
    · obtain rfl : j = yss.length := by omega
      have hd : yss.drop yss.length = [] := List.drop_eq_nil_of_le (Nat.le_refl _)
      have hz : vecs (yss.drop yss.length) ++ tail = tail := by rw [hd]; rfl
      rw [hz] at hold ⊢
      have HTC := Lib.hid (HTT.out _ wr hold.rd)
      go_wp2_with (go_at_call 16; refine HTC.out.mono ?_; rintro e w2 ⟨rfl, hk2⟩)
      go_ret3
      exact ⟨rfl, (hk1.trans hkept).trans hk2⟩
end Go.Proofs.Ytegeflbppagbkaa

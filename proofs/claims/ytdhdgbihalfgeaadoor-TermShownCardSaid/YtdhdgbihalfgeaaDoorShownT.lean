/- The walk of TermShown. -/
import Derived.Test.YtdhdgbihalfgeaaDoorTermN
import Derived.Test.YtdhdgbihalfgeaaDoorTermJ
import Derived.Test.YtdhdgbihalfgeaaDoorTermU
import Derived.Test.YtdhdgbihalfgeaaDoorTermR
set_option linter.unusedSimpArgs false
set_option linter.unusedVariables false
namespace Go.Proofs.YtdhdgbihalfgeaaDoor
open Go.RowKit Go.Maps

theorem mem_getN {ls : List Nd} {k : Nat} (h : k < ls.length) : ls.getD k nd0 ∈ ls := by
  rw [List.getD_eq_getElem?_getD, List.getElem?_eq_getElem h]; exact List.getElem_mem _

theorem strB_append (a b : List UInt8) : strB a ++ strB b = strB (a ++ b) := by
  apply ByteArray.ext
  simp [strB]
theorem strB_44 : ({ data := #[44] } : ByteArray) = strB [44] := rfl
theorem strB_41 : ({ data := #[41] } : ByteArray) = strB [41] := rfl

theorem cut_tail {SX SJ : ByteArray} {X J K : List UInt8} (eX : SX.toList = X) (eJ : SJ.toList = J) (h : X = K ++ 40 :: (J ++ [41])) :
    (SX.extract (K.length + (J.length + 1 + 1) - J.length - 1) (K.length + (J.length + 1 + 1))).toList = (SJ ++ { data := #[41] }).toList := by
  rw [ByteArray.toList_eq] at eX eJ ⊢
  rw [ByteArray.toList_eq]
  rw [show K.length + (J.length + 1 + 1) - J.length - 1 = K.length + 1 by omega]
  simp only [ByteArray.data_extract, ByteArray.data_append, Array.toList_extract, Array.toList_append, eX, eJ, List.extract_eq_take_drop, h]
  rw [show K ++ 40 :: (J ++ [41]) = (K ++ [40]) ++ (J ++ [41]) by simp, List.drop_append_of_le_length (by simp), List.drop_eq_nil_of_le (by simp), List.nil_append, List.take_of_length_le (by simp; omega)]
theorem cut_at {SX : ByteArray} {X J K : List UInt8} (eX : SX.toList = X) (h : X = K ++ 40 :: (J ++ [41])) (hi : K.length + (J.length + 1 + 1) - J.length - 2 < SX.size) :
    (((SX[K.length + (J.length + 1 + 1) - J.length - 2]'hi).toNat : Int) == 40) = true := by
  rw [ByteArray.toList_eq] at eX
  have e : K.length + (J.length + 1 + 1) - J.length - 2 = K.length := by omega
  have : (SX[K.length + (J.length + 1 + 1) - J.length - 2]'hi) = 40 := by
    simp only [e]
    rw [ByteArray.getElem_eq_getElem_data, ← Array.getElem_toList]
    simp only [eX, h]
    simp
  rw [this]
  rfl

theorem shE_zero {ds : List Nd} {t : Int} (h : shE ds t = 0) : In ds t ∧ (shw ds t).length ≤ 4000 ∧ shT ds t = shw ds t := by
  refine ⟨?_, ?_, by unfold shT; rw [if_pos h]⟩ <;> unfold shE at h <;> split at h
  · next k => exact k
  · cases h
  · split at h
    · cases h
    · omega
  · cases h
theorem shE_part {ds : List Nd} {t : Int} (h : In ds t) (hl : (shw ds t).length ≤ 4000) : shE ds t = 0 := by
  unfold shE
  unfold In at h
  rw [if_pos h, if_neg (by omega)]

set_option maxHeartbeats 8000000 in
set_option maxRecDepth 1000000 in
theorem shown_walk {w : World} {v : Value} {ls : List Nd} {x y : Int} (hv : RdNs w v ls) (hok : ∀ d ∈ ls, NdOk d) (hx : I64 x) (hy : I64 y) (ht : Tabs w) :
    Calls Tryd.prog 8 #[v, .int .i64 x, .int .i64 y] w fun e w' => e = .returned (.bool true) ∧ Kept w w' := by
  obtain ⟨na, ncap, rfl, n1, n2, _⟩ := hv.len
  have n63 : ((ls.length : Nat) : Int) ≤ 9223372036854775807 := by unfold maxLen at n2; omega
  go_enter Tryd.func8, Tryd.ntmps8
  go_wp2_with fail
  refine (live_any ht).mono ?_
  rintro e w1 ⟨rfl, k1⟩
  go_wp2_with fail
  refine (few_any (hv.kept k1)).mono ?_
  rintro e w2 ⟨b, rfl, hfew, k2⟩
  have k02 := k1.trans k2
  cases b with
  | false =>
    go_wp2
    go_ret
    exact ⟨rfl, k02⟩
  | true =>
  have hf := (hfew rfl).1
  clear hfew
  go_wp2_with fail
  refine (new_any w2).mono ?_
  rintro e w4 ⟨Fa, pa, rfl, ha, k4, hFa, hpa⟩
  clear hpa
  have k04 := k02.trans k4
  have hFa' : ∀ x, Fa x → w.heap.size ≤ x := fun x h => Nat.le_trans k02.size (hFa x h)
  go_wp2
  go_loopw [30] (fun i wr => ∃ (k : Nat) (F : Nat → Prop) (ds : List Nd), k ≤ ls.length ∧ i = .int .i64 k ∧ Ar F wr pa ds ∧ (∀ x, F x → w.heap.size ≤ x) ∧ Kept w wr) (fun i _ => ls.length - (intOf i).toNat)
  case atStart => exact ⟨0, Fa, [], Nat.zero_le _, rfl, ha, hFa', k04⟩
  case round =>
    clear hFa' ha hFa
    obtain ⟨k, F, ds, hk0, rfl, har, hF, hk⟩ := hrel
    by_cases hlt : k < ls.length
    · obtain ⟨nb, noff, ncap', la, lc, hv', hcl, hlr⟩ := hv.at hlt
      simp only [Value.slice.injEq] at hv'
      obtain ⟨rfl, hdrop, rfl⟩ := hv'
      clear hdrop
      obtain ⟨y0, y1, y2, y3⟩ := hcl wr hk
      have hdk : NdOk (ls.getD k nd0) := hok _ (mem_getN hlt)
      clear hcl
      generalize ls.getD k nd0 = d at y0 y1 y2 y3 hlr hdk
      have hd1 : ∀ W, Kept w W → RdN W (.agg #[.int .i64 d.op, .int .i64 d.n, .string (strB d.s), .slice la d.l.length lc]) d := fun W k => ⟨_, rfl, hlr.kept k⟩
      have ka : Kept wr (wr.alloc (.cells #[.int .i64 d.op, .int .i64 d.n, .string (strB d.s), .slice la d.l.length lc] 31)) := (Kept.refl wr).alloc _
      have hmk := make_any (ArG.kept har ka) (ht.kept (hk.trans ka)) (hd1 _ (hk.trans ka)) hdk
      generalize mk ds d = m at hmk
      obtain ⟨ds2, t2, e2⟩ := m
      simp only at hmk
      go_wp2_with fail
      refine hmk.mono ?_
      rintro e w6 ⟨F', rfl, r1, r2, r3⟩
      have k6 : Kept w w6 := Turn.keptOf (hk.trans ka) r2 hF
      go_wp2
      go_roundw
      case rel =>
        exact ⟨k + 1, F', ds2, hlt, rfl, r1, fun x h => (r3 x h).elim (hF x) (fun c => Nat.le_trans (hk.trans ka).size c), k6⟩
      case measure => simp [intOf]; omega
    · obtain rfl : k = ls.length := by omega
      have gd := har.good
      have HA := Shut.mk har
      have HG := Shut.mk gd
      have HT := Shut.mk (ht.kept hk)
      clear har gd hlt hF hok
      go_wp2_with fail
      refine (show_any HA.out HT.out x).mono ?_
      rintro e w7 ⟨rfl, q7⟩
      go_wp2_with fail
      refine (show_any (ArG.kept HA.out q7) (HT.out.kept q7) y).mono ?_
      rintro e w8 ⟨rfl, q8⟩
      have k8 := hk.trans (q7.trans q8)
      by_cases hbx : shE ds x = 0 ∧ shE ds y = 0
      · obtain ⟨hEx, hEy⟩ := hbx
        obtain ⟨hinx, lX, tX⟩ := shE_zero hEx
        obtain ⟨hiny, lY, tY⟩ := shE_zero hEy
        rw [hEx, tX, hEy, tY]
        have hb1 : (!((shw ds x == shw ds y) == (x == y))) = false := by
          by_cases e : x = y
          · subst e; simp
          · have : ¬ shw ds x = shw ds y := fun c => e (shw_inj HG.out hinx hiny c)
            have e1 : (shw ds x == shw ds y) = false := by simpa using this
            have e2 : (x == y) = false := by simpa using e
            rw [e1, e2]; rfl
        have hE1 : ndE ds x = 0 := by unfold ndE; unfold In at hinx; rw [if_pos hinx]
        have hN1 : ndAt ds x = ds.getD x.toNat nd0 := by unfold ndAt; unfold In at hinx; rw [if_pos hinx]
        have hna := node_any (ArG.kept HA.out (q7.trans q8)) x
        rw [hE1, hN1] at hna
        have hop := shw_op HG.out hinx
        have hpart := shw_parts HG.out hinx
        have hmade := shw_made HG.out hinx
        have HI := Shut.mk hinx
        clear hEx hEy tX tY hinx hiny lY hE1 hN1
        generalize ds.getD x.toNat nd0 = d at hna hop hpart hmade
        have eX := strB_list (shw ds x)
        have zX := strB_size (shw ds x)
        have eY := strB_list (shw ds y)
        generalize strB (shw ds x) = SX at eX zX ⊢
        generalize strB (shw ds y) = SY at eY ⊢
        generalize shw ds y = Y at eY hb1 ⊢
        generalize hX : shw ds x = X at eX zX hb1 lX hmade ⊢
        have HX := Shut.mk hX
        have HP := Shut.mk hpart
        have HM := Shut.mk hmade
        clear hX hpart hmade
        go_wp2_with fail
        refine hna.mono ?_
        rintro e w9 ⟨v, rfl, ⟨la, rfl, rd1⟩, q9⟩
        obtain ⟨aa, ac, rfl, hc1, hc2, _⟩ := rd1.len
        have dl63 : ((d.l.length : Nat) : Int) ≤ 9223372036854775807 := by unfold maxLen at hc2; omega
        clear hc1 hc2 hna
        have k9 := k8.trans q9
        have bx := Blk.new w9 [.int .i64 d.op, .int .i64 d.n, .string (strB d.s), .slice aa d.l.length ac] 31
        have ka := (Kept.refl w9).alloc (.cells #[.int .i64 d.op, .int .i64 d.n, .string (strB d.s), .slice aa d.l.length ac] 31)
        have rd9 := rd1.kept ka
        have k10 := k9.trans ka
        have x0 := bx.cell 0
        have x3 := bx.cell 3
        simp only [List.getElem?_cons_succ, List.getElem?_cons_zero] at x0 x3
        by_cases c1 : d.op = 1
        · have f1 : (d.op == 1) = true := by simpa using c1
          clear c1
          go_wp2
          go_ret
          exact ⟨rfl, k10⟩
        · by_cases c2 : d.op = 2
          · have f1 : (d.op == 1) = false := by simpa using c1
            have f2 : (d.op == 2) = true := by simpa using c2
            clear c1 c2
            go_wp2
            go_ret
            exact ⟨rfl, k10⟩
          · have f1 : (d.op == 1) = false := by simpa using c1
            have f2 : (d.op == 2) = false := by simpa using c2
            have HRD := Shut.mk rd9
            clear rd9 rd1 bx
            have HX2 := Shut.mk (HM.out c1 c2)
            clear c1 c2 hb1 eY HM
            go_wp2
            have kA := (q7.trans q8).trans (q9.trans ka)
            clear q7 q8 q9 ka x0 x3
            obtain ⟨W, hW⟩ : ∃ W, w9.alloc (.cells #[.int .i64 d.op, .int .i64 d.n, .string (strB d.s), .slice aa d.l.length ac] 31) = W := ⟨_, rfl⟩
            rw [hW] at HRD kA k10 ⊢
            clear hW
            go_loopw [90, 17] (fun i z wr7 => ∃ (m : Nat), m ≤ d.l.length ∧ i = .int .i64 m ∧ z = .string (strB (joinC ((d.l.take m).map (shw ds)))) ∧ Kept W wr7) (fun i _ _ => d.l.length - (intOf i).toNat)
            case atStart => exact ⟨0, Nat.zero_le _, rfl, rfl, Kept.refl _⟩
            case round =>
              obtain ⟨m, hm0, rfl, rfl, ks⟩ := hrel
              by_cases hml : m < d.l.length
              · obtain ⟨eb, eo, ec, hlv, _, _, hlb, hlc⟩ := HRD.out.addr (by omega)
                simp only [Value.slice.injEq] at hlv
                obtain ⟨rfl, hdrop, rfl⟩ := hlv
                clear hdrop
                have hcw := ks.cell (p := ⟨eb, eo + m, none⟩) hlb |>.trans (hlc m hml)
                have hmem := mem_getD hml
                have hpi := HP.out _ hmem
                have hstep := joinC_step d.l (shw ds) hml
                have hle := joinC_part (shw ds) hmem
                have hXl := congrArg List.length HX2.out
                simp only [List.length_append, List.length_cons, List.length_nil] at hXl
                have hjl := joinC_take_le (d.l.map (shw ds)) m
                rw [← List.map_take] at hjl
                have hEp := shE_part hpi (by omega)
                have hTp : shT ds (d.l.getD m 0) = shw ds (d.l.getD m 0) := by unfold shT; rw [if_pos hEp]
                have hsh := show_any (ArG.kept HA.out (kA.trans ks)) (HT.out.kept (kA.trans ks)) (d.l.getD m 0)
                rw [hEp, hTp] at hsh
                have lJ : (joinC (d.l.map (shw ds))).length ≤ 4000 := by omega
                clear hlc hmem hpi hEp hTp hXl
                generalize d.l.getD m 0 = p at hcw hstep hle hsh
                generalize shw ds p = P at hstep hle hsh
                generalize joinC ((d.l.take m).map (shw ds)) = J at hstep hjl ⊢
                have HS := Shut.mk hstep
                have a0 : ¬ 9223372036854775807 < (strB J).size + (strB P).size := by rw [strB_size, strB_size]; omega
                have a1 : ¬ 9223372036854775807 < (strB J).size + 1 := by rw [strB_size]; omega
                have a2 : ¬ 9223372036854775807 < (strB J).size + 1 + (strB P).size := by rw [strB_size, strB_size]; omega
                clear hstep
                go_wp2_with fail
                refine hsh.mono ?_
                rintro e w11 ⟨rfl, q11⟩
                have k11 := ks.trans q11
                by_cases hm : m = 0
                · subst hm
                  go_wp2
                  go_roundw
                  case rel => exact ⟨1, hml, rfl, by rw [strB_append, show joinC ((d.l.take 1).map (shw ds)) = J ++ P by have := HS.out; simpa using this], k11⟩
                  case measure => simp [intOf]; omega
                · have hd0 : decide ((0 : Int) < (m : Int)) = true := decide_eq_true (by omega)
                  have hd1 : decide (0 < m) = true := decide_eq_true (by omega)
                  have HM0 := Shut.mk hm
                  clear hm
                  go_wp2
                  go_roundw
                  case rel => exact ⟨m + 1, hml, rfl, by rw [strB_44, strB_append, strB_append, HS.out, if_neg HM0.out, List.append_assoc], k11⟩
                  case measure => simp [intOf]; omega
              · obtain rfl : m = d.l.length := by omega
                rw [List.take_length]
                have hXl := congrArg List.length HX2.out
                simp only [List.length_append, List.length_cons, List.length_nil] at hXl
                have zJ := strB_size (joinC (d.l.map (shw ds)))
                have eJ := strB_list (joinC (d.l.map (shw ds)))
                generalize strB (joinC (d.l.map (shw ds))) = SJ at zJ eJ ⊢
                have hXX := HX2.out
                generalize joinC (d.l.map (shw ds)) = J at zJ eJ hXl hXX
                generalize kName d.op = K at hXl hXX
                have g1 : decide (((J.length : Nat) : Int) + 1 < (X.length : Int)) = true := decide_eq_true (by omega)
                have g2 : 0 ≤ ((X.length : Nat) : Int) - (J.length : Int) - 1 := by omega
                have g3 : ((X.length : Nat) : Int) - (J.length : Int) - 1 ≤ (X.length : Int) := by omega
                have g4 : 0 ≤ ((X.length : Nat) : Int) - (J.length : Int) - 2 := by omega
                have g5 : ((X.length : Nat) : Int) - (J.length : Int) - 2 < (X.length : Int) := by omega
                have a1 : ¬ 9223372036854775807 < SJ.size + 1 := by rw [zJ]; omega
                have HXX := Shut.mk hXX
                clear hXX
                have hcut := cut_tail eX eJ HXX.out
                go_wp2
                go_ret
                refine ⟨?_, k10.trans ks⟩
                first
                  | rfl
                  | (show Ending.returned (.bool _) = _
                     rw [cut_at eX HXX.out])
      · have hcx : shE ds x = 0 ∨ shE ds x = 2 ∨ shE ds x = 4 := by unfold shE; split <;> (try split) <;> simp
        have hcy : shE ds y = 0 ∨ shE ds y = 2 ∨ shE ds y = 4 := by unfold shE; split <;> (try split) <;> simp
        generalize shE ds x = Ex at hbx hcx
        generalize shE ds y = Ey at hbx hcy
        rcases hcx with rfl | rfl | rfl <;> rcases hcy with rfl | rfl | rfl <;>
          first
            | exact absurd ⟨rfl, rfl⟩ hbx
            | (clear hbx
               go_wp2
               go_ret
               exact ⟨rfl, k8⟩)
end Go.Proofs.YtdhdgbihalfgeaaDoor

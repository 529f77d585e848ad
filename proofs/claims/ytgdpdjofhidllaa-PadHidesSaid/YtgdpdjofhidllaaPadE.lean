/- Walks of the document's answer: Unpad. -/
import Derived.Test.YtgdpdjofhidllaaPadD
import Derived.Outline
set_option linter.unusedSimpArgs false
set_option linter.unusedVariables false
namespace Go.Proofs.Ytgdpdjofhidllaa
open Go.RowKit

theorem rtrim (zs : List Int) (m : Nat) (hm : m ≤ zs.length) (h : ∀ i, m ≤ i → i < zs.length → zs.getD i 0 = 0) (hs : m = 0 ∨ zs.getD (m - 1) 0 ≠ 0) : trimN zs = m := (trimN_uniq zs m hm h hs).symm

/-- From m on all is zero. -/
def ZeroFrom (zs : List Int) (m : Nat) : Prop := m ≤ zs.length ∧ ∀ i, m ≤ i → i < zs.length → zs.getD i 0 = 0
theorem ZeroFrom.start (zs : List Int) : ZeroFrom zs zs.length := ⟨Nat.le_refl _, fun i h1 h2 => by omega⟩
theorem ZeroFrom.step {zs : List Int} {m : Nat} (h : ZeroFrom zs (m + 1)) (hz : zs.getD m 0 = 0) : ZeroFrom zs m :=
  ⟨by have := h.1; omega, fun i h1 h2 => by
    by_cases hi : i = m
    · subst hi; exact hz
    · exact h.2 i (by omega) h2⟩

set_option maxRecDepth 100000 in
set_option maxHeartbeats 2000000 in
theorem runpad_any (v : Value) (zs : List Int) (w : World) (h : Rd w v zs) (hl : zs.length ≤ 140737488351232) :
    Calls Try.prog 12 #[v] w (UnpPost zs w) := by
  by_cases hp : 0 < zs.length
  · have HR := Lib.hid h
    obtain ⟨b, off, cap, rfl, hc, hm, hbw, hcell⟩ := h.addr hp
    have HX := Lib.hid hcell; clear hcell
    have HL := Lib.hid hl; clear hl
    have HM := Lib.hid hm; clear hm
    go_enter Try.func12, Try.ntmps12
    go_wp2
    go_loop [4] (fun i => ∃ m : Nat, ZeroFrom zs m ∧ i = .int .i64 m) (fun i => (intOf i).toNat)
    case atStart => exact ⟨_, ZeroFrom.start zs, rfl⟩
    case round =>
      obtain ⟨m, hz, rfl⟩ := hrel
      have HZ := Lib.hid hz
      have hml := hz.1
      clear hz
      cases m with
      | zero =>
        have ht := Lib.hid (rtrim zs 0 HZ.out.1 HZ.out.2 (.inl rfl))
        have hu := Lib.hid (show unpS zs = none by unfold unpS fillS; rw [ht.out, if_pos rfl])
        go_wp2_with fail
        go_ret2
        exact ⟨.inl ⟨hu.out, rfl⟩, Kept.refl _⟩
      | succ m =>
        have c0 := HX.out m (by omega)
        have hw : wrap64 (m : Int) = m := IntWalk.wrap64_in _ ⟨by omega, by have := HL.out; omega⟩
        by_cases z0 : zs.getD m 0 = 0
        · have HZS := Lib.hid (HZ.out.step z0)
          have hb0 : (zs.getD m 0 == 0) = true := by rw [beq_iff_eq]; exact z0
          clear z0
          generalize zs.getD m 0 = y at c0 hb0
          go_wp2_with fail
          go_round
          case rel => exact ⟨m, HZS.out, by rw [hw]⟩
          case measure => rw [hw]; simp [intOf]
        · have hb0 : (zs.getD m 0 == 0) = false := by rw [beq_eq_false_iff_ne]; exact z0
          have ht := Lib.hid (rtrim zs (m + 1) HZ.out.1 HZ.out.2 (.inr z0))
          clear z0
          have hne : ((m : Int) + 1 == 0) = false := by rw [beq_eq_false_iff_ne]; omega
          by_cases z1 : zs.getD m 0 = 128
          · have hb1 : (zs.getD m 0 != 128) = false := by rw [bne_eq_false_iff_eq]; exact z1
            have hf := Lib.hid (show fillS zs = some m by unfold fillS; rw [ht.out, if_neg (by omega), if_pos (by simpa using z1)]; rfl)
            clear z1
            generalize zs.getD m 0 = y at c0 hb0 hb1
            by_cases hn : (m : Int) < 65536
            · have HC := Lib.hid (fun w => rbucket_ok m w (by omega) hn)
              by_cases hk : bk m = zs.length
              · have hu := Lib.hid (show unpS zs = some (zs.take m) by unfold unpS; rw [hf.out]; exact if_pos ⟨hn, hk⟩)
                have hb2 : (bk m != (zs.length : Int)) = false := by rw [bne_eq_false_iff_eq]; exact hk
                have HN := Lib.hid hn
                clear hk hn
                go_wp2_with (first | (go_at_call 14; refine (HC.out _).mono ?_; rintro e w2 ⟨rfl, rfl⟩) | ((with_reducible refine go_cut_h (.slice (some ⟨b, off, none⟩) zs.length cap) zs ?_ HR.out (wrap64 (m : Int)) ?_ ?_ ?_ ?_); rfl; rfl; (rw [hw]; omega); (rw [hw]; omega); intro v3 hr3; rw [hw, Int.toNat_natCast] at hr3) | (at_builtin; refine go_appb w.heap.size (.slice none 0 0) [] rfl (Own.nil _ _ _) v3 (zs.take m) rfl hr3 ?_ ?_ ?_; rotate_right; intro v4 w4 ho4 hb4))
                · go_ret2
                  exact ⟨.inr ⟨_, _, hu.out, rfl, ho4⟩, hb4⟩
                · have := HN.out; simp only [List.length_nil, List.length_take]; omega
                · exact Nat.le_refl _
              · have hu := Lib.hid (show unpS zs = none by unfold unpS; rw [hf.out]; exact if_neg (fun q => hk q.2))
                have hb2 : (bk m != (zs.length : Int)) = true := by rw [bne_iff_ne]; exact hk
                clear hk hn
                go_wp2_with (go_at_call 14; refine (HC.out _).mono ?_; rintro e w2 ⟨rfl, rfl⟩)
                go_ret2
                exact ⟨.inl ⟨hu.out, rfl⟩, Kept.refl _⟩
            · have HC := Lib.hid (fun w => rbucket_big m w (by omega))
              have hu := Lib.hid (show unpS zs = none by unfold unpS; rw [hf.out]; exact if_neg (fun q => hn q.1))
              have hb2 : ((0 : Int) != (zs.length : Int)) = true := by rw [bne_iff_ne]; omega
              clear hn
              go_wp2_with (go_at_call 14; refine (HC.out _).mono ?_; rintro e w2 ⟨rfl, rfl⟩)
              go_ret2
              exact ⟨.inl ⟨hu.out, rfl⟩, Kept.refl _⟩
          · have hb1 : (zs.getD m 0 != 128) = true := by rw [bne_iff_ne]; exact z1
            have hu := Lib.hid (show unpS zs = none by unfold unpS fillS; rw [ht.out, if_neg (by omega), if_neg (by simpa using z1)])
            clear z1
            generalize zs.getD m 0 = y at c0 hb0 hb1
            go_wp2_with fail
            go_ret2
            exact ⟨.inl ⟨hu.out, rfl⟩, Kept.refl _⟩
  · obtain rfl : zs = [] := List.eq_nil_of_length_eq_zero (by omega)
    obtain ⟨a, cap, rfl, h1, h2, h3⟩ := h.len
    go_enter Try.func12, Try.ntmps12
    go_wp2
    refine wp_loop_rounds 1 ?_
    rw [rounds_succ]
    go_wp2
    go_ret2
    exact ⟨.inl ⟨rfl, rfl⟩, Kept.refl _⟩
end Go.Proofs.Ytgdpdjofhidllaa

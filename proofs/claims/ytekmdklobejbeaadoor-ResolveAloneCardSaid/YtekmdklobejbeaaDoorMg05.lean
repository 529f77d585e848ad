/- Texts of one proof, put together: RpA, MthDs, RpB, RpC, RpD, RpE, RpF, RpG, RsS, RsC, RsA, RsP. -/
import Derived.Test.YtekmdklobejbeaaDoorMg04
import Derived.Test.YtekmdklobejbeaaDoorMg03
import Derived.Test.YtekmdklobejbeaaDoorMg02
import Derived.Test.YtekmdklobejbeaaDoorShelf
import Derived.Shelf.Abstract
section
/- Walks of the program's ratchet: leaves, hasShape, isLeaf, isParent, sameNode; the library's Equal. -/
set_option linter.unusedSimpArgs false
set_option linter.unusedVariables false
namespace Go.Proofs.YtekmdklobejbeaaDoor
open Go.RowKit
open Rt

theorem pleaves_any {w : World} {v : Value} {t : List TN} (h : RdTs w v t) (hl : t.length ≤ 1000000) : Calls Tryd.prog 69 #[v] w fun e w' => e = .returned (.int .i64 (((t.length + 1) / 2 : Nat) : Int)) ∧ w = w' := by
  obtain ⟨ta, tc, rfl, l1, l2, l3⟩ := h.len
  have l63 : ((t.length : Nat) : Int) ≤ 1000000 := by omega
  go_enter Tryd.func69, Tryd.ntmps69
  go_wp2
  go_ret
  exact ⟨rfl, rfl⟩
/-- In a tree that has a shape. -/
theorem pleaves_of {w : World} {v : Value} {t : List TN} {n : Nat} (h : RdTs w v t) (hn : n ∈ Mth.fulls) (hlen : t.length = 2 * n - 1) : Calls Tryd.prog 69 #[v] w fun e w' => e = .returned (.int .i64 (n : Int)) ∧ w = w' := by
  have hb := fulls_bd hn
  have := pleaves_any h (by omega)
  rw [show (t.length + 1) / 2 = n by omega] at this
  exact this
theorem shp_eq (t : List TN) : shpB t = (treeB (((t.length + 1) / 2 : Nat) : Int) && decide (2 * ((t.length + 1) / 2) - 1 = t.length)) := by
  unfold shpB
  rcases lvs_spec t.length with ⟨h1, h2⟩ | ⟨h1, h2⟩
  · have hb := fulls_bd h1
    rw [nbeq_false (by omega), show (t.length + 1) / 2 = lvs t.length by omega, treeB_mk h1, decide_eq_true h2]; rfl
  · rw [h1]
    cases hb : treeB (((t.length + 1) / 2 : Nat) : Int) with
    | false => rfl
    | true =>
      obtain ⟨_, _, h3⟩ := treeB_true hb
      rw [Int.toNat_natCast] at h3
      rw [decide_eq_false (h2 _ h3)]; rfl
set_option maxHeartbeats 1000000 in
theorem pshape_any {w : World} {v : Value} {t : List TN} (h : RdTs w v t) (hl : t.length ≤ 1000000) : Calls Tryd.prog 41 #[v] w fun e w' => e = .returned (.bool (shpB t)) ∧ Kept w w' := by
  have HL := Lib.hid (pleaves_any h hl)
  have HW := Lib.hid (Width_any (((t.length + 1) / 2 : Nat) : Int) w ⟨by omega, by omega⟩)
  have HB := Shut.mk (shp_eq t)
  obtain ⟨ta, tc, rfl, l1, l2, l3⟩ := h.len
  have l63 : ((t.length : Nat) : Int) ≤ 1000000 := by omega
  have he : decide (2 * ((t.length + 1) / 2) - 1 = t.length) = ((2 * (((t.length + 1) / 2 : Nat) : Int) - 1) == (t.length : Int)) ∨ t.length = 0 := by
    by_cases h0 : t.length = 0
    · exact .inr h0
    · refine .inl ?_
      rw [Bool.eq_iff_iff, decide_eq_true_iff, beq_iff_eq]
      omega
  have ht0 : t.length = 0 → treeB (((t.length + 1) / 2 : Nat) : Int) = false := fun e => by rw [e]; rfl
  generalize ((t.length + 1) / 2 : Nat) = m at HL HW HB he ht0
  cases hb : treeB (m : Int) with
  | false =>
    rw [hb] at HW HB
    have HB2 := Shut.mk (show shpB t = false from HB.out)
    clear hb he ht0 HB
    go_enter Tryd.func41, Tryd.ntmps41
    go_wp2_with fail
    (with_reducible refine HL.out.mono ?_); rintro e w1 ⟨rfl, rfl⟩
    go_wp2_with fail
    (with_reducible refine HW.out.mono ?_); rintro e w1 ⟨rfl, k⟩
    simp only [pk, er, cond_false, cond_true]
    go_wp2
    go_ret
    exact ⟨by rw [HB2.out]; rfl, k⟩
  | true =>
    rw [hb] at HW HB
    have he := he.resolve_right fun e => by rw [ht0 e] at hb; cases hb
    have HB2 := Shut.mk (show shpB t = ((2 * (m : Int) - 1) == (t.length : Int)) by rw [HB.out, he]; rfl)
    generalize hq : ((2 * (m : Int) - 1) == (t.length : Int)) = q at HB2
    clear hb he ht0 HB
    go_enter Tryd.func41, Tryd.ntmps41
    go_wp2_with fail
    (with_reducible refine HL.out.mono ?_); rintro e w1 ⟨rfl, rfl⟩
    go_wp2_with fail
    (with_reducible refine HW.out.mono ?_); rintro e w1 ⟨rfl, k⟩
    simp only [pk, er, cond_false, cond_true]
    go_wp2
    go_ret
    exact ⟨by rw [HB2.out]; rfl, k⟩
set_option maxHeartbeats 1000000 in
theorem pleaf_any {w : World} {v : Value} {d : TN} (h : RdTn w v d) : Calls Tryd.prog 71 #[v] w fun e w' => e = .returned (.bool (leafB d)) ∧ Kept w w' := by
  obtain ⟨lv, rfl, hr⟩ := h
  obtain ⟨la, lc, rfl, l1, l2, l3⟩ := hr.len
  have HB := Shut.mk (show leafB d = (d.kd == 1 && ((d.un.length : Int) == 0)) by unfold leafB; rw [beq0])
  cases h1 : (d.kd == 1) with
  | false =>
    have HB2 := Shut.mk (show leafB d = false by rw [HB.out, h1]; rfl)
    go_enter Tryd.func71, Tryd.ntmps71
    go_wp2
    go_ret
    exact ⟨by rw [HB2.out]; rfl, (Kept.refl _).alloc _⟩
  | true =>
    have HB2 := Shut.mk (show leafB d = ((d.un.length : Int) == 0) by rw [HB.out, h1]; rfl)
    generalize hb : ((d.un.length : Int) == 0) = b at HB2
    go_enter Tryd.func71, Tryd.ntmps71
    go_wp2
    go_ret
    exact ⟨by rw [HB2.out]; rfl, (Kept.refl _).alloc _⟩
set_option maxHeartbeats 2000000 in
theorem ppar_any {w : World} {v : Value} {d : TN} (h : RdTn w v d) : Calls Tryd.prog 72 #[v] w fun e w' => e = .returned (.bool (parB d)) ∧ Kept w w' := by
  obtain ⟨lv, rfl, hr⟩ := h
  have HB := Shut.mk (show parB d = (d.kd == 2 && d.id == 0 && d.sig == 0) from rfl)
  cases h1 : (d.kd == 2) with
  | false =>
    have HB2 := Shut.mk (show parB d = false by rw [HB.out, h1]; rfl)
    go_enter Tryd.func72, Tryd.ntmps72
    go_wp2
    go_ret
    exact ⟨by rw [HB2.out]; rfl, (Kept.refl _).alloc _⟩
  | true =>
    cases h2 : (d.id == 0) with
    | false =>
      have HB2 := Shut.mk (show parB d = false by rw [HB.out, h1, h2]; rfl)
      go_enter Tryd.func72, Tryd.ntmps72
      go_wp2
      go_ret
      exact ⟨by rw [HB2.out]; rfl, (Kept.refl _).alloc _⟩
    | true =>
      have HB2 := Shut.mk (show parB d = (d.sig == 0) by rw [HB.out, h1, h2]; rfl)
      generalize hb : (d.sig == 0) = b at HB2
      go_enter Tryd.func72, Tryd.ntmps72
      go_wp2
      go_ret
      exact ⟨by rw [HB2.out]; rfl, (Kept.refl _).alloc _⟩
set_option maxHeartbeats 4000000 in
set_option maxRecDepth 100000 in
theorem equal_any {w : World} {u v : Value} {a b : List Int} (ha : RdI w u a) (hb : RdI w v b) :
    Calls Tryd.prog 104 #[u, v] w fun e w' => e = .returned (.bool (decide (a = b))) ∧ Kept w w' := by
  obtain ⟨aa, ac, rfl, a1, a2, a3⟩ := ha.len
  obtain ⟨ba, bc, rfl, b1, b2, b3⟩ := hb.len
  have a63 : ((a.length : Nat) : Int) ≤ 9223372036854775807 := by unfold maxLen at a2; omega
  by_cases hl : a.length = b.length
  · have hd : ((a.length : Int) != (b.length : Int)) = false := by simp [hl]
    have HL := Shut.mk hl
    rw [← hl] at hb b1 hd ⊢
    clear hl
    go_enter Tryd.func104, Tryd.ntmps104
    go_wp2
    go_loopw [13] (fun i wr => ∃ k : Nat, k ≤ a.length ∧ i = .int .i64 k ∧ (∀ j, j < k → a.getD j 0 = b.getD j 0) ∧ Kept w wr) (fun i _ => a.length - (intOf i).toNat)
    case atStart => exact ⟨0, Nat.zero_le _, rfl, fun j hj => absurd hj (Nat.not_lt_zero _), Kept.refl _⟩
    case round =>
      obtain ⟨k, hk0, rfl, hsame, hk⟩ := hrel
      have HS := Shut.mk hsame
      clear hsame
      by_cases hlt : k < a.length
      · obtain ⟨rb, ro, rc, hrv, _, _, hrb, hcl⟩ := ha.addr (by omega)
        simp only [Value.slice.injEq] at hrv
        obtain ⟨rfl, _, rfl⟩ := hrv
        have hcb := hb
        rw [show (Value.slice ba a.length bc) = Value.slice ba b.length bc by rw [HL.out]] at hcb
        obtain ⟨sb, so, sc, hsv, _, _, hsb, hcl2⟩ := hcb.addr (by have := HL.out; omega)
        simp only [Value.slice.injEq] at hsv
        obtain ⟨rfl, _, rfl⟩ := hsv
        have x1 := hk.cell (p := ⟨rb, ro + k, none⟩) hrb |>.trans (hcl k hlt)
        have x2 := hk.cell (p := ⟨sb, so + k, none⟩) hsb |>.trans (hcl2 k (by have := HL.out; omega))
        clear hcl hcl2 hcb
        have k0 : (0 : Int) ≤ (k : Int) := by omega
        have k1 : (k : Int) < (a.length : Int) := by omega
        generalize hx : a.getD k 0 = x at x1
        generalize hy : b.getD k 0 = y at x2
        have HX := Shut.mk hx
        have HY := Shut.mk hy
        clear hx hy
        by_cases hxy : x = y
        · subst hxy
          go_wp2
          go_quiet (fail)
          go_wp2
          go_roundw
          case rel => exact ⟨k + 1, hlt, rfl, fun j hj => by
            by_cases c : j < k
            · exact HS.out j c
            · obtain rfl : j = k := by omega
              rw [HX.out, HY.out], hk.drewN _⟩
          case measure => simp [intOf]; omega
        · have hd2 : (x != y) = true := by simpa using hxy
          have hne : ¬ a = b := fun e => hxy (by rw [← HX.out, ← HY.out, e])
          have HN := Shut.mk hne
          clear hne hxy
          go_wp2
          go_quiet (fail)
          go_wp2
          go_ret
          exact ⟨by rw [decide_eq_false HN.out]; rfl, hk.drewN _⟩
      · obtain rfl : k = a.length := by omega
        have he := getD_ext HL.out HS.out
        have HE := Shut.mk he
        clear he
        go_wp2
        go_ret
        exact ⟨by rw [decide_eq_true HE.out]; rfl, hk⟩
  · have hd : ((a.length : Int) != (b.length : Int)) = true := by simp; omega
    have hne : ¬ a = b := fun e => hl (by rw [e])
    have HN := Shut.mk hne
    clear hne hl
    go_enter Tryd.func104, Tryd.ntmps104
    go_wp2
    go_ret
    exact ⟨by rw [decide_eq_false HN.out]; rfl, Kept.refl _⟩
set_option maxHeartbeats 4000000 in
theorem psameN_any {w : World} {u v : Value} {a b : TN} (ha : RdTn w u a) (hb : RdTn w v b) : Calls Tryd.prog 70 #[u, v] w fun e w' => e = .returned (.bool (sameNB a b)) ∧ Kept w w' := by
  obtain ⟨lv, rfl, hr⟩ := ha
  obtain ⟨mv, rfl, hs⟩ := hb
  have HBB := Shut.mk (show sameNB a b = (a.kd == b.kd && a.id == b.id && a.enc == b.enc && a.sig == b.sig && a.hash == b.hash && decide (a.un = b.un)) from rfl)
  have hk : Kept w ((w.alloc (.cells #[.int .i64 a.kd, .int .i64 a.id, .int .i64 a.enc, .int .i64 a.sig, .int .i64 a.hash, lv] 43)).alloc (.cells #[.int .i64 b.kd, .int .i64 b.id, .int .i64 b.enc, .int .i64 b.sig, .int .i64 b.hash, mv] 43)) := ((Kept.refl w).alloc _).alloc _
  have HSI := Lib.hid (equal_any (hr.kept hk) (hs.kept hk))
  generalize hdd : decide (a.un = b.un) = dd at HBB HSI
  clear hr hs hdd
  cases c0 : (a.kd == b.kd) with
  | false =>
    have HB2 := Shut.mk (show sameNB a b = false by rw [HBB.out]; simp only [c0, Bool.and_false, Bool.false_and])
    go_enter Tryd.func70, Tryd.ntmps70
    go_wp2
    go_ret
    exact ⟨by rw [HB2.out]; rfl, hk⟩
  | true =>
    cases c1 : (a.id == b.id) with
    | false =>
      have HB2 := Shut.mk (show sameNB a b = false by rw [HBB.out]; simp only [c0, c1, Bool.and_false, Bool.false_and])
      go_enter Tryd.func70, Tryd.ntmps70
      go_wp2
      go_ret
      exact ⟨by rw [HB2.out]; rfl, hk⟩
    | true =>
      cases c2 : (a.enc == b.enc) with
      | false =>
        have HB2 := Shut.mk (show sameNB a b = false by rw [HBB.out]; simp only [c0, c1, c2, Bool.and_false, Bool.false_and])
        go_enter Tryd.func70, Tryd.ntmps70
        go_wp2
        go_ret
        exact ⟨by rw [HB2.out]; rfl, hk⟩
      | true =>
        cases c3 : (a.sig == b.sig) with
        | false =>
          have HB2 := Shut.mk (show sameNB a b = false by rw [HBB.out]; simp only [c0, c1, c2, c3, Bool.and_false, Bool.false_and])
          go_enter Tryd.func70, Tryd.ntmps70
          go_wp2
          go_ret
          exact ⟨by rw [HB2.out]; rfl, hk⟩
        | true =>
          cases c4 : (a.hash == b.hash) with
          | false =>
            have HB2 := Shut.mk (show sameNB a b = false by rw [HBB.out]; simp only [c0, c1, c2, c3, c4, Bool.and_false, Bool.false_and])
            go_enter Tryd.func70, Tryd.ntmps70
            go_wp2
            go_ret
            exact ⟨by rw [HB2.out]; rfl, hk⟩
          | true =>
            have HB2 := Shut.mk (show sameNB a b = dd by rw [HBB.out]; simp only [c0, c1, c2, c3, c4, Bool.true_and])
            go_enter Tryd.func70, Tryd.ntmps70
            go_wp2_with fail
            refine HSI.out.mono ?_; rintro e w' ⟨rfl, q⟩
            go_wp2
            go_ret
            exact ⟨by rw [HB2.out]; rfl, hk.trans q⟩

end Go.Proofs.YtekmdklobejbeaaDoor
end

section
/- Walks: Size. -/
set_option linter.unusedSimpArgs false
set_option linter.unusedVariables false
namespace Go.Proofs.YtekmdklobejbeaaDoor
open Go.RowKit
theorem size_num {n : Nat} (h1 : 1 ≤ n) (h2 : n ≤ 256) : wrap64 (2 ^ Lib.bitLen (n - 1)) = (Mth.size n : Nat) ∧ Lib.bitLen (n - 1) ≤ 8 := by
  have h : (List.range 257).all (fun n => Nat.beq n 0 || ((wrap64 (2 ^ Lib.bitLen (n - 1)) == ((Mth.size n : Nat) : Int)) && Nat.ble (Lib.bitLen (n - 1)) 8)) = true := by decide +kernel
  have := List.all_eq_true.1 h n (List.mem_range.2 (by omega))
  rw [Bool.or_eq_true, Bool.and_eq_true] at this
  rcases this with e | ⟨e1, e2⟩
  · have := Nat.eq_of_beq_eq_true e; omega
  · exact ⟨eq_of_beq e1, Nat.le_of_ble_eq_true e2⟩
theorem Size1_any (b : Nat) (n : Nat) (h1 : 1 ≤ n) (h2 : n ≤ 256) (w : World) (hc : w.cell? ⟨b, 0, none⟩ = some (.int .i64 n)) :
    Calls Tryd.prog 113 #[.pointer (some ⟨b, 0, none⟩)] w fun e w' => e = .returned (.int .i64 (Mth.size n : Nat)) ∧ Kept w w' := by
  obtain ⟨m1, m2⟩ := size_num h1 h2
  have hq := Tryd.bits_Len ((n : Int) - 1) w (by omega) (by omega)
  rw [show ((n : Int) - 1).toNat = n - 1 by omega] at hq
  generalize Lib.bitLen (n - 1) = l at hq m1 m2
  have HN := Shut.mk m1
  have HQ := Lib.hid hq
  clear hq m1
  have hn0 : (1 : Int) ≤ (n : Int) := by omega
  have hn1 : (n : Int) ≤ 256 := by omega
  have hl0 : (0 : Int) ≤ (l : Int) := by omega
  have hl1 : (l : Int) ≤ 8 := by omega
  go_enter Tryd.func113, Tryd.ntmps113
  go_wp2_with (go_at_call 65; refine HQ.out.mono ?_; rintro e w' ⟨rfl, rfl⟩)
  go_ret
  exact ⟨by rw [← HN.out]; rfl, Kept.refl _⟩
theorem Size_any (n : Int) (w : World) (hx : I64 n) : Calls Tryd.prog 106 #[.int .i64 n] w fun e w' => e = .returned (.tuple #[.int .i64 (pk (szB n) (Mth.size n.toNat : Nat)), .int .i64 (er (szB n))]) ∧ Kept w w' := by
  have hk0 : Kept w (w.alloc (.cells #[.int .i64 n] 3)) := (Kept.refl w).alloc _
  obtain ⟨hl, hu⟩ := hx
  by_cases h0 : 0 < n
  · have hd0 : decide (0 < n) = true := decide_eq_true h0
    by_cases h1 : n ≤ 256
    · have hd1 : decide (n ≤ 256) = true := decide_eq_true h1
      have HB := Shut.mk (show szB n = true by unfold szB; rw [hd0, hd1]; rfl)
      obtain ⟨m, rfl⟩ : ∃ m : Nat, n = m := ⟨n.toNat, by omega⟩
      have HT := Lib.hid (told_val (g := 113) (enters_of Tryd.func113 (by kernel_rfl) rfl) (Size1_any w.heap.size m (by omega) (by omega) (w.alloc (.cells #[.int .i64 m] 3)) (cell_box _ _ _)))
      go_enter Tryd.func106, Tryd.ntmps106
      go_wp2_with (go_at_call 77; refine HT.out.mono ?_; rintro e w' ⟨rfl, hk⟩)
      go_ret2
      exact ⟨by rw [HB.out]; rfl, hk0.trans hk⟩
    · have hd1 : decide (n ≤ 256) = false := decide_eq_false h1
      have HB := Shut.mk (show szB n = false by unfold szB; rw [hd1, Bool.and_false])
      go_enter Tryd.func106, Tryd.ntmps106
      go_wp2_with (go_at_call 77; refine (told_no _ _).mono ?_; rintro e w' ⟨rfl, rfl⟩)
      go_ret2
      exact ⟨by rw [HB.out]; rfl, hk0⟩
  · have hd0 : decide (0 < n) = false := decide_eq_false h0
    have HB := Shut.mk (show szB n = false by unfold szB; rw [hd0, Bool.false_and])
    go_enter Tryd.func106, Tryd.ntmps106
    go_wp2_with (go_at_call 77; refine (told_no _ _).mono ?_; rintro e w' ⟨rfl, rfl⟩)
    go_ret2
    exact ⟨by rw [HB.out]; rfl, hk0⟩
end Go.Proofs.YtekmdklobejbeaaDoor
end

section
/- Walks of the program's ratchet: members, free, needed, needsAll. -/
set_option linter.unusedSimpArgs false
set_option linter.unusedVariables false
namespace Go.Proofs.YtekmdklobejbeaaDoor
open Go.RowKit
open Rt

set_option maxHeartbeats 8000000 in
set_option maxRecDepth 100000 in
theorem pmembers_any {w : World} {tv : Value} {t : List TN} {n : Nat} (ht : RdTs w tv t) (hn : n ∈ Mth.fulls) (hlen : t.length = 2 * n - 1) :
    Calls Tryd.prog 105 #[tv] w (MemPost w (memK t n)) := by
  have HLv := Lib.hid (pleaves_of ht hn hlen)
  have HNL := Shut.mk hlen
  have hnb := fulls_bd hn
  obtain ⟨ta, tc, rfl, t1, t2, t3⟩ := ht.len
  have n0 : (1 : Int) ≤ (n : Int) := by omega
  have n1 : (n : Int) ≤ 256 := by omega
  clear hlen hn
  go_enter Tryd.func105, Tryd.ntmps105
  go_wp2_with fail
  (with_reducible refine HLv.out.mono ?_); rintro e w2 ⟨rfl, rfl⟩
  go_wp2
  go_loopw [3, 7] (fun o c wr => ∃ k : Nat, k ≤ n ∧ c = .int .i64 k ∧ (∃ v, v = o ∧ OwnI w.heap.size wr v (memK t k)) ∧ Kept w wr) (fun _ c _ => n - (intOf c).toNat)
  case atStart => exact ⟨0, Nat.zero_le _, rfl, ⟨_, rfl, (OwnI.nil _ _ : OwnI _ _ _ (memK t 0))⟩, Kept.refl _⟩
  case round =>
    obtain ⟨k, hk, rfl, ⟨v, rfl, ho⟩, hkw⟩ := hrel
    by_cases hlt : k < n
    · obtain ⟨zb, zo, zc, za, zcc, hzv, hzat, hzun⟩ := ht.at (k := 2 * k) (by have := HNL.out; omega)
      simp only [Value.slice.injEq] at hzv
      obtain ⟨rfl, -, rfl⟩ := hzv
      have hz0 := (hzat _ hkw).1
      have HLk := Shut.mk (lk_nd t k)
      have HSu := Shut.mk (memK_succ t k)
      have hle := memK_len t k
      have k0 : (0 : Int) ≤ (k : Int) := by omega
      have k1 : (k : Int) < (n : Int) := by omega
      have k2 : 2 * (k : Int) < (t.length : Int) := by have := HNL.out; omega
      generalize (nd t (2 * k)).kd = kd at hz0 HLk
      clear hzat
      cases hkd : (kd == 1) with
      | false =>
        have HS2 := Shut.mk (show memK t (k + 1) = memK t k by rw [HSu.out, HLk.out, hkd]; exact List.append_nil _)
        go_wp2
        go_roundw
        case rel => exact ⟨k + 1, hlt, rfl, ⟨_, rfl, by rw [HS2.out]; exact ho⟩, hkw⟩
        case measure => simp [intOf]; omega
      | true =>
        have HS2 := Shut.mk (show memK t (k + 1) = memK t k ++ [(k : Int)] by rw [HSu.out, HLk.out, hkd]; rfl)
        have hk3 := hkw.alloc (.cells #[.int .i64 (k : Int)] 3)
        have o2 := Ownv.kept ho ((Kept.refl wr).alloc (.cells #[.int .i64 (k : Int)] 3))
        have hlen : (memK t k).length + 1 ≤ 10000000000 := by omega
        have hsz := hkw.size
        go_wp2_with (at_builtin; refine go_appi w.heap.size v (memK t k) rfl o2 _ [(k : Int)] rfl (OwnI.rd (OwnI.lit1 wr _)) hlen (by simp; omega) ?_; intro v6 w6 o6 t6 l6; have k6 : Kept w w6 := Turn.keptOf hk3 t6 (fun b hb => (Ownv.lt o2 hb).2))
        go_roundw
        case rel => exact ⟨k + 1, hlt, rfl, ⟨_, rfl, by rw [HS2.out]; exact o6⟩, k6⟩
        case measure => simp [intOf]; omega
    · have e : k = n := by omega
      subst e
      go_wp2
      go_ret
      exact ⟨_, rfl, ho, hkw⟩
set_option maxHeartbeats 4000000 in
theorem pneeded_any {w : World} {tv : Value} {t : List TN} {n : Nat} (ht : RdTs w tv t) (hn : n ∈ Mth.fulls) (hlen : t.length = 2 * n - 1) :
    Calls Tryd.prog 76 #[tv] w fun e w' => e = .returned (.int .i64 (ndd (memK t n) : Nat)) ∧ Kept w w' := by
  have HM := Lib.hid (pmembers_any ht hn hlen)
  have hnb := fulls_bd hn
  have hml := memK_len t n
  have hla := mem_last t n
  have HS := Lib.hid (fun W => Size_any ((memK t n).getD ((memK t n).length - 1) 0 + 1) W)
  have HD := Shut.mk (show ndd (memK t n) = bif Nat.beq (memK t n).length 0 then 0 else Mth.size (((memK t n).getD ((memK t n).length - 1) 0).toNat + 1) from rfl)
  generalize memK t n = l at HM hml hla HS HD ⊢
  by_cases h0 : l.length = 0
  · have HD2 := Shut.mk (show ndd l = 0 by rw [HD.out, h0]; rfl)
    have hb : ((l.length : Int) == 0) = true := by rw [beq_iff_eq]; omega
    clear hla HD
    go_enter Tryd.func76, Tryd.ntmps76
    go_wp2_with fail
    (with_reducible refine HM.out.mono ?_); rintro e w2 ⟨v, rfl, ho, k⟩
    obtain ⟨a, c, rfl, _, _, _⟩ := (OwnI.rd ho).len
    clear h0
    go_wp2
    go_ret
    exact ⟨by rw [HD2.out]; rfl, k⟩
  · have hb : ((l.length : Int) == 0) = false := by rw [beq_eq_false_iff_ne]; omega
    obtain ⟨L, hL, _, _, _, hlast⟩ := hla.resolve_left (fun h => h0 (by rw [h.1]; rfl))
    have HD2 := Shut.mk (show ndd l = Mth.size (L + 1) by rw [HD.out, nbeq_false h0, hlast, Int.toNat_natCast]; rfl)
    rw [hlast] at HS
    have hsz : szB ((L : Int) + 1) = true := by unfold szB; rw [decide_eq_true (by omega), decide_eq_true (by omega)]; rfl
    have HS2 : Hid (∀ W, Calls Tryd.prog 106 #[.int .i64 ((L : Int) + 1)] W fun e w' => e = .returned (.tuple #[.int .i64 (Mth.size (L + 1) : Nat), .int .i64 0]) ∧ Kept W w') := Lib.hid (fun W => by
      have := HS.out W ⟨by omega, by omega⟩
      rw [hsz] at this
      exact this)
    have L0 : (0 : Int) ≤ (L : Int) := by omega
    have L1 : (L : Int) ≤ 255 := by omega
    have l1 : (1 : Int) ≤ (l.length : Int) := by omega
    have l2 : (l.length : Int) ≤ 256 := by omega
    have hl1 : l.length - 1 < l.length := by omega
    have HLast := Shut.mk hlast
    have H0 := Shut.mk h0
    clear HD HS hsz hlast h0
    go_enter Tryd.func76, Tryd.ntmps76
    go_wp2_with fail
    (with_reducible refine HM.out.mono ?_); rintro e w2 ⟨v, rfl, ho, k⟩
    obtain ⟨rb, ro, rc, rfl, _, _, hrb, hcl⟩ := (OwnI.rd ho).addr (by omega)
    have q0 := hcl (l.length - 1) hl1
    rw [HLast.out] at q0
    have hsub : ((l.length : Int) - 1) = ((l.length - 1 : Nat) : Int) := by omega
    generalize l.length - 1 = j at q0 hsub hl1
    have hnat : ((l.length : Int) - 1).toNat = j := by omega
    clear hcl
    go_wp2_with fail
    (with_reducible refine (HS2.out _).mono ?_); rintro e w3 ⟨rfl, k3⟩
    go_wp2
    go_ret
    exact ⟨by rw [HD2.out]; rfl, k.trans k3⟩
theorem nat_beq (a b : Nat) : ((a : Int) == (b : Int)) = Nat.beq a b := by
  rw [Bool.eq_iff_iff, beq_iff_eq, Nat.beq_eq]
  omega
set_option maxHeartbeats 2000000 in
theorem pneedsAll_any {w : World} {tv : Value} {t : List TN} {n : Nat} (ht : RdTs w tv t) (hn : n ∈ Mth.fulls) (hlen : t.length = 2 * n - 1) :
    Calls Tryd.prog 44 #[tv] w fun e w' => e = .returned (.bool (needB t n)) ∧ Kept w w' := by
  have HN := Lib.hid (pneeded_any ht hn hlen)
  have HL := Lib.hid (fun W (k : Kept w W) => pleaves_of (ht.kept k) hn hlen)
  have HB := Shut.mk (show needB t n = ((ndd (memK t n) : Int) == (n : Int)) by unfold needB; rw [nat_beq])
  generalize ndd (memK t n) = d at HN HB
  generalize hq : ((d : Int) == (n : Int)) = q at HB
  obtain ⟨ta, tc, rfl, t1, t2, t3⟩ := ht.len
  clear hlen hn
  go_enter Tryd.func44, Tryd.ntmps44
  go_wp2_with fail
  (with_reducible refine HN.out.mono ?_); rintro e w2 ⟨rfl, k⟩
  go_wp2_with fail
  (with_reducible refine (HL.out _ k).mono ?_); rintro e w3 ⟨rfl, rfl⟩
  go_wp2
  go_ret
  exact ⟨by rw [HB.out]; rfl, k⟩
end Go.Proofs.YtekmdklobejbeaaDoor
end

section
/- Walks of the program's ratchet: ownNode, ownNodes. -/
set_option linter.unusedSimpArgs false
set_option linter.unusedVariables false
namespace Go.Proofs.YtekmdklobejbeaaDoor
open Go.RowKit
open Rt

def NodePost (w : World) (d : TN) (e : Ending) (w' : World) : Prop := ∃ lv, e = .returned (.agg #[.int .i64 d.kd, .int .i64 d.id, .int .i64 d.enc, .int .i64 d.sig, .int .i64 d.hash, lv]) ∧ OwnI w.heap.size w' lv d.un ∧ Kept w w'
theorem ownN_step {w w6 : World} {d : TN} {X : List Value} {lv : Value} {ua : Option Addr} {ul uc : Nat} (k6 : Kept w w6)
    (b1 : Blk w6 w.heap.size 43 [.int .i64 d.kd, .int .i64 d.id, .int .i64 d.enc, .int .i64 d.sig, .int .i64 d.hash, lv]) (b2 : Blk w6 (w.heap.size + 1) 43 X) (hX : X.length = 6)
    (o6 : OwnI w.heap.size w6 (.slice ua ul uc) d.un) : 
    let w7 := w6.setCell ⟨w.heap.size, 5, none⟩ (.slice ua ul uc)
    let w8 := put6 w7 (w.heap.size + 1) 0 d (.slice ua ul uc)
    Kept w w8 ∧ OwnI w.heap.size w8 (.slice ua ul uc) d.un ∧ Blk w8 (w.heap.size + 1) 43 [.int .i64 d.kd, .int .i64 d.id, .int .i64 d.enc, .int .i64 d.sig, .int .i64 d.hash, .slice ua ul uc] := by
  intro w7 w8
  have k7 : Kept w w7 := k6.setCell (Nat.le_refl _) _
  have t8 : Turn (fun b => b = w.heap.size + 1) w7 w8 := put6_turn w7 (w.heap.size + 1) 0 d (.slice ua ul uc)
  refine ⟨Turn.keptOf k7 t8 (fun b e => by rw [e]; omega), ?_, ?_⟩
  · refine Ownv.turn (Ownv.setCell o6 (fun hb => Ownv.notBlk o6 b1 (by decide) hb) _) t8 fun b hb e => ?_
    subst e
    exact Ownv.notBlk o6 b2 (by decide) hb
  · have b7 : Blk w7 (w.heap.size + 1) 43 X := Blk.turn b2 (turn_setCell _ _ _) (by show ¬ w.heap.size + 1 = w.heap.size; omega)
    obtain ⟨x0, x1, x2, x3, x4, x5, rfl⟩ : ∃ x0 x1 x2 x3 x4 x5, X = [x0, x1, x2, x3, x4, x5] := by
      match X, hX with
      | [x0, x1, x2, x3, x4, x5], _ => exact ⟨x0, x1, x2, x3, x4, x5, rfl⟩
    have := (((((b7.set 0 (.int .i64 d.kd)).set 1 (.int .i64 d.id)).set 2 (.int .i64 d.enc)).set 3 (.int .i64 d.sig)).set 4 (.int .i64 d.hash)).set 5 (.slice ua ul uc)
    exact this
theorem go_mkt {w : World} {ops : Array Oper} {rest : List Oper} {a : Act} {Q : Exit → Act → World → Prop} {d : Option Tmp} {ty : TypeId} {ps : String} {af : Array Edge} {l c : Operand}
    (n : Nat) (hl : a.eval l = .int .i64 n) (hc : a.eval c = .int .i64 n) (h1 : n ≤ 1000000)
    (hK : ∀ w', OwnT w.heap.size w' (.slice (some ⟨w.heap.size, 0, none⟩) n n) (List.replicate n tn0) (List.replicate n (.slice none 0 0)) → Kept w w' → wpList Tryd.prog ops Q rest (a.put d (.slice (some ⟨w.heap.size, 0, none⟩) n n)) w') :
    wpList Tryd.prog ops Q (⟨d, .makeSlice 22 l c, ty, ps, af, none⟩ :: rest) a w := by
  obtain ⟨i0, hi, hz0, hz1, hz2⟩ := info_parts Tryd.infoTN
  refine wpList_make_full w rfl l c 22 rfl w.heap.size 43 i0 (.agg zero6) 6 Tryd.underlying22 hi hz0 hz1 .i64 .i64 n n n hl hc rfl rfl (by rw [hz2]; omega) (by unfold maxLen; omega) (Nat.le_refl _) ?_
  intro w' ho hg
  refine hK w' ⟨?_, by simp, fun i hi => ?_, fun i j hi hj _ b hb => ?_⟩ ((Below.refl w.heap.size w).grown hg (Nat.le_refl _) fun k hk => by cases hk)
  · rw [List.length_replicate, ← zero6_flat]
    exact ho
  · rw [List.length_replicate] at hi
    rw [nd_rep, lv_rep hi]
    exact OwnI.nil _ _
  · rw [List.length_replicate] at hi
    rw [lv_rep hi] at hb
    cases hb
end Go.Proofs.YtekmdklobejbeaaDoor
end

section
/- Walks of the program's ratchet: unmergedFit, nodesFit. -/
set_option linter.unusedSimpArgs false
set_option linter.unusedVariables false
namespace Go.Proofs.YtekmdklobejbeaaDoor
open Go.RowKit
open Rt

set_option maxHeartbeats 8000000 in
set_option maxRecDepth 100000 in
theorem punf_any {w : World} {tv : Value} {t : List TN} {n x : Nat} (ht : RdTs w tv t) (hok : ∀ d ∈ t, TnOk d) (hn : n ∈ Mth.fulls) (hlen : t.length = 2 * n - 1) (hx : x < t.length) (hT : Tabs w) :
    Calls Tryd.prog 73 #[tv, .int .i64 x] w fun e w' => e = .returned (.bool (unfB t (Mth.hi x) (Mth.lo x : Nat) (nd t x).un)) ∧ Kept w w' := by
  have hnb := fulls_bd hn
  have hx5 : x < 511 := by omega
  have hhi := hi_le hn (by omega : x < 2 * n - 1)
  have HLv : Hid (Calls Tryd.prog 61 #[.int .i64 x] w fun e w' => e = .returned (.tuple #[.int .i64 (Mth.lo x : Nat), .int .i64 (Mth.hi x : Nat), .int .i64 0]) ∧ Kept w w') := Lib.hid (by
    have := Leaves_any x w ⟨by omega, by omega⟩ hT
    rw [in_any hx5] at this
    exact this)
  have HUn := Shut.mk (show ∀ last i r, unfB t (Mth.hi x) last (i :: r) = (!(decide (i < last) || decide ((Mth.hi x : Int) ≤ i) || !lk t i.toNat) && unfB t (Mth.hi x) (i + 1) r) from fun _ _ _ => rfl)
  have HNil := Shut.mk (show ∀ last, unfB t (Mth.hi x) last [] = true from fun _ => rfl)
  have hmem : nd t x ∈ t := by rw [nd_get hx]; exact List.getElem_mem hx
  have HUok := Shut.mk (hok _ hmem).un
  obtain ⟨tb0, to0, tc0, la, lc, htv, hat0, hru⟩ := ht.at (k := x) hx
  subst htv
  have HX5 := Lib.hid (fun W k => (hat0 W k).2.2.2.2.2)
  obtain ⟨_, _, _, l1, l2, l3⟩ := hru.len
  have u63 : (((nd t x).un.length : Nat) : Int) ≤ 9223372036854775807 := by
    obtain ⟨a', c', h1, h2, h3, _⟩ := hru.len
    unfold maxLen at h3; omega
  clear hat0
  generalize hus : (nd t x).un = us at hru HUok u63 HX5 ⊢
  have hres : unfB t (Mth.hi x) (Mth.lo x : Nat) us = unfB t (Mth.hi x) (Mth.lo x : Nat) us := rfl
  generalize hr0 : unfB t (Mth.hi x) (Mth.lo x : Nat) us = res at hres ⊢
  have HRes := Shut.mk hr0
  generalize hlo : Mth.lo x = lo at HLv HRes
  generalize hhe : Mth.hi x = hi' at HLv hhi HUn HNil HRes
  have HLen := Shut.mk hlen
  have t63 : (t.length : Int) ≤ 511 := by omega
  have lob : lo ≤ 600 := by rw [← hlo]; unfold Mth.lo; omega
  have x0 : (0 : Int) ≤ (x : Int) := by omega
  have x1 : (x : Int) < (t.length : Int) := by omega
  clear hres hok hlen hmem hus hlo hhe hr0
  go_enter Tryd.func73, Tryd.ntmps73
  go_wp2_with fail
  refine HLv.out.mono ?_; rintro e w1 ⟨rfl, k1⟩
  have s5 := HX5.out _ k1
  have hruA := hru.kept k1
  go_wp2
  go_loopw [5, 22] (fun l c wr => ∃ (i : Nat) (last : Int), i ≤ us.length ∧ c = .int .i64 i ∧ l = .int .i64 last ∧ 0 ≤ last ∧ last ≤ 600 ∧ unfB t hi' last (us.drop i) = res ∧ Kept w1 wr) (fun _ c _ => us.length - (intOf c).toNat)
  case atStart => exact ⟨0, _, Nat.zero_le _, rfl, rfl, by omega, by omega, HRes.out, Kept.refl _⟩
  case round =>
    obtain ⟨i, last, hi, rfl, rfl, hl0, hl1, hun, hk⟩ := hrel
    have HUnR := Shut.mk hun
    clear hun
    by_cases hlt : i < us.length
    · obtain ⟨ub, uo, uc, huv, _, _, hub, hcl⟩ := hruA.addr (by omega)
      simp only [Value.slice.injEq] at huv
      obtain ⟨rfl, -, rfl⟩ := huv
      have q0 := hk.cell (p := ⟨ub, uo + i, none⟩) hub |>.trans (hcl i hlt)
      have hu := HUok.out _ (getD_memI hlt)
      have hdr : us.drop i = us.getD i 0 :: us.drop (i + 1) := by
        rw [List.drop_eq_getElem_cons hlt, List.getD_eq_getElem?_getD, List.getElem?_eq_getElem hlt]; rfl
      have hr := HUnR.out
      rw [hdr, HUn.out] at hr
      clear hcl hdr
      generalize us.getD i 0 = u at q0 hu hr
      obtain ⟨hu0, hu1⟩ := hu
      have HR := Shut.mk hr
      clear hr
      have i0 : (0 : Int) ≤ (i : Int) := by omega
      have i1 : (i : Int) < (us.length : Int) := by omega
      by_cases c1 : u < last
      · have d1 : decide (u < last) = true := decide_eq_true c1
        have HF := Shut.mk (show res = false by rw [← HR.out, d1]; rfl)
        clear HR
        go_wp2
        go_ret
        exact ⟨by rw [HF.out]; rfl, k1.trans hk⟩
      · have d1 : decide (u < last) = false := decide_eq_false c1
        by_cases c2 : (hi' : Int) ≤ u
        · have d2 : decide ((hi' : Int) ≤ u) = true := decide_eq_true c2
          have HF := Shut.mk (show res = false by rw [← HR.out, d1, d2]; rfl)
          clear HR
          go_wp2
          go_ret
          exact ⟨by rw [HF.out]; rfl, k1.trans hk⟩
        · have d2 : decide ((hi' : Int) ≤ u) = false := decide_eq_false c2
          obtain ⟨j, rfl⟩ : ∃ j : Nat, u = j := ⟨u.toNat, by omega⟩
          obtain ⟨tb, to, tcc, ja, jc, hv, hat, _⟩ := ht.at (k := 2 * j) (by have := HLen.out; omega)
          simp only [Value.slice.injEq, Option.some.injEq, Addr.mk.injEq, and_true, true_and] at hv
          obtain ⟨⟨rfl, rfl⟩, rfl⟩ := hv
          have s0 := (hat wr (k1.trans hk)).1
          have HLk := Shut.mk (lk_nd t j)
          have j0 : (0 : Int) ≤ (j : Int) := by omega
          have j1 : 2 * (j : Int) < (t.length : Int) := by have := HLen.out; omega
          have j2 : (j : Int) ≤ 255 := by omega
          generalize (nd t (2 * j)).kd = kj at s0 HLk
          clear hat
          cases hkj : (kj != 1) with
          | true =>
            have HF := Shut.mk (show res = false by
              rw [← HR.out, d1, d2, Int.toNat_natCast, HLk.out]
              have : (kj == 1) = false := by simpa using hkj
              rw [this]; rfl)
            clear HR
            go_wp2
            go_ret
            exact ⟨by rw [HF.out]; rfl, k1.trans hk⟩
          | false =>
            have HG := Shut.mk (show unfB t hi' ((j : Int) + 1) (us.drop (i + 1)) = res by
              rw [← HR.out, d1, d2, Int.toNat_natCast, HLk.out]
              have : (kj == 1) = true := by simpa using hkj
              rw [this]
              simp)
            clear HR
            go_wp2
            go_roundw
            case rel => exact ⟨i + 1, (j : Int) + 1, hlt, by go_num, by go_num, by omega, by omega, HG.out, hk⟩
            case measure => simp [intOf]; omega
    · have e : us.drop i = [] := List.drop_eq_nil_of_le (by omega)
      have HF := Shut.mk (show res = true by rw [← HUnR.out, e]; exact HNil.out _)
      have i9 : ¬ (i : Int) < (us.length : Int) := by omega
      clear e
      go_wp2
      go_ret
      exact ⟨by rw [HF.out]; rfl, k1.trans hk⟩
set_option maxHeartbeats 8000000 in
set_option maxRecDepth 100000 in
theorem pfits_any {w : World} {tv : Value} {t : List TN} {n : Nat} (ht : RdTs w tv t) (hok : ∀ d ∈ t, TnOk d) (hn : n ∈ Mth.fulls) (hlen : t.length = 2 * n - 1) (hT : Tabs w) :
    Calls Tryd.prog 42 #[tv] w fun e w' => e = .returned (.bool (fitsB t)) ∧ Kept w w' := by
  have hnb := fulls_bd hn
  have HFB := Shut.mk (show fitsB t = (List.range t.length).all fun x => fitB t x from rfl)
  have HFalse := Shut.mk (show ∀ k, k < t.length → fitB t k = false → fitsB t = false from fun k hk h => by
    rw [HFB.out]
    cases e : ((List.range t.length).all fun x => fitB t x) with
    | false => rfl
    | true =>
      have := List.all_eq_true.1 e k (List.mem_range.2 hk)
      rw [h] at this; cases this)
  have t63 : (t.length : Int) ≤ 511 := by omega
  obtain ⟨ta, tc, rfl, t1, t2, t3⟩ := ht.len
  have HN := Shut.mk hn
  have HLen := Shut.mk hlen
  have HOk := Shut.mk hok
  clear hok hn hlen
  go_enter Tryd.func42, Tryd.ntmps42
  go_wp2
  go_loopw [7] (fun c wr => ∃ k : Nat, k ≤ t.length ∧ c = .int .i64 k ∧ (∀ y, y < k → fitB t y = true) ∧ Kept w wr) (fun c _ => t.length - (intOf c).toNat)
  case atStart => exact ⟨0, Nat.zero_le _, rfl, fun y hy => absurd hy (Nat.not_lt_zero _), Kept.refl _⟩
  case round =>
    obtain ⟨k, hk, rfl, hall, hkw⟩ := hrel
    have HAll := Shut.mk hall
    clear hall
    by_cases hlt : k < t.length
    · obtain ⟨zb, zo, zc, za, zcc, hzv, hzat, hzun⟩ := ht.at (k := k) hlt
      simp only [Value.slice.injEq] at hzv
      obtain ⟨rfl, -, rfl⟩ := hzv
      obtain ⟨g0, g1, g2, g3, g4, g5⟩ := hzat wr hkw
      have k0 : (0 : Int) ≤ (k : Int) := by omega
      have k1 : (k : Int) < (t.length : Int) := by omega
      have hkb : Kept w (wr.alloc (.cells #[.int .i64 (nd t k).kd, .int .i64 (nd t k).id, .int .i64 (nd t k).enc, .int .i64 (nd t k).sig, .int .i64 (nd t k).hash, .slice za (nd t k).un.length zcc] 43)) := hkw.alloc _
      have HRd : Hid (∀ W, Kept w W → RdTn W (.agg #[.int .i64 (nd t k).kd, .int .i64 (nd t k).id, .int .i64 (nd t k).enc, .int .i64 (nd t k).sig, .int .i64 (nd t k).hash, .slice za (nd t k).un.length zcc]) (nd t k)) := Lib.hid (fun W q => ⟨_, rfl, hzun.kept q⟩)
      have HUf := Lib.hid (fun W (q : Kept w W) => punf_any (ht.kept q) HOk.out HN.out HLen.out hlt (hT.kept q))
      have bX : Blk (wr.alloc (.cells #[.int .i64 (nd t k).kd, .int .i64 (nd t k).id, .int .i64 (nd t k).enc, .int .i64 (nd t k).sig, .int .i64 (nd t k).hash, .slice za (nd t k).un.length zcc] 43)) wr.heap.size 43 [.int .i64 (nd t k).kd, .int .i64 (nd t k).id, .int .i64 (nd t k).enc, .int .i64 (nd t k).sig, .int .i64 (nd t k).hash, .slice za (nd t k).un.length zcc] := Blk.new _ _ _
      have HFt := Shut.mk (show fitB t k = bif (nd t k).kd == 0 then sameNB (nd t k) tn0 else bif Nat.beq (k % 2) 0 then leafB (nd t k) else parB (nd t k) && unfB t (Mth.hi k) (Mth.lo k : Nat) (nd t k).un from rfl)
      have HSm := Lib.hid (fun W (q : Kept w W) => psameN_any (w := W) (v := .agg #[.int .i64 0, .int .i64 0, .int .i64 0, .int .i64 0, .int .i64 0, .slice none 0 0]) (HRd.out W q) (b := tn0) ⟨.slice none 0 0, rfl, RdI.nil _⟩)
      have HLf := Lib.hid (fun W (q : Kept w W) => pleaf_any (w := W) (HRd.out W q))
      have HPr := Lib.hid (fun W (q : Kept w W) => ppar_any (w := W) (HRd.out W q))
      generalize unfB t (Mth.hi k) (Mth.lo k : Nat) (nd t k).un = uf at HUf HFt
      generalize sameNB (nd t k) tn0 = sm at HSm HFt
      generalize leafB (nd t k) = lf at HLf HFt
      generalize parB (nd t k) = pr at HPr HFt
      have HFa := Shut.mk (HFalse.out k hlt)
      have HNx : ∀ b, b = fitB t k → b = true → Shut (∀ y, y < k + 1 → fitB t y = true) := fun b e h => ⟨fun y hy => by
        by_cases c : y < k
        · exact HAll.out y c
        · obtain rfl : y = k := by omega
          rw [← e]; exact h⟩
      clear hzat hzun HRd
      cases hk0 : ((nd t k).kd == 0) with
      | true =>
        rw [hk0] at HFt
        have hft : fitB t k = sm := HFt.out
        cases sm with
        | true =>
          have HNx2 := HNx true hft.symm rfl
          clear HNx hft HFt
          go_wp2_with fail
          (with_reducible refine (HSm.out _ hkb).mono ?_); rintro e w2 ⟨rfl, q⟩
          go_wp2
          go_roundw
          case rel => exact ⟨k + 1, hlt, by go_num, HNx2.out, hkb.trans q⟩
          case measure => simp [intOf]; omega
        | false =>
          have HF := Shut.mk (HFa.out hft)
          clear HNx hft HFt
          go_wp2_with fail
          (with_reducible refine (HSm.out _ hkb).mono ?_); rintro e w2 ⟨rfl, q⟩
          go_wp2
          go_ret
          exact ⟨by rw [HF.out]; rfl, hkb.trans q⟩
      | false =>
        rw [hk0] at HFt
        by_cases hpar : k % 2 = 0
        · have xm : ((k : Int) % 2 == 0) = true := by rw [beq_iff_eq]; omega
          have hft : fitB t k = lf := by have := HFt.out; rw [hpar] at this; exact this
          clear hpar
          cases lf with
          | true =>
            have HNx2 := HNx true hft.symm rfl
            clear HNx hft HFt
            go_wp2_with fail
            (with_reducible refine (HLf.out _ hkb).mono ?_); rintro e w2 ⟨rfl, q⟩
            go_wp2
            go_roundw
            case rel => exact ⟨k + 1, hlt, by go_num, HNx2.out, hkb.trans q⟩
            case measure => simp [intOf]; omega
          | false =>
            have HF := Shut.mk (HFa.out hft)
            clear HNx hft HFt
            go_wp2_with fail
            (with_reducible refine (HLf.out _ hkb).mono ?_); rintro e w2 ⟨rfl, q⟩
            go_wp2
            go_ret
            exact ⟨by rw [HF.out]; rfl, hkb.trans q⟩
        · have xm : ((k : Int) % 2 == 0) = false := by rw [beq_eq_false_iff_ne]; omega
          have hft : fitB t k = (pr && uf) := by have := HFt.out; rw [show k % 2 = 1 by omega] at this; exact this
          clear hpar
          cases pr with
          | false =>
            have HF := Shut.mk (HFa.out hft)
            clear HNx hft HFt
            go_wp2_with fail
            (with_reducible refine (HPr.out _ hkb).mono ?_); rintro e w2 ⟨rfl, q⟩
            go_wp2
            go_ret
            exact ⟨by rw [HF.out]; rfl, hkb.trans q⟩
          | true =>
            cases uf with
            | true =>
              have HNx2 := HNx true hft.symm rfl
              clear HNx hft HFt
              go_wp2_with fail
              (with_reducible refine (HPr.out _ hkb).mono ?_); rintro e w2 ⟨rfl, q⟩
              go_wp2_with fail
              (with_reducible refine (HUf.out _ (hkb.trans q)).mono ?_); rintro e w3 ⟨rfl, q3⟩
              go_wp2
              go_roundw
              case rel => exact ⟨k + 1, hlt, by go_num, HNx2.out, (hkb.trans q).trans q3⟩
              case measure => simp [intOf]; omega
            | false =>
              have HF := Shut.mk (HFa.out hft)
              clear HNx hft HFt
              go_wp2_with fail
              (with_reducible refine (HPr.out _ hkb).mono ?_); rintro e w2 ⟨rfl, q⟩
              go_wp2_with fail
              (with_reducible refine (HUf.out _ (hkb.trans q)).mono ?_); rintro e w3 ⟨rfl, q3⟩
              go_wp2
              go_ret
              exact ⟨by rw [HF.out]; rfl, (hkb.trans q).trans q3⟩
    · have e : k = t.length := by omega
      have HF := Shut.mk (show fitsB t = true by
        rw [HFB.out, List.all_eq_true]
        exact fun i hi => HAll.out i (by rw [e]; exact List.mem_range.1 hi))
      have k9 : ¬ (k : Int) < (t.length : Int) := by omega
      clear e
      go_wp2
      go_ret
      exact ⟨by rw [HF.out]; rfl, hkw⟩
end Go.Proofs.YtekmdklobejbeaaDoor
end

section
/- Walks: math's Path answers numbers of its own; the library's BinarySearch; the program's above, unmergedAgree, Check, Members, Same. -/
set_option linter.unusedSimpArgs false
set_option linter.unusedVariables false
namespace Go.Proofs.YtekmdklobejbeaaDoor
open Go.RowKit
open Rt

def ClimbOwn (w : World) (l : List Int) (e : Ending) (w' : World) : Prop := ∃ v, e = .returned v ∧ OwnI w.heap.size w' v l ∧ Kept w w'
set_option maxHeartbeats 1000000 in
theorem climb_own (t : Nat → Nat) (g : Nat) (eg : ∀ args w, (callFunc g args).run Tryd.prog w = .ok (.enter g args) w)
    (hG : ∀ (y : Nat) (W : World), y < 511 → Tabs W → Calls Tryd.prog g #[.int .i64 (y : Int)] W fun e w' => e = .returned (.int .i64 (t y : Nat)) ∧ Kept W w')
    (x n : Nat) (hn : n ∈ Mth.fulls) (hx : x < 2 * n - 1) (w : World) (ht : Tabs w) :
    Calls Tryd.prog 52 #[.int .i64 x, .int .i64 n, .func (.func g) #[] #[]] w (ClimbOwn w (cl t x (Mth.lvl (n - 1) - Mth.lvl x))) := by
  have hp := Mth.path_of hn hx
  have hbd := fulls_bd hn
  have hl8 := lvl_top hn
  have HR := Lib.hid (fun W => root_any (n : Int) W (by omega) (by omega))
  have HG := Lib.hid hG
  clear hG
  have hlast := hp.last
  have hL8 : Mth.lvl (n - 1) - Mth.lvl x ≤ 8 := by omega
  have hat := hp.at'
  generalize Mth.lvl (n - 1) - Mth.lvl x = L at hlast hat hL8 ⊢
  have HLast := Shut.mk hlast
  have HAt := Shut.mk hat
  have HL := Shut.mk hL8
  clear hlast hat hp hL8
  have hn1 : (1 : Int) ≤ (n : Int) := by omega
  have hn2 : (n : Int) ≤ 256 := by omega
  go_enter Tryd.func52, Tryd.ntmps52
  go_wp2
  go_loopw [0, 7] (fun y l wr => ∃ i : Nat, i ≤ L ∧ y = .int .i64 (Mth.itr i x : Nat) ∧ (∃ v, v = l ∧ OwnI w.heap.size wr v (cl t x i) ∧ slen v = i) ∧ Kept w wr) (fun _ l _ => L - slen l)
  case atStart => exact ⟨0, Nat.zero_le _, rfl, ⟨_, rfl, OwnI.nil _ _, rfl⟩, Kept.refl _⟩
  case round =>
    obtain ⟨i, hi, rfl, ⟨v, rfl, ho, hs⟩, hk⟩ := hrel
    have HS := Shut.mk hs
    clear hs
    by_cases hlt : i < L
    · obtain ⟨_, _, a3, a4, _⟩ := HAt.out i hlt
      have hm : Mth.itr i x < 511 := by omega
      have HSucc := Shut.mk (Mth.itr_succ i x)
      have HCl := Shut.mk (cl_succ t x i)
      have HTy := Lib.hid (fun W k => HG.out (Mth.itr i x) W hm (ht.kept (Kept.trans hk k)))
      have HPy := Lib.hid (fun W (k : Kept w W) => parent_any (Mth.itr i x) hm W (ht.kept k))
      have hne : ((Mth.itr i x : Int) != (n : Int) - 1) = true := by simp; omega
      generalize Mth.itr i x = y at HSucc HCl HTy HPy hne
      generalize t y = ty at HCl HTy
      clear a3 a4 hm
      go_wp2_with (go_at_call 84; refine (HR.out _).mono ?_; rintro e w' ⟨rfl, rfl⟩)
      refine (HTy.out _ (Kept.refl _)).mono ?_
      rintro e w2 ⟨rfl, hk2⟩
      have hsz := (hk.trans hk2).size
      have hk2a := (hk.trans hk2).alloc (.cells #[.int .i64 (ty : Int)] 3)
      have o2 := Ownv.kept (Ownv.kept ho hk2) ((Kept.refl w2).alloc (.cells #[.int .i64 (ty : Int)] 3))
      have hlen : (cl t x i).length + 1 ≤ 10000000000 := by rw [cl_len]; have := HL.out; omega
      go_wp2_with (at_builtin; refine go_appi w.heap.size v (cl t x i) rfl o2 _ [(ty : Int)] rfl (OwnI.rd (OwnI.lit1 w2 _)) hlen (by simp; omega) ?_; intro v6 w6 o6 t6 l6; have k6 : Kept w w6 := Turn.keptOf hk2a t6 (fun b hb => (Ownv.lt o2 hb).2))
      refine (HPy.out _ k6).mono ?_
      rintro e w7 ⟨rfl, hk7⟩
      go_wp2
      go_roundw
      case rel => exact ⟨i + 1, hlt, by rw [HSucc.out], ⟨v6, rfl, by rw [HCl.out]; exact Ownv.kept o6 hk7, by
        obtain ⟨a6, c6, rfl, _⟩ := (OwnI.rd o6).len
        show (cl t x i ++ [(ty : Int)]).length = i + 1
        rw [List.length_append, cl_len]; rfl⟩, k6.trans hk7⟩
      case measure =>
        obtain ⟨a6, c6, rfl, _⟩ := (OwnI.rd o6).len
        have := HS.out
        show L - (cl t x i ++ [(ty : Int)]).length < L - slen v
        rw [List.length_append, cl_len, this]
        simp
        omega
    · have e : i = L := by omega
      have hlst := HLast.out
      rw [← e] at hlst
      have hne : ((Mth.itr i x : Int) != (n : Int) - 1) = false := by simp; omega
      have HE := Shut.mk e
      clear e hlst hlt
      generalize Mth.itr i x = y at hne
      go_wp2_with (go_at_call 84; refine (HR.out _).mono ?_; rintro e w' ⟨rfl, rfl⟩)
      go_ret
      exact ⟨_, rfl, by rw [← HE.out]; exact ho, hk⟩
theorem Path1_own (b c : Nat) (x n : Nat) (hn : n ∈ Mth.fulls) (hx : x < 2 * n - 1) (w : World) (hb : w.cell? ⟨b, 0, none⟩ = some (.int .i64 x)) (hc : w.cell? ⟨c, 0, none⟩ = some (.int .i64 n)) (ht : Tabs w) :
    Calls Tryd.prog 51 #[.pointer (some ⟨b, 0, none⟩), .pointer (some ⟨c, 0, none⟩)] w (ClimbOwn w (ints (Mth.path x n))) := by
  have HC := Lib.hid (climb_own Mth.par 53 (enters_of Tryd.func53 (by kernel_rfl) rfl) (fun y W h t => parent_any y h W t) x n hn hx w ht)
  rw [cl_path hn hx] at HC
  go_enter Tryd.func51, Tryd.ntmps51
  go_wp2_with fail
  refine HC.out.mono ?_
  rintro e w' ⟨v, rfl, hr, hk⟩
  go_wp2
  go_ret
  exact ⟨_, rfl, hr, hk⟩
theorem Path_own (x n : Int) (w : World) (hx : I64 x) (hn : I64 n) (ht : Tabs w) : Calls Tryd.prog 26 #[.int .i64 x, .int .i64 n] w (OwnPost w (inB x n) (ints (Mth.path x.toNat n.toNat))) := by
  have HA := Lib.hid (fun w => within_any x n w hx hn)
  have hk0 : Kept w ((w.alloc (.cells #[.int .i64 x] 3)).alloc (.cells #[.int .i64 n] 3)) := ((Kept.refl w).alloc _).alloc _
  have ht1 := ht.kept hk0
  cases hi : inB x n with
  | false =>
    rw [hi] at HA
    clear hi
    go_enter Tryd.func26, Tryd.ntmps26
    go_wp2_with (first | (go_at_call 50; refine (HA.out _).mono ?_; rintro e w' ⟨rfl, rfl⟩) | (go_at_call 49; refine (told_noL _ _).mono ?_; rintro e w' ⟨rfl, rfl⟩))
    go_ret2
    exact ⟨_, rfl, OwnI.nil _ _, hk0⟩
  | true =>
    obtain ⟨m, k, hm, hkk, hkf, h4, h5⟩ := in_nat hi
    subst hm hkk
    have hb : ((w.alloc (.cells #[.int .i64 (m : Int)] 3)).alloc (.cells #[.int .i64 (k : Int)] 3)).cell? ⟨w.heap.size, 0, none⟩ = some (.int .i64 m) := by
      rw [Below.cell (p := ⟨w.heap.size, 0, none⟩) ((Kept.refl _).alloc _) (by simp)]; exact cell_box _ _ _
    have hc : ((w.alloc (.cells #[.int .i64 (m : Int)] 3)).alloc (.cells #[.int .i64 (k : Int)] 3)).cell? ⟨w.heap.size + 1, 0, none⟩ = some (.int .i64 k) := by
      have := cell_box (w.alloc (.cells #[.int .i64 (m : Int)] 3)) (.int .i64 (k : Int)) 3
      rwa [alloc_size] at this
    have HT := Lib.hid (told_yesL (P := fun v w' => OwnI w.heap.size w' v (ints (Mth.path m k)) ∧ Kept _ w') (enters_of Tryd.func51 (by kernel_rfl) rfl) ((Path1_own w.heap.size (w.heap.size + 1) m k hkf h4 _ hb hc ht1).mono fun e w' ⟨v, he, ho, hk⟩ => ⟨v, he, Ownv.mono ho hk0.size, hk⟩))
    rw [hi] at HA
    clear hi hb hc
    go_enter Tryd.func26, Tryd.ntmps26
    go_wp2_with (first | (go_at_call 50; refine (HA.out _).mono ?_; rintro e w' ⟨rfl, rfl⟩) | (go_at_call 49; refine HT.out.mono ?_; rintro e w' ⟨v, rfl, hr, hk⟩))
    go_ret2
    exact ⟨_, rfl, hr, hk0.trans hk⟩

theorem pbs_any {W : World} {v : Value} {zs : List Int} (h : RdI W v zs) (hs : zs.Pairwise (· < ·)) (hl : zs.length ≤ 100000) (x : Int) :
    Calls Tryd.prog 40 #[v, .int .i64 x] W fun e w' => e = .returned (.tuple #[.int .i64 (zs.countP (· < x) : Nat), .bool (decide (x ∈ zs))]) ∧ ∃ q, w' = W.drewN q := by
  by_cases h0 : zs = []
  · subst h0
    obtain ⟨a, c, rfl, _, _, _⟩ := h.len
    refine (Tryd.slices_BinarySearch_int_empty a c x W).mono fun e w' ⟨he, hw⟩ => ⟨?_, 0, ?_⟩
    · rw [he]; simp
    · rw [hw]; exact (World.drewN_zero W).symm
  · obtain ⟨b, off, c, rfl, h1, h2, h3, hc⟩ := h.addr (List.length_pos_iff.2 h0)
    refine (Tryd.slices_BinarySearch_int b off zs.length c zs x W (Nat.le_refl _) (by omega) hc (by rw [List.take_length]; exact hs.imp fun h => Int.le_of_lt h)).mono fun e w' ⟨he, hw⟩ => ⟨?_, hw⟩
    rw [he, List.take_length]
    simp [List.contains_eq_mem]
set_option maxHeartbeats 4000000 in
theorem pabove_any {w : World} {tv : Value} {t : List TN} {n i g : Nat} {caps : Array Value} {F : Nat → Prop} {I : Nat → World → Prop} (ht : RdTs w tv t) (hn : n ∈ Mth.fulls) (hlen : t.length = 2 * n - 1) (hi : i < n) (hT : Tabs w)
    (eg : ∀ args w, (callFunc g args).run Tryd.prog w = .ok (.enter g args) w) (hF : ∀ b, F b → b < w.heap.size) (h0 : ∀ W, Kept w W → I 0 W)
    (hst : ∀ j, j < (Mth.path (2 * i) n).length → ∀ W, I j W → Calls Tryd.prog g (#[.int .i64 ((Mth.path (2 * i) n).getD j 0 : Nat)] ++ caps) W fun e W' => e = .returned (.tuple #[]) ∧ I (j + 1) W' ∧ Turn F W W') :
    Calls Tryd.prog 74 #[tv, .int .i64 i, .func (.func g) #[] caps] w fun e w' => e = .returned (.tuple #[]) ∧ I (Mth.path (2 * i) n).length w' ∧ Turn F w w' := by
  have hnb := fulls_bd hn
  have hi2 : 2 * i < 2 * n - 1 := by omega
  have HLv := Lib.hid (pleaves_of ht hn hlen)
  have HP : Hid (Calls Tryd.prog 26 #[.int .i64 (2 * (i : Int)), .int .i64 n] w (OwnPost w true (ints (Mth.path (2 * i) n)))) := Lib.hid (by
    have := Path_own ((2 * i : Nat) : Int) n w ⟨by omega, by omega⟩ ⟨by omega, by omega⟩ hT
    rw [nat_in hn hi2] at this
    exact this)
  have hpl8 : (Mth.path (2 * i) n).length ≤ 8 := by
    have hp := Mth.path_of hn hi2
    have hpl : (Mth.path (2 * i) n).length = _ := hp.len
    have := lvl_top hn
    omega
  generalize Mth.path (2 * i) n = p at HP hst hpl8 ⊢
  have HSt := Lib.hid hst
  have H0 := Lib.hid h0
  have HF := Lib.hid hF
  have i0 : (0 : Int) ≤ (i : Int) := by omega
  have i1 : (i : Int) ≤ 256 := by omega
  clear hst h0 hF hlen hn ht
  go_enter Tryd.func74, Tryd.ntmps74
  go_wp2_with fail
  refine HLv.out.mono ?_; rintro e w1 ⟨rfl, rfl⟩
  go_wp2_with fail
  refine HP.out.mono ?_; rintro e w2 ⟨pv, rfl, op, k2⟩
  simp only [er_true]
  replace op : OwnI w.heap.size w2 pv (ints p) := op
  obtain ⟨pa, pc, rfl, _, _, _⟩ := (OwnI.rd op).len
  rw [ints_len] at op ⊢
  have p63 : (p.length : Int) ≤ 8 := by omega
  go_wp2
  go_loopw [20] (fun c wr => ∃ j : Nat, j ≤ p.length ∧ c = .int .i64 j ∧ I j wr ∧ Turn F w2 wr) (fun c _ => p.length - (intOf c).toNat)
  case atStart => exact ⟨0, Nat.zero_le _, rfl, H0.out _ k2, Turn.refl _ _⟩
  case round =>
    obtain ⟨j, hj, rfl, hI, htr⟩ := hrel
    by_cases hlt : j < p.length
    · have opr : OwnI w.heap.size wr (.slice pa p.length pc) (ints p) := Ownv.turn op htr fun b hb hf => by
        have h1 := (Ownv.lt op hb).2
        have h2 := HF.out b hf
        omega
      obtain ⟨rb, ro, rcp, hrv, _, _, hrb, hcl⟩ := (OwnI.rd opr).addr (by rw [ints_len]; omega)
      simp only [Value.slice.injEq] at hrv
      obtain ⟨rfl, -, rfl⟩ := hrv
      have q0 := hcl j (by rw [ints_len]; exact hlt)
      rw [ints_get hlt] at q0
      have HC := Lib.hid (HSt.out j hlt _ hI)
      clear hcl
      generalize p.getD j 0 = x at q0 HC
      have j0 : (0 : Int) ≤ (j : Int) := by omega
      have j1 : (j : Int) < (p.length : Int) := by omega
      go_wp2_with fail
      (with_reducible refine HC.out.mono ?_); rintro e w3 ⟨rfl, hI3, ht3⟩
      go_wp2
      go_roundw
      case rel => exact ⟨j + 1, hlt, by go_num, hI3, Turn.trans htr ht3 (fun b h => .inl h)⟩
      case measure => simp [intOf]; omega
    · have e : j = p.length := by omega
      have HE := Shut.mk (show I p.length wr by rw [← e]; exact hI)
      have k9 : ¬ (j : Int) < (p.length : Int) := by omega
      clear e
      go_wp2
      go_end0
      exact ⟨rfl, HE.out, Turn.trans (k2.turn F) htr (fun b h => .inl h)⟩
end Go.Proofs.YtekmdklobejbeaaDoor
end

section
/- Walks of the program's ratchet: unmergedAgree, Check, Members, Same. -/
set_option linter.unusedSimpArgs false
set_option linter.unusedVariables false
namespace Go.Proofs.YtekmdklobejbeaaDoor
open Go.RowKit
open Rt

def agA (t : List TN) (x i : Nat) (a b : Bool) : Bool := bif (nd t x).kd == 2 then a && (b || !hasU t x i) else a
def agB (t : List TN) (x i : Nat) (b : Bool) : Bool := bif (nd t x).kd == 2 then hasU t x i else b
theorem ag_step {W : World} {b3 b5 q : Nat} {a b a' b' : Bool} (c3 : Blk W b3 4 [.bool a]) (c5 : Blk W b5 4 [.bool b]) (hne : b3 ≠ b5) :
    Blk (((W.drewN q).setCell ⟨b3, 0, none⟩ (.bool a')).setCell ⟨b5, 0, none⟩ (.bool b')) b3 4 [.bool a'] ∧ Blk (((W.drewN q).setCell ⟨b3, 0, none⟩ (.bool a')).setCell ⟨b5, 0, none⟩ (.bool b')) b5 4 [.bool b'] ∧
    Turn (fun k => k = b3 ∨ k = b5) W (((W.drewN q).setCell ⟨b3, 0, none⟩ (.bool a')).setCell ⟨b5, 0, none⟩ (.bool b')) := by
  have k := (Kept.refl W).drewN q
  have c3' := (c3.kept k).set 0 (.bool a')
  have c5' := Blk.turn (c5.kept k) (turn_setCell (W.drewN q) ⟨b3, 0, none⟩ (.bool a')) (fun e => hne e.symm)
  refine ⟨Blk.turn c3' (turn_setCell _ ⟨b5, 0, none⟩ _) hne, c5'.set 0 _, ?_⟩
  exact Turn.trans (Turn.trans (k.turn _) (turn_setCell _ _ _) (fun x e => .inl (.inl e))) (turn_setCell _ _ _) (fun x e => .inl (.inr e))
set_option maxHeartbeats 4000000 in
set_option maxRecDepth 100000 in
theorem pag1_any {W : World} {tv : Value} {t : List TN} {x i b1 b4 b3 b5 : Nat} {a b : Bool} (ht : RdTs W tv t) (hx : x < t.length) (hl : t.length ≤ 511) (hun : (nd t x).kd = 2 → (nd t x).un.Pairwise (· < ·) ∧ (nd t x).un.length ≤ 1000)
    (c1 : Blk W b1 22 [tv]) (c4 : Blk W b4 3 [.int .i64 i]) (c3 : Blk W b3 4 [.bool a]) (c5 : Blk W b5 4 [.bool b]) (hne : b3 ≠ b5) :
    Calls Tryd.prog 75 #[.int .i64 x, .pointer (some ⟨b1, 0, none⟩), .pointer (some ⟨b4, 0, none⟩), .pointer (some ⟨b3, 0, none⟩), .pointer (some ⟨b5, 0, none⟩)] W fun e w' =>
      e = .returned (.tuple #[]) ∧ Blk w' b3 4 [.bool (agA t x i a b)] ∧ Blk w' b5 4 [.bool (agB t x i b)] ∧ Turn (fun k => k = b3 ∨ k = b5) W w' := by
  obtain ⟨tb, to, tc, la, lc, rfl, hat, hru⟩ := ht.at hx
  obtain ⟨g0, _, _, _, _, g5⟩ := hat W (Kept.refl W)
  have d1 := c1.cell 0
  have d4 := c4.cell 0
  have d3 := c3.cell 0
  have d5 := c5.cell 0
  have f3 := c3.frozen 0
  have f5 := c5.frozen 0
  simp only [List.getElem?_cons_zero] at d1 d4 d3 d5
  have x0 : (0 : Int) ≤ (x : Int) := by omega
  have x1 : (x : Int) < (t.length : Int) := by omega
  have x2 : (x : Int) ≤ 511 := by omega
  have HA := Shut.mk (show agA t x i a b = bif (nd t x).kd == 2 then a && (b || !hasU t x i) else a from rfl)
  have HB := Shut.mk (show agB t x i b = bif (nd t x).kd == 2 then hasU t x i else b from rfl)
  have HSt := Lib.hid (fun (q : Nat) (a' b' : Bool) => ag_step (q := q) (a' := a') (b' := b') c3 c5 hne)
  have HC3 := Lib.hid c3
  have HC5 := Lib.hid c5
  clear hat ht c1 c4 c3 c5
  cases hk : ((nd t x).kd == 2) with
  | false =>
    have hk2 : ((nd t x).kd != 2) = true := by simpa using hk
    rw [hk] at HA HB
    have HA2 := Shut.mk (show agA t x i a b = a from HA.out)
    have HB2 := Shut.mk (show agB t x i b = b from HB.out)
    clear hk HA HB
    go_enter Tryd.func75, Tryd.ntmps75
    go_wp2
    refine bodyPost_ret (results_none rfl _ _ _) rfl ?_
    exact ⟨rfl, by rw [HA2.out]; exact HC3.out, by rw [HB2.out]; exact HC5.out, Turn.refl _ _⟩
  | true =>
    have hk2 : ((nd t x).kd != 2) = false := by simpa using hk
    obtain ⟨hp, hul⟩ := hun (by simpa using hk)
    rw [hk] at HA HB
    have HA2 := Shut.mk (show agA t x i a b = (a && (b || !hasU t x i)) from HA.out)
    have HB2 := Shut.mk (show agB t x i b = hasU t x i from HB.out)
    have HBS := Lib.hid (fun n => Calls.quiet_of (pbs_any (hru.kept ((Kept.refl W).drewN n)) hp (by omega) (i : Int)))
    have hU : hasU t x i = decide ((i : Int) ∈ (nd t x).un) := rfl
    rw [hU] at HA2 HB2
    generalize decide ((i : Int) ∈ (nd t x).un) = u at HBS HA2 HB2
    generalize (List.countP (fun z => decide (z < (i : Int))) (nd t x).un) = cp at HBS
    clear hk HA HB hp hU
    cases a with
    | false =>
      have HA3 := Shut.mk (show agA t x i false b = false from HA2.out)
      go_enter Tryd.func75, Tryd.ntmps75
      go_wp2
      go_quiet ((go_at_call 40; exact HBS.out _))
      go_wp2
      go_end0
      exact ⟨rfl, by rw [HA3.out, HB2.out]; exact HSt.out _ _ _⟩
    | true =>
      cases b with
      | true =>
        have HA3 := Shut.mk (show agA t x i true true = true from HA2.out)
        go_enter Tryd.func75, Tryd.ntmps75
        go_wp2
        go_quiet ((go_at_call 40; exact HBS.out _))
        go_wp2
        go_end0
        exact ⟨rfl, by rw [HA3.out, HB2.out]; exact HSt.out _ _ _⟩
      | false =>
        have HA3 := Shut.mk (show agA t x i true false = !u from HA2.out)
        go_enter Tryd.func75, Tryd.ntmps75
        go_wp2
        go_quiet ((go_at_call 40; exact HBS.out _))
        go_wp2
        go_end0
        exact ⟨rfl, by rw [HA3.out, HB2.out]; exact HSt.out _ _ _⟩
/-- Behind the first j of a leaf's path. -/
def AgI (tv : Value) (t : List TN) (i b1 b4 b3 b5 : Nat) (p : List Nat) (r : Bool) (w : World) (j : Nat) (W : World) : Prop :=
  Blk W b1 22 [tv] ∧ Blk W b4 3 [.int .i64 i] ∧ Kept w W ∧ ∃ a b : Bool, Blk W b3 4 [.bool a] ∧ Blk W b5 4 [.bool b] ∧ r = (a && agF t i b (p.drop j))
theorem agF_cons (t : List TN) (i : Nat) (a b : Bool) (x : Nat) (r : List Nat) : (a && agF t i b (x :: r)) = (agA t x i a b && agF t i (agB t x i b) r) := by
  unfold agA agB
  show (a && (bif (nd t x).kd == 2 then (b || !hasU t x i) && agF t i (hasU t x i) r else agF t i b r)) = _
  cases (nd t x).kd == 2 with
  | false => rfl
  | true =>
    show (a && ((b || !hasU t x i) && agF t i (hasU t x i) r)) = ((a && (b || !hasU t x i)) && agF t i (hasU t x i) r)
    rw [Bool.and_assoc]
set_option maxHeartbeats 8000000 in
set_option maxRecDepth 100000 in
theorem pagree_any {w : World} {tv : Value} {t : List TN} {n : Nat} (ht : RdTs w tv t) (hn : n ∈ Mth.fulls) (hlen : t.length = 2 * n - 1) (hfit : ∀ x, x < t.length → (nd t x).kd = 2 → (nd t x).un.Pairwise (· < ·) ∧ (nd t x).un.length ≤ 1000) (hT : Tabs w) :
    Calls Tryd.prog 43 #[tv] w fun e w' => e = .returned (.bool (agreeB t n)) ∧ Kept w w' := by
  have hnb := fulls_bd hn
  obtain ⟨ta, tc, htv, _, _, _⟩ := ht.len
  subst htv
  have HAl := Shut.mk (show agreeB t n = (List.range n).all fun i => agF t i true (Mth.path (2 * i) n) from rfl)
  have kB : Kept w ((w.alloc (.cells #[.slice ta t.length tc] 22)).alloc (.cells #[.bool true] 4)) := ((Kept.refl w).alloc _).alloc _
  have bT : Blk ((w.alloc (.cells #[.slice ta t.length tc] 22)).alloc (.cells #[.bool true] 4)) w.heap.size 22 [.slice ta t.length tc] := (Blk.new w [.slice ta t.length tc] 22).kept ((Kept.refl _).alloc _)
  have bA : Blk ((w.alloc (.cells #[.slice ta t.length tc] 22)).alloc (.cells #[.bool true] 4)) (w.heap.size + 1) 4 [.bool true] := by
    have := Blk.new (w.alloc (.cells #[.slice ta t.length tc] 22)) [.bool true] 4
    rwa [alloc_size] at this
  have HLv := Lib.hid (fun W (k : Kept w W) => pleaves_of (ht.kept k) hn hlen)
  have HAb := Lib.hid (fun (i : Nat) (hi : i < n) (W : World) (k : Kept w W) (caps : Array Value) (F : Nat → Prop) (I : Nat → World → Prop) => pabove_any (caps := caps) (F := F) (I := I) (ht.kept k) hn hlen hi (hT.kept k) (enters_of Tryd.func75 (by kernel_rfl) rfl))
  have HAg := Lib.hid (fun (W : World) (k : Kept w W) (x : Nat) (hx : x < t.length) => fun i b1 b4 b3 b5 a b => pag1_any (i := i) (b1 := b1) (b4 := b4) (b3 := b3) (b5 := b5) (a := a) (b := b) (ht.kept k) hx (by omega) (hfit x hx))
  have HPf := Shut.mk (show ∀ i, i < n → ∀ j, j < (Mth.path (2 * i) n).length → (Mth.path (2 * i) n).getD j 0 < t.length from fun i hi j hj => by have := (path_fresh hn hi hj).2.2; omega)
  have n0 : (1 : Int) ≤ (n : Int) := by omega
  have n1 : (n : Int) ≤ 256 := by omega
  have HFit := Shut.mk hfit
  clear hfit hlen hn ht
  go_enter Tryd.func43, Tryd.ntmps43
  go_wp2_with fail
  (with_reducible refine (HLv.out _ kB).mono ?_); rintro e w1 ⟨rfl, rfl⟩
  go_wp2
  generalize ((w.alloc (.cells #[.slice ta t.length tc] 22)).alloc (.cells #[.bool true] 4)) = wB at kB bT bA ⊢
  go_loopw [8] (fun c wr => ∃ k : Nat, k ≤ n ∧ c = .int .i64 k ∧ Blk wr w.heap.size 22 [.slice ta t.length tc] ∧ Blk wr (w.heap.size + 1) 4 [.bool ((List.range k).all fun i => agF t i true (Mth.path (2 * i) n))] ∧ Kept w wr) (fun c _ => n - (intOf c).toNat)
  case atStart => exact ⟨0, Nat.zero_le _, rfl, bT, bA, kB⟩
  case round =>
    obtain ⟨k, hk, rfl, hbT, hbA, hkw⟩ := hrel
    have hszT := hbA.lt
    by_cases hlt : k < n
    · have k0 : (0 : Int) ≤ (k : Int) := by omega
      have k1 : (k : Int) < (n : Int) := by omega
      have kC : Kept wr ((wr.alloc (.cells #[.int .i64 k] 3)).alloc (.cells #[.bool true] 4)) := ((Kept.refl wr).alloc _).alloc _
      have b4 : Blk ((wr.alloc (.cells #[.int .i64 k] 3)).alloc (.cells #[.bool true] 4)) wr.heap.size 3 [.int .i64 k] := (Blk.new wr [.int .i64 k] 3).kept ((Kept.refl _).alloc _)
      have b5 : Blk ((wr.alloc (.cells #[.int .i64 k] 3)).alloc (.cells #[.bool true] 4)) (wr.heap.size + 1) 4 [.bool true] := by
        have := Blk.new (wr.alloc (.cells #[.int .i64 k] 3)) [.bool true] 4
        rwa [alloc_size] at this
      have c1 := hbT.kept kC
      have c3 := hbA.kept kC
      generalize hacc : ((List.range k).all fun i => agF t i true (Mth.path (2 * i) n)) = acc at hbA c3
      have d1 := hbT.cell 0
      have d4 : ((wr.alloc (.cells #[.int .i64 k] 3)).alloc (.cells #[.bool true] 4)).cell? ⟨w.heap.size, 0, none⟩ = some (.slice ta t.length tc) := by rw [c1.cell 0]; rfl
      simp only [List.getElem?_cons_zero] at d1
      have hab := HAb.out k hlt _ (hkw.trans kC) #[.pointer (some ⟨w.heap.size, 0, none⟩), .pointer (some ⟨wr.heap.size, 0, none⟩), .pointer (some ⟨w.heap.size + 1, 0, none⟩), .pointer (some ⟨wr.heap.size + 1, 0, none⟩)]
        (fun b => b = w.heap.size + 1 ∨ b = wr.heap.size + 1) (AgI (.slice ta t.length tc) t k w.heap.size wr.heap.size (w.heap.size + 1) (wr.heap.size + 1) (Mth.path (2 * k) n) (acc && agF t k true (Mth.path (2 * k) n)) w)
        (fun b h => by have := b5.lt; omega)
        (fun W q => ⟨c1.kept q, b4.kept q, (hkw.trans kC).trans q, acc, true, c3.kept q, b5.kept q, by rw [List.drop_zero]⟩)
        (fun j hj W ⟨q1, q4, qk, a, b, q3, q5, qr⟩ => by
          refine (HAg.out W qk _ (HPf.out k hlt j hj) k _ _ _ _ a b q1 q4 q3 q5 (by omega)).mono ?_
          rintro e W' ⟨rfl, r3, r5, tr⟩
          refine ⟨rfl, ⟨Blk.turn q1 tr (by have := hkw.size; omega), Blk.turn q4 tr (by omega), Turn.keptOf qk tr (fun b hb => by have := hkw.size; omega), _, _, r3, r5, ?_⟩, tr⟩
          rw [qr, List.drop_eq_getElem_cons hj, agF_cons]
          rw [List.getD_eq_getElem?_getD, List.getElem?_eq_getElem hj]; rfl)
      have HAB := Lib.hid hab
      have HAcc := Shut.mk hacc
      clear hab hacc c1 c3 b4 b5 kC
      go_wp2_with fail
      (with_reducible refine HAB.out.mono ?_); rintro e w3 ⟨rfl, ⟨q1, q4, qk, a, b, q3, q5, qr⟩, tr⟩
      have hres : ((List.range (k + 1)).all fun i => agF t i true (Mth.path (2 * i) n)) = a := by
        rw [List.range_succ, List.all_append, HAcc.out]
        show (acc && (agF t k true (Mth.path (2 * k) n) && true)) = a
        rw [Bool.and_true, qr, List.drop_length]
        exact Bool.and_true _
      have HRes := Shut.mk hres
      clear hres qr
      go_wp2
      go_roundw
      case rel => exact ⟨k + 1, hlt, by go_num, q1, by rw [HRes.out]; exact q3, qk⟩
      case measure => simp [intOf]; omega
    · have e : k = n := by omega
      have k9 : ¬ (k : Int) < (n : Int) := by omega
      have d3 := hbA.cell 0
      simp only [List.getElem?_cons_zero] at d3
      have HE := Shut.mk (show ((List.range k).all fun i => agF t i true (Mth.path (2 * i) n)) = agreeB t n by rw [HAl.out, e])
      generalize ((List.range k).all fun i => agF t i true (Mth.path (2 * i) n)) = acc at d3 HE
      clear e
      go_wp2
      go_ret
      exact ⟨by rw [← HE.out]; rfl, hkw⟩
end Go.Proofs.YtekmdklobejbeaaDoor
end

section
/- Walks of the program's ratchet: Check, Members, Same. -/
set_option linter.unusedSimpArgs false
set_option linter.unusedVariables false
namespace Go.Proofs.YtekmdklobejbeaaDoor
open Go.RowKit
open Rt

theorem fits_un {t : List TN} {n : Nat} (hn : n ∈ Mth.fulls) (hlen : t.length = 2 * n - 1) (h : fitsB t = true) (hun : ∀ d ∈ t, d.un.length ≤ 1000) : ∀ x, x < t.length → (nd t x).kd = 2 → (nd t x).un.Pairwise (· < ·) ∧ (nd t x).un.length ≤ 1000 := by
  intro x hx h2
  have hx2 : x < 2 * n - 1 := by omega
  obtain ⟨a, b, c⟩ := (fit_iff hn hlen hx2).1 (List.all_eq_true.1 h x (List.mem_range.2 hx))
  refine ⟨?_, hun _ (by rw [nd_get hx]; exact List.getElem_mem hx)⟩
  by_cases ho : x % 2 = 0
  · rw [(b (by omega) ho).2]; exact List.Pairwise.nil
  · exact (c (by omega) (by omega)).2.2.2.1
set_option maxHeartbeats 4000000 in
theorem pcheck_any {w : World} {tv : Value} {t : List TN} (ht : RdTs w tv t) (hok : ∀ d ∈ t, TnOk d) (hl : t.length ≤ 1000000) (hun : ∀ d ∈ t, d.un.length ≤ 1000) (hT : Tabs w) :
    Calls Tryd.prog 21 #[tv] w fun e w' => e = .returned (.int .i64 (errI (chkB t))) ∧ Kept w w' := by
  obtain ⟨ta, tc, htv, _, _, _⟩ := ht.len
  subst htv
  have HC := Shut.mk (show chkB t = (shpB t && fitsB t && agreeB t (lvs t.length) && needB t (lvs t.length)) from (pchk_eq t).symm)
  have HS := Lib.hid (pshape_any ht hl)
  cases hs : shpB t with
  | false =>
    rw [hs] at HS HC
    have HF := Shut.mk (show errI (chkB t) = 1 by rw [HC.out]; rfl)
    clear hs HC
    go_enter Tryd.func21, Tryd.ntmps21
    go_wp2_with fail
    (with_reducible refine HS.out.mono ?_); rintro e w1 ⟨rfl, k1⟩
    go_wp2
    go_ret
    exact ⟨by rw [HF.out]; rfl, k1⟩
  | true =>
    rw [hs] at HS HC
    obtain ⟨n, hn, hlen, hll⟩ : ∃ n, n ∈ Mth.fulls ∧ t.length = 2 * n - 1 ∧ lvs t.length = n := by
      rcases lvs_spec t.length with ⟨a, b⟩ | ⟨a, _⟩
      · exact ⟨_, a, b.symm, rfl⟩
      · unfold shpB at hs; rw [a] at hs; cases hs
    rw [hll] at HC
    have HFt := Lib.hid (fun W (k : Kept w W) => pfits_any (ht.kept k) hok hn hlen (hT.kept k))
    have HAg := Lib.hid (fun (hf : fitsB t = true) W (k : Kept w W) => pagree_any (ht.kept k) hn hlen (fits_un hn hlen hf hun) (hT.kept k))
    have HNd := Lib.hid (fun W (k : Kept w W) => pneedsAll_any (ht.kept k) hn hlen)
    clear hs hn hlen hll hok hun ht
    cases hf : fitsB t with
    | false =>
      rw [hf] at HFt HC
      have HF := Shut.mk (show errI (chkB t) = 1 by rw [HC.out]; rfl)
      clear hf HC HAg
      go_enter Tryd.func21, Tryd.ntmps21
      go_wp2_with fail
      (with_reducible refine HS.out.mono ?_); rintro e w1 ⟨rfl, k1⟩
      go_wp2_with fail
      (with_reducible refine (HFt.out _ k1).mono ?_); rintro e w2 ⟨rfl, k2⟩
      go_wp2
      go_ret
      exact ⟨by rw [HF.out]; rfl, k1.trans k2⟩
    | true =>
      have HAg2 := Lib.hid (HAg.out hf)
      rw [hf] at HFt HC
      clear hf HAg
      cases ha : agreeB t n with
      | false =>
        rw [ha] at HAg2 HC
        have HF := Shut.mk (show errI (chkB t) = 1 by rw [HC.out]; rfl)
        clear ha HC
        go_enter Tryd.func21, Tryd.ntmps21
        go_wp2_with fail
        (with_reducible refine HS.out.mono ?_); rintro e w1 ⟨rfl, k1⟩
        go_wp2_with fail
        (with_reducible refine (HFt.out _ k1).mono ?_); rintro e w2 ⟨rfl, q2⟩
        have k2 := k1.trans q2
        go_wp2_with fail
        (with_reducible refine (HAg2.out _ k2).mono ?_); rintro e w3 ⟨rfl, q3⟩
        go_wp2
        go_ret
        exact ⟨by rw [HF.out]; rfl, k2.trans q3⟩
      | true =>
        rw [ha] at HAg2 HC
        have HF := Shut.mk (show errI (chkB t) = errI (needB t n) by rw [HC.out]; rfl)
        clear ha HC
        cases hnb : needB t n with
        | true =>
          rw [hnb] at HNd HF
          go_enter Tryd.func21, Tryd.ntmps21
          go_wp2_with fail
          (with_reducible refine HS.out.mono ?_); rintro e w1 ⟨rfl, k1⟩
          go_wp2_with fail
          (with_reducible refine (HFt.out _ k1).mono ?_); rintro e w2 ⟨rfl, q2⟩
          have k2 := k1.trans q2
          go_wp2_with fail
          (with_reducible refine (HAg2.out _ k2).mono ?_); rintro e w3 ⟨rfl, q3⟩
          have k3 := k2.trans q3
          go_wp2_with fail
          (with_reducible refine (HNd.out _ k3).mono ?_); rintro e w4 ⟨rfl, q4⟩
          go_wp2
          go_ret
          exact ⟨by rw [HF.out]; rfl, k3.trans q4⟩
        | false =>
          rw [hnb] at HNd HF
          go_enter Tryd.func21, Tryd.ntmps21
          go_wp2_with fail
          (with_reducible refine HS.out.mono ?_); rintro e w1 ⟨rfl, k1⟩
          go_wp2_with fail
          (with_reducible refine (HFt.out _ k1).mono ?_); rintro e w2 ⟨rfl, q2⟩
          have k2 := k1.trans q2
          go_wp2_with fail
          (with_reducible refine (HAg2.out _ k2).mono ?_); rintro e w3 ⟨rfl, q3⟩
          have k3 := k2.trans q3
          go_wp2_with fail
          (with_reducible refine (HNd.out _ k3).mono ?_); rintro e w4 ⟨rfl, q4⟩
          go_wp2
          go_ret
          exact ⟨by rw [HF.out]; rfl, k3.trans q4⟩
theorem same_false {a b : List TN} {k : Nat} (hk : k < a.length) (h : sameNB (nd a k) (nd b k) = false) : sameTB a b = false := by
  cases e : sameTB a b with
  | false => rfl
  | true =>
    rw [sameTB_iff.1 e] at h
    have : sameNB (nd b k) (nd b k) = true := sameNB_iff.2 rfl
    rw [this] at h; cases h
end Go.Proofs.YtekmdklobejbeaaDoor
end

section
/- The resolution of a node, and who holds which node's key, plainly. Nothing here names a program. -/
set_option linter.unusedSimpArgs false
set_option linter.unusedVariables false
namespace Go.Proofs.YtekmdklobejbeaaDoor
namespace Rt
open Mth

/-- A node, and its leaves that are not merged. -/
def ownL (t : List TN) (x : Nat) : List Int := (x : Int) :: (nd t x).un.map fun i => 2 * i
def resN (t : List TN) : Nat → Nat → List Int
  | 0, x => bif (nd t x).kd != 0 then ownL t x else []
  | k + 1, x => bif (nd t x).kd != 0 then ownL t x else resN t k (left x) ++ resN t k (right x)
def res (t : List TN) (x : Nat) : List Int := resN t (lvl x) x
theorem res_there {t : List TN} {x : Nat} (h : (nd t x).kd ≠ 0) : res t x = ownL t x := by
  unfold res
  have hb : ((nd t x).kd != 0) = true := by rw [bne_iff_ne]; exact h
  cases lvl x with
  | zero => unfold resN; rw [hb]; rfl
  | succ k => unfold resN; rw [hb]; rfl
theorem res_leaf {t : List TN} {x : Nat} (h : (nd t x).kd = 0) (hl : lvl x = 0) : res t x = [] := by
  unfold res
  rw [hl]
  have hb : ((nd t x).kd != 0) = false := by rw [h]; rfl
  unfold resN; rw [hb]; rfl
theorem kids_lvl {x : Nat} (hx : x < 511) (hl : 0 < lvl x) : lvl (left x) + 1 = lvl x ∧ lvl (right x) + 1 = lvl x ∧ left x < x ∧ x < right x := by
  have hall : (List.range 511).all (fun x => Nat.beq (lvl x) 0 || (Nat.beq (lvl (left x) + 1) (lvl x) && Nat.beq (lvl (right x) + 1) (lvl x) && Nat.blt (left x) x && Nat.blt x (right x))) = true := by decide +kernel
  have h := List.all_eq_true.1 hall x (List.mem_range.2 hx)
  rw [Bool.or_eq_true, Bool.and_eq_true, Bool.and_eq_true, Bool.and_eq_true] at h
  rcases h with h | ⟨⟨⟨h1, h2⟩, h3⟩, h4⟩
  · have := Nat.eq_of_beq_eq_true h; omega
  · exact ⟨Nat.eq_of_beq_eq_true h1, Nat.eq_of_beq_eq_true h2, Nat.le_of_ble_eq_true h3, Nat.le_of_ble_eq_true h4⟩
theorem kids_in {n x : Nat} (hn : n ∈ fulls) (hx : x < 2 * n - 1) (hl : 0 < lvl x) : left x < 2 * n - 1 ∧ right x < 2 * n - 1 := by
  have h := allB_at (p := fun n x => Nat.beq (lvl x) 0 || Nat.blt (right x) (2 * n - 1)) (by decide +kernel) hn hx
  rw [Bool.or_eq_true] at h
  have hb := fulls_le hn
  rcases h with h | h
  · have := Nat.eq_of_beq_eq_true h; omega
  · have h2 : right x < 2 * n - 1 := Nat.le_of_ble_eq_true h
    have := (kids_lvl (x := x) (by omega) hl).2.2
    omega
theorem res_kids {t : List TN} {x : Nat} (h : (nd t x).kd = 0) (hx : x < 511) (hl : 0 < lvl x) : res t x = res t (left x) ++ res t (right x) := by
  obtain ⟨h1, h2, _⟩ := kids_lvl hx hl
  unfold res
  have hb : ((nd t x).kd != 0) = false := by rw [h]; rfl
  rw [show lvl (left x) = lvl x - 1 by omega, show lvl (right x) = lvl x - 1 by omega]
  obtain ⟨k, hk⟩ : ∃ k, lvl x = k + 1 := ⟨lvl x - 1, by omega⟩
  rw [hk]
  unfold resN
  rw [hb]
  cases k <;> rfl

/-- The member i has the key of the node x. -/
def holdB (t : List TN) (i x : Nat) : Bool := lk t i && ((nd t x).kd != 0) && hasB x i && !decide ((i : Int) ∈ (nd t x).un)
def holdI (t : List TN) (i : Nat) (y : Int) : Bool := holdB t i y.toNat
theorem holdB_iff {t : List TN} {i x : Nat} : holdB t i x = true ↔ lk t i = true ∧ (nd t x).kd ≠ 0 ∧ hasB x i = true ∧ (i : Int) ∉ (nd t x).un := by
  unfold holdB
  rw [Bool.and_eq_true, Bool.and_eq_true, Bool.and_eq_true, bne_iff_ne, Bool.not_eq_true', decide_eq_false_iff_not]
  exact ⟨fun ⟨⟨⟨a, b⟩, c⟩, d⟩ => ⟨a, b, c, d⟩, fun ⟨a, b, c, d⟩ => ⟨⟨⟨a, b⟩, c⟩, d⟩⟩

/-- What lies in a resolution: nodes that are there, under the node. -/
structure InRes (t : List TN) (n x : Nat) (y : Int) (z : Nat) : Prop where
  is : y = (z : Int)
  lt : z < 2 * n - 1
  there : (nd t z).kd ≠ 0
  lo' : lo x ≤ lo z
  hi' : Mth.hi z ≤ Mth.hi x
  lv : lvl z ≤ lvl x
theorem InRes.under {t : List TN} {n x z : Nat} {y : Int} (h : InRes t n x y z) : underB z x = true := by
  unfold underB
  rw [Bool.and_eq_true, Bool.and_eq_true]
  exact ⟨⟨Nat.ble_eq_true_of_le h.lo', Nat.ble_eq_true_of_le h.hi'⟩, Nat.ble_eq_true_of_le h.lv⟩
/-- The leaves of a Parent that are not merged. -/
theorem un_leaf {t : List TN} {n x : Nat} (m : MayN t n) (hx : x < 2 * n - 1) {i : Int} (hi : i ∈ (nd t x).un) : x % 2 = 1 ∧ ∃ j : Nat, i = j ∧ hasB x j = true ∧ lk t j = true ∧ 2 * j < 2 * n - 1 ∧ (nd t x).un.Pairwise (· < ·) := by
  have h0 : (nd t x).kd ≠ 0 := fun h => by
    rw [m.blank x hx h] at hi; cases hi
  have ho : x % 2 = 1 := by
    cases Nat.mod_two_eq_zero_or_one x with
    | inl h => rw [(m.leaf x hx h0 h).2] at hi; cases hi
    | inr h => exact h
  obtain ⟨_, _, _, hp, hu⟩ := m.par x hx h0 ho
  obtain ⟨j, rfl, h1, h2, h3, _⟩ := hu i hi
  refine ⟨ho, j, rfl, hasB_iff.2 ⟨h1, h2⟩, h3, ?_, hp⟩
  cases Nat.lt_or_ge (2 * j) (2 * n - 1) with
  | inl h => exact h
  | inr h =>
    unfold lk at h3
    rw [nd_out (by rw [m.len]; omega)] at h3
    cases h3
theorem lk_there {t : List TN} {j : Nat} (h : lk t j = true) : (nd t (2 * j)).kd ≠ 0 := by
  have := of_decide_eq_true h
  omega
theorem res_in {t : List TN} {n : Nat} (m : MayN t n) : ∀ (k x : Nat), lvl x = k → x < 2 * n - 1 → ∀ y ∈ res t x, ∃ z, InRes t n x y z := by
  have hb := fulls_le m.hn
  intro k
  induction k with
  | zero =>
    intro x hk hx y hy
    by_cases h0 : (nd t x).kd = 0
    · rw [res_leaf h0 hk] at hy; cases hy
    · rw [res_there h0] at hy
      rcases List.mem_cons.1 hy with rfl | hy
      · exact ⟨x, rfl, hx, h0, Nat.le_refl _, Nat.le_refl _, Nat.le_refl _⟩
      · obtain ⟨i, hi, rfl⟩ := List.mem_map.1 hy
        have := (un_leaf m hx hi).1
        have := (even_node (x := x) (by omega)).1.2 hk
        omega
  | succ k ih =>
    intro x hk hx y hy
    by_cases h0 : (nd t x).kd = 0
    · rw [res_kids h0 (by omega) (by omega)] at hy
      obtain ⟨c1, c2, c3, c4⟩ := kids_lvl (x := x) (by omega) (by omega)
      obtain ⟨d1, d2⟩ := kids_in m.hn hx (by omega)
      obtain ⟨e1, e2, e3, _⟩ := kids_leaves (x := x) (by omega) (by omega)
      have f1 := (even_node (x := left x) (by omega)).2.2
      have f2 := (even_node (x := right x) (by omega)).2.2
      rcases List.mem_append.1 hy with hy | hy
      · obtain ⟨z, q⟩ := ih (left x) (by omega) d1 y hy
        have := q.lo'; have := q.hi'; have := q.lv
        exact ⟨z, q.is, q.lt, q.there, by omega, by omega, by omega⟩
      · obtain ⟨z, q⟩ := ih (right x) (by omega) d2 y hy
        have := q.lo'; have := q.hi'; have := q.lv
        exact ⟨z, q.is, q.lt, q.there, by omega, by omega, by omega⟩
    · rw [res_there h0] at hy
      rcases List.mem_cons.1 hy with rfl | hy
      · exact ⟨x, rfl, hx, h0, Nat.le_refl _, Nat.le_refl _, Nat.le_refl _⟩
      · obtain ⟨i, hi, rfl⟩ := List.mem_map.1 hy
        obtain ⟨_, j, rfl, h1, h2, h3, _⟩ := un_leaf m hx hi
        obtain ⟨g1, g2⟩ := (even_node (x := 2 * j) (by omega)).2.1 (by omega)
        have g3 := (even_node (x := 2 * j) (by omega)).1.1 (by omega)
        obtain ⟨k1, k2⟩ := hasB_iff.1 h1
        exact ⟨2 * j, by omega, h3, lk_there h2, by omega, by omega, by omega⟩
theorem res_at {t : List TN} {n x : Nat} (m : MayN t n) (hx : x < 2 * n - 1) {y : Int} (hy : y ∈ res t x) : ∃ z, InRes t n x y z := res_in m _ x rfl hx y hy
theorem own_nodup {t : List TN} {n x : Nat} (m : MayN t n) (hx : x < 2 * n - 1) : (ownL t x).Nodup := by
  unfold ownL
  refine List.nodup_cons.2 ⟨fun h => ?_, ?_⟩
  · obtain ⟨i, hi, he⟩ := List.mem_map.1 h
    have := (un_leaf m hx hi).1
    omega
  · by_cases hu : (nd t x).un = []
    · rw [hu]; exact List.Pairwise.nil
    · obtain ⟨i, hi⟩ := List.exists_mem_of_ne_nil _ hu
      obtain ⟨_, _, _, _, _, _, hp⟩ := un_leaf m hx hi
      exact List.pairwise_map.2 (hp.imp fun {a b} h => by omega)
theorem res_nodup {t : List TN} {n : Nat} (m : MayN t n) : ∀ (k x : Nat), lvl x = k → x < 2 * n - 1 → (res t x).Nodup := by
  have hb := fulls_le m.hn
  intro k
  induction k with
  | zero =>
    intro x hk hx
    by_cases h0 : (nd t x).kd = 0
    · rw [res_leaf h0 hk]; exact List.Pairwise.nil
    · rw [res_there h0]; exact own_nodup m hx
  | succ k ih =>
    intro x hk hx
    by_cases h0 : (nd t x).kd = 0
    · rw [res_kids h0 (by omega) (by omega)]
      obtain ⟨c1, c2, c3, c4⟩ := kids_lvl (x := x) (by omega) (by omega)
      obtain ⟨d1, d2⟩ := kids_in m.hn hx (by omega)
      obtain ⟨e1, e2, e3, _⟩ := kids_leaves (x := x) (by omega) (by omega)
      refine List.nodup_append.2 ⟨ih _ (by omega) d1, ih _ (by omega) d2, fun a ha b hb he => ?_⟩
      obtain ⟨z, q⟩ := res_at m d1 ha
      obtain ⟨v, r⟩ := res_at m d2 hb
      have hq := q.lt
      have := (even_node (x := z) (by omega)).2.2
      have hz : z = v := by have := q.is; have := r.is; omega
      subst hz
      have := q.hi'; have := r.lo'
      omega
    · rw [res_there h0]; exact own_nodup m hx
theorem res_nd {t : List TN} {n x : Nat} (m : MayN t n) (hx : x < 2 * n - 1) : (res t x).Nodup := res_nodup m _ x rfl hx
theorem leaf_hold {t : List TN} {n i j : Nat} (m : MayN t n) (hi : lk t i = true) (hj : lk t j = true) (hj2 : 2 * j < 2 * n - 1) : holdB t i (2 * j) = decide (i = j) := by
  have hb := fulls_le m.hn
  have hu := (m.leaf (2 * j) hj2 (lk_there hj) (by omega)).2
  rw [Bool.eq_iff_iff, holdB_iff, decide_eq_true_iff, hu, hasB_leaf (by omega), decide_eq_true_iff]
  exact ⟨fun h => h.2.2.1, fun h => ⟨hi, lk_there hj, h, List.not_mem_nil⟩⟩
theorem count_map {t : List TN} {n i : Nat} (m : MayN t n) (hi : lk t i = true) : ∀ (us : List Int), us.Pairwise (· < ·) → (∀ u ∈ us, ∃ j : Nat, u = j ∧ lk t j = true ∧ 2 * j < 2 * n - 1) →
    (us.map fun i => 2 * i).countP (holdI t i) = if (i : Int) ∈ us then 1 else 0
  | [], _, _ => by simp
  | u :: us, hp, hu => by
    obtain ⟨j, hj, h1, h2⟩ := hu u List.mem_cons_self
    obtain ⟨p1, p2⟩ := List.pairwise_cons.1 hp
    have ih := count_map m hi us p2 fun v hv => hu v (List.mem_cons_of_mem _ hv)
    rw [List.map_cons, List.countP_cons, ih]
    have hh : holdI t i (2 * u) = decide (i = j) := by
      unfold holdI
      rw [show (2 * u).toNat = 2 * j by omega]
      exact leaf_hold m hi h1 h2
    rw [hh]
    by_cases e : i = j
    · subst e
      have hni : (i : Int) ∉ us := fun h => by have := p1 _ h; omega
      rw [if_neg hni, decide_eq_true rfl, if_pos (show (i : Int) ∈ u :: us by rw [hj]; exact List.mem_cons_self)]
      rfl
    · rw [decide_eq_false e]
      by_cases hm : (i : Int) ∈ us
      · rw [if_pos hm, if_pos (List.mem_cons_of_mem _ hm)]; rfl
      · have hn : ¬ (i : Int) ∈ u :: us := fun h => by
          rcases List.mem_cons.1 h with h | h
          · omega
          · exact hm h
        rw [if_neg hm, if_neg hn]
        rfl
theorem own_once {t : List TN} {n i x : Nat} (m : MayN t n) (hi : lk t i = true) (hx : x < 2 * n - 1) (h0 : (nd t x).kd ≠ 0) : (ownL t x).countP (holdI t i) = if hasB x i = true then 1 else 0 := by
  have hx' : holdI t i (x : Int) = (hasB x i && !decide ((i : Int) ∈ (nd t x).un)) := by
    unfold holdI
    rw [Int.toNat_natCast, Bool.eq_iff_iff, holdB_iff, Bool.and_eq_true, Bool.not_eq_true', decide_eq_false_iff_not]
    exact ⟨fun h => ⟨h.2.2.1, h.2.2.2⟩, fun h => ⟨hi, h0, h.1, h.2⟩⟩
  unfold ownL
  rw [List.countP_cons, hx']
  by_cases hu : (nd t x).un = []
  · rw [hu]
    cases hasB x i <;> rfl
  · obtain ⟨v, hv⟩ := List.exists_mem_of_ne_nil _ hu
    obtain ⟨_, _, _, _, _, _, hp⟩ := un_leaf m hx hv
    rw [count_map m hi _ hp fun u h => by
      obtain ⟨_, j, h1, _, h3, h4, _⟩ := un_leaf m hx h
      exact ⟨j, h1, h3, h4⟩]
    by_cases hm : (i : Int) ∈ (nd t x).un
    · obtain ⟨_, j, h1, h2, _⟩ := un_leaf m hx hm
      obtain rfl : i = j := by omega
      rw [if_pos hm, h2, decide_eq_true hm]; rfl
    · rw [if_neg hm, decide_eq_false hm]
      cases hasB x i <;> rfl
/-- Each member under a node holds just one of its resolution. -/
theorem res_once' {t : List TN} {n i : Nat} (m : MayN t n) (hi : lk t i = true) : ∀ (k x : Nat), lvl x = k → x < 2 * n - 1 → (res t x).countP (holdI t i) = if hasB x i = true then 1 else 0 := by
  have hb := fulls_le m.hn
  intro k
  induction k with
  | zero =>
    intro x hk hx
    by_cases h0 : (nd t x).kd = 0
    · rw [res_leaf h0 hk]
      have hev := (even_node (x := x) (by omega)).1.2 hk
      have : hasB x i = false := by
        cases e : hasB x i with
        | false => rfl
        | true =>
          have := (hasB_even (by omega) hev).1 e
          rw [this] at h0
          exact absurd h0 (lk_there hi)
      rw [this]; rfl
    · rw [res_there h0]; exact own_once m hi hx h0
  | succ k ih =>
    intro x hk hx
    by_cases h0 : (nd t x).kd = 0
    · rw [res_kids h0 (by omega) (by omega)]
      obtain ⟨c1, c2, c3, c4⟩ := kids_lvl (x := x) (by omega) (by omega)
      obtain ⟨d1, d2⟩ := kids_in m.hn hx (by omega)
      obtain ⟨e1, e2, e3, _⟩ := kids_leaves (x := x) (by omega) (by omega)
      rw [List.countP_append, ih _ (by omega) d1, ih _ (by omega) d2]
      have f1 := (even_node (x := left x) (by omega)).2.2
      have f2 := (even_node (x := right x) (by omega)).2.2
      by_cases a : hasB (left x) i = true
      · have a' := hasB_iff.1 a
        rw [if_pos a, if_neg (fun h => by have := hasB_iff.1 h; omega), if_pos (hasB_iff.2 (by omega))]
      · by_cases b : hasB (right x) i = true
        · have b' := hasB_iff.1 b
          rw [if_neg a, if_pos b, if_pos (hasB_iff.2 (by omega))]
        · rw [if_neg a, if_neg b, if_neg (fun h => by
            have h := hasB_iff.1 h
            cases Nat.lt_or_ge i (Mth.hi (left x)) with
            | inl c => exact a (hasB_iff.2 (by omega))
            | inr c => exact b (hasB_iff.2 (by omega)))]
    · rw [res_there h0]; exact own_once m hi hx h0
theorem res_once {t : List TN} {n i x : Nat} (m : MayN t n) (hi : lk t i = true) (hx : x < 2 * n - 1) : (res t x).countP (holdI t i) = if hasB x i = true then 1 else 0 := res_once' m hi _ x rfl hx
/-- No resolution has more nodes than the tree. -/
theorem res_len {t : List TN} {n x : Nat} (m : MayN t n) (hx : x < 2 * n - 1) : (res t x).length ≤ 511 := by
  have hb := fulls_le m.hn
  have hn := (List.nodup_iff_pairwise_ne.1 (res_nd m hx))
  have hs : (res t x) ⊆ (List.range 511).map (fun z : Nat => (z : Int)) := fun y hy => by
    obtain ⟨z, q⟩ := res_at m hx hy
    have := q.lt
    exact List.mem_map.2 ⟨z, List.mem_range.2 (by omega), q.is.symm⟩
  have := (res_nd m hx).length_le_of_subset hs
  simpa using this
/-- The first of a resolution that the member holds. -/
def mineF (t : List TN) (i : Nat) : List Int → Int
  | [] => 0
  | y :: l => bif holdI t i y then y else mineF t i l
theorem mine_in {t : List TN} {i : Nat} : ∀ {l : List Int}, l.any (holdI t i) = true → mineF t i l ∈ l
  | [], h => by cases h
  | y :: l, h => by
    unfold mineF
    cases e : holdI t i y with
    | true => exact List.mem_cons_self
    | false =>
      rw [List.any_cons, e] at h
      exact List.mem_cons_of_mem _ (mine_in h)
theorem any_count {p : Int → Bool} {l : List Int} : l.any p = true ↔ 0 < l.countP p := by
  rw [List.any_eq_true, List.countP_pos_iff]
end Rt
end Go.Proofs.YtekmdklobejbeaaDoor
end

section
/- slices.Contains, of numbers. -/
set_option linter.unusedSimpArgs false
set_option linter.unusedVariables false
namespace Go.Proofs.YtekmdklobejbeaaDoor
open Go.RowKit

def IdxPost (w : World) (l : List Int) (n : Int) (e : Ending) (w' : World) : Prop := ∃ r : Int, e = .returned (.int .i64 r) ∧ decide (0 ≤ r) = decide (n ∈ l) ∧ Kept w w'
set_option maxHeartbeats 4000000 in
set_option maxRecDepth 100000 in
theorem indexI_any {w : World} {v : Value} {l : List Int} (h : RdI w v l) {n : Int} (hn : I64 n) :
    Calls Tryd.prog 91 #[v, .int .i64 n] w (IdxPost w l n) := by
  obtain ⟨la, lc, rfl, l1, l2, l3⟩ := h.len
  have l63 : ((l.length : Nat) : Int) ≤ 9223372036854775807 := by unfold maxLen at l2; omega
  go_enter Tryd.func91, Tryd.ntmps91
  go_wp2
  go_loopw [8] (fun i wr => ∃ k : Nat, k ≤ l.length ∧ i = .int .i64 k ∧ n ∉ l.take k ∧ Kept w wr) (fun i _ => l.length - (intOf i).toNat)
  case atStart => exact ⟨0, Nat.zero_le _, rfl, by simp, Kept.refl _⟩
  case round =>
    obtain ⟨k, hk0, rfl, hno, hkw⟩ := hrel
    have HN := Shut.mk hno
    clear hno
    by_cases hlt : k < l.length
    · obtain ⟨rb, ro, rc, hrv, _, _, hrb, hcl⟩ := h.addr (by omega)
      simp only [Value.slice.injEq] at hrv
      obtain ⟨rfl, _, rfl⟩ := hrv
      have hcw := (hkw.cell (p := ⟨rb, ro + k, none⟩) hrb).trans (hcl k hlt)
      clear hcl
      have hx : l.getD k 0 = l[k] := by rw [List.getD_eq_getElem?_getD, List.getElem?_eq_getElem hlt]; rfl
      have HT := Shut.mk (show l.take (k + 1) = l.take k ++ [l.getD k 0] by rw [List.take_succ_eq_append_getElem hlt, hx])
      have HM := Shut.mk (getD_memI (l := l) hlt)
      clear hx
      have k0 : (0 : Int) ≤ (k : Int) := by omega
      have k1 : (k : Int) < (l.length : Int) := by omega
      generalize l.getD k 0 = x at hcw HT HM
      by_cases c : n = x
      · subst c
        go_wp2
        go_ret
        exact ⟨_, rfl, by rw [decide_eq_true HM.out, decide_eq_true]; omega, hkw⟩
      · have hne : (n == x) = false := by simpa using c
        have HNE := Shut.mk c
        clear c
        go_wp2
        go_roundw
        case rel => exact ⟨k + 1, hlt, by go_num, by rw [HT.out, List.mem_append, List.mem_singleton]; exact fun h => h.elim HN.out HNE.out, hkw⟩
        case measure => simp [intOf]; omega
    · obtain rfl : k = l.length := by omega
      have HN' : Shut (n ∉ l) := ⟨by have := HN.out; rwa [List.take_length] at this⟩
      go_wp2
      go_ret
      exact ⟨_, rfl, by rw [decide_eq_false HN'.out]; rfl, hkw⟩
theorem containsI_any {w : World} {v : Value} {l : List Int} (h : RdI w v l) {n : Int} (hn : I64 n) :
    Calls Tryd.prog 62 #[v, .int .i64 n] w fun e w' => e = .returned (.bool (decide (n ∈ l))) ∧ Kept w w' := by
  have HI := Lib.hid (indexI_any h hn)
  obtain ⟨la, lc, rfl, l1, l2, l3⟩ := h.len
  go_enter Tryd.func62, Tryd.ntmps62
  go_wp2_with fail
  (with_reducible refine HI.out.mono ?_); rintro e w1 ⟨r, rfl, hr, k1⟩
  have HR := Shut.mk hr
  generalize hq : decide (0 ≤ r) = q at hr
  go_wp2
  go_ret
  exact ⟨by rw [← HR.out]; rfl, k1⟩
end Go.Proofs.YtekmdklobejbeaaDoor
end

section
/- Walks: resolution, the program's and the document's (written by gen_res.py). -/
set_option linter.unusedSimpArgs false
set_option linter.unusedVariables false
namespace Go.Proofs.YtekmdklobejbeaaDoor
open Go.RowKit
open Rt

set_option maxHeartbeats 4000000 in
set_option maxRecDepth 100000 in
theorem presOwn_any {w : World} {tv : Value} {t : List TN} {n x : Nat} (m : MayN t n) (hx : x < 2 * n - 1) (h0 : (nd t x).kd ≠ 0) (ht : RdTs w tv t) :
    Calls Tryd.prog 22 #[tv, .int .i64 (x : Int)] w (MemPost w (ownL t x)) := by
  have hlen := m.len
  have hb := fulls_bd m.hn
  obtain ⟨tb, to, tc, la, lc, rfl, hat, hun⟩ := ht.at (k := x) (by omega)
  have hat2 := hat _ ((Kept.refl w).alloc (.cells #[.int .i64 (x : Int)] 3))
  obtain ⟨g0, g1, g2, g3, g4, g5⟩ := hat w (Kept.refl w)
  obtain ⟨s0, s1, s2, s3, s4, s5⟩ := hat2
  have hne : ((nd t x).kd != 0) = true := by rw [bne_iff_ne]; exact h0
  have HU := Shut.mk (show ∀ j, j < (nd t x).un.length → 0 ≤ (nd t x).un.getD j 0 ∧ (nd t x).un.getD j 0 ≤ 256 from fun j hj => by
    obtain ⟨_, k, he, _, _, h2, _⟩ := un_leaf m hx (getD_memI hj)
    rw [he]; omega)
  have HR := Shut.mk (show ownL t x = (x : Int) :: (nd t x).un.map fun i => 2 * i from rfl)
  obtain ⟨_, _, hcv, _, hum, _⟩ := hun.len
  have u63 : ((nd t x).un.length : Int) ≤ 9223372036854775807 := by unfold maxLen at hum; omega
  have hul : (nd t x).un.length ≤ 1000 := may_un m _ (by rw [nd_get (by omega)]; exact List.getElem_mem _)
  have x0 : (0 : Int) ≤ (x : Int) := by omega
  have x1 : (x : Int) < (t.length : Int) := by omega
  clear hat hlen h0 hcv
  generalize ownL t x = out at HR ⊢
  generalize nd t x = d at *
  generalize d.un = us at *
  have HUL := Shut.mk hul
  go_enter Tryd.func22, Tryd.ntmps22
  go_wp2
  go_loopw [5, 26] (fun l c wr => ∃ k : Nat, k ≤ us.length ∧ c = .int .i64 k ∧ (∃ v, v = l ∧ OwnI w.heap.size wr v ((x : Int) :: (us.take k).map fun i => 2 * i)) ∧ Kept w wr) (fun _ c _ => us.length - (intOf c).toNat)
  case atStart => exact ⟨0, Nat.zero_le _, rfl, ⟨_, rfl, OwnI.lit1 w x⟩, (Kept.refl _).alloc _⟩
  case round =>
    obtain ⟨k, hk0, rfl, ⟨v, rfl, ho⟩, hkw⟩ := hrel
    by_cases hlt : k < us.length
    · obtain ⟨rb, ro, rc, hrv, _, _, hrb, hcl⟩ := hun.addr (by omega)
      simp only [Value.slice.injEq] at hrv
      obtain ⟨rfl, _, rfl⟩ := hrv
      have hcw := (hkw.cell (p := ⟨rb, ro + k, none⟩) hrb).trans (hcl k hlt)
      clear hcl
      have hz := HU.out k hlt
      have HT := Shut.mk (show ((x : Int) :: (us.take (k + 1)).map fun i => 2 * i) = ((x : Int) :: (us.take k).map fun i => 2 * i) ++ [2 * us.getD k 0] by
        rw [List.take_succ_eq_append_getElem hlt, List.map_append, show us.getD k 0 = us[k] by rw [List.getD_eq_getElem?_getD, List.getElem?_eq_getElem hlt]; rfl]; rfl)
      have k0 : (0 : Int) ≤ (k : Int) := by omega
      have k1 : (k : Int) < (us.length : Int) := by omega
      generalize us.getD k 0 = z at hcw HT hz
      obtain ⟨z0, z1⟩ := hz
      have hwr : IntKind.i64.wrap (2 * z) = 2 * z := IntWalk.i64_in _ (by omega)
      have o2 := Ownv.kept ho ((Kept.refl wr).alloc (.cells #[.int .i64 (2 * z)] 3))
      have hk2a := hkw.alloc (.cells #[.int .i64 (2 * z)] 3)
      have hsz := hkw.size
      have hll : ((x : Int) :: (us.take k).map fun i => 2 * i).length + 1 ≤ 10000000000 := by have := HUL.out; simp [List.length_take]; omega
      generalize hys : ((x : Int) :: (us.take k).map fun i => 2 * i) = ys at o2 hll HT
      clear hys ho
      go_wp2_with (at_builtin; refine go_appi w.heap.size v ys rfl o2 _ [2 * z] rfl (OwnI.rd (OwnI.lit1 wr _)) hll (by simp; omega) ?_; intro v6 w6 o6 t6 l6; have k6 : Kept w w6 := Turn.keptOf hk2a t6 (fun b hb => (Ownv.lt o2 hb).2))
      go_roundw
      case rel => exact ⟨k + 1, hlt, by go_num, ⟨v6, rfl, by rw [HT.out]; exact o6⟩, k6⟩
      case measure => simp [intOf]; omega
    · have e : k = us.length := by omega
      have HE := Shut.mk e
      have k9 : ¬ (k : Int) < (us.length : Int) := by omega
      clear e
      go_wp2
      go_ret
      exact ⟨_, rfl, by rw [HR.out]; have := ho; rw [HE.out, List.take_length] at this; exact this, hkw⟩
set_option maxHeartbeats 4000000 in
theorem presLeaf_any {w : World} {tv : Value} {t : List TN} {n x : Nat} (m : MayN t n) (hx : x < 2 * n - 1) (h0 : (nd t x).kd = 0) (hl : Mth.lvl x = 0) (ht : RdTs w tv t) (hT : Tabs w) :
    Calls Tryd.prog 22 #[tv, .int .i64 (x : Int)] w (MemPost w (res t x)) := by
  have hlen := m.len
  have hb := fulls_bd m.hn
  obtain ⟨tb, to, tc, la, lc, rfl, hat, hun⟩ := ht.at (k := x) (by omega)
  obtain ⟨g0, g1, g2, g3, g4, g5⟩ := hat w (Kept.refl w)
  have hne : ((nd t x).kd != 0) = false := by rw [h0]; rfl
  have HR := Shut.mk (res_leaf h0 hl)
  have HL := Lib.hid (fun W (k : Kept w W) => Left_any (x : Int) W ⟨by omega, by omega⟩ (hT.kept k))
  rw [kidB_nat (show x < 511 by omega), decide_eq_false (show ¬ 0 < Mth.lvl x by omega)] at HL
  have HL : Hid (∀ W (k : Kept w W), Calls Tryd.prog 45 #[.int .i64 (x : Int)] W fun e w' => e = .returned (.tuple #[.int .i64 0, .int .i64 1]) ∧ Kept W w') := HL
  have x0 : (0 : Int) ≤ (x : Int) := by omega
  have x1 : (x : Int) < (t.length : Int) := by omega
  clear hat hlen hun hl
  generalize nd t x = d at *
  have h0' := Shut.mk h0
  clear h0
  generalize d.kd = kd at *
  go_enter Tryd.func22, Tryd.ntmps22
  go_wp2_with fail
  (with_reducible refine (HL.out _ (Kept.refl _)).mono ?_); rintro e w1 ⟨rfl, k1⟩
  go_wp2
  go_ret
  exact ⟨_, rfl, by rw [HR.out]; exact OwnI.nil _ _, k1⟩
set_option maxHeartbeats 8000000 in
set_option maxRecDepth 100000 in
theorem presL_any {t : List TN} {n : Nat} (m : MayN t n) : ∀ (k x : Nat), Mth.lvl x = k → x < 2 * n - 1 → ∀ (w : World) (tv : Value), RdTs w tv t → Tabs w →
    Calls Tryd.prog 22 #[tv, .int .i64 (x : Int)] w (MemPost w (res t x)) := by
  intro k
  induction k with
  | zero =>
    intro x hk hx w tv ht hT
    by_cases h0 : (nd t x).kd = 0
    · exact presLeaf_any m hx h0 hk ht hT
    · rw [res_there h0]; exact presOwn_any m hx h0 ht
  | succ k ih =>
    intro x hk hx w tv ht hT
    by_cases h0 : (nd t x).kd ≠ 0
    · rw [res_there h0]; exact presOwn_any m hx h0 ht
    have h0 : (nd t x).kd = 0 := by omega
    have hlen := m.len
    have hb := fulls_bd m.hn
    obtain ⟨c1, c2, c3, c4⟩ := kids_lvl (x := x) (by omega) (by omega)
    obtain ⟨d1, d2⟩ := kids_in m.hn hx (by omega)
    have HI1 := Lib.hid (fun W (k : Kept w W) => ih (Mth.left x) (by omega) d1 W tv (ht.kept k) (hT.kept k))
    have HI2 := Lib.hid (fun W (k : Kept w W) => ih (Mth.right x) (by omega) d2 W tv (ht.kept k) (hT.kept k))
    have HR := Shut.mk (res_kids h0 (show x < 511 by omega) (by omega))
    have HL1 := Shut.mk (res_len m d1)
    have HL2 := Shut.mk (res_len m d2)
    have HL := Lib.hid (fun W (k : Kept w W) => Left_any (x : Int) W ⟨by omega, by omega⟩ (hT.kept k))
    have HRi := Lib.hid (fun W (k : Kept w W) => Right_any (x : Int) W ⟨by omega, by omega⟩ (hT.kept k))
    rw [kidB_nat (show x < 511 by omega), decide_eq_true (show 0 < Mth.lvl x by omega)] at HL HRi
    have HL : Hid (∀ W (k : Kept w W), Calls Tryd.prog 45 #[.int .i64 (x : Int)] W fun e w' => e = .returned (.tuple #[.int .i64 (Mth.left x : Nat), .int .i64 0]) ∧ Kept W w') := HL
    have HRi : Hid (∀ W (k : Kept w W), Calls Tryd.prog 46 #[.int .i64 (x : Int)] W fun e w' => e = .returned (.tuple #[.int .i64 (Mth.right x : Nat), .int .i64 0]) ∧ Kept W w') := HRi
    obtain ⟨tb, to, tc, la, lc, rfl, hat, hun⟩ := ht.at (k := x) (by omega)
    obtain ⟨g0, g1, g2, g3, g4, g5⟩ := hat w (Kept.refl w)
    have hne : ((nd t x).kd != 0) = false := by rw [h0]; rfl
    have x0 : (0 : Int) ≤ (x : Int) := by omega
    have x1 : (x : Int) < (t.length : Int) := by omega
    clear hat hlen hun c1 c2 c3 c4 d1 d2 hk hx ih h0
    generalize res t x = out at HR ⊢
    generalize res t (Mth.left x) = o1 at HR HI1 HL1
    generalize res t (Mth.right x) = o2 at HR HI2 HL2
    generalize Mth.left x = xl at HL HI1
    generalize Mth.right x = xr at HRi HI2
    generalize nd t x = d at *
    generalize d.kd = kd at *
    go_enter Tryd.func22, Tryd.ntmps22
    go_wp2_with fail
    (with_reducible refine (HL.out _ (Kept.refl _)).mono ?_); rintro e w1 ⟨rfl, k1⟩
    go_wp2_with fail
    (with_reducible refine (HRi.out _ k1).mono ?_); rintro e w2 ⟨rfl, q2⟩
    have k2 := k1.trans q2
    go_wp2_with fail
    (with_reducible refine (HI1.out _ k2).mono ?_); rintro e w3 ⟨v3, rfl, r3, q3⟩
    have k3 := k2.trans q3
    go_wp2_with fail
    (with_reducible refine (HI2.out _ k3).mono ?_); rintro e w4 ⟨v4, rfl, r4, q4⟩
    have k4 := k3.trans q4
    have r3' := Ownv.kept (Ownv.mono r3 k2.size) q4
    have hsz := k4.size
    have hll : o1.length + o2.length ≤ 10000000000 := by have := HL1.out; have := HL2.out; omega
    go_wp2_with (at_builtin; refine go_appi w.heap.size v3 o1 rfl r3' v4 o2 rfl (OwnI.rd r4) hll hsz ?_; intro v6 w6 o6 t6 l6; have k6 : Kept w w6 := Turn.keptOf k4 t6 (fun b hb => (Ownv.lt r3' hb).2))
    go_ret
    exact ⟨_, rfl, by rw [HR.out]; exact o6, k6⟩
end Go.Proofs.YtekmdklobejbeaaDoor
end

section
/- What Resolution, Path, Holds, Mine answer (plain). -/
set_option linter.unusedSimpArgs false
set_option linter.unusedVariables false
namespace Go.Proofs.YtekmdklobejbeaaDoor
open Go.RowKit
open Rt

/-- The tree may be, and x is a node of it. -/
def okN (t : List TN) (x : Int) : Bool := chkB t && (decide (0 ≤ x) && decide (x < (t.length : Int)))
/-- The tree may be, and i is a leaf's number of it. -/
def okL (t : List TN) (i : Int) : Bool := chkB t && (decide (0 ≤ i) && decide (i < (((t.length + 1) / 2 : Nat) : Int)))
theorem chk_mayN {t : List TN} (h : chkB t = true) : MayN t ((t.length + 1) / 2) := by
  have m := (chkB_may.1 h).mn
  have hb := fulls_bd m.hn
  have hl := m.len
  rw [show (t.length + 1) / 2 = lvs t.length by omega]
  exact m
theorem okN_iff {t : List TN} {x : Int} : okN t x = true ↔ chkB t = true ∧ 0 ≤ x ∧ x < (t.length : Int) := by
  unfold okN
  rw [Bool.and_eq_true, Bool.and_eq_true, decide_eq_true_iff, decide_eq_true_iff]
theorem okL_iff {t : List TN} {x : Int} : okL t x = true ↔ chkB t = true ∧ 0 ≤ x ∧ x < (((t.length + 1) / 2 : Nat) : Int) := by
  unfold okL
  rw [Bool.and_eq_true, Bool.and_eq_true, decide_eq_true_iff, decide_eq_true_iff]
theorem not_true {b : Bool} (h : ¬ b = true) : b = false := by cases b with
  | false => rfl
  | true => exact absurd rfl h
theorem okN_nat {t : List TN} {x : Int} (h : okN t x = true) : ∃ k : Nat, x = (k : Int) ∧ k < t.length := by
  obtain ⟨_, h1, h2⟩ := okN_iff.1 h
  exact ⟨x.toNat, by omega, by omega⟩
theorem okL_nat {t : List TN} {i : Int} (h : okL t i = true) : ∃ k : Nat, i = (k : Int) ∧ k < (t.length + 1) / 2 := by
  obtain ⟨_, h1, h2⟩ := okL_iff.1 h
  exact ⟨i.toNat, by omega, by omega⟩
theorem okL_two {t : List TN} {i : Int} (h0 : 0 ≤ i) : okL t i = okN t (2 * i) := by
  rw [Bool.eq_iff_iff, okL_iff, okN_iff]
  constructor
  · rintro ⟨h, _, h2⟩
    have m := chk_mayN h
    have hb := fulls_bd m.hn
    have hl := m.len
    exact ⟨h, by omega, by omega⟩
  · rintro ⟨h, _, h2⟩
    have m := chk_mayN h
    have hb := fulls_bd m.hn
    have hl := m.len
    exact ⟨h, h0, by omega⟩
theorem okL_le {t : List TN} {i : Int} (h : okL t i = true) : i ≤ 255 := by
  obtain ⟨h, _, h2⟩ := okL_iff.1 h
  have hb := fulls_bd (chk_mayN h).hn
  omega

/-- What of a list is kept: the first k, by p. -/
def selL (p : Nat → Bool) (a : Nat → Int) : Nat → List Int
  | 0 => []
  | k + 1 => bif p k then selL p a k ++ [a k] else selL p a k
theorem selL_yes {p : Nat → Bool} {a : Nat → Int} {k : Nat} (h : p k = true) : selL p a (k + 1) = selL p a k ++ [a k] := by
  show (bif p k then selL p a k ++ [a k] else selL p a k) = _
  rw [h]; rfl
theorem selL_no {p : Nat → Bool} {a : Nat → Int} {k : Nat} (h : p k = false) : selL p a (k + 1) = selL p a k := by
  show (bif p k then selL p a k ++ [a k] else selL p a k) = _
  rw [h]; rfl
theorem selL_len (p : Nat → Bool) (a : Nat → Int) (k : Nat) : (selL p a k).length ≤ k := by
  induction k with
  | zero => exact Nat.le_refl _
  | succ k ih =>
    cases h : p k with
    | true => rw [selL_yes h]; simp; omega
    | false => rw [selL_no h]; omega
def pthP (t : List TN) (i n k : Nat) : Bool := decide (0 < (res t ((Mth.copath (2 * i) n).getD k 0)).length)
/-- The nodes above a leaf that are told, and the children beside them. -/
def pthN (t : List TN) (i n : Nat) : List Int := selL (pthP t i n) (fun k => (((Mth.path (2 * i) n).getD k 0 : Nat) : Int)) (Mth.path (2 * i) n).length
def pthO (t : List TN) (i n : Nat) : List Int := selL (pthP t i n) (fun k => (((Mth.copath (2 * i) n).getD k 0 : Nat) : Int)) (Mth.path (2 * i) n).length
/-- What a call leaves that answers two lists, or an error. -/
def TwoPost (w : World) (b : Bool) (l m : List Int) (e : Ending) (w' : World) : Prop := ∃ u v, e = .returned (.tuple #[u, v, .int .i64 (er b)]) ∧ RdI w' u (bif b then l else []) ∧ RdI w' v (bif b then m else []) ∧ Kept w w'
theorem blks_none {b n c : Nat} : ¬ Blks (.slice none n c) b := fun h => by cases h
/-- What holds of the path of a leaf. -/
structure PathT (n i : Nat) : Prop where
  plen : (Mth.path (2 * i) n).length ≤ 8
  clen : (Mth.copath (2 * i) n).length = (Mth.path (2 * i) n).length
  cin : ∀ k, k < (Mth.path (2 * i) n).length → (Mth.copath (2 * i) n).getD k 0 < 2 * n - 1
theorem pathT_of {n i : Nat} (hn : n ∈ Mth.fulls) (hi : i < n) : PathT n i := by
  have hb := fulls_bd hn
  have hp := Mth.path_of hn (show 2 * i < 2 * n - 1 by omega)
  have h8 := lvl_top hn
  refine ⟨by have := hp.len; unfold Mth.path; omega, by have := hp.len; have := hp.clen; unfold Mth.path Mth.copath; omega, fun k hk => ?_⟩
  have hl : (Mth.pathF 9 (2 * i) n).length = (Mth.path (2 * i) n).length := rfl
  have h1 := hp.at' k (by have := hp.len; omega)
  obtain ⟨a1, a2, a3, a4, _⟩ := h1
  have st := Mth.step_at hn a3 a4
  have : (Mth.copath (2 * i) n).getD k 0 = Mth.sib (Mth.itr k (2 * i)) := a2
  rw [this]
  exact st.inS
/-- The first of a resolution that i holds. -/
def mineB (t : List TN) (i x : Nat) : Bool := (res t x).any (holdI t i)
end Go.Proofs.YtekmdklobejbeaaDoor
end

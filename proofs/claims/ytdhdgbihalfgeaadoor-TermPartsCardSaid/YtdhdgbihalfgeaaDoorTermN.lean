/- Walks of the statements of layer 3: what they begin with; what Make does to terms, again and again. -/
import Derived.Test.YtdhdgbihalfgeaaDoorTermG
import Derived.Test.YtdhdgbihalfgeaaDoorTermJ
import Derived.Test.YtdhdgbihalfgeaaDoorTermM
set_option linter.unusedSimpArgs false
set_option linter.unusedVariables false
namespace Go.Proofs.YtdhdgbihalfgeaaDoor
open Go.RowKit Go.Maps

/-! ## terms that are made -/
theorem mk_ext (ds : List Nd) (d : Nd) : ∃ r, (mk ds d).1 = ds ++ r := by
  by_cases hm : May ds d
  · cases hf : find ds d with
    | some i => rw [mk_old hm hf]; exact ⟨[], by simp⟩
    | none =>
      by_cases hl : 100000 ≤ ds.length
      · rw [mk_full hm hf hl]; exact ⟨[], by simp⟩
      · rw [mk_new hm hf hl]; exact ⟨[d], rfl⟩
  · rw [mk_bad hm]; exact ⟨[], by simp⟩
theorem getD_app {ds r : List Nd} {i : Nat} (h : i < ds.length) : (ds ++ r).getD i nd0 = ds.getD i nd0 := by
  simp only [List.getD_eq_getElem?_getD]
  rw [List.getElem?_append_left h]
/-- A term that Make told is there. -/
theorem mk_at {ds : List Nd} {d : Nd} (h : (mk ds d).2.2 = 0) : 0 ≤ (mk ds d).2.1 ∧ (mk ds d).2.1 < (mk ds d).1.length ∧ (mk ds d).1.getD (mk ds d).2.1.toNat nd0 = d := by
  by_cases hm : May ds d
  · cases hf : find ds d with
    | some i =>
      rw [mk_old hm hf]
      obtain ⟨h1, h2⟩ := find_some hf
      exact ⟨by simp, by simpa using h1, by simpa using h2⟩
    | none =>
      by_cases hl : 100000 ≤ ds.length
      · rw [mk_full hm hf hl] at h; simp at h
      · rw [mk_new hm hf hl]
        exact ⟨by simp, by simp; omega, by
          simp only [Int.toNat_natCast]
          rw [getD_snoc, if_neg (by omega), if_pos rfl]⟩
  · rw [mk_bad hm] at h; simp at h
/-- A node that is there is told again. -/
theorem mk_again {ds : List Nd} (hg : Good ds) {d : Nd} {i : Nat} (hi : i < ds.length) (h : ds.getD i nd0 = d) : mk ds d = (ds, (i : Int), 0) :=
  mk_old (h ▸ hg.may' hi) (hg.findAt hi h)
theorem mk_e (ds : List Nd) (d : Nd) : (mk ds d).2.2 = 0 ∨ (mk ds d).2.2 = 1 ∨ (mk ds d).2.2 = 2 := by
  by_cases hm : May ds d
  · cases hf : find ds d with
    | some i => rw [mk_old hm hf]; simp
    | none =>
      by_cases hl : 100000 ≤ ds.length
      · rw [mk_full hm hf hl]; simp
      · rw [mk_new hm hf hl]; simp
  · rw [mk_bad hm]; simp
theorem mk_t64 (ds : List Nd) (d : Nd) (hl : ds.length ≤ 100000) : 0 ≤ (mk ds d).2.1 ∧ (mk ds d).2.1 ≤ 200000 := by
  by_cases hm : May ds d
  · cases hf : find ds d with
    | some i =>
      have := (find_some hf).1
      rw [mk_old hm hf]
      exact ⟨by simp, by simp; omega⟩
    | none =>
      by_cases hl : 100000 ≤ ds.length
      · rw [mk_full hm hf hl]; simp
      · rw [mk_new hm hf hl]; exact ⟨by simp, by simp; omega⟩
  · rw [mk_bad hm]; simp

/-! ## the examples -/
def exA : Nd := ⟨1, 5, [], []⟩
def exP : Nd := ⟨7, 0, [], [0]⟩
theorem ex1 : mk [] exA = ([exA], 0, 0) := by
  refine mk_new ⟨by decide, by decide, by decide, .inr rfl, by decide, .inl rfl, by decide, by decide, (fun x hx => by cases hx), (fun h => by simp [exA] at h)⟩ rfl (by decide)
theorem ex2 : mk [exA] exP = ([exA, exP], 1, 0) := by
  refine mk_new ⟨by decide, by decide, by decide, .inl rfl, by decide, .inl rfl, by decide, by decide, (fun x hx => ?_), (fun h => by simp [exP] at h)⟩ rfl (by decide)
  obtain rfl : x = 0 := by simpa [exP] using hx
  simp
theorem ex3 : mk [exA, exP] exA = ([exA, exP], 0, 0) := by
  refine mk_old (i := 0) ⟨by decide, by decide, by decide, .inr rfl, by decide, .inl rfl, by decide, by decide, (fun x hx => by cases hx), (fun h => by simp [exA] at h)⟩ rfl
theorem exP_l : ∀ x ∈ exP.l, I64 x := fun x hx => by
  have : x = 0 := by simpa [exP] using hx
  rw [this]
  exact i64_lit (by simp)
theorem itoa5 : Lib.itoa 5 = [53] := by
  rw [itoa_of_nonneg (by decide)]
  exact Lib.decDigits_one (i := 5) (by decide)
theorem ex4 : shw [exA, exP] 1 = [112, 117, 98, 40, 35, 53, 41] := by
  simp [shw, shws, stepS, one, exA, exP, joinC, kName, kTab, itoa5]
theorem ex5 : shT [exA, exP] 1 = [112, 117, 98, 40, 35, 53, 41] ∧ shE [exA, exP] 1 = 0 := by
  have h : shE [exA, exP] 1 = 0 := by
    unfold shE
    rw [if_pos (by simp), ex4, if_neg (by decide)]
  exact ⟨by unfold shT; rw [if_pos h, ex4], h⟩

set_option maxHeartbeats 4000000 in
set_option maxRecDepth 100000 in
theorem live_any {w : World} (ht : Tabs w) : Calls Tryd.prog 9 #[] w fun e w' => e = .returned (.bool true) ∧ Kept w w' := by
  go_enter Tryd.func9, Tryd.ntmps9
  go_wp2_with fail
  refine (new_any w).mono ?_
  rintro e w1 ⟨F, p, rfl, ha, k1, hF, rfl⟩
  go_wp2_with fail
  refine (make_any ha (ht.kept k1) (d := exA) ⟨_, rfl, RdI.nil _⟩ ⟨i64_lit (by simp [exA]), i64_lit (by simp [exA]), by simp [exA], fun x hx => by cases hx⟩).mono ?_
  rintro e w2 ⟨F2, rfl, h2, t2, s2⟩
  rw [ex1] at h2 ⊢
  have k2 : Kept w w2 := Turn.keptOf k1 t2 hF
  have hF2 : ∀ b, F2 b → w.heap.size ≤ b := fun b hb => (s2 b hb).elim (hF b) (fun c => Nat.le_trans k1.size c)
  go_wp2_with fail
  have ka : Kept w2 (w2.alloc (.cells #[.int .i64 0] 3)) := (Kept.refl w2).alloc _
  have o3 : RdI (w2.alloc (.cells #[.int .i64 0] 3)) (.slice (some ⟨w2.heap.size, 0, none⟩) 1 1) [0] := by
    have := (Ownv.lit (B := w2.heap.size) 3 (w := w2) [.int .i64 0] (Nat.le_refl _) (by unfold maxLen; simp)).rdv
    exact this
  refine (make_any (ArG.kept h2 ka) (ht.kept (k2.trans ka)) (d := exP) ⟨_, rfl, o3⟩ ⟨i64_lit (by simp [exP]), i64_lit (by simp [exP]), by simp [exP], fun x hx => exP_l x hx⟩).mono ?_
  rintro e w3 ⟨F3, rfl, h3, t3, s3⟩
  rw [ex2] at h3 ⊢
  have k3 : Kept w w3 := Turn.keptOf (k2.trans ka) t3 hF2
  have hF3 : ∀ b, F3 b → w.heap.size ≤ b := fun b hb => (s3 b hb).elim (hF2 b) (fun c => Nat.le_trans (k2.trans ka).size c)
  go_wp2_with fail
  refine (make_any h3 (ht.kept k3) (d := exA) ⟨_, rfl, RdI.nil _⟩ ⟨i64_lit (by simp [exA]), i64_lit (by simp [exA]), by simp [exA], fun x hx => by cases hx⟩).mono ?_
  rintro e w4 ⟨F4, rfl, h4, t4, s4⟩
  rw [ex3] at h4 ⊢
  have k4 : Kept w w4 := Turn.keptOf k3 t4 hF3
  go_wp2_with fail
  refine (show_any h4 (ht.kept k4) 1).mono ?_
  rintro e w5 ⟨rfl, k5⟩
  rw [ex5.1, ex5.2]
  have hlen := arg_len (ArG.kept h4 k5)
  have es := strB_list [112, 117, 98, 40, 35, 53, 41]
  generalize strB [112, 117, 98, 40, 35, 53, 41] = S at es ⊢
  go_wp2_with (go_at_call 15; refine hlen.mono ?_; rintro e w' ⟨rfl, rfl⟩)
  go_ret
  exact ⟨rfl, k4.trans k5⟩

/-- The node at a place of a list that came in. -/
theorem RdNs.at {w : World} {v : Value} {ls : List Nd} (h : RdNs w v ls) {k : Nat} (hk : k < ls.length) : ∃ nb noff ncap la lc, v = .slice (some ⟨nb, noff, none⟩) ls.length ncap ∧
    (∀ wr, Kept w wr → wr.cell? ⟨nb, noff + k * 4, none⟩ = some (.int .i64 (ls.getD k nd0).op) ∧ wr.cell? ⟨nb, noff + k * 4 + 1, none⟩ = some (.int .i64 (ls.getD k nd0).n) ∧ wr.cell? ⟨nb, noff + k * 4 + 2, none⟩ = some (.string (strB (ls.getD k nd0).s)) ∧ wr.cell? ⟨nb, noff + k * 4 + 3, none⟩ = some (.slice la (ls.getD k nd0).l.length lc)) ∧
    RdI w (.slice la (ls.getD k nd0).l.length lc) (ls.getD k nd0).l := by
  obtain ⟨nb, noff, ncap, lvs, rfl, _, _, hnb, hnc, hnl⟩ := h.addr (by omega)
  obtain ⟨y0, y1, y2, y3⟩ := hnc k hk
  have hlr := hnl k hk
  obtain ⟨la, lc, hlv, _, _, _⟩ := hlr.len
  rw [hlv] at y3 hlr
  exact ⟨nb, noff, ncap, la, lc, rfl, fun wr hw => ⟨hw.cell (p := ⟨nb, noff + k * 4, none⟩) hnb |>.trans y0, hw.cell (p := ⟨nb, noff + k * 4 + 1, none⟩) hnb |>.trans y1, hw.cell (p := ⟨nb, noff + k * 4 + 2, none⟩) hnb |>.trans y2, hw.cell (p := ⟨nb, noff + k * 4 + 3, none⟩) hnb |>.trans y3⟩, hlr⟩

/-- What 'few' lets by. -/
def Few (ls : List Nd) : Prop := ls.length ≤ 300 ∧ ∀ k, k < ls.length → (ls.getD k nd0).s.length ≤ 300 ∧ (ls.getD k nd0).l.length ≤ 80

def FewPost (w : World) (ls : List Nd) (e : Ending) (w' : World) : Prop := ∃ b : Bool, e = .returned (.bool b) ∧ (b = true → Few ls) ∧ Kept w w'

set_option maxHeartbeats 4000000 in
set_option maxRecDepth 100000 in
theorem few_any {w : World} {v : Value} {ls : List Nd} (h : RdNs w v ls) :
    Calls Tryd.prog 10 #[v] w (FewPost w ls) := by
  obtain ⟨na, ncap, rfl, n1, n2, _⟩ := h.len
  have n63 : ((ls.length : Nat) : Int) ≤ 9223372036854775807 := by unfold maxLen at n2; omega
  by_cases hl : 300 < ls.length
  · go_enter Tryd.func10, Tryd.ntmps10
    go_wp2
    go_ret
    exact ⟨false, rfl, (fun e => by cases e), Kept.refl _⟩
  · go_enter Tryd.func10, Tryd.ntmps10
    go_wp2
    go_loopw [10] (fun i wr => ∃ k : Nat, k ≤ ls.length ∧ i = .int .i64 k ∧ (∀ j, j < k → (ls.getD j nd0).s.length ≤ 300 ∧ (ls.getD j nd0).l.length ≤ 80) ∧ Kept w wr) (fun i _ => ls.length - (intOf i).toNat)
    case atStart => exact ⟨0, Nat.zero_le _, rfl, fun j hj => absurd hj (Nat.not_lt_zero _), Kept.refl _⟩
    case round =>
      obtain ⟨k, hk0, rfl, hsame, hk⟩ := hrel
      have HS := Shut.mk hsame
      clear hsame
      by_cases hlt : k < ls.length
      · obtain ⟨nb, noff, ncap', la, lc, hv, hcl, hlr⟩ := h.at hlt
        simp only [Value.slice.injEq] at hv
        obtain ⟨rfl, _, rfl⟩ := hv
        obtain ⟨y0, y1, y2, y3⟩ := hcl wr hk
        clear hcl
        generalize hd : ls.getD k nd0 = d at y0 y1 y2 y3 hlr
        have HD := Shut.mk hd
        clear hd
        obtain ⟨op, n, s, l⟩ := d
        simp only at y0 y1 y2 y3 hlr
        have e1 := strB_size s
        generalize strB s = S at y2 e1
        have ka : Kept wr (wr.alloc (.cells #[.int .i64 op, .int .i64 n, .string S, .slice la l.length lc] 31)) := (Kept.refl wr).alloc _
        by_cases c1 : 300 < s.length
        · go_wp2
          go_ret
          exact ⟨false, rfl, (fun e => by cases e), hk.trans ka⟩
        · by_cases c2 : 80 < l.length
          · go_wp2
            go_ret
            exact ⟨false, rfl, (fun e => by cases e), hk.trans ka⟩
          · go_wp2
            go_roundw
            case rel => exact ⟨k + 1, hlt, rfl, fun j hj => by
              by_cases c : j < k
              · exact HS.out j c
              · obtain rfl : j = k := by omega
                rw [HD.out]
                exact ⟨by show s.length ≤ 300; omega, by show l.length ≤ 80; omega⟩, hk.trans ka⟩
            case measure => simp [intOf]; omega
      · obtain rfl : k = ls.length := by omega
        go_wp2
        go_ret
        exact ⟨true, rfl, fun _ => ⟨by omega, HS.out⟩, hk⟩
end Go.Proofs.YtdhdgbihalfgeaaDoor

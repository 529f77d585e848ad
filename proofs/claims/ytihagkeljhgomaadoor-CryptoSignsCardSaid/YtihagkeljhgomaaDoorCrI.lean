/- Walks of the statements of layer 4: grown. -/
import Derived.Test.YtihagkeljhgomaaDoorCrH
set_option linter.unusedSimpArgs false
set_option linter.unusedVariables false
namespace Go.Proofs.YtihagkeljhgomaaDoor
open Go.RowKit Go.Maps

/-- S, and the block of a slice. -/
def SB (S : Nat → Prop) (v : Value) : Nat → Prop := fun b => S b ∨ Blks v b
/-- What turns blocks that are to stay; other blocks are to stay behind it. -/
theorem At.grow {w0 : World} {S T G : Nat → Prop} {w w' : World} {p : Value} {ds : List Nd} (h : At w0 S w p ds) (k : Turn G w w') (hG : ∀ b, G b → S b ∧ w0.heap.size ≤ b)
    (hT : ∀ b, T b → (S b ∨ w.heap.size ≤ b) ∧ b < w'.heap.size) (hb : ∀ b, b < w0.heap.size → T b) : At w0 T w' p ds := by
  obtain ⟨F, h1, h2⟩ := h.ar
  refine ⟨⟨F, ArG.turn h1 k (fun b hF hg => h2 b hF (hG b hg).1), fun b hF hTb => ?_⟩, fun b hTb => (hT b hTb).2, hb, Turn.keptOf h.kept k (fun b hb => (hG b hb).2), h.tab⟩
  rcases (hT b hTb).1 with c | c
  · exact h2 b hF c
  · exact absurd (h1.lt b hF) (by omega)

def GrownPost (w0 : World) (S : Nat → Prop) (w : World) (n : Nat) (e : Ending) (w' : World) : Prop :=
  ∃ p v ds ts, e = .returned (.tuple #[p, v]) ∧ At w0 (SB S v) w' p ds ∧ OwnI 0 w' v ts ∧ ts.length = 5 ∧ (∀ j, j < 5 → Is ds (ts.getD j 0) ⟨1, 100 + j, [], []⟩) ∧ ds.length ≤ 5 + 3 * n ∧ Keep S w w' ∧ (∃ a, p = .pointer (some a))

/-- And the slice is the call's own. -/
def GrownPostB (w0 : World) (S : Nat → Prop) (w : World) (n : Nat) (e : Ending) (w' : World) : Prop :=
  ∃ p v ds ts, e = .returned (.tuple #[p, v]) ∧ At w0 (SB S v) w' p ds ∧ OwnI 0 w' v ts ∧ ts.length = 5 ∧ (∀ j, j < 5 → Is ds (ts.getD j 0) ⟨1, 100 + j, [], []⟩) ∧ ds.length ≤ 5 + 3 * n ∧ Keep S w w' ∧ (∃ a, p = .pointer (some a)) ∧ ∀ b, Blks v b → w.heap.size ≤ b
theorem lit1_of (w : World) (t : Int) : OwnI 0 (w.alloc (.cells #[.int .i64 t] 3)) (.slice (some ⟨w.heap.size, 0, none⟩) 1 1) [t] :=
  Ownv.lit (B := 0) 3 (w := w) [.int .i64 t] (Nat.zero_le _) (by unfold maxLen; simp)
theorem getD_snoc_j (l : List Int) (x : Int) (i : Nat) : (l ++ [x]).getD i 0 = if i < l.length then l.getD i 0 else if i = l.length then x else 0 := by
  simp only [List.getD_eq_getElem?_getD]
  by_cases h : i < l.length
  · rw [if_pos h, List.getElem?_append_left h]
  · rw [if_neg h, List.getElem?_append_right (by omega)]
    by_cases h2 : i = l.length
    · simp [h2]
    · rw [if_neg h2, List.getElem?_eq_none (by simp; omega)]; rfl

set_option maxHeartbeats 8000000 in
set_option maxRecDepth 100000 in
theorem grownB {w0 : World} {S : Nat → Prop} {w : World} {v : Value} {ls : List Opn} (h : RdOs w0 v ls) (hok : ∀ o ∈ ls, OpnOk o) (hl : ls.length ≤ 200) (k : Kept w0 w) (ht : Tabs w0) (hS : ∀ b, S b → b < w.heap.size) (hb : ∀ b, b < w0.heap.size → S b) :
    Calls Tryd.prog 10 #[v] w (GrownPostB w0 S w ls.length) := by
  obtain ⟨na, ncap, rfl, n1, n2, _⟩ := h.len
  have hS0 : w0.heap.size ≤ w.heap.size := k.size
  go_enter Tryd.func10, Tryd.ntmps10
  go_wp2_with fail
  refine (newA k ht hS hb).mono ?_
  rintro e w1 ⟨rfl, a1, k1⟩
  go_wp2
  go_loopw [5, 12] (fun av i wr => ∃ (k : Nat) (ds : List Nd) (ts : List Int), k ≤ 5 ∧ i = .int .i64 k ∧ At w0 (SB S av) wr (.pointer (some ⟨w.heap.size + 1, 0, none⟩)) ds ∧ OwnI 0 wr av ts ∧ (∀ b, Blks av b → w.heap.size ≤ b) ∧ ts.length = k ∧ ds.length ≤ k ∧ (∀ j, j < k → Is ds (ts.getD j 0) ⟨1, 100 + j, [], []⟩) ∧ Keep S w wr) (fun _ i _ => 5 - (intOf i).toNat)
  case atStart => exact ⟨0, [], [], Nat.zero_le _, rfl, a1.less (fun b hb => hb.elim id (fun c => by cases c)) (fun b hb => .inl (a1.base b hb)), OwnI.nil _ _, (fun b hb => by cases hb), rfl, Nat.le_refl _, (fun j hj => absurd hj (Nat.not_lt_zero _)), k1.keep S⟩
  case round =>
    obtain ⟨k, ds, ts, hk5, rfl, ha, ho, hbl, htl, hdl, his, hk⟩ := hrel
    have HI := Shut.mk his
    have HT := Shut.mk htl
    have HL := Shut.mk hdl
    have HB := Shut.mk hbl
    clear his htl hdl hbl
    by_cases hlt : k < 5
    · obtain ⟨r, t, hm, hr, hs⟩ := mk_is (may_atom ds (n := 100 + k) (by omega)) (by have := HL.out; omega)
      have hc := freshA ha (n := 100 + k) ⟨by omega, by omega⟩
      rw [hm] at hc
      have HS := Shut.mk hs
      have HR := Shut.mk hr
      clear hm hs hr
      go_wp2_with (first
        | (go_at_call 12; refine hc.mono ?_; rintro e w4 ⟨rfl, a4, k4⟩;
           have o4 : OwnI 0 w4 u5 ts := k4.owni ho (fun b hb => .inr hb))
        | (at_builtin; refine go_appi 0 u5 ts rfl (Ownv.kept o4 ((Kept.refl w4).alloc _)) _ [t] rfl (OwnI.rd (lit1_of w4 t)) (by have := HT.out; simp; omega) (Nat.zero_le _) ?_; intro v6 w6 o6 t6 l6))
      have k44 : Kept w4 (w4.alloc (.cells #[.int .i64 t] 3)) := (Kept.refl w4).alloc _
      have hsz := (hk.trans (k4.less (fun b hb => .inl hb))).size
      have a6 : At w0 (SB S v6) w6 _ (ds ++ r) := (a4.step k44).grow t6 (fun b hb => ⟨.inr hb, by have := HB.out b hb; omega⟩) (fun b hb => by
        rcases hb with c | c
        · exact ⟨.inl (.inl c), by have := hS b c; have := k44.size; have := t6.size; omega⟩
        · refine ⟨?_, (Ownv.lt o6 c).1⟩
          rcases l6 b c with d | d
          · exact .inl (.inr d)
          · exact .inr d) (fun b hb' => .inl (hb b hb'))
      have k6 : Keep S w w6 := Turn.trans (((hk.trans (k4.less (fun b hb => .inl hb))).kept k44)) t6 (fun b hb => .inl (fun hs => by have := hS b hs; have := HB.out b hb; omega))
      go_roundw
      case rel =>
        refine ⟨k + 1, ds ++ r, ts ++ [t], hlt, rfl, a6, o6, fun b h1 => ?_, by rw [List.length_append, HT.out]; rfl, by rw [List.length_append]; have := HL.out; have := HR.out; omega, fun j hj => ?_, k6⟩
        · rcases l6 b h1 with c | c
          · exact HB.out b c
          · have := k44.size
            omega
        · rw [getD_snoc_j, HT.out]
          by_cases c : j < k
          · rw [if_pos c]; exact (HI.out j c).more r
          · obtain rfl : j = k := by omega
            rw [if_neg c, if_pos rfl]; exact HS.out
      case measure => simp [intOf]; omega
    · have H5 := Shut.mk (show k = 5 by omega)
      have HT5 := Shut.mk (show ts.length = 5 by rw [HT.out, H5.out])
      have HI := Shut.mk (show ∀ j, j < 5 → Is ds (ts.getD j 0) ⟨1, 100 + j, [], []⟩ from fun j hj => HI.out j (by have := H5.out; omega))
      have HL := Shut.mk (show ds.length ≤ 5 by have := HL.out; have := H5.out; omega)
      have n63 : ((ls.length : Nat) : Int) ≤ 9223372036854775807 := by omega
      obtain ⟨oa0, oc0, hu5, _, _, _⟩ := (OwnI.rd ho).len
      subst hu5
      go_wp2
      go_loopw [29] (fun i wr' => ∃ (k : Nat) (ds : List Nd), k ≤ ls.length ∧ i = .int .i64 k ∧ At w0 (SB S (.slice oa0 ts.length oc0)) wr' (.pointer (some ⟨w.heap.size + 1, 0, none⟩)) ds ∧ OwnI 0 wr' (.slice oa0 ts.length oc0) ts ∧ ds.length ≤ 5 + 3 * k ∧ (∀ j, j < 5 → Is ds (ts.getD j 0) ⟨1, 100 + j, [], []⟩) ∧ Keep S w wr') (fun i _ => ls.length - (intOf i).toNat)
      case atStart => exact ⟨0, ds, Nat.zero_le _, rfl, ha, ho, by have := HL.out; omega, HI.out, hk⟩
      case round =>
        clear ha ho hk HI HL hlt hk5 H5
        obtain ⟨k, ds, hk0, rfl, ha, ho, hdl, his, hk⟩ := hrel
        have HI := Shut.mk his
        have HL := Shut.mk hdl
        clear his hdl
        by_cases hlt : k < ls.length
        · obtain ⟨nb, noff, ncap', hv, hnb, hcl⟩ := h.at hlt
          simp only [Value.slice.injEq] at hv
          obtain ⟨rfl, _, rfl⟩ := hv
          obtain ⟨y0, y1, y2, y3, y4, y5⟩ := hcl _ ha.kept
          have hdk : OpnOk (ls.getD k op0) := hok _ (by rw [List.getD_eq_getElem?_getD, List.getElem?_eq_getElem hlt]; exact List.getElem_mem _)
          clear hcl
          generalize ls.getD k op0 = d at y0 y1 y2 y3 y4 y5 hdk
          have hbd := fun W (kk : Kept _ W) => bodyA (ha.step kk) hdk
          clear hdk
          obtain ⟨o0, o1, o2, o3, o4, s⟩ := d
          simp only at y0 y1 y2 y3 y4 y5 hbd
          generalize strB s = X at y5 hbd
          go_wp2_with fail
          refine (hbd _ ((Kept.refl _).alloc _)).mono ?_
          rintro e w4 ⟨v4, es, rfl, he, a4, k4⟩
          clear hbd
          obtain ⟨r, rfl, hr⟩ := he
          have k5 : Keep (SB S (.slice oa0 ts.length oc0)) _ w4 := (((Kept.refl _).alloc _).keep _).trans k4
          have o5 := k5.owni ho (fun b hb => .inr hb)
          have HR := Shut.mk hr
          clear hr
          go_wp2
          go_roundw
          case rel =>
            exact ⟨k + 1, ds ++ r, hlt, rfl, a4, o5, by rw [List.length_append]; have := HL.out; have := HR.out; omega, fun j hj => (HI.out j hj).more r, hk.trans (k5.less (fun b hb => .inl hb))⟩
          case measure => simp [intOf]; omega
        · obtain rfl : k = ls.length := by omega
          go_wp2
          go_ret2
          exact ⟨_, _, ds, ts, rfl, ha, ho, HT5.out, HI.out, HL.out, hk, ⟨_, rfl⟩, HB.out⟩
theorem grownA {w0 : World} {S : Nat → Prop} {w : World} {v : Value} {ls : List Opn} (h : RdOs w0 v ls) (hok : ∀ o ∈ ls, OpnOk o) (hl : ls.length ≤ 200) (k : Kept w0 w) (ht : Tabs w0) (hS : ∀ b, S b → b < w.heap.size) (hb : ∀ b, b < w0.heap.size → S b) :
    Calls Tryd.prog 10 #[v] w (GrownPost w0 S w ls.length) :=
  (grownB h hok hl k ht hS hb).mono fun e w' ⟨p, v, ds, ts, h1, h2, h3, h4, h5, h6, h7, h8, _⟩ => ⟨p, v, ds, ts, h1, h2, h3, h4, h5, h6, h7, h8⟩
end Go.Proofs.YtihagkeljhgomaaDoor

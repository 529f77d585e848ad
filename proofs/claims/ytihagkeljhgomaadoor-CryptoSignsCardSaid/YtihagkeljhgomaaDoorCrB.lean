/- Walks of package crypto: parts. -/
import Derived.Test.YtihagkeljhgomaaDoorCrA
import Derived.StillTailTactics
import Derived.Deep.DeepCutAuto
set_option linter.unusedSimpArgs false
set_option linter.unusedVariables false
namespace Go.Proofs.YtihagkeljhgomaaDoor
open Go.RowKit Go.Maps

theorem ones4 (a b c d : Int) : (#[Value.int .i64 a, .int .i64 b, .int .i64 c, .int .i64 d].all fun x => x.oneCell') = true := by simp [Value.oneCell']
/-- Four numbers, as an array. -/
def arr4 (l : List Int) : Value := .agg #[.int .i64 (l.getD 0 0), .int .i64 (l.getD 1 0), .int .i64 (l.getD 2 0), .int .i64 (l.getD 3 0)]
theorem partsL_no {ds : List Nd} {op t : Int} (h : partsB ds op t = false) : partsL ds op t = [0, 0, 0, 0] := by unfold partsL; rw [h]; rfl
theorem partsL_yes {ds : List Nd} {op t : Int} (h : partsB ds op t = true) : partsL ds op t = ((ndAt ds t).l ++ [0, 0, 0, 0]).take 4 := by unfold partsL; rw [h]; rfl
theorem partsB_cases {ds : List Nd} {op t : Int} (h : partsB ds op t = false) : ndE ds t = 4 ∨ (ndE ds t = 0 ∧ ¬ (ndAt ds t).op = op) := by
  unfold partsB at h
  rw [ndE_eq]
  by_cases c : IsT ds t
  · rw [if_pos c]
    refine .inr ⟨rfl, fun e => ?_⟩
    rw [decide_eq_true c, decide_eq_true e] at h
    cases h
  · exact .inl (if_neg c)
theorem partsB_true {ds : List Nd} {op t : Int} (h : partsB ds op t = true) : ndE ds t = 0 ∧ (ndAt ds t).op = op := by
  unfold partsB at h
  rw [Bool.and_eq_true] at h
  exact ⟨by rw [ndE_eq, if_pos (of_decide_eq_true h.1)], of_decide_eq_true h.2⟩

/-- What is laid over the head of four zeros. -/
theorem splice4 (l : List Int) : splice [Value.int .i64 0, .int .i64 0, .int .i64 0, .int .i64 0] 0 ((l.take 4).map (Value.int .i64)) = (((l ++ [0, 0, 0, 0]).take 4).map (Value.int .i64)) := by
  match l with
  | [] => rfl
  | [a] => rfl
  | [a, b] => rfl
  | [a, b, c] => rfl
  | a :: b :: c :: d :: r => simp [splice]
theorem four (l : List Int) : ((l ++ [0, 0, 0, 0]).take 4).length = 4 := by rw [List.length_take, List.length_append]; simp
theorem arr4_cells {l : List Int} (h : l.length = 4) : l.map (Value.int .i64) = [.int .i64 (l.getD 0 0), .int .i64 (l.getD 1 0), .int .i64 (l.getD 2 0), .int .i64 (l.getD 3 0)] := by
  match l, h with
  | [a, b, c, d], _ => rfl

set_option maxHeartbeats 4000000 in
set_option maxRecDepth 100000 in
theorem parts_no1 {w0 : World} {S : Nat → Prop} {w : World} {p : Value} {ds : List Nd} (h : At w0 S w p ds) {op t : Int} (he : ndE ds t = 4) :
    Calls Tryd.prog 31 #[p, .int .i64 op, .int .i64 t] w fun e w' => e = .returned (.tuple #[.agg #[.int .i64 0, .int .i64 0, .int .i64 0, .int .i64 0], .bool false]) ∧ Kept w w' := by
  have k0 : Kept w ((w.alloc (.cells #[.int .i64 0, .int .i64 0, .int .i64 0, .int .i64 0] 58)).alloc (.cells #[.int .i64 0, .int .i64 0, .int .i64 0, .int .i64 0] 58)) := ((Kept.refl w).alloc _).alloc _
  have hsz := alloc_size w (.cells #[.int .i64 0, .int .i64 0, .int .i64 0, .int .i64 0] 58)
  have a0 : Blk ((w.alloc (.cells #[.int .i64 0, .int .i64 0, .int .i64 0, .int .i64 0] 58)).alloc (.cells #[.int .i64 0, .int .i64 0, .int .i64 0, .int .i64 0] 58)) w.heap.size 58 [.int .i64 0, .int .i64 0, .int .i64 0, .int .i64 0] :=
    (Blk.new w [.int .i64 0, .int .i64 0, .int .i64 0, .int .i64 0] 58).kept ((Kept.refl _).alloc _)
  have b0 := Blk.new (w.alloc (.cells #[.int .i64 0, .int .i64 0, .int .i64 0, .int .i64 0] 58)) [.int .i64 0, .int .i64 0, .int .i64 0, .int .i64 0] 58
  rw [hsz] at b0
  have hn := nodeA (h.step k0) t
  rw [he] at hn
  generalize ndAt ds t = d at hn
  obtain ⟨dop, dn, dstr, dl⟩ := d
  simp only [RdN] at hn
  go_enter Tryd.func31, Tryd.ntmps31
  go_wp2_with fail
  generalize (w.alloc (.cells #[.int .i64 0, .int .i64 0, .int .i64 0, .int .i64 0] 58)).alloc (.cells #[.int .i64 0, .int .i64 0, .int .i64 0, .int .i64 0] 58) = w1 at k0 a0 b0 hn ⊢
  refine hn.mono ?_
  clear hn h
  rintro e w2 ⟨v2, rfl, ⟨lv2, rfl, hrd⟩, k2⟩
  obtain ⟨xa, xc, rfl, hx1, hx2, hx3⟩ := hrd.len
  have k3 : Kept w2 (w2.alloc (.cells #[.int .i64 dop, .int .i64 dn, .string (strB dstr), .slice xa dl.length xc] 56)) := (Kept.refl w2).alloc _
  have k02 := (k0.trans k2).trans k3
  have a2 := (a0.kept k2).kept k3
  have b2 := (b0.kept k2).kept k3
  have n2 := Blk.new w2 [.int .i64 dop, .int .i64 dn, .string (strB dstr), .slice xa dl.length xc] 56
  have r2 := hrd.kept k3
  have hlt2 : w.heap.size + 1 < w2.heap.size := (b0.kept k2).lt
  have c0 := b2.cell 0
  have c1 := b2.cell 1
  have c2 := b2.cell 2
  have c3 := b2.cell 3
  have n0 := n2.cell 0
  have n3 := n2.cell 3
  have f0 := a2.frozen 0
  have f1 := a2.frozen 1
  have f2 := a2.frozen 2
  have f3 := a2.frozen 3
  simp only [List.getElem?_cons_succ, List.getElem?_cons_zero] at c0 c1 c2 c3 n0 n3
  clear a0 b0 hrd
  go_upto_region 4 with fail
  generalize w2.alloc (.cells #[.int .i64 dop, .int .i64 dn, .string (strB dstr), .slice xa dl.length xc] 56) = w3 at *
  go_step
  refine wpList_load_row rfl 58 (.tmp 8) rfl (w.heap.size + 1) rfl _ _ _ _ b2 Tryd.underlying58 rfl (by kernel_rfl) ?_
  refine wpList_store_row rfl 58 (.tmp 6) (.tmp 25) rfl w.heap.size _ rfl rfl _ _ a2 (by kernel_rfl) rfl (ones4 _ _ _ _) ?_
  rw [setRow_self w3 _ _ _ _ a2]
  go_wp2
  refine bodyPost_ret (v := .tuple #[.agg #[.int .i64 0, .int .i64 0, .int .i64 0, .int .i64 0], .bool false]) ?_ rfl ?_
  · have hr : Tryd.f31.results = #[.cell 6 58, .tmp 7] := rfl
    have hl := run_loadVar_row (P := Tryd.prog) w3 w.heap.size _ 58 _ _ _ a2 Tryd.underlying58 rfl (by kernel_rfl)
    simp [results, hr, asAddr, hl]
  · exact ⟨rfl, k02⟩

set_option maxHeartbeats 4000000 in
set_option maxRecDepth 100000 in
theorem parts_no2 {w0 : World} {S : Nat → Prop} {w : World} {p : Value} {ds : List Nd} (h : At w0 S w p ds) {op t : Int} (he : ndE ds t = 0) (ho : ¬ (ndAt ds t).op = op) :
    Calls Tryd.prog 31 #[p, .int .i64 op, .int .i64 t] w fun e w' => e = .returned (.tuple #[.agg #[.int .i64 0, .int .i64 0, .int .i64 0, .int .i64 0], .bool false]) ∧ Kept w w' := by
  have k0 : Kept w ((w.alloc (.cells #[.int .i64 0, .int .i64 0, .int .i64 0, .int .i64 0] 58)).alloc (.cells #[.int .i64 0, .int .i64 0, .int .i64 0, .int .i64 0] 58)) := ((Kept.refl w).alloc _).alloc _
  have hsz := alloc_size w (.cells #[.int .i64 0, .int .i64 0, .int .i64 0, .int .i64 0] 58)
  have a0 : Blk ((w.alloc (.cells #[.int .i64 0, .int .i64 0, .int .i64 0, .int .i64 0] 58)).alloc (.cells #[.int .i64 0, .int .i64 0, .int .i64 0, .int .i64 0] 58)) w.heap.size 58 [.int .i64 0, .int .i64 0, .int .i64 0, .int .i64 0] :=
    (Blk.new w [.int .i64 0, .int .i64 0, .int .i64 0, .int .i64 0] 58).kept ((Kept.refl _).alloc _)
  have b0 := Blk.new (w.alloc (.cells #[.int .i64 0, .int .i64 0, .int .i64 0, .int .i64 0] 58)) [.int .i64 0, .int .i64 0, .int .i64 0, .int .i64 0] 58
  rw [hsz] at b0
  have hn := nodeA (h.step k0) t
  rw [he] at hn
  generalize ndAt ds t = d at hn ho
  obtain ⟨dop, dn, dstr, dl⟩ := d
  simp only [RdN] at hn ho
  have ho2 : (dop != op) = true := by simpa using ho
  clear ho
  go_enter Tryd.func31, Tryd.ntmps31
  go_wp2_with fail
  generalize (w.alloc (.cells #[.int .i64 0, .int .i64 0, .int .i64 0, .int .i64 0] 58)).alloc (.cells #[.int .i64 0, .int .i64 0, .int .i64 0, .int .i64 0] 58) = w1 at k0 a0 b0 hn ⊢
  refine hn.mono ?_
  clear hn h
  rintro e w2 ⟨v2, rfl, ⟨lv2, rfl, hrd⟩, k2⟩
  obtain ⟨xa, xc, rfl, hx1, hx2, hx3⟩ := hrd.len
  have k3 : Kept w2 (w2.alloc (.cells #[.int .i64 dop, .int .i64 dn, .string (strB dstr), .slice xa dl.length xc] 56)) := (Kept.refl w2).alloc _
  have k02 := (k0.trans k2).trans k3
  have a2 := (a0.kept k2).kept k3
  have b2 := (b0.kept k2).kept k3
  have n2 := Blk.new w2 [.int .i64 dop, .int .i64 dn, .string (strB dstr), .slice xa dl.length xc] 56
  have r2 := hrd.kept k3
  have hlt2 : w.heap.size + 1 < w2.heap.size := (b0.kept k2).lt
  have c0 := b2.cell 0
  have c1 := b2.cell 1
  have c2 := b2.cell 2
  have c3 := b2.cell 3
  have n0 := n2.cell 0
  have n3 := n2.cell 3
  have f0 := a2.frozen 0
  have f1 := a2.frozen 1
  have f2 := a2.frozen 2
  have f3 := a2.frozen 3
  simp only [List.getElem?_cons_succ, List.getElem?_cons_zero] at c0 c1 c2 c3 n0 n3
  clear a0 b0 hrd
  go_upto_region 4 with fail
  generalize w2.alloc (.cells #[.int .i64 dop, .int .i64 dn, .string (strB dstr), .slice xa dl.length xc] 56) = w3 at *
  go_step
  refine wpList_load_row rfl 58 (.tmp 8) rfl (w.heap.size + 1) rfl _ _ _ _ b2 Tryd.underlying58 rfl (by kernel_rfl) ?_
  refine wpList_store_row rfl 58 (.tmp 6) (.tmp 25) rfl w.heap.size _ rfl rfl _ _ a2 (by kernel_rfl) rfl (ones4 _ _ _ _) ?_
  rw [setRow_self w3 _ _ _ _ a2]
  go_wp2
  refine bodyPost_ret (v := .tuple #[.agg #[.int .i64 0, .int .i64 0, .int .i64 0, .int .i64 0], .bool false]) ?_ rfl ?_
  · have hr : Tryd.f31.results = #[.cell 6 58, .tmp 7] := rfl
    have hl := run_loadVar_row (P := Tryd.prog) w3 w.heap.size _ 58 _ _ _ a2 Tryd.underlying58 rfl (by kernel_rfl)
    simp [results, hr, asAddr, hl]
  · exact ⟨rfl, k02⟩

set_option maxHeartbeats 4000000 in
set_option maxRecDepth 100000 in
theorem parts_yes {w0 : World} {S : Nat → Prop} {w : World} {p : Value} {ds : List Nd} (h : At w0 S w p ds) {op t : Int} (he : ndE ds t = 0) (ho : (ndAt ds t).op = op) {y0 y1 y2 y3 : Int} (hy : (((ndAt ds t).l ++ [0, 0, 0, 0]).take 4) = [y0, y1, y2, y3]) :
    Calls Tryd.prog 31 #[p, .int .i64 op, .int .i64 t] w fun e w' => e = .returned (.tuple #[.agg #[.int .i64 y0, .int .i64 y1, .int .i64 y2, .int .i64 y3], .bool true]) ∧ Kept w w' := by
  have k0 : Kept w ((w.alloc (.cells #[.int .i64 0, .int .i64 0, .int .i64 0, .int .i64 0] 58)).alloc (.cells #[.int .i64 0, .int .i64 0, .int .i64 0, .int .i64 0] 58)) := ((Kept.refl w).alloc _).alloc _
  have hsz := alloc_size w (.cells #[.int .i64 0, .int .i64 0, .int .i64 0, .int .i64 0] 58)
  have a0 : Blk ((w.alloc (.cells #[.int .i64 0, .int .i64 0, .int .i64 0, .int .i64 0] 58)).alloc (.cells #[.int .i64 0, .int .i64 0, .int .i64 0, .int .i64 0] 58)) w.heap.size 58 [.int .i64 0, .int .i64 0, .int .i64 0, .int .i64 0] :=
    (Blk.new w [.int .i64 0, .int .i64 0, .int .i64 0, .int .i64 0] 58).kept ((Kept.refl _).alloc _)
  have b0 := Blk.new (w.alloc (.cells #[.int .i64 0, .int .i64 0, .int .i64 0, .int .i64 0] 58)) [.int .i64 0, .int .i64 0, .int .i64 0, .int .i64 0] 58
  rw [hsz] at b0
  have hn := nodeA (h.step k0) t
  rw [he] at hn
  generalize ndAt ds t = d at hn ho hy
  obtain ⟨dop, dn, dstr, dl⟩ := d
  simp only [RdN] at hn ho hy
  subst ho
  go_enter Tryd.func31, Tryd.ntmps31
  go_wp2_with fail
  generalize (w.alloc (.cells #[.int .i64 0, .int .i64 0, .int .i64 0, .int .i64 0] 58)).alloc (.cells #[.int .i64 0, .int .i64 0, .int .i64 0, .int .i64 0] 58) = w1 at k0 a0 b0 hn ⊢
  refine hn.mono ?_
  clear hn h
  rintro e w2 ⟨v2, rfl, ⟨lv2, rfl, hrd⟩, k2⟩
  obtain ⟨xa, xc, rfl, hx1, hx2, hx3⟩ := hrd.len
  have k3 : Kept w2 (w2.alloc (.cells #[.int .i64 dop, .int .i64 dn, .string (strB dstr), .slice xa dl.length xc] 56)) := (Kept.refl w2).alloc _
  have k02 := (k0.trans k2).trans k3
  have a2 := (a0.kept k2).kept k3
  have b2 := (b0.kept k2).kept k3
  have n2 := Blk.new w2 [.int .i64 dop, .int .i64 dn, .string (strB dstr), .slice xa dl.length xc] 56
  have r2 := hrd.kept k3
  have hlt2 : w.heap.size + 1 < w2.heap.size := (b0.kept k2).lt
  have c0 := b2.cell 0
  have c1 := b2.cell 1
  have c2 := b2.cell 2
  have c3 := b2.cell 3
  have n0 := n2.cell 0
  have n3 := n2.cell 3
  have f0 := a2.frozen 0
  have f1 := a2.frozen 1
  have f2 := a2.frozen 2
  have f3 := a2.frozen 3
  simp only [List.getElem?_cons_succ, List.getElem?_cons_zero] at c0 c1 c2 c3 n0 n3
  clear a0 b0 hrd
  have hl63 : ((dl.length : Nat) : Int) ≤ 9223372036854775807 := by unfold maxLen at hx2; omega
  go_upto_region 5 with fail
  generalize w2.alloc (.cells #[.int .i64 dop, .int .i64 dn, .string (strB dstr), .slice xa dl.length xc] 56) = w3 at *
  go_still_tail 3, (by kernel_rfl)
  change wpList _ _ _ _ _ w3.drew
  refine wpList_copy_splice rfl (.tmp 26) (.tmp 28) 26 26 rfl 3 Tryd.underlying26 (by kernel_rfl) (some ⟨w.heap.size + 1, 0, none⟩) xa 4 4 dl.length xc rfl rfl (w.heap.size + 1) 0 [.int .i64 0, .int .i64 0, .int .i64 0, .int .i64 0] 58 b2 ((dl.take 4).map (Value.int .i64)) (by rw [List.length_map, List.length_take, Nat.min_comm]) ?pos (by simp; omega) (ones_int .i64 _) (w.heap.size + 1) w3 ((Below.refl _ _).drew) (Nat.le_refl _) ?go
  case pos =>
    intro hp
    refine ⟨rfl, ?_⟩
    obtain ⟨ao, cap, hv, hl, hc, hm, hno, hcell⟩ := r2
    simp only [Value.slice.injEq] at hv
    obtain ⟨rfl, _, rfl⟩ := hv
    cases xa with
    | none => have := hno rfl; simp at hp; omega
    | some ad => exact ⟨ad, rfl, fun j v hj => hcell ad rfl j v (by
        rw [List.map_take, List.getElem?_take] at hj
        split at hj
        · exact hj
        · cases hj)⟩
  case go =>
    intro w4 hh4 hb4
    have b4 : Blk w4 (w.heap.size + 1) 58 [.int .i64 y0, .int .i64 y1, .int .i64 y2, .int .i64 y3] := by
      have := hh4
      rw [splice4, hy] at this
      exact this
    have a4 := a2.below hb4 (Nat.lt_succ_self _)
    have k04 := k02.below hb4 (Nat.le_succ _)
    clear hh4 hb4 r2 n2 a2 b2 c0 c1 c2 c3 n0 n3 f0 f1 f2 f3
    go_upto_region 6 with fail
    go_step
    refine wpList_load_row rfl 58 (.tmp 8) rfl (w.heap.size + 1) rfl _ _ _ _ b4 Tryd.underlying58 rfl (by kernel_rfl) ?_
    refine wpList_store_row rfl 58 (.tmp 6) (.tmp 30) rfl w.heap.size _ rfl rfl _ _ a4 (by kernel_rfl) rfl (ones4 _ _ _ _) ?_
    have a5 := setRow_heap w4 w.heap.size _ #[.int .i64 y0, .int .i64 y1, .int .i64 y2, .int .i64 y3] _ _ a4
    have k05 : Kept w (w4.setRow w.heap.size #[.int .i64 y0, .int .i64 y1, .int .i64 y2, .int .i64 y3]) := below_setRow k04 (Nat.le_refl _) _
    generalize w4.setRow w.heap.size #[.int .i64 y0, .int .i64 y1, .int .i64 y2, .int .i64 y3] = w5 at a5 k05 ⊢
    go_wp2
    refine bodyPost_ret (v := .tuple #[.agg #[.int .i64 y0, .int .i64 y1, .int .i64 y2, .int .i64 y3], .bool true]) ?_ rfl ?_
    · have hr : Tryd.f31.results = #[.cell 6 58, .tmp 7] := rfl
      have hl := run_loadVar_row (P := Tryd.prog) w5 w.heap.size _ 58 _ _ _ a5 Tryd.underlying58 rfl (by kernel_rfl)
      simp [results, hr, asAddr, hl]
    · exact ⟨rfl, k05⟩

theorem partsA {w0 : World} {S : Nat → Prop} {w : World} {p : Value} {ds : List Nd} (h : At w0 S w p ds) (op t : Int) :
    Calls Tryd.prog 31 #[p, .int .i64 op, .int .i64 t] w fun e w' => e = .returned (.tuple #[arr4 (partsL ds op t), .bool (partsB ds op t)]) ∧ Kept w w' := by
  cases hb : partsB ds op t with
  | false =>
    rw [partsL_no hb]
    rcases partsB_cases hb with he | ⟨he, ho⟩
    · exact parts_no1 h he
    · exact parts_no2 h he ho
  | true =>
    rw [partsL_yes hb]
    obtain ⟨he, ho⟩ := partsB_true hb
    have h4 := four (ndAt ds t).l
    generalize hy : ((ndAt ds t).l ++ [0, 0, 0, 0]).take 4 = y at h4
    match y, h4 with
    | [a, b, c, d], _ => exact parts_yes h he ho hy
end Go.Proofs.YtihagkeljhgomaaDoor

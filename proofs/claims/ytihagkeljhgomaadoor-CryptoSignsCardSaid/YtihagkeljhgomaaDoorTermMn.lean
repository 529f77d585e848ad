/- Walks: Node. -/
import Derived.Test.YtihagkeljhgomaaDoorTermE
import Derived.Test.YtihagkeljhgomaaDoorTermB
import Derived.Test.YtihagkeljhgomaaDoorTermNp
set_option linter.unusedSimpArgs false
set_option linter.unusedVariables false
namespace Go.Proofs.YtihagkeljhgomaaDoor
open Go.RowKit Go.Maps

set_option maxHeartbeats 4000000 in
set_option maxRecDepth 100000 in
theorem node_any {F : Nat → Prop} {w : World} {p : Value} {ds : List Nd} (h : Ar F w p ds) (t : Int) :
    Calls Tryd.prog 40 #[p, .int .i64 t] w fun e w' => ∃ v, e = .returned (.tuple #[v, .int .i64 (ndE ds t)]) ∧ RdN w' v (ndAt ds t) ∧ Kept w w' := by
  have HH := Shut.mk h
  by_cases hin : 0 ≤ t ∧ t < ds.length
  · have hE : ndE ds t = 0 := by unfold ndE; rw [if_pos hin]
    have hN : ndAt ds t = ds.getD t.toNat nd0 := by unfold ndAt; rw [if_pos hin]
    rw [hE, hN]
    clear hE hN
    obtain ⟨t0, t1⟩ := hin
    obtain ⟨j, rfl⟩ := Int.eq_ofNat_of_zero_le t0
    have hjl : j < ds.length := by omega
    rw [Int.toNat_natCast]
    obtain ⟨pb, mb, nv, rfl, q0, q1, hns⟩ := ArG.nodes h
    obtain ⟨nb, noff, ncap, lvs, rfl, _, _, hnb, hnc, hnl⟩ := hns.addr (by omega)
    obtain ⟨y0, y1, y2, y3⟩ := hnc j hjl
    have hlr := hnl j hjl
    have hll := (h.good.may' hjl).len64
    have hq := World.block_lt_of_cell? _ _ q0
    clear hnc hns h hnl
    generalize ds.getD j nd0 = d at y0 y1 y2 y3 hlr hll ⊢
    obtain ⟨op, n, s, l⟩ := d
    simp only at y0 y1 y2 y3 hlr hll ⊢
    obtain ⟨la, lc, hlv, l1, l2, l3⟩ := hlr.len
    rw [hlv] at y3 hlr
    clear hlv
    go_enter Tryd.func40, Tryd.ntmps40
    go_wp2_with (first | (go_at_call 41; refine (arg_has_t (ArG.kept HH.out ((Kept.refl w).alloc _)) t0 t1).mono ?_; rintro e w' ⟨rfl, rfl⟩) | fail)
    have k1 : Kept w ((w.alloc (.cells #[.int .i64 0, .int .i64 0, .string ⟨#[]⟩, .slice none 0 0] 56)).alloc (.cells #[.int .i64 op, .int .i64 n, .string (strB s), .slice la l.length lc] 56)) := ((Kept.refl w).alloc _).alloc _
    have hsz := alloc_size w (.cells #[.int .i64 0, .int .i64 0, .string ⟨#[]⟩, .slice none 0 0] 56)
    have a1 : Blk ((w.alloc (.cells #[.int .i64 0, .int .i64 0, .string ⟨#[]⟩, .slice none 0 0] 56)).alloc (.cells #[.int .i64 op, .int .i64 n, .string (strB s), .slice la l.length lc] 56)) w.heap.size 56 [.int .i64 0, .int .i64 0, .string ⟨#[]⟩, .slice none 0 0] :=
      (Blk.new w [.int .i64 0, .int .i64 0, .string ⟨#[]⟩, .slice none 0 0] 56).kept ((Kept.refl _).alloc _)
    have b1 := Blk.new (w.alloc (.cells #[.int .i64 0, .int .i64 0, .string ⟨#[]⟩, .slice none 0 0] 56)) [.int .i64 op, .int .i64 n, .string (strB s), .slice la l.length lc] 56
    rw [hsz] at b1
    generalize (w.alloc (.cells #[.int .i64 0, .int .i64 0, .string ⟨#[]⟩, .slice none 0 0] 56)).alloc (.cells #[.int .i64 op, .int .i64 n, .string (strB s), .slice la l.length lc] 56) = w1 at k1 a1 b1 ⊢
    refine (clone_any (hlr.kept k1) (by omega)).mono ?_
    rintro e w2 ⟨v2, rfl, o2, k2⟩
    obtain ⟨a2, cap2, rfl, _, _, _⟩ := (OwnI.rd o2).len
    have a2' := a1.kept k2
    have b2 := b1.kept k2
    have c20 := b2.cell 0
    have c21 := b2.cell 1
    have c22 := b2.cell 2
    have c23 := b2.cell 3
    have f23 := b2.frozen 3
    have d20 := a2'.cell 0
    have d21 := a2'.cell 1
    have d22 := a2'.cell 2
    have d23 := a2'.cell 3
    have g20 := a2'.frozen 0
    have g21 := a2'.frozen 1
    have g22 := a2'.frozen 2
    have g23 := a2'.frozen 3
    simp only [List.getElem?_cons_succ, List.getElem?_cons_zero] at c20 c21 c22 c23 d20 d21 d22 d23
    go_wp2
    have e1 : OwnI w1.heap.size (w2.setCell ⟨w.heap.size + 1, 3, none⟩ (.slice a2 l.length cap2)) (.slice a2 l.length cap2) l := Ownv.setCell o2 (Ownv.notBlk o2 b2 (by decide)) _
    have f1 : Blk (w2.setCell ⟨w.heap.size + 1, 3, none⟩ (.slice a2 l.length cap2)) w.heap.size 56 [.int .i64 0, .int .i64 0, .string ⟨#[]⟩, .slice none 0 0] := a2'.turn (turn_setCell _ _ _) (fun e => by simp at e)
    have k3 : Kept w (w2.setCell ⟨w.heap.size + 1, 3, none⟩ (.slice a2 l.length cap2)) := (k1.trans k2).setCell (by simp) _
    generalize w2.setCell ⟨w.heap.size + 1, 3, none⟩ (.slice a2 l.length cap2) = w3 at e1 f1 k3 ⊢
    have f5 := (((f1.set 0 (.int .i64 op)).set 1 (.int .i64 n)).set 2 (.string (strB s))).set 3 (.slice a2 l.length cap2)
    have e5 := Ownv.setCell (Ownv.setCell (Ownv.setCell (Ownv.setCell e1 (ad := ⟨w.heap.size, 0, none⟩) (Ownv.notBlk e1 f1 (by decide)) (.int .i64 op)) (ad := ⟨w.heap.size, 1, none⟩) (Ownv.notBlk e1 f1 (by decide)) (.int .i64 n)) (ad := ⟨w.heap.size, 2, none⟩) (Ownv.notBlk e1 f1 (by decide)) (.string (strB s))) (ad := ⟨w.heap.size, 3, none⟩) (Ownv.notBlk e1 f1 (by decide)) (.slice a2 l.length cap2)
    have k5 : Kept w ((((w3.setCell ⟨w.heap.size, 0, none⟩ (.int .i64 op)).setCell ⟨w.heap.size, 1, none⟩ (.int .i64 n)).setCell ⟨w.heap.size, 2, none⟩ (.string (strB s))).setCell ⟨w.heap.size, 3, none⟩ (.slice a2 l.length cap2)) := (((k3.setCell (Nat.le_refl _) _).setCell (Nat.le_refl _) _).setCell (Nat.le_refl _) _).setCell (Nat.le_refl _) _
    generalize (((w3.setCell ⟨w.heap.size, 0, none⟩ (.int .i64 op)).setCell ⟨w.heap.size, 1, none⟩ (.int .i64 n)).setCell ⟨w.heap.size, 2, none⟩ (.string (strB s))).setCell ⟨w.heap.size, 3, none⟩ (.slice a2 l.length cap2) = w5 at f5 e5 k5 ⊢
    have c0 := f5.cell 0
    have c1 := f5.cell 1
    have c2 := f5.cell 2
    have c3 := f5.cell 3
    simp only [List.set_cons_succ, List.set_cons_zero, List.getElem?_cons_succ, List.getElem?_cons_zero] at c0 c1 c2 c3
    refine bodyPost_ret (v := .tuple #[.agg #[.int .i64 op, .int .i64 n, .string (strB s), .slice a2 l.length cap2], .int .i64 0]) ?_ rfl ?_
    · have hr : Tryd.f40.results = #[.cell 4 56, .tmp 5] := rfl
      simp [results, hr]
      go_simp
    · exact ⟨_, rfl, ⟨_, rfl, OwnI.rd e5⟩, k5⟩
  · have hE : ndE ds t = 4 := by unfold ndE; rw [if_neg hin]
    have hN : ndAt ds t = nd0 := by unfold ndAt; rw [if_neg hin]
    rw [hE, hN]
    clear hE hN h
    go_enter Tryd.func40, Tryd.ntmps40
    go_wp2_with (go_at_call 41; refine (arg_has_f (ArG.kept HH.out ((Kept.refl w).alloc _)) hin).mono ?_; rintro e w' ⟨rfl, rfl⟩)
    have hb := Blk.new w [.int .i64 0, .int .i64 0, .string ⟨#[]⟩, .slice none 0 0] 56
    have c0 := hb.cell 0
    have c1 := hb.cell 1
    have c2 := hb.cell 2
    have c3 := hb.cell 3
    simp only [List.getElem?_cons_succ, List.getElem?_cons_zero] at c0 c1 c2 c3
    refine bodyPost_ret (v := .tuple #[.agg #[.int .i64 0, .int .i64 0, .string ⟨#[]⟩, .slice none 0 0], .int .i64 4]) ?_ rfl ?_
    · have hr : Tryd.f40.results = #[.cell 4 56, .tmp 5] := rfl
      simp [results, hr]
      go_simp
    · exact ⟨_, rfl, ⟨_, rfl, RdI.nil _⟩, (Kept.refl w).alloc _⟩

end Go.Proofs.YtihagkeljhgomaaDoor

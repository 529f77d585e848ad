/- The document's terms: Node. -/
import Derived.Test.YtdhdgbihalfgeaaDoorRefO
import Derived.Test.YtdhdgbihalfgeaaDoorTermM
set_option linter.unusedSimpArgs false
set_option linter.unusedVariables false
namespace Go.Proofs.YtdhdgbihalfgeaaDoor
open Go.RowKit Go.Maps

set_option maxHeartbeats 4000000 in
set_option maxRecDepth 100000 in
theorem nodeR_any {F : Nat → Prop} {w : World} {p : Value} {ds : List Nd} (h : ArR F w p ds) (t : Int) :
    Calls Tryd.prog 18 #[p, .int .i64 t] w fun e w' => ∃ v, e = .returned (.tuple #[v, .int .i64 (ndE ds t)]) ∧ RdN w' v (ndAt ds t) ∧ Kept w w' := by
  have HH := Shut.mk h
  obtain ⟨pb, mb, nv, rfl, q0, q1, hns⟩ := ArG.nodes h
  have hq := World.block_lt_of_cell? _ _ q0
  have q0a : ∀ ob, (w.alloc ob).cell? ⟨pb, 0, none⟩ = some nv := fun ob => by rw [World.cell?_alloc_past _ _ _ hq]; exact q0
  by_cases hin : 0 ≤ t ∧ t < ds.length
  · have hE : ndE ds t = 0 := by unfold ndE; rw [if_pos hin]
    have hN : ndAt ds t = ds.getD t.toNat nd0 := by unfold ndAt; rw [if_pos hin]
    rw [hE, hN]
    clear hE hN
    obtain ⟨t0, t1⟩ := hin
    obtain ⟨j, rfl⟩ := Int.eq_ofNat_of_zero_le t0
    have hjl : j < ds.length := by omega
    rw [Int.toNat_natCast]
    obtain ⟨nb, noff, ncap, lvs, rfl, _, _, hnb, hnc, hnl⟩ := hns.addr (by omega)
    obtain ⟨y0, y1, y2, y3⟩ := hnc j hjl
    have hlr := hnl j hjl
    clear hnc hns h hnl
    generalize ds.getD j nd0 = d at y0 y1 y2 y3 hlr ⊢
    obtain ⟨op, n, s, l⟩ := d
    simp only at y0 y1 y2 y3 hlr ⊢
    obtain ⟨la, lc, hlv, l1, l2, l3⟩ := hlr.len
    rw [hlv] at y3 hlr
    clear hlv
    have z0 : ∀ ob, (w.alloc ob).cell? ⟨nb, noff + j * 4, none⟩ = some (.int .i64 op) := fun ob => by rw [World.cell?_alloc_past _ _ _ hnb]; exact y0
    have z1 : ∀ ob, (w.alloc ob).cell? ⟨nb, noff + j * 4 + 1, none⟩ = some (.int .i64 n) := fun ob => by rw [World.cell?_alloc_past _ _ _ hnb]; exact y1
    have z2 : ∀ ob, (w.alloc ob).cell? ⟨nb, noff + j * 4 + 2, none⟩ = some (.string (strB s)) := fun ob => by rw [World.cell?_alloc_past _ _ _ hnb]; exact y2
    have z3 : ∀ ob, (w.alloc ob).cell? ⟨nb, noff + j * 4 + 3, none⟩ = some (.slice la l.length lc) := fun ob => by rw [World.cell?_alloc_past _ _ _ hnb]; exact y3
    go_enter Tryd.func18, Tryd.ntmps18
    go_wp2
    refine bodyPost_ret (v := .tuple #[.agg #[.int .i64 op, .int .i64 n, .string (strB s), .slice la l.length lc], .int .i64 0]) ?_ rfl ?_
    · have hr : Tryd.f18.results = #[.cell 4 31, .tmp 5] := rfl
      simp [results, hr]
      go_simp
    · exact ⟨_, rfl, ⟨_, rfl, hlr.kept ((Kept.refl w).alloc _)⟩, (Kept.refl w).alloc _⟩
  · have hE : ndE ds t = 4 := by unfold ndE; rw [if_neg hin]
    have hN : ndAt ds t = nd0 := by unfold ndAt; rw [if_neg hin]
    rw [hE, hN]
    obtain ⟨na, ncap, rfl, _, _, _⟩ := hns.len
    clear hE hN h hns
    have hb := Blk.new w [.int .i64 0, .int .i64 0, .string ⟨#[]⟩, .slice none 0 0] 31
    have c0 := hb.cell 0
    have c1 := hb.cell 1
    have c2 := hb.cell 2
    have c3 := hb.cell 3
    simp only [List.getElem?_cons_succ, List.getElem?_cons_zero] at c0 c1 c2 c3
    by_cases t0 : t < 0
    · go_enter Tryd.func18, Tryd.ntmps18
      go_wp2
      refine bodyPost_ret (v := .tuple #[.agg #[.int .i64 0, .int .i64 0, .string ⟨#[]⟩, .slice none 0 0], .int .i64 4]) ?_ rfl ?_
      · have hr : Tryd.f18.results = #[.cell 4 31, .tmp 5] := rfl
        simp [results, hr]
        go_simp
      · exact ⟨_, rfl, ⟨_, rfl, RdI.nil _⟩, (Kept.refl w).alloc _⟩
    · have t1 : (ds.length : Int) ≤ t := by omega
      clear hin
      go_enter Tryd.func18, Tryd.ntmps18
      go_wp2
      refine bodyPost_ret (v := .tuple #[.agg #[.int .i64 0, .int .i64 0, .string ⟨#[]⟩, .slice none 0 0], .int .i64 4]) ?_ rfl ?_
      · have hr : Tryd.f18.results = #[.cell 4 31, .tmp 5] := rfl
        simp [results, hr]
        go_simp
      · exact ⟨_, rfl, ⟨_, rfl, RdI.nil _⟩, (Kept.refl w).alloc _⟩
end Go.Proofs.YtdhdgbihalfgeaaDoor

/- The document's terms: Size, Atoms. -/
import Derived.Test.YtdhdgbihalfgeaaDoorRefQ
set_option linter.unusedSimpArgs false
set_option linter.unusedVariables false
namespace Go.Proofs.YtdhdgbihalfgeaaDoor
open Go.RowKit Go.Maps

theorem sizeR {F : Nat → Prop} {w : World} {p : Value} {ds : List Nd} (h : ArR F w p ds) {t : Int} (ht : I64 t) :
    Calls Tryd.prog 23 #[p, .int .i64 t] w fun e w' => e = .returned (.int .i64 (sizeT ds t)) ∧ Kept w w' := by
  go_enter Tryd.func23, Tryd.ntmps23
  go_wp2_with fail
  refine (partsR_any h ht).mono ?_
  rintro e w' ⟨v, zs, rfl, hr, hp, hl, hk⟩
  have hz := Shut.mk (sizeT_eq h.good hp)
  obtain ⟨a, c, rfl, _, _, _⟩ := hr.len
  go_wp2
  go_ret
  exact ⟨by rw [← hz.out]; rfl, hk⟩

/-- The atoms among the first k of some terms. -/
def AtomsOf (ds : List Nd) (ks : List Int) (k : Nat) (zs : List Int) : Prop := ∀ n, n ∈ zs ↔ ∃ j, j < k ∧ (ds.getD (ks.getD j 0).toNat nd0).op = 1 ∧ (ds.getD (ks.getD j 0).toNat nd0).n = n
theorem AtomsOf.skip {ds : List Nd} {ks zs : List Int} {k : Nat} (h : AtomsOf ds ks k zs) (ho : (ds.getD (ks.getD k 0).toNat nd0).op ≠ 1) : AtomsOf ds ks (k + 1) zs := fun n => by
  rw [h n]
  constructor
  · rintro ⟨j, h1, h2⟩; exact ⟨j, by omega, h2⟩
  · rintro ⟨j, h1, h2, h3⟩
    by_cases c : j = k
    · subst c; exact absurd h2 ho
    · exact ⟨j, by omega, h2, h3⟩
theorem AtomsOf.snoc {ds : List Nd} {ks zs : List Int} {k : Nat} (h : AtomsOf ds ks k zs) (ho : (ds.getD (ks.getD k 0).toNat nd0).op = 1) : AtomsOf ds ks (k + 1) (zs ++ [(ds.getD (ks.getD k 0).toNat nd0).n]) := fun n => by
  rw [List.mem_append, h n, List.mem_singleton]
  constructor
  · rintro (⟨j, h1, h2⟩ | rfl)
    · exact ⟨j, by omega, h2⟩
    · exact ⟨k, by omega, ho, rfl⟩
  · rintro ⟨j, h1, h2, h3⟩
    by_cases c : j = k
    · subst c; exact .inr h3.symm
    · exact .inl ⟨j, by omega, h2, h3⟩
theorem AtomsOf.fin {ds : List Nd} {ks zs us : List Int} {t : Int} (h : AtomsOf ds ks ks.length zs) (hp : Parts ds t ks) (hu : us.Pairwise (· < ·)) (hm : ∀ n, n ∈ us ↔ n ∈ zs) : Atoms ds t us := by
  refine ⟨hu, fun n => ?_⟩
  rw [hm n, h n]
  constructor
  · rintro ⟨j, h1, h2, h3⟩
    exact ⟨_, (hp.2 _).1 (mem_getD h1), h2, h3⟩
  · rintro ⟨x, h1, h2, h3⟩
    obtain ⟨j, hj, e⟩ := List.mem_iff_getElem.1 ((hp.2 x).2 h1)
    have e2 : ks.getD j 0 = x := by rw [List.getD_eq_getElem?_getD, List.getElem?_eq_getElem hj, Option.getD_some, e]
    exact ⟨j, hj, by rw [e2]; exact h2, by rw [e2]; exact h3⟩

set_option maxHeartbeats 8000000 in
set_option maxRecDepth 100000 in
theorem atomsR {F : Nat → Prop} {w : World} {p : Value} {ds : List Nd} (h : ArR F w p ds) {t : Int} (ht64 : I64 t) :
    Calls Tryd.prog 26 #[p, .int .i64 t] w fun e w' => ∃ (v : Value) (l : List Int), e = .returned v ∧ RdI w' v l ∧ Atoms ds t l ∧ Kept w w' := by
  have HH := Shut.mk h
  have hfew := h.few
  have hpr := partsR_any h ht64
  obtain ⟨pb, mb, nv, rfl, q0, q1, hns⟩ := ArG.nodes h
  obtain ⟨na, ncap, rfl, n1, n2, n3⟩ := hns.len
  clear h
  go_enter Tryd.func26, Tryd.ntmps26
  go_wp2_with fail
  refine hpr.mono ?_
  rintro e w1 ⟨kv, ks, rfl, hr, hp, hl, k1⟩
  obtain ⟨ka, kc, rfl, _, _, _⟩ := hr.len
  have HP := Shut.mk hp
  have k63 : ((ks.length : Nat) : Int) ≤ 9223372036854775807 := by omega
  clear hp hpr
  go_wp2
  go_loopw [5, 12] (fun ov i wx => ∃ (k : Nat) (zs : List Int), k ≤ ks.length ∧ i = .int .i64 k ∧ OwnI w1.heap.size wx ov zs ∧ Shut (AtomsOf ds ks k zs) ∧ zs.length ≤ k ∧ Kept w1 wx) (fun _ i _ => ks.length - (intOf i).toNat)
  case atStart => exact ⟨0, [], Nat.zero_le _, rfl, OwnI.nil _ _, ⟨fun n => ⟨(fun h => by cases h), fun ⟨j, h, _⟩ => absurd h (Nat.not_lt_zero _)⟩⟩, Nat.le_refl _, Kept.refl _⟩
  case round =>
    obtain ⟨k, zs, hkl, rfl, hoi, HA, hzl, hk⟩ := hrel
    by_cases hlt : k < ks.length
    · obtain ⟨rb, ro, rc, hrv, _, _, hrb, hcell⟩ := hr.addr (by omega)
      simp only [Value.slice.injEq] at hrv
      obtain ⟨rfl, hdrop, rfl⟩ := hrv
      clear hdrop
      have hcw : wr.cell? ⟨rb, ro + k, none⟩ = some (.int .i64 (ks.getD k 0)) := hk.cell (p := ⟨rb, ro + k, none⟩) hrb |>.trans (hcell k hlt)
      clear hcell
      have hxb := ((HP.out.2 _).1 (mem_getD hlt)).bound HH.out.good
      have hsk := fun ho => HA.out.skip (k := k) ho
      have hsn := fun ho => HA.out.snoc (k := k) ho
      have HSK := Shut.mk hsk
      have HSN := Shut.mk hsn
      clear hsk hsn
      generalize ks.getD k 0 = x at hcw hxb HSK HSN
      obtain ⟨y, rfl⟩ := Int.eq_ofNat_of_zero_le hxb.1
      have hyd : y < ds.length := by omega
      have hyd' : (y : Int) < (ds.length : Int) := by omega
      rw [Int.toNat_natCast] at HSK HSN
      have kw := k1.trans hk
      have z := kw.cell (p := ⟨pb, 0, none⟩) (World.block_lt_of_cell? _ _ q0) |>.trans q0
      obtain ⟨nb, noff, ncap', lvs, hnv, _, _, hnb, hnc, _⟩ := hns.addr (by omega)
      simp only [Value.slice.injEq] at hnv
      obtain ⟨rfl, hdrop, rfl⟩ := hnv
      clear hdrop
      obtain ⟨y0, y1, _, _⟩ := hnc y hyd
      have z0 := kw.cell (p := ⟨nb, noff + y * 4, none⟩) hnb |>.trans y0
      have z1 := kw.cell (p := ⟨nb, noff + y * 4 + 1, none⟩) hnb |>.trans y1
      clear hnc y0 y1
      generalize ds.getD y nd0 = d at z0 z1 HSK HSN
      by_cases ho : d.op = 1
      · have hb := (show (d.op == 1) = true by simpa using ho)
        have HO := Shut.mk ho
        clear ho
        have ka := (Kept.refl wr).alloc (.cells #[.int .i64 d.n] 3)
        go_wp2_with (at_builtin; refine go_appi w1.heap.size _ zs rfl (Ownv.kept hoi ((Kept.refl _).alloc _)) _ [d.n] rfl (OwnI.rd (OwnI.lit1 _ d.n)) (by simp; omega) (Nat.le_trans hk.size ((Kept.refl _).alloc _).size) ?_; intro v6 w6 o6 t6 l6)
        go_roundw
        case rel => exact ⟨k + 1, _, hlt, rfl, o6, ⟨HSN.out HO.out⟩, by simp; omega, Turn.keptOf (hk.trans ka) t6 (fun b hb => (Ownv.lt hoi hb).2)⟩
        case measure => simp [intOf]; omega
      · have hb := ne_beq ho
        have HO := Shut.mk ho
        clear ho
        go_wp2
        go_roundw
        case rel => exact ⟨k + 1, zs, hlt, rfl, hoi, ⟨HSK.out HO.out⟩, by omega, hk⟩
        case measure => simp [intOf]; omega
    · obtain rfl : k = ks.length := by omega
      obtain ⟨za, zc, rfl, _, _, _⟩ := hoi.rd.len
      go_wp2_with fail
      refine (rising_any hoi.rd (by omega)).mono ?_
      rintro e w2 ⟨uv, us, rfl, ru, hus, hum, k2⟩
      have hat := HA.out.fin HP.out hus hum
      obtain ⟨ua, uc, rfl, _, _, _⟩ := ru.len
      go_wp2
      go_ret
      exact ⟨_, us, rfl, ru, hat, (k1.trans hk).trans k2⟩
end Go.Proofs.YtdhdgbihalfgeaaDoor

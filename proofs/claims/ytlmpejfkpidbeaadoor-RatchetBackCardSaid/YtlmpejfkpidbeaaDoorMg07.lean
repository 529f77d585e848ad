/- Texts of one proof, put together: RpL. -/
import Derived.Test.YtlmpejfkpidbeaaDoorMg06
import Derived.Deep.RegionLaw
section
/- Walks of the program's ratchet: what Add does at each node above the new leaf. -/
set_option linter.unusedSimpArgs false
set_option linter.unusedVariables false
namespace Go.Proofs.YtlmpejfkpidbeaaDoor
open Go.RowKit
open Rt

/-- The Unmerged of one node is grown. -/
theorem OwnT.step5 {B g cap : Nat} {w w1 w2 w3 : World} {ds : List TN} {lvs : List Value} (h : OwnT B w (.slice (some ⟨g, 0, none⟩) ds.length cap) ds lvs) {x : Nat} (hx : x < ds.length)
    (k1 : Kept w w1) (t2 : Turn (Blks (lvs.getD x undef)) w1 w2) (k3 : Kept w2 w3) {u : Value} {us : List Int} (hu : OwnI B w2 u us) (hub : ∀ b, Blks u b → Blks (lvs.getD x undef) b ∨ w1.heap.size ≤ b) :
    OwnT B (w3.setCell ⟨g, x * 6 + 5, none⟩ u) (.slice (some ⟨g, 0, none⟩) ds.length cap) (ds.set x { nd ds x with un := us }) (lvs.set x u) := by
  have hB : B ≤ g ∧ g < w.heap.size := by have := Ownv.lt h.row (b := g) rfl; omega
  have hsz : w.heap.size ≤ w2.heap.size := Nat.le_trans k1.size t2.size
  have hgx : ¬ Blks (lvs.getD x undef) g := fun hb => Ownv.apart (h.un x hx) h.row (by decide) hb rfl
  have hrow : Ownv B 32 6 w3 (.slice (some ⟨g, 0, none⟩) ds.length cap) ds.length (tflat ds lvs) := Ownv.kept (Ownv.turn (Ownv.kept h.row k1) t2 (fun b hb => by
    have e : g = b := Option.some.inj (show some g = some b from hb)
    rw [← e]; exact hgx)) k3
  have hug : ¬ Blks u g := fun hb => (hub g hb).elim hgx (fun h => by have := k1.size; omega)
  have hint : ∀ {v : Value} {zs : List Int}, OwnI B w v zs → (∀ b, Blks v b → ¬ Blks (lvs.getD x undef) b) → OwnI B (w3.setCell ⟨g, x * 6 + 5, none⟩ u) v zs := fun ho hn =>
    Ownv.setCell (ad := ⟨g, x * 6 + 5, none⟩) (Ownv.kept (Ownv.turn (Ownv.kept ho k1) t2 hn) k3) (fun hb => Ownv.apart ho h.row (by decide) hb rfl) u
  have hlx : x < lvs.length := by rw [h.len]; exact hx
  have hap : ∀ i, i < ds.length → i ≠ x → ∀ b, Blks u b → ¬ Blks (lvs.getD i undef) b := fun i hi hne b hb hb2 => (hub b hb).elim (fun q => h.apart x i hx hi (Ne.symm hne) b q hb2) (fun q => by
    have := (Ownv.lt (h.un i hi) hb2).1
    have := k1.size
    omega)
  refine ⟨?_, by simp [h.len], fun i hi => ?_, fun i j hi hj hij b hb hb2 => ?_⟩
  · rw [List.length_set, ← tflat_set5 h.len hx us u]
    exact hrow.put (by omega) u
  · rw [List.length_set] at hi
    rw [nd_set hx, lv_set hlx]
    by_cases c : i = x
    · rw [if_pos c, if_pos c]
      exact Ownv.setCell (Ownv.kept hu k3) hug u
    · rw [if_neg c, if_neg c]
      exact hint (h.un i hi) (h.apart i x hi hx c)
  · rw [List.length_set] at hi hj
    rw [lv_set hlx] at hb hb2
    by_cases c : i = x
    · rw [if_pos c] at hb
      rw [if_neg (by omega)] at hb2
      exact hap j hj (by omega) b hb hb2
    · rw [if_neg c] at hb
      by_cases c2 : j = x
      · rw [if_pos c2] at hb2
        exact hap i hi c b hb2 hb
      · rw [if_neg c2] at hb2
        exact h.apart i j hi hj hij b hb hb2
/-- The node at x has the leaf i as not merged, if it is a Parent. -/
def adN (ds : List TN) (x i : Nat) : TN := if (nd ds x).kd = 2 then { nd ds x with un := ins i (nd ds x).un } else nd ds x
def Ad1Post (B g cap : Nat) (W : World) (us : List TN) (ls : List Value) (x i : Nat) (e : Ending) (w' : World) : Prop :=
  e = .returned (.tuple #[]) ∧ ∃ us' ls', OwnT B w' (.slice (some ⟨g, 0, none⟩) us.length cap) us' ls' ∧ us'.length = us.length ∧ (∀ y, y < us.length → nd us' y = if y = x then adN us x i else nd us y) ∧ (∀ y, y ≠ x → ls'.getD y undef = ls.getD y undef) ∧ Turn (fun b => b = g ∨ Blks (ls.getD x undef) b) W w'
set_option maxHeartbeats 8000000 in
set_option maxRecDepth 100000 in
theorem pad1_any {B g cap bu bi x i : Nat} {W : World} {us : List TN} {ls : List Value} (ho : OwnT B W (.slice (some ⟨g, 0, none⟩) us.length cap) us ls) (hb : Blk W bu 22 [.slice (some ⟨g, 0, none⟩) us.length cap]) (hi : Blk W bi 3 [.int .i64 i])
    (hx : x < us.length) (hl : us.length ≤ 600) (hun : (nd us x).kd = 2 → (nd us x).un.Pairwise (· < ·) ∧ (nd us x).un.length ≤ 1000 ∧ (i : Int) ∉ (nd us x).un) (hbi : ∀ b, Blks (ls.getD x undef) b → b ≠ bi) :
    Calls Tryd.prog 50 #[.int .i64 x, .pointer (some ⟨bu, 0, none⟩), .pointer (some ⟨bi, 0, none⟩)] W (Ad1Post B g cap W us ls x i) := by
  have d1 := hb.cell 0
  have d4 := hi.cell 0
  simp only [List.getElem?_cons_zero] at d1 d4
  have hat := fun j hj => (tflat_at us ls x j hx hj)
  have c0 := Ownv.cell0 ho.row (x * 6) ((hat 0 (by omega)).trans rfl)
  have c5 := Ownv.cell0 ho.row (x * 6 + 5) ((hat 5 (by omega)).trans rfl)
  have f5 := Ownv.free ho.row (x * 6 + 5)
  have hox := ho.un x hx
  have x0 : (0 : Int) ≤ (x : Int) := by omega
  have x1 : (x : Int) < (us.length : Int) := by omega
  have x2 : (us.length : Int) ≤ 600 := by omega
  clear hat
  cases hk : ((nd us x).kd == 2) with
  | false =>
    have hk2 : ¬ (nd us x).kd = 2 := by simpa using hk
    have HK := Shut.mk hk2
    have HO := Lib.hid ho
    clear hk2 ho hun hbi hb hi
    generalize (nd us x).kd = kd at c0 hk
    go_enter Tryd.func50, Tryd.ntmps50
    go_wp2
    go_end0
    exact ⟨rfl, us, ls, HO.out, rfl, fun y hy => by
      unfold adN
      by_cases c : y = x
      · rw [if_pos c, if_neg HK.out, c]
      · rw [if_neg c], fun y _ => rfl, Turn.refl _ _⟩
  | true =>
    have hk2 : (nd us x).kd = 2 := by simpa using hk
    obtain ⟨hp, hul, hni⟩ := hun hk2
    have HK := Shut.mk hk2
    have HBS := Lib.hid (fun n => Calls.quiet_of (pbs_any ((OwnI.rd hox).kept ((Kept.refl W).drewN n)) hp (by omega) (i : Int)))
    generalize hlv : ls.getD x undef = lv at c5 hox hbi HBS
    generalize hunx : (nd us x).un = un at hp hul hni hox HBS
    have HLv := Shut.mk hlv
    have HUnx := Shut.mk hunx
    have HO := Lib.hid ho
    have HB := Lib.hid hb
    have HI := Lib.hid hi
    have HP := Shut.mk hp
    have HNi := Shut.mk hni
    have HOX := Lib.hid hox
    have HBI := Lib.hid hbi
    have hkd2 : ((nd us x).kd == 2) = true := hk
    generalize decide ((i : Int) ∈ un) = uu at HBS
    clear hk2 hun hp hni hlv hunx hb hi hbi
    obtain ⟨la, lc, rfl, _, _, _⟩ := (OwnI.rd hox).len
    generalize (nd us x).kd = kd at c0 hk hkd2
    clear ho hox
    go_enter Tryd.func50, Tryd.ntmps50
    go_wp2
    go_quiet ((go_at_call 51; exact HBS.out _))
    have kq : Kept W (W.drewN nq) := (Kept.refl W).drewN nq
    generalize W.drewN nq = W2 at kq ⊢
    clear d1 d4 c5 f5 c0 hk hkd2
    have hox := Ownv.kept HOX.out kq
    have d1 := (HB.out.kept kq).cell 0
    have d4 := (HI.out.kept kq).cell 0
    simp only [List.getElem?_cons_zero] at d1 d4
    have c5 := Ownv.cell0 (HO.out.kept kq).row (x * 6 + 5) ((tflat_at us ls x 5 hx (by omega)).trans rfl)
    have f5 := Ownv.free (HO.out.kept kq).row (x * 6 + 5)
    rw [HLv.out] at c5
    have kL : Kept W2 (W2.alloc (.cells #[.int .i64 (i : Int)] 3)) := (Kept.refl W2).alloc _
    have bL : Blk (W2.alloc (.cells #[.int .i64 (i : Int)] 3)) W2.heap.size 3 [.int .i64 (i : Int)] := Blk.new W2 [.int .i64 (i : Int)] 3
    have hBW : B ≤ W2.heap.size := by have := Ownv.lt HO.out.row (b := g) rfl; have := kq.size; omega
    have hin : ∀ W', Kept (W2.alloc (.cells #[.int .i64 (i : Int)] 3)) W' → Calls Tryd.prog 52 #[.slice la un.length lc, .int .i64 (un.countP (· < (i : Int)) : Nat), .slice (some ⟨W2.heap.size, 0, none⟩) 1 1] W' (InsPost B W' (.slice la un.length lc) (ins i un)) := fun W' kW =>
      pins_any (Ownv.kept hox (kL.trans kW)) HP.out HNi.out hul (bL.kept kW) (fun b hb => by have := (Ownv.lt hox hb).1; omega) (Nat.le_trans hBW (kL.trans kW).size)
    have HFin := Lib.hid (fun (W' w4 w5 : World) (u : Value) (q1 : Kept W2 W') (t4 : Turn (Blks (.slice la un.length lc)) W' w4) (o4 : OwnI B w4 u (ins i un)) (b4 : ∀ b, Blks u b → Blks (.slice la un.length lc) b ∨ W'.heap.size ≤ b) (q5 : Kept w4 w5) =>
      (show Ad1Post B g cap W us ls x i (.returned (.tuple #[])) (w5.setCell ⟨g, x * 6 + 5, none⟩ u) from
        ⟨rfl, _, _, by
          have := HO.out.step5 hx (kq.trans q1) (by rw [HLv.out]; exact t4) q5 o4 (by rw [HLv.out]; exact b4)
          exact this, by rw [List.length_set], fun y hy => by
          rw [nd_set hx]
          unfold adN
          by_cases c : y = x
          · rw [if_pos c, if_pos c, if_pos HK.out, HUnx.out]
          · rw [if_neg c, if_neg c], fun y hy => by rw [lv_set (by rw [HO.out.len]; exact hx), if_neg hy],
          Turn.trans (Turn.trans ((kq.trans q1).turn _) t4 (fun b hb => .inl (.inr (by rw [HLv.out]; exact hb)))) (Turn.trans (q5.turn _) (turn_setCell w5 ⟨g, x * 6 + 5, none⟩ u) (fun b e => .inl e)) (fun b e => .inl (.inl e))⟩))
    have HS0 := Lib.hid (fun (W' : World) (q1 : Kept W2 W') =>
      (show W'.cell? ⟨bu, 0, none⟩ = some (.slice (some ⟨g, 0, none⟩) us.length cap) ∧ W'.cell? ⟨bi, 0, none⟩ = some (.int .i64 (i : Int)) ∧ W'.cell? ⟨g, x * 6 + 5, none⟩ = some (.slice la un.length lc) ∧ W'.frozen? ⟨g, x * 6 + 5, none⟩ = false from by
        have hrow := Ownv.kept (HO.out.kept kq).row q1
        refine ⟨by rw [((HB.out.kept kq).kept q1).cell 0]; rfl, by rw [((HI.out.kept kq).kept q1).cell 0]; rfl, ?_, Ownv.free hrow _⟩
        have := Ownv.cell0 hrow (x * 6 + 5) ((tflat_at us ls x 5 hx (by omega)).trans rfl)
        rwa [HLv.out] at this))
    have HS4 := Lib.hid (fun (W' w3 w4 : World) (q1 : Kept W2 W') (t4 : Turn (Blks (.slice la un.length lc)) W' w3) (q5 : Kept w3 w4) =>
      (show w4.cell? ⟨bu, 0, none⟩ = some (.slice (some ⟨g, 0, none⟩) us.length cap) ∧ w4.cell? ⟨bi, 0, none⟩ = some (.int .i64 (i : Int)) ∧ w4.cell? ⟨g, x * 6 + 5, none⟩ = some (.slice la un.length lc) ∧ w4.frozen? ⟨g, x * 6 + 5, none⟩ = false from by
        have hbu := (Blk.turn ((HB.out.kept kq).kept q1) t4 (fun hb => Ownv.notBlk (Ownv.kept hox q1) ((HB.out.kept kq).kept q1) (by decide) hb)).kept q5
        have hbi := (Blk.turn ((HI.out.kept kq).kept q1) t4 (fun hb => HBI.out _ hb rfl)).kept q5
        have hrow := Ownv.kept (Ownv.turn (Ownv.kept (HO.out.kept kq).row q1) t4 (fun b hb hb2 => Ownv.apart (Ownv.kept hox q1) (Ownv.kept (HO.out.kept kq).row q1) (by decide) hb2 hb)) q5
        refine ⟨by rw [hbu.cell 0]; rfl, by rw [hbi.cell 0]; rfl, ?_, Ownv.free hrow _⟩
        have := Ownv.cell0 hrow (x * 6 + 5) ((tflat_at us ls x 5 hx (by omega)).trans rfl)
        rwa [HLv.out] at this))
    have HT0 := Lib.hid (fun (W' : World) (q1 : Kept W2 W') => And.intro (HS0.out W' q1).1 (HS0.out W' q1).2.1)
    have HT4 := Lib.hid (fun (W' w3 w4 : World) (q1 : Kept W2 W') (t4 : Turn (Blks (.slice la un.length lc)) W' w3) (q5 : Kept w3 w4) => And.intro (HS4.out W' w3 w4 q1 t4 q5).1 (HS4.out W' w3 w4 q1 t4 q5).2.1)
    have hgu : g ≠ bu := fun e => by
      subst e
      exact Ownv.notBlk HO.out.row HB.out (by decide) rfl
    have hgi : g ≠ bi := fun e => by
      subst e
      exact Ownv.notBlk HO.out.row HI.out (by decide) rfl
    have HT5 := Lib.hid (fun (w5 : World) (u : Value) (h : w5.cell? ⟨bu, 0, none⟩ = some (.slice (some ⟨g, 0, none⟩) us.length cap) ∧ w5.cell? ⟨bi, 0, none⟩ = some (.int .i64 (i : Int))) =>
      (show (w5.setCell ⟨g, x * 6 + 5, none⟩ u).cell? ⟨bu, 0, none⟩ = some (.slice (some ⟨g, 0, none⟩) us.length cap) ∧ (w5.setCell ⟨g, x * 6 + 5, none⟩ u).cell? ⟨bi, 0, none⟩ = some (.int .i64 (i : Int)) from
        ⟨(World.cell?_setCell_other _ _ _ _ (fun e => by first | exact hgu (congrArg Addr.block e) | exact hgu (congrArg Addr.block e).symm)).trans h.1, (World.cell?_setCell_other _ _ _ _ (fun e => by first | exact hgi (congrArg Addr.block e) | exact hgi (congrArg Addr.block e).symm)).trans h.2⟩))
    clear hox bL hgu hgi
    generalize List.countP (fun z => decide (z < (i : Int))) un = cp at hin ⊢
    have HIn := Lib.hid hin
    clear hin hBW hl hx f5
    have c5L := (HS0.out _ kL).2.2.1
    have c5M := (HS0.out _ kL.drew).2.2.1
    have d1L := (HS0.out _ kL).1
    have d1M := (HS0.out _ kL.drew).1
    have d4L := (HS0.out _ kL).2.1
    have d4M := (HS0.out _ kL.drew).2.1
    go_wp2_with fail
    go_region_with
      ((go_at_call 52; (with_reducible refine (HIn.out _ (by first | exact Kept.refl _ | exact (Kept.refl _).drew | exact (Kept.refl _).drewN _)).mono ?_); rintro e w4 ⟨v4, rfl, o4, t4, b4⟩; obtain ⟨va, vc, rfl, _, _, _⟩ := (OwnI.rd o4).len; have hfin := fun w5 => HFin.out _ _ w5 _ (by first | exact kL | exact kL.drew | exact kL.drewN _) t4 o4 b4; have s4 := fun w5 => HT4.out _ _ w5 (by first | exact kL | exact kL.drew | exact kL.drewN _) t4; have c41 := (s4 _ (Kept.refl _)).1; have c42 := (s4 _ (Kept.refl _)).2; have c54 := (HS4.out _ _ _ (by first | exact kL | exact kL.drew | exact kL.drewN _) t4 (Kept.refl _)).2.2.1; have f54 := (HS4.out _ _ _ (by first | exact kL | exact kL.drew | exact kL.drewN _) t4 (Kept.refl _)).2.2.2))
    all_goals
      go_wp2
      go_end0
      exact hfin w4 (Kept.refl _)
end Go.Proofs.YtlmpejfkpidbeaaDoor
end

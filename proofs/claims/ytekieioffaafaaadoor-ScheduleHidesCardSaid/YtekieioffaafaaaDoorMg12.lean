/- Texts of one proof, put together: DedD, DedE, DedF, DedG, DedI, DedJ, DedK, DedL, DedN, DedO, DedR, DedW. -/
import Derived.Test.YtekieioffaafaaaDoorMg11
import Derived.DeepKeys4
import Derived.Test.YtekieioffaafaaaDoorMg14
import Derived.Test.YtekieioffaafaaaDoorMg01
import Derived.Test.YtekieioffaafaaaDoorMg03
import Derived.Deep.RegionHeld3
import Derived.RangeFuncBox
import Derived.RangeFuncLeaves
import Derived.RangeFuncNested
import Derived.Shelf.Abstract
import Derived.OwnWalkIn
import Derived.TacticsInMore
import Derived.LoopNIn
import Derived.LoopIn
section
/- Pairs of numbers as keys; the Sigs that there are, in a map. -/
set_option linter.unusedSimpArgs false
set_option linter.unusedVariables false
set_option maxRecDepth 100000
namespace Go.Proofs.YtekieioffaafaaaDoor
open Go.RowKit Go.Maps

/-- What the map of the Sigs says, behind j terms. -/
def SigD (ds : List Nd) (j : Nat) (D : DataW Unit) : Prop :=
  (∀ t : Nat, t < j → t < ds.length → (ds.getD t nd0).op = 10 → Maps.has D (.string (k2 ((ds.getD t nd0).l.getD 0 0) ((ds.getD t nd0).l.getD 1 0))) = true ∧ D.atKey (.string (k2 ((ds.getD t nd0).l.getD 0 0) ((ds.getD t nd0).l.getD 1 0))) (.lit (.int .i64 0)) = .lit (.int .i64 t)) ∧
  ∀ s, Maps.has D (.string s) = true → ∃ t : Nat, t < j ∧ t < ds.length ∧ (ds.getD t nd0).op = 10 ∧ k2 ((ds.getD t nd0).l.getD 0 0) ((ds.getD t nd0).l.getD 1 0) = s
theorem SigD.nil (ds : List Nd) : SigD ds 0 (.map []) := ⟨fun t h => absurd h (Nat.not_lt_zero _), fun s hs => by simp [Maps.has] at hs⟩
theorem SigD.skip {ds : List Nd} {j : Nat} {D : DataW Unit} (h : SigD ds j D) (ho : (ds.getD j nd0).op ≠ 10) : SigD ds (j + 1) D :=
  ⟨fun t ht hl hop => h.1 t (by
    rcases Nat.lt_or_ge t j with c | c
    · exact c
    · obtain rfl : t = j := by omega
      exact absurd hop ho) hl hop, fun s hs => by
    obtain ⟨t, a, b⟩ := h.2 s hs
    exact ⟨t, by omega, b⟩⟩
theorem sig_parts64 {ds : List Nd} (hg : Good ds) (hl : ds.length ≤ 100000) {t : Nat} (ht : t < ds.length) (ho : (ds.getD t nd0).op = 10) : (ds.getD t nd0).l.length = 2 ∧ I64 ((ds.getD t nd0).l.getD 0 0) ∧ I64 ((ds.getD t nd0).l.getD 1 0) := by
  have h2 := (hg.may' ht).p2 (.inl ho)
  have h3 := hg.lesser ht
  have a := h3 _ (getD_mem (l := (ds.getD t nd0).l) (i := 0) (by omega))
  have b := h3 _ (getD_mem (l := (ds.getD t nd0).l) (i := 1) (by omega))
  exact ⟨h2, ⟨by omega, by omega⟩, ⟨by omega, by omega⟩⟩
theorem SigD.add {ds : List Nd} (hg : Good ds) (hl : ds.length ≤ 100000) {j : Nat} {D : DataW Unit} (h : SigD ds j D) (hm : Maps.IsMap D) (hj : j < ds.length) (ho : (ds.getD j nd0).op = 10) :
    SigD ds (j + 1) (D.put (.string (k2 ((ds.getD j nd0).l.getD 0 0) ((ds.getD j nd0).l.getD 1 0))) (.lit (.int .i64 j))) := by
  have hk : ∀ s, WideAt.IsKeyLit (.string s) := fun s => by first | trivial | exact (by decide) | simp [WideAt.IsKeyLit]
  have hinj : ∀ t, t < ds.length → (ds.getD t nd0).op = 10 → k2 ((ds.getD t nd0).l.getD 0 0) ((ds.getD t nd0).l.getD 1 0) = k2 ((ds.getD j nd0).l.getD 0 0) ((ds.getD j nd0).l.getD 1 0) → t = j := by
    intro t ht hop e
    obtain ⟨a1, a2, a3⟩ := sig_parts64 hg hl ht hop
    obtain ⟨b1, b2, b3⟩ := sig_parts64 hg hl hj ho
    obtain ⟨e1, e2⟩ := k2_inj a2 a3 b2 b3 e
    have s1 := hg.sigEq (t := (t : Int)) ⟨by omega, by omega⟩ (by rw [nd_of]; exact hop)
    have s2 := hg.sigEq (t := (j : Int)) ⟨by omega, by omega⟩ (by rw [nd_of]; exact ho)
    rw [nd_of] at s1 s2
    exact hg.once t j ht hj (by rw [s1, s2, e1, e2])
  refine ⟨fun t ht htl hop => ?_, fun s hs => ?_⟩
  · by_cases c : t = j
    · subst c
      exact ⟨has_put_same hm (hk _) _, atKey_put_same hm (hk _) _ _⟩
    · obtain ⟨h1, h2⟩ := h.1 t (by omega) htl hop
      have hn : (Lit.string (k2 ((ds.getD t nd0).l.getD 0 0) ((ds.getD t nd0).l.getD 1 0))) ≠ Lit.string (k2 ((ds.getD j nd0).l.getD 0 0) ((ds.getD j nd0).l.getD 1 0)) := fun e => c (hinj t htl hop (by injection e))
      exact ⟨by rw [has_put_other hn]; exact h1, by rw [atKey_put_other hn]; exact h2⟩
  · by_cases c : s = k2 ((ds.getD j nd0).l.getD 0 0) ((ds.getD j nd0).l.getD 1 0)
    · exact ⟨j, by omega, hj, ho, c.symm⟩
    · rw [has_put_other (fun e => c (by injection e))] at hs
      obtain ⟨t, a, b⟩ := h.2 s hs
      exact ⟨t, by omega, b⟩
/-- What it says at a pair. -/
theorem SigD.at {ds : List Nd} (hg : Good ds) (hl : ds.length ≤ 100000) {D : DataW Unit} (h : SigD ds ds.length D) {k m : Int} (hk : I64 k) (hm : I64 m) :
    (sigAt ds k m = none ∧ Maps.has D (.string (k2 k m)) = false) ∨ ∃ s : Nat, sigAt ds k m = some (s : Int) ∧ s < ds.length ∧ Maps.has D (.string (k2 k m)) = true ∧ D.atKey (.string (k2 k m)) (.lit (.int .i64 0)) = .lit (.int .i64 s) := by
  cases hs : sigAt ds k m with
  | some s =>
    obtain ⟨h1, h2⟩ := sig_some hs
    obtain ⟨n, rfl, hn⟩ := isT_nat h1
    rw [nd_of] at h2
    have := h.1 n hn hn (by rw [h2])
    rw [h2] at this
    exact .inr ⟨n, rfl, hn, this⟩
  | none =>
    refine .inl ⟨rfl, ?_⟩
    cases hh : Maps.has D (.string (k2 k m)) with
    | false => rfl
    | true =>
      obtain ⟨t, _, ht, hop, e⟩ := h.2 _ hh
      obtain ⟨a1, a2, a3⟩ := sig_parts64 hg hl ht hop
      obtain ⟨e1, e2⟩ := k2_inj a2 a3 hk hm e
      have := hg.sigAt_eq (t := (t : Int)) ⟨by omega, by omega⟩ (by rw [nd_of]; exact hop)
      rw [nd_of, e1, e2, hs] at this
      cases this

def SigM (w : World) (mb : Nat) (ds : List Nd) (j : Nat) : Prop := ∃ (n : Nat) (D : DataW Unit), w.ownsMap Tryd.prog 73 (plainElem Tryd.prog 3) mb n D ∧ n ≤ j ∧ SigD ds j D
theorem SigM.lt {w : World} {mb : Nat} {ds : List Nd} {j : Nat} (h : SigM w mb ds j) : mb < w.heap.size := by
  obtain ⟨n, D, ⟨es, clock, hb, _⟩, _⟩ := h
  exact (Array.getElem?_eq_some_iff.1 hb).1
theorem SigM.turn {F : Nat → Prop} {w w' : World} {mb : Nat} {ds : List Nd} {j : Nat} (h : SigM w mb ds j) (k : Turn F w w') (hn : ¬ F mb) : SigM w' mb ds j := by
  obtain ⟨n, D, h1, h2⟩ := h
  exact ⟨n, D, ownsMap_turn h1 k hn, h2⟩
theorem SigM.kept {w w' : World} {mb : Nat} {ds : List Nd} {j : Nat} (h : SigM w mb ds j) (k : Kept w w') : SigM w' mb ds j := h.turn (k.turn (fun _ => False)) id

def SigsPost (w : World) (ds : List Nd) (e : Ending) (w' : World) : Prop := ∃ mb, e = .returned (.map (some mb)) ∧ w.heap.size ≤ mb ∧ SigM w' mb ds ds.length ∧ Kept w w'
set_option maxHeartbeats 4000000 in
theorem sigs_any {w : World} {v : Value} {ds : List Nd} (h : RdNs w v ds) (hg : Good ds) (hl : ds.length ≤ 100000) :
    Calls Tryd.prog 88 #[v] w (SigsPost w ds) := by
  obtain ⟨na, ncap, rfl, n1, n2, _⟩ := h.len
  have n63 : ((ds.length : Nat) : Int) ≤ 9223372036854775807 := by omega
  have hmm := @run_makeMap Tryd.prog
  have m0 : SigM (w.alloc (.map #[] 0)) w.heap.size ds 0 := ⟨0, .map [], World.ownsMap_made w _ _ _, Nat.le_refl _, SigD.nil ds⟩
  have hlaw := pair_keyed
  go_enter Tryd.func88, Tryd.ntmps88
  go_wp2
  go_loopw [9] (fun i wr => ∃ k : Nat, k ≤ ds.length ∧ i = .int .i64 k ∧ SigM wr w.heap.size ds k ∧ Kept w wr) (fun i _ => ds.length - (intOf i).toNat)
  case atStart => exact ⟨0, Nat.zero_le _, rfl, m0, (Kept.refl w).alloc _⟩
  case round =>
    obtain ⟨k, hk0, rfl, hm, hk⟩ := hrel
    by_cases hlt : k < ds.length
    · obtain ⟨nb, noff, ncap', la, lc, hv, hcl, hlr⟩ := h.at hlt
      simp only [Value.slice.injEq] at hv
      obtain ⟨rfl, _, rfl⟩ := hv
      obtain ⟨y0, y1, y2, y3⟩ := hcl wr hk
      clear hcl
      have hsig := sig_parts64 hg hl hlt
      have hadd := fun D => SigD.add hg hl (D := D) (j := k)
      have hskip := fun D => SigD.skip (ds := ds) (D := D) (j := k)
      generalize hd : ds.getD k nd0 = d at y0 y1 y2 y3 hlr hsig hadd hskip
      have HD := Shut.mk hd
      have HA := Shut.mk hadd
      have HS := Shut.mk hskip
      clear hd hadd hskip
      obtain ⟨op, n, s, l⟩ := d
      simp only at y0 y1 y2 y3 hlr hsig HA HS
      generalize strB s = X at y2
      have ka : Kept wr (wr.alloc (.cells #[.int .i64 op, .int .i64 n, .string X, .slice la l.length lc] 64)) := (Kept.refl wr).alloc _
      by_cases ho : op = 10
      · subst ho
        obtain ⟨l2, i0, i1⟩ := hsig rfl
        clear hsig
        obtain ⟨a, b, rfl⟩ : ∃ a b, l = [a, b] := by
          match l, l2 with
          | [a, b], _ => exact ⟨a, b, rfl⟩
        clear l2
        simp only [List.length_cons, List.length_nil, Nat.zero_add, Nat.reduceAdd] at y3 hlr ka
        have i0 : I64 a := i0
        have i1 : I64 b := i1
        obtain ⟨rb, ro, rc, hrv, _, _, hrb, hcl⟩ := hlr.addr (by simp)
        simp only [Value.slice.injEq] at hrv
        obtain ⟨rfl, _, rfl⟩ := hrv
        have x0 : wr.cell? ⟨rb, ro, none⟩ = some (.int .i64 a) := (hk.cell (p := ⟨rb, ro, none⟩) hrb).trans (hcl 0 (by simp))
        have x1 : wr.cell? ⟨rb, ro + 1, none⟩ = some (.int .i64 b) := (hk.cell (p := ⟨rb, ro + 1, none⟩) hrb).trans (hcl 1 (by simp))
        clear hcl
        have HKEY := Shut.mk (keyPair i0 i1)
        go_wp2_with fail
        have bx := Blk.new wr [.int .i64 10, .int .i64 n, .string X, .slice (some ⟨rb, ro, none⟩) 2 lc] 64
        have z0 := ka.cell (p := ⟨rb, ro, none⟩) (World.block_lt_of_cell? _ _ x0) |>.trans x0
        have z1 := ka.cell (p := ⟨rb, ro + 1, none⟩) (World.block_lt_of_cell? _ _ x1) |>.trans x1
        generalize (wr.alloc (.cells #[.int .i64 10, .int .i64 n, .string X, .slice (some ⟨rb, ro, none⟩) 2 lc] 64)) = w1 at ka bx z0 z1 ⊢
        have c3 := bx.cell 3
        simp only [List.getElem?_cons_succ, List.getElem?_cons_zero] at c3
        go_still_tail 11, (by kernel_rfl)
        change wpList _ _ _ _ _ w1.drew
        have kd : Kept wr w1.drew := ka.drew
        generalize w1.drew = w2 at kd ⊢
        obtain ⟨q, D, r1, r2, r3⟩ := hm
        have m7 := ownsMap_kept r1 kd
        have hpe : plainElem Tryd.prog 3 (.int .i64 (k : Int)) = some ((.lit (.int .i64 k) : DataW Unit), []) := plainElem_int Tryd.underlying3 (WalkArith.wf_i64 (by omega))
        have HPE := Shut.mk hpe
        clear hpe
        go_wp2_with (at_mapUpdate; refine wpList_mapUpdate_own _ rfl _ _ _ 138 rfl 73 3 hlaw Tryd.underlying138 (plainElem Tryd.prog 3) w.heap.size q D rfl m7 (by unfold maxLen; omega) _ _ (.string (k2 a b)) rfl rfl HKEY.out (.lit (.int .i64 k)) [] HPE.out ?_; intro w8 own8 hg8)
        go_roundw
        case rel => exact ⟨k + 1, hlt, rfl, ⟨q + 1, _, own8, by omega, HA.out D r3 r1.isMap hlt (by first | exact rfl | exact trivial)⟩, Turn.keptOf (hk.trans kd) (Grown.turn hg8) (fun b hb => Nat.le_of_eq (show w.heap.size = b by simpa using hb.symm))⟩
        case measure => simp [intOf]; omega
      · have hb : (op == 10) = false := by simpa using ho
        have HO := Shut.mk ho
        clear hsig ho
        go_wp2
        go_roundw
        case rel =>
          obtain ⟨q, D, r1, r2, r3⟩ := hm
          exact ⟨k + 1, hlt, rfl, ⟨q, D, ownsMap_kept r1 ka, by omega, HS.out D r3 HO.out⟩, hk.trans ka⟩
        case measure => simp [intOf]; omega
    · obtain rfl : k = ds.length := by omega
      go_wp2
      go_ret
      exact ⟨_, rfl, Nat.le_refl _, hm, hk⟩
end Go.Proofs.YtekieioffaafaaaDoor
end

section
/- sealedTo. -/
set_option linter.unusedSimpArgs false
set_option linter.unusedVariables false
namespace Go.Proofs.YtekieioffaafaaaDoor
open Go.RowKit Go.Maps

theorem RdNs.atT {w : World} {v : Value} {ls : List Nd} (h : RdNs w v ls) {t : Int} (ht : IsT ls t) : ∃ (k : Nat) (nb noff ncap : Nat) (la : Option Addr) (lc : Nat), t = (k : Int) ∧ k < ls.length ∧ v = .slice (some ⟨nb, noff, none⟩) ls.length ncap ∧
    (∀ wr, Kept w wr → wr.cell? ⟨nb, noff + k * 4, none⟩ = some (.int .i64 (nd ls t).op) ∧ wr.cell? ⟨nb, noff + k * 4 + 1, none⟩ = some (.int .i64 (nd ls t).n) ∧ wr.cell? ⟨nb, noff + k * 4 + 2, none⟩ = some (.string (strB (nd ls t).s)) ∧ wr.cell? ⟨nb, noff + k * 4 + 3, none⟩ = some (.slice la (nd ls t).l.length lc)) ∧
    RdI w (.slice la (nd ls t).l.length lc) (nd ls t).l := by
  obtain ⟨k, rfl, hk⟩ := isT_nat ht
  obtain ⟨nb, noff, ncap, la, lc, h1, h2, h3⟩ := h.at hk
  exact ⟨k, nb, noff, ncap, la, lc, rfl, hk, h1, by rw [nd_of]; exact h2, by rw [nd_of]; exact h3⟩
/-- A number of a slice of numbers. -/
theorem RdI.at {w : World} {la : Option Addr} {n lc : Nat} {l : List Int} (h : RdI w (.slice la n lc) l) {i : Nat} (hi : i < l.length) : ∃ rb ro, la = some ⟨rb, ro, none⟩ ∧ ∀ wr, Kept w wr → wr.cell? ⟨rb, ro + i, none⟩ = some (.int .i64 (l.getD i 0)) := by
  obtain ⟨rb, ro, rc, hrv, _, _, hrb, hcl⟩ := h.addr (by omega)
  simp only [Value.slice.injEq] at hrv
  exact ⟨rb, ro, hrv.1, fun wr k => (k.cell (p := ⟨rb, ro + i, none⟩) hrb).trans (hcl i hi)⟩

def SealPost (w : World) (o : Option Int) (e : Ending) (w' : World) : Prop := e = .returned (.tuple #[.int .i64 (o.getD 0), .bool o.isSome]) ∧ Kept w w'
set_option maxHeartbeats 4000000 in
set_option maxRecDepth 100000 in
theorem sealed_any {w : World} {v nv : Value} {ds : List Nd} (h : RdNs w v ds) (hg : Good ds) (hl : ds.length ≤ 100000) {t : Int} (ht : IsT ds t) (hn : RdN w nv (nd ds t)) :
    Calls Tryd.prog 89 #[v, nv] w (SealPost w (sealedTo ds (nd ds t))) := by
  have HM := Shut.mk (hg.mayT ht)
  have HP := Shut.mk (hg.partT ht)
  obtain ⟨lv, rfl, hr⟩ := hn
  have HS : Shut (∀ o, sealedTo ds (nd ds t) = o → o = sealedTo ds (nd ds t)) := ⟨fun o h => h.symm⟩
  have he : ∀ d, sealedTo ds d = if d.op = 8 then (if (nd ds (d.l.getD 0 0)).op = 7 then some ((nd ds (d.l.getD 0 0)).l.getD 0 0) else none) else none := fun d => rfl
  rw [he]
  clear HS he
  generalize nd ds t = d at hr HM HP ⊢
  obtain ⟨op, n, s, l⟩ := d
  simp only at hr HM HP ⊢
  generalize strB s = X
  obtain ⟨la, lc, hlv, l1, l2, l3⟩ := hr.len
  subst hlv
  by_cases ho : op = 8
  · subst ho
    have l4 := HM.out.p4 (.inl rfl)
    simp only at l4
    have hk := HP.out _ (getD_mem (l := l) (i := 0) (by omega))
    obtain ⟨rb, ro, rfl, hx⟩ := hr.at (i := 0) (by omega)
    obtain ⟨k, nb, noff, ncap, pa, pc, hkk, hkl, rfl, hcl, hpr⟩ := h.atT hk
    have HMK := Shut.mk (hg.mayT hk)
    have x0 := fun ob => hx (w.alloc ob) ((Kept.refl w).alloc ob)
    have q : ∀ ob, _ := fun ob => hcl (w.alloc ob) ((Kept.refl w).alloc ob)
    have x1 := fun ob ob' => hx ((w.alloc ob).alloc ob') (((Kept.refl w).alloc ob).alloc ob')
    rw [hkk] at x0
    clear hx hcl
    have HKK := Shut.mk hkk
    clear hkk x1
    generalize hd : nd ds (l.getD 0 0) = p at q hpr HMK
    obtain ⟨pop, pn, ps, pl⟩ := p
    simp only at q hpr HMK
    have q0 := fun ob => (q ob).1
    have q1 := fun ob => (q ob).2.1
    have q2 := fun ob => (q ob).2.2.1
    have q3 := fun ob => (q ob).2.2.2
    clear q
    generalize strB ps = Y at q2
    have HD := Shut.mk hd
    rw [if_pos rfl]
    clear hd
    have l40 : 0 < l.length := by omega
    rw [Nat.add_zero] at x0
    have k63 : (k : Int) < (ds.length : Int) := by omega
    by_cases hp : pop = 7
    · subst hp
      have p1 := HMK.out.p1 (.inl rfl)
      simp only at p1
      obtain ⟨sb, so, rfl, hy⟩ := hpr.at (i := 0) (by omega)
      have y0 := fun ob ob' => hy ((w.alloc ob).alloc ob') (((Kept.refl w).alloc ob).alloc ob')
      rw [Nat.add_zero] at y0
      clear hy
      have p10 : 0 < pl.length := by omega
      go_enter Tryd.func89, Tryd.ntmps89
      go_wp2
      go_ret2
      exact ⟨rfl, ((Kept.refl w).alloc _).alloc _⟩
    · have hb : (pop == 7) = false := by simpa using hp
      have hb2 : (pop != 7) = true := by simpa using hp
      rw [if_neg hp]
      clear hp
      go_enter Tryd.func89, Tryd.ntmps89
      go_wp2
      go_ret2
      exact ⟨rfl, ((Kept.refl w).alloc _).alloc _⟩
  · have hb : (op == 8) = false := by simpa using ho
    have hb2 : (op != 8) = true := by simpa using ho
    rw [if_neg ho]
    clear ho
    go_enter Tryd.func89, Tryd.ntmps89
    go_wp2
    go_ret2
    exact ⟨rfl, (Kept.refl w).alloc _⟩
end Go.Proofs.YtekieioffaafaaaDoor
end

section
/- A rule is told: what derived's second literal does, whole; how large all may be. -/
set_option linter.unusedSimpArgs false
set_option linter.unusedVariables false
namespace Go.Proofs.YtekieioffaafaaaDoor
open Go.RowKit Go.Maps

/-- Behind j rules all is so large at most. -/
structure Fit (n j : Nat) (st : St) : Prop where
  ws : st.ws.length = n
  kn : st.s.1.length = n
  rs : st.rs.length ≤ j
  wf : ∀ y, (st.ws.getD y []).length ≤ 64 * j
  td : st.s.2.length ≤ 64 * j
theorem Fit.tell {n j : Nat} {st : St} (h : Fit n j st) {r : Rl} (h1 : r.src.length ≤ 64) (h2 : r.to.length ≤ 64) : Fit n (j + 1) (tell st r) := by
  unfold YtekieioffaafaaaDoor.tell
  split
  · exact ⟨h.ws, (know_len _ _).trans h.kn, Nat.le_succ_of_le h.rs, fun y => Nat.le_trans (h.wf y) (by omega), Nat.le_trans (know_td st.s r.to) (by have := h.td; omega)⟩
  · refine ⟨by rw [addW_len]; exact h.ws, h.kn, ?_, fun y => ?_, Nat.le_trans h.td (by omega)⟩
    · rw [List.length_append, List.length_singleton]; have := h.rs; omega
    · have := addW_few st.rs.length r.src st.ws y
      have := h.wf y
      simp only
      omega
theorem tell_any {S : Nat → Prop} {w : World} {x : Bx} {st : St} {n j : Nat} (h : DvS S w x st) (hF : Fit n j st) (hj : j ≤ 1000000) {tv fv : Value} {r : Rl} (ht : RdI w tv r.to) (htS : ∀ b, VB tv b → S b) (hf : RdI w fv r.src) (hfS : ∀ b, VB fv b → S b)
    (hfr : ∀ y ∈ r.src, 0 ≤ y ∧ y < (n : Int)) (htr : ∀ y ∈ r.to, 0 ≤ y ∧ y < (n : Int)) (h1 : r.src.length ≤ 64) (h2 : r.to.length ≤ 64) :
    Calls Tryd.prog 81 #[tv, fv, .pointer (some ⟨x.xb, 0, none⟩), .pointer (some ⟨x.wb, 0, none⟩), .pointer (some ⟨x.rb, 0, none⟩)] w (TellPost S w x (tell st r)) := by
  by_cases hr : r.src = []
  · exact tell_none h hr ht htS hf (fun y hy => by rw [hF.kn]; exact htr y hy) (by have := hF.td; omega)
  · exact tell_some h hr ht htS hf hfS (fun y hy => by rw [hF.ws]; exact hfr y hy) (by have := hF.rs; omega) (fun y => by have := hF.wf y; omega) (by omega)

theorem DvS.more {S T : Nat → Prop} {w w' : World} {x : Bx} {st : St} (h : DvS S w x st) (k : Kept w w') (hT : ∀ b, T b → (S b ∨ w.heap.size ≤ b) ∧ b < w'.heap.size) (hx : T x.xb) : DvS T w' x st := by
  obtain ⟨FK, FW, FR, q1, q2, q3, q4, q5, q6⟩ := h.rep
  have t0 : Turn (fun _ => False) w w' := k.turn _
  refine ⟨⟨FK, FW, FR, q1.turn t0 (fun _ _ c => c), q2.turn t0 (fun _ _ c => c), q3.turn t0 (fun _ _ c => c) (fun b c => c.elim) (fun b hb => .inl hb), q4, q5, fun b hb hs => ?_⟩, h.box.kept k, hx, fun b hb => (hT b hb).2⟩
  rcases (hT b hs).1 with c | c
  · exact q6 b hb c
  · rcases hb with d | d | d
    · have := q1.lt b d; omega
    · have := q2.lt b d; omega
    · have := q3.lt b d; omega
theorem DvS.less {S T : Nat → Prop} {w : World} {x : Bx} {st : St} (h : DvS S w x st) (hT : ∀ b, T b → S b) (hx : T x.xb) : DvS T w x st := by
  obtain ⟨FK, FW, FR, q1, q2, q3, q4, q5, q6⟩ := h.rep
  exact ⟨⟨FK, FW, FR, q1, q2, q3, q4, q5, fun b hb hs => q6 b hb (hT b hs)⟩, h.box, hx, fun b hb => h.old b (hT b hb)⟩
/-- S, and what has come since w. -/
def SN (S : Nat → Prop) (w w' : World) : Nat → Prop := fun b => S b ∨ (w.heap.size ≤ b ∧ b < w'.heap.size)
theorem DvS.since {S : Nat → Prop} {w w' : World} {x : Bx} {st : St} (h : DvS S w x st) (k : Kept w w') : DvS (SN S w w') w' x st :=
  h.more k (fun b hb => hb.elim (fun c => ⟨.inl c, Nat.lt_of_lt_of_le (h.old b c) k.size⟩) (fun c => ⟨.inr c.1, c.2⟩)) (.inl h.inS)
/-- Since w0 nothing of it has turned, though all else may have. -/
theorem kept_of {S : Nat → Prop} {w0 w w' : World} (h0 : Kept w0 w) (h : Turn (fun b => ¬ S b) w w') (hb : ∀ b, b < w0.heap.size → S b) : Kept w0 w' :=
  Turn.keptOf h0 h (fun b hn => by
    by_cases c : b < w0.heap.size
    · exact absurd (hb b c) hn
    · omega)
theorem RdI.vb {w : World} {v : Value} {zs : List Int} (h : RdI w v zs) (hp : 0 < zs.length) {b : Nat} (hb : VB v b) : b < w.heap.size := Rdv.lt h (by omega) hb
end Go.Proofs.YtekieioffaafaaaDoor
end

section
/- All rules are told: eachRule; plain facts, and what each round begins with. -/
set_option linter.unusedSimpArgs false
set_option linter.unusedVariables false
namespace Go.Proofs.YtekieioffaafaaaDoor
open Go.RowKit Go.Maps

/-- What is there behind k terms. -/
def stK (ds : List Nd) (st : St) (k : Nat) : St := ((List.range k).flatMap (rulesAt ds)).foldl tell st
theorem stK_succ (ds : List Nd) (st : St) (k : Nat) : stK ds st (k + 1) = (rulesAt ds k).foldl tell (stK ds st k) := by
  unfold stK
  rw [List.range_succ, List.flatMap_append, List.foldl_append]
  simp
theorem stK_zero (ds : List Nd) (st : St) : stK ds st 0 = st := rfl
theorem stK_all (ds : List Nd) (st : St) : stK ds st ds.length = (rules ds).foldl tell st := rfl
theorem openRules_len (ds : List Nd) (t : Int) (d : Nd) : (openRules ds t d).length ≤ 2 := by
  unfold openRules
  split
  · simp
  split
  · split <;> simp
  split
  · simp
  split
  · simp
  split
  · split
    · split <;> simp
    · simp
  · simp
theorem rulesAt_len (ds : List Nd) (t : Nat) : (rulesAt ds t).length ≤ 3 := by
  have := openRules_len ds (t : Int) (ds.getD t nd0)
  unfold rulesAt
  split
  · rw [List.nil_append]; omega
  · rw [List.length_append, List.length_singleton]; omega
theorem rules_len64 {ds : List Nd} (hg : Good ds) {t : Nat} (ht : t < ds.length) : ∀ r ∈ rulesAt ds t, r.src.length ≤ 64 ∧ r.to.length ≤ 64 := by
  have h64 := (hg.may' ht).len64
  intro r hr
  unfold rulesAt at hr
  rcases List.mem_append.1 hr with hr | hr
  · split at hr
    · cases hr
    · obtain rfl := List.mem_singleton.1 hr
      exact ⟨h64, by simp⟩
  · generalize ds.getD t nd0 = d at hr h64
    unfold openRules at hr
    split at hr
    · obtain rfl := List.mem_singleton.1 hr; exact ⟨by simp, h64⟩
    split at hr
    · split at hr
      · obtain rfl := List.mem_singleton.1 hr; exact ⟨by simp, by simp; omega⟩
      · cases hr
    split at hr
    · obtain rfl := List.mem_singleton.1 hr; exact ⟨by simp, by simp; omega⟩
    split at hr
    · obtain rfl := List.mem_singleton.1 hr; exact ⟨by simp, by simp; omega⟩
    split at hr
    · rcases List.mem_cons.1 hr with rfl | hr
      · exact ⟨by simp, by simp; omega⟩
      · split at hr
        · split at hr
          · obtain rfl := List.mem_singleton.1 hr; exact ⟨by simp, by simp⟩
          · cases hr
        · cases hr
    · cases hr
theorem Fit.tells {n : Nat} : ∀ (l : List Rl) {j : Nat} {st : St}, Fit n j st → (∀ r ∈ l, r.src.length ≤ 64 ∧ r.to.length ≤ 64) → Fit n (j + l.length) (l.foldl YtekieioffaafaaaDoor.tell st)
  | [], j, st, h, _ => h
  | r :: l, j, st, h, hl => by
    have h1 := hl r List.mem_cons_self
    have := Fit.tells l (h.tell h1.1 h1.2) (fun x hx => hl x (List.mem_cons_of_mem _ hx))
    rw [List.length_cons, show j + (l.length + 1) = j + 1 + l.length by omega]
    exact this
theorem Fit.mono {n j k : Nat} {st : St} (h : Fit n j st) (hk : j ≤ k) : Fit n k st := ⟨h.ws, h.kn, by have := h.rs; omega, fun y => by have := h.wf y; omega, by have := h.td; omega⟩
theorem fit_stK {ds : List Nd} (hg : Good ds) {st : St} (h : Fit ds.length 0 st) : ∀ k, k ≤ ds.length → Fit ds.length (3 * k) (stK ds st k)
  | 0, _ => h
  | k + 1, hk => by
    rw [stK_succ]
    refine ((fit_stK hg h k (by omega)).tells (rulesAt ds k) (rules_len64 hg (by omega))).mono ?_
    have := rulesAt_len ds k
    omega
theorem lit2 (w : World) (s t : Int) : OwnI 0 (w.alloc (.cells #[.int .i64 s, .int .i64 t] 3)) (.slice (some ⟨w.heap.size, 0, none⟩) 2 2) [s, t] :=
  Ownv.lit (B := 0) 3 (w := w) [.int .i64 s, .int .i64 t] (Nat.zero_le _) (by unfold maxLen; simp)
theorem SN.turn {S : Nat → Prop} {a a' w w' : World} (h : Turn (fun b => ¬ SN S a a' b) w w') : Turn (fun b => ¬ S b) w w' := h.mono fun b hb hs => hb (.inl hs)

/-- What eachRule leaves. -/
def EachPost (S : Nat → Prop) (w : World) (x : Bx) (st : St) (e : Ending) (w' : World) : Prop := e = .returned (.tuple #[]) ∧ DvS S w' x st ∧ Turn (fun b => ¬ S b) w w'
/-- The rest of a round: the term's own rule, and what opens it. -/
structure Rnd (ds : List Nd) (k : Nat) (d : Nd) : Prop where
  eq : ds.getD k nd0 = d
  may : May ds d
  part : ∀ y ∈ d.l, 0 ≤ y ∧ y < (ds.length : Int)
  isT : IsT ds (k : Int)
  nd : nd ds (k : Int) = d
theorem rnd_of {ds : List Nd} (hg : Good ds) {k : Nat} (hk : k < ds.length) : Rnd ds k (ds.getD k nd0) :=
  ⟨rfl, hg.may' hk, fun y hy => by have := hg.lesser hk y hy; omega, ⟨by omega, by omega⟩, nd_of⟩
theorem Rnd.rules {ds : List Nd} {k : Nat} {d : Nd} (h : Rnd ds k d) : rulesAt ds k = (if d.op = 1 then [] else [⟨d.l, [(k : Int)]⟩]) ++ openRules ds k d := by
  unfold rulesAt
  rw [h.eq]
end Go.Proofs.YtekieioffaafaaaDoor
end

section
/- derived's own, read and written step by step. -/
set_option linter.unusedSimpArgs false
set_option linter.unusedVariables false
namespace Go.Proofs.YtekieioffaafaaaDoor
open Go.RowKit Go.Maps

/-- derived's own, with the memory of who waits told. -/
structure DvW (FW S : Nat → Prop) (w : World) (x : Bx) (st : St) : Prop where
  rep : ∃ FK FR : Nat → Prop, KnS FK x.kb x.tb w st.s ∧ WtS FW x.wb w st.ws ∧ RlS (fun b => FK b ∨ FW b ∨ FR b) FR x.rb w st.rs st.ms ∧ (∀ b, FK b → ¬ FW b ∧ ¬ FR b) ∧ (∀ b, FW b → ¬ FR b) ∧ (∀ b, (FK b ∨ FW b ∨ FR b) → ¬ S b)
  box : Blk w x.xb 132 [.func (.func 79) #[] #[.pointer (some ⟨x.kb, 0, none⟩), .pointer (some ⟨x.tb, 0, none⟩)]]
  inS : S x.xb
  old : ∀ b, S b → b < w.heap.size
theorem DvS.fix {S : Nat → Prop} {w : World} {x : Bx} {st : St} (h : DvS S w x st) : ∃ FW, DvW FW S w x st := by
  obtain ⟨FK, FW, FR, q⟩ := h.rep
  exact ⟨FW, ⟨FK, FR, q⟩, h.box, h.inS, h.old⟩
def TellPostW (FW S : Nat → Prop) (w : World) (x : Bx) (st : St) (e : Ending) (w' : World) : Prop := e = .returned (.tuple #[]) ∧ DvW FW S w' x st ∧ Turn (fun b => ¬ S b ∧ ¬ FW b) w w'
theorem DvW.kept {FW S : Nat → Prop} {w w' : World} {x : Bx} {st : St} (h : DvW FW S w x st) (k : Kept w w') : DvW FW S w' x st := by
  obtain ⟨FK, FR, q1, q2, q3, q4, q5, q6⟩ := h.rep
  have t0 : Turn (fun _ => False) w w' := k.turn _
  exact ⟨⟨FK, FR, q1.turn t0 (fun _ _ c => c), q2.turn t0 (fun _ _ c => c), q3.turn t0 (fun _ _ c => c) (fun b c => c.elim) (fun b hb => .inl hb), q4, q5, q6⟩, h.box.kept k, h.inS, fun b hb => Nat.lt_of_lt_of_le (h.old b hb) k.size⟩

/-- What is to be gone through, in memory. -/
theorem DvW.todo {FW S : Nat → Prop} {w : World} {x : Bx} {st : St} (h : DvW FW S w x st) : ∃ tv, w.cell? ⟨x.tb, 0, none⟩ = some tv ∧ w.frozen? ⟨x.tb, 0, none⟩ = false ∧ OwnI 0 w tv st.s.2 := by
  obtain ⟨FK, FR, q1, q2, q3, q4, q5, q6⟩ := h.rep
  obtain ⟨kv, tv, h1, h2, h3, h4, h5, h6, h7, h8⟩ := q1.rep
  exact ⟨tv, h3.cell 0, h3.frozen 0, h4⟩
/-- The last of these is taken off. -/
theorem DvW.pop {FW S : Nat → Prop} {w : World} {x : Bx} {st : St} (h : DvW FW S w x st) {g n cap : Nat} (hn : 0 < n) (hc : w.cell? ⟨x.tb, 0, none⟩ = some (.slice (some ⟨g, 0, none⟩) n cap)) (hl : st.s.2.length = n) :
    DvW FW S (w.setCell ⟨x.tb, 0, none⟩ (.slice (some ⟨g, 0, none⟩) (n - 1) cap)) x ⟨st.rs, st.ms, st.ws, (st.s.1, st.s.2.take (n - 1))⟩ ∧ Turn (fun b => ¬ S b ∧ ¬ FW b) w (w.setCell ⟨x.tb, 0, none⟩ (.slice (some ⟨g, 0, none⟩) (n - 1) cap)) := by
  obtain ⟨FK, FR, q1, q2, q3, q4, q5, q6⟩ := h.rep
  obtain ⟨kv, tv, h1, h2, h3, h4, h5, h6, h7, h8⟩ := q1.rep
  have e0 := h3.cell 0
  rw [hc] at e0
  simp only [List.getElem?_cons_zero, Option.some.injEq] at e0
  subst e0
  subst hl
  have tS := turn_setCell w ⟨x.tb, 0, none⟩ (.slice (some ⟨g, 0, none⟩) (st.s.2.length - 1) cap)
  have hkt : ¬ Blks kv x.tb := fun hb => Ownv.notBlk h2 h3 (by decide) hb
  have htt : ¬ Blks (.slice (some ⟨g, 0, none⟩) st.s.2.length cap) x.tb := fun hb => Ownv.notBlk h4 h3 (by decide) hb
  have i2 := OwnI.take h4 (st.s.2.length - 1) (by omega)
  refine ⟨⟨⟨FK, FR, ⟨⟨kv, _, h1.turn tS (Blk.ne h1 h3 (by decide)), Ownv.setCell h2 hkt _, h3.set 0 _, Ownv.setCell i2 (ad := ⟨x.tb, 0, none⟩) htt _, h5, h6, h7, fun b hb => h8 b hb⟩, fun b hb => by rw [size_setCell]; exact q1.lt b hb⟩, q2.turn tS (fun b hb hc => (q4 x.tb h6).1 (by rw [← show b = x.tb from hc]; exact hb)), q3.turn tS (fun b hb hc => (q4 x.tb h6).2 (by rw [← show b = x.tb from hc]; exact hb)) (fun b hc => .inl (.inl (by rw [show b = x.tb from hc]; exact h6))) (fun b hb => .inl hb), q4, q5, q6⟩, h.box.turn tS (fun hc => q6 x.tb (.inl h6) (by rw [← show x.xb = x.tb from hc]; exact h.inS)), h.inS, fun b hb => by rw [size_setCell]; exact h.old b hb⟩, tS.mono fun b hb => by rw [show b = x.tb from hb]; exact ⟨q6 _ (.inl h6), (q4 _ h6).1⟩⟩
/-- That reads on, whatever the rest does. -/
theorem DvW.waits {FW S : Nat → Prop} {w : World} {x : Bx} {st : St} (h : DvW FW S w x st) {n : Nat} (hn : n < st.ws.length) : (∃ g cap v, w.cell? ⟨x.wb, 0, none⟩ = some (.slice (some ⟨g, 0, none⟩) st.ws.length cap) ∧ w.cell? ⟨g, n, none⟩ = some v ∧ RdI w v (st.ws.getD n []) ∧ ∀ b, VB v b → FW b ∧ b < w.heap.size) := by
  obtain ⟨FK, FR, q1, q2, q3, q4, q5, q6⟩ := h.rep
  obtain ⟨wv, wvs, p1, p2, p3, p4, p5, p6, p7⟩ := q2.rep
  obtain ⟨wg, wc, rfl, k1, k2, k3, k4, k5, k6⟩ := Ownv.row p2 (by omega)
  refine ⟨wg, wc, _, p1.cell 0, k5 n (by omega), (p3 n hn).rd, fun b hb => ?_⟩
  have hb' : Blks (wvs.getD n undef) b := by
    obtain ⟨off, sp, m, c, _, e⟩ := hb
    rw [e]; rfl
  exact ⟨p7 n hn b hb', q2.lt b (p7 n hn b hb')⟩
/-- A rule's two cells. -/
theorem DvW.rule {FW S : Nat → Prop} {w : World} {x : Bx} {st : St} (h : DvW FW S w x st) {i : Nat} (hi : i < st.rs.length) : ∃ g cap tv, w.cell? ⟨x.rb, 0, none⟩ = some (.slice (some ⟨g, 0, none⟩) st.rs.length cap) ∧ w.cell? ⟨g, i * 2, none⟩ = some (.int .i64 (st.ms.getD i 0)) ∧ w.frozen? ⟨g, i * 2, none⟩ = false ∧ w.cell? ⟨g, i * 2 + 1, none⟩ = some tv ∧ RdI w tv (st.rs.getD i rl0).to := by
  obtain ⟨FK, FR, q1, q2, q3, q4, q5, q6⟩ := h.rep
  obtain ⟨rv, tvs, h1, h2, h3, h4, h5, h6, h7⟩ := q3.rep
  obtain ⟨wg, wc, rfl, k1, k2, k3, k4, k5, k6⟩ := Ownv.row h2 (by omega)
  obtain ⟨f1, f2⟩ := flatR_at st.ms tvs i (by rw [q3.len]; exact hi)
  exact ⟨wg, wc, tvs.getD i undef, h1.cell 0, by rw [k5 (i * 2) (by omega), f1], k6 _, by rw [k5 (i * 2 + 1) (by omega), f2], h4 i hi⟩
/-- One thing less is missing. -/
theorem DvW.dec {FW S : Nat → Prop} {w : World} {x : Bx} {st : St} (h : DvW FW S w x st) {i g cap : Nat} (hi : i < st.rs.length) (hc : w.cell? ⟨x.rb, 0, none⟩ = some (.slice (some ⟨g, 0, none⟩) st.rs.length cap)) (m : Int) :
    DvW FW S (w.setCell ⟨g, i * 2, none⟩ (.int .i64 m)) x ⟨st.rs, st.ms.set i m, st.ws, st.s⟩ ∧ Turn (fun b => ¬ S b ∧ ¬ FW b) w (w.setCell ⟨g, i * 2, none⟩ (.int .i64 m)) := by
  obtain ⟨FK, FR, q1, q2, q3, q4, q5, q6⟩ := h.rep
  obtain ⟨rv, tvs, h1, h2, h3, h4, h5, h6, h7⟩ := q3.rep
  have e0 := h1.cell 0
  rw [hc] at e0
  simp only [List.getElem?_cons_zero, Option.some.injEq] at e0
  subst e0
  have hg : FR g := h6 g rfl
  have tS := turn_setCell w ⟨g, i * 2, none⟩ (.int .i64 m)
  have e2 := Ownv.put h2 (i * 2) (by omega) (.int .i64 m)
  rw [flatR_set] at e2
  have hrg : x.rb ≠ g := fun e => Ownv.notBlk h2 h1 (by decide) (e ▸ rfl)
  refine ⟨⟨⟨FK, FR, q1.turn tS (fun b hb hc => (q4 b hb).2 (by rw [show b = g from hc]; exact hg)), q2.turn tS (fun b hb hc => q5 b hb (by rw [show b = g from hc]; exact hg)), ⟨by rw [List.length_set]; exact q3.len, ⟨_, tvs, h1.turn tS hrg, e2, h3, fun j hj => RdI.turn (h4 j hj) tS (fun b hb hc => (h7 j hj b hb).1 (.inr (.inr (by rw [show b = g from hc]; exact hg)))), h5, h6, fun j hj b hb => ⟨(h7 j hj b hb).1, by rw [size_setCell]; exact (h7 j hj b hb).2⟩⟩, fun b hb => by rw [size_setCell]; exact q3.lt b hb⟩, q4, q5, q6⟩, h.box.turn tS (fun hc => q6 g (.inr (.inr hg)) (by rw [← show x.xb = g from hc]; exact h.inS)), h.inS, fun b hb => by rw [size_setCell]; exact h.old b hb⟩, tS.mono fun b hb => by rw [show b = g from hb]; exact ⟨q6 _ (.inr (.inr hg)), fun hw => q5 _ hw hg⟩⟩
/-- What a rule leads to is known. -/
theorem DvW.know {FW S : Nat → Prop} {w : World} {x : Bx} {st : St} (h : DvW FW S w x st) {i g cap : Nat} {tv : Value} (hi : i < st.rs.length) (hc : w.cell? ⟨x.rb, 0, none⟩ = some (.slice (some ⟨g, 0, none⟩) st.rs.length cap)) (ht : w.cell? ⟨g, i * 2 + 1, none⟩ = some tv)
    (hr : ∀ y ∈ (st.rs.getD i rl0).to, 0 ≤ y ∧ y < (st.s.1.length : Int)) (hs : st.s.2.length + (st.rs.getD i rl0).to.length ≤ 1000000000) :
    Calls Tryd.prog 79 #[tv, .pointer (some ⟨x.kb, 0, none⟩), .pointer (some ⟨x.tb, 0, none⟩)] w (TellPostW FW S w x ⟨st.rs, st.ms, st.ws, YtekieioffaafaaaDoor.know st.s (st.rs.getD i rl0).to⟩) := by
  obtain ⟨FK, FR, q1, q2, q3, q4, q5, q6⟩ := h.rep
  obtain ⟨rv, tvs, h1, h2, h3, h4, h5, h6, h7⟩ := q3.rep
  have e0 := h1.cell 0
  rw [hc] at e0
  simp only [List.getElem?_cons_zero, Option.some.injEq] at e0
  subst e0
  obtain ⟨f1, f2⟩ := flatR_at st.ms tvs i (by rw [q3.len]; exact hi)
  obtain ⟨wg, wc, e1, k1, k2, k3, k4, k5, k6⟩ := Ownv.row h2 (by omega)
  simp only [Value.slice.injEq, Option.some.injEq, Addr.mk.injEq] at e1
  obtain ⟨⟨rfl, _⟩, _, rfl⟩ := e1
  have e2 := k5 (i * 2 + 1) (by omega)
  rw [ht, f2] at e2
  obtain rfl := Option.some.inj e2
  refine (know_any q1 (h4 i hi) (fun b hb hF => (h7 i hi b hb).1 (.inl hF)) hr hs).mono ?_
  rintro e w' ⟨rfl, F', k1, k2, k3⟩
  have hw : ∀ b, FW b → ¬ F' b := fun b hb hF => (k3 b hF).elim (fun c => (q4 b c).1 hb) (fun c => by have := q2.lt b hb; omega)
  have hrr : ∀ b, FR b → ¬ F' b := fun b hb hF => (k3 b hF).elim (fun c => (q4 b c).2 hb) (fun c => by have := q3.lt b hb; omega)
  have e3 := q3.turn (A' := fun b => F' b ∨ FW b ∨ FR b) k2 (fun b hb hF => (q4 b hF).2 hb) (fun b hb => .inl (.inl hb)) (fun b hb => hb.elim (fun c => (k3 b c).imp .inl id) (fun c => .inl (.inr c)))
  refine ⟨rfl, ⟨⟨F', FR, k1, q2.turn k2 (fun b hb hF => (q4 b hF).1 hb), e3, fun b hb => ⟨fun c => hw b c hb, fun c => hrr b c hb⟩, q5, fun b hb hs => ?_⟩, h.box.turn k2 (fun hF => q6 _ (.inl hF) h.inS), h.inS, fun b hb => Nat.lt_of_lt_of_le (h.old b hb) k2.size⟩, k2.mono fun b hb => ⟨q6 b (.inl hb), (q4 b hb).1⟩⟩
  rcases hb with c | c
  · rcases k3 b c with d | d
    · exact q6 b (.inl d) hs
    · have := h.old b hs; omega
  · exact q6 b (.inr c) hs
/-- And what was handed in. -/
theorem DvW.know0 {FW S : Nat → Prop} {w : World} {x : Bx} {st : St} (h : DvW FW S w x st) {v : Value} {l : List Int} (hd : RdI w v l) (hv : ∀ b, VB v b → S b) (hl : ∀ y ∈ l, 0 ≤ y ∧ y < (st.s.1.length : Int)) (hs : st.s.2.length + l.length ≤ 1000000000) :
    Calls Tryd.prog 79 #[v, .pointer (some ⟨x.kb, 0, none⟩), .pointer (some ⟨x.tb, 0, none⟩)] w (TellPostW FW S w x ⟨st.rs, st.ms, st.ws, YtekieioffaafaaaDoor.know st.s l⟩) := by
  obtain ⟨FK, FR, q1, q2, q3, q4, q5, q6⟩ := h.rep
  refine (know_any q1 hd (fun b hb hF => q6 b (.inl hF) (hv b hb)) hl hs).mono ?_
  rintro e w' ⟨rfl, F', k1, k2, k3⟩
  have hw : ∀ b, FW b → ¬ F' b := fun b hb hF => (k3 b hF).elim (fun c => (q4 b c).1 hb) (fun c => by have := q2.lt b hb; omega)
  have hrr : ∀ b, FR b → ¬ F' b := fun b hb hF => (k3 b hF).elim (fun c => (q4 b c).2 hb) (fun c => by have := q3.lt b hb; omega)
  have e3 := q3.turn (A' := fun b => F' b ∨ FW b ∨ FR b) k2 (fun b hb hF => (q4 b hF).2 hb) (fun b hb => .inl (.inl hb)) (fun b hb => hb.elim (fun c => (k3 b c).imp .inl id) (fun c => .inl (.inr c)))
  refine ⟨rfl, ⟨⟨F', FR, k1, q2.turn k2 (fun b hb hF => (q4 b hF).1 hb), e3, fun b hb => ⟨fun c => hw b c hb, fun c => hrr b c hb⟩, q5, fun b hb hs => ?_⟩, h.box.turn k2 (fun hF => q6 _ (.inl hF) h.inS), h.inS, fun b hb => Nat.lt_of_lt_of_le (h.old b hb) k2.size⟩, k2.mono fun b hb => ⟨q6 b (.inl hb), (q4 b hb).1⟩⟩
  rcases hb with c | c
  · rcases k3 b c with d | d
    · exact q6 b (.inl d) hs
    · have := h.old b hs; omega
  · exact q6 b (.inr c) hs
/-- At the end: the truth values. -/
theorem DvW.out {FW S : Nat → Prop} {w : World} {x : Bx} {st : St} (h : DvW FW S w x st) : ∃ kv, w.cell? ⟨x.kb, 0, none⟩ = some kv ∧ OwnB 0 w kv st.s.1 ∧ ∀ b, Blks kv b → ¬ S b := by
  obtain ⟨FK, FR, q1, q2, q3, q4, q5, q6⟩ := h.rep
  obtain ⟨kv, tv, h1, h2, h3, h4, h5, h6, h7, h8⟩ := q1.rep
  exact ⟨kv, h1.cell 0, h2, fun b hb => q6 b (.inl (h7 b hb))⟩
end Go.Proofs.YtekieioffaafaaaDoor
end

section
/- How what is to be gone through comes to all that can be derived: the states of derived's loops. Plain facts. -/
set_option linter.unusedSimpArgs false
set_option linter.unusedVariables false
namespace Go.Proofs.YtekieioffaafaaaDoor
open Go.RowKit Go.Maps

def st0 (n : Nat) : St := ⟨[], [], List.replicate n [], (List.replicate n false, [])⟩
theorem rep_nil (n y : Nat) : (List.replicate n ([] : List Int)).getD y [] = [] := by
  rw [List.getD_eq_getElem?_getD, List.getElem?_replicate]
  split <;> rfl
theorem fit0 (n : Nat) : Fit n 0 (st0 n) := ⟨by simp [st0], by simp [st0], Nat.le_refl _, fun y => by
  show ((List.replicate n ([] : List Int)).getD y []).length ≤ _
  rw [rep_nil]; exact Nat.le_refl _, Nat.zero_le _⟩
theorem getD_snoc_j (l : List Int) (x : Int) (i : Nat) : (l ++ [x]).getD i 0 = if i < l.length then l.getD i 0 else if i = l.length then x else 0 := by
  simp only [List.getD_eq_getElem?_getD]
  by_cases h : i < l.length
  · rw [if_pos h, List.getElem?_append_left h]
  · rw [if_neg h, List.getElem?_append_right (by omega)]
    by_cases h2 : i = l.length
    · simp [h2]
    · rw [if_neg h2, List.getElem?_eq_none (by simp; omega)]; rfl
theorem addW_all (i : Int) (l : List Int) (ws : List (List Int)) (hl : ∀ y ∈ l, 0 ≤ y ∧ y < (ws.length : Int)) (x : Nat) : (l.foldl (addW i) ws).getD x [] = ws.getD x [] ++ List.replicate (l.count (x : Int)) i := by
  induction l generalizing ws with
  | nil => simp
  | cons a l ih =>
    have ha := hl a List.mem_cons_self
    show ((l.foldl (addW i) (addW i ws a)).getD x []) = _
    rw [ih (addW i ws a) (fun y hy => by have := hl y (List.mem_cons_of_mem _ hy); simp [addW]; exact this)]
    have e : (addW i ws a).getD x [] = if a = (x : Int) then ws.getD x [] ++ [i] else ws.getD x [] := by
      unfold addW
      simp only [List.getD_eq_getElem?_getD, List.getElem?_set]
      by_cases c : a = (x : Int)
      · subst c
        rw [if_pos rfl, Int.toNat_natCast, if_pos rfl, if_pos (by omega)]
        simp
      · rw [if_neg c, if_neg (by omega)]
    rw [e, List.count_cons]
    by_cases c : a = (x : Int)
    · rw [if_pos c]
      have : (a == (x : Int)) = true := by simpa using c
      rw [this]
      simp [List.replicate_succ]
    · rw [if_neg c]
      have : (a == (x : Int)) = false := by simpa using c
      rw [this]
      simp

/-- The rules of R have been told. -/
structure Told (ds : List Nd) (l : List Int) (R : List Rl) (st : St) : Prop where
  wt : Waits ds.length st.rs st.ws
  ml : st.ms.length = st.rs.length
  ms : ∀ i, i < st.rs.length → st.ms.getD i 0 = ((st.rs.getD i rl0).src.length : Int)
  ne : ∀ r ∈ st.rs, r.src ≠ []
  sub : ∀ r ∈ st.rs, r ∈ rules ds
  all : ∀ r ∈ R, (r.src = [] ∧ ∀ x ∈ r.to, x ∈ st.s.2) ∨ r ∈ st.rs
  wl : WL ds.length (Der ds l) [] [] st.s
theorem told0 (ds : List Nd) (l : List Int) : Told ds l [] (st0 ds.length) := by
  have hb : ∀ x : Nat, (List.replicate ds.length false).getD x false = false := fun x => by
    rw [List.getD_eq_getElem?_getD, List.getElem?_replicate]
    split <;> rfl
  refine ⟨⟨by simp [st0], ?_, ?_, ?_⟩, rfl, ?_, ?_, ?_, ?_, ⟨by simp [st0], ?_, ?_, by simp [st0], ?_⟩⟩
  · intro x hx i hi
    simp only [st0] at hi
    rw [rep_nil] at hi
    cases hi
  · intro x hx i hi
    simp [st0] at hi
  · intro x hx
    simp only [st0]
    rw [rep_nil]; exact Nat.zero_le _
  · intro i hi
    simp [st0] at hi
  · intro r hr
    cases hr
  · intro r hr
    cases hr
  · intro r hr
    cases hr
  · intro x h0 h1
    simp only [st0]
    rw [hb]
    simp
  · intro x hx
    simp [st0] at hx
  · intro x hx
    simp [st0] at hx
theorem Told.tell {ds : List Nd} (hg : Good ds) {l : List Int} {R : List Rl} {st : St} (h : Told ds l R st) {r : Rl} (hr : r ∈ rules ds) : Told ds l (R ++ [r]) (YtekieioffaafaaaDoor.tell st r) := by
  obtain ⟨hsrc, hto⟩ := rules_terms hg hr
  unfold YtekieioffaafaaaDoor.tell
  by_cases c : r.src = []
  · rw [if_pos c]
    obtain ⟨w1, w2, w3⟩ := h.wl.know r.to (fun x hx => ⟨hto x hx, .step r hr (fun y hy => by rw [c] at hy; cases hy) hx⟩)
    refine ⟨h.wt, h.ml, h.ms, h.ne, h.sub, fun q hq => ?_, w1⟩
    rcases List.mem_append.1 hq with hq | hq
    · rcases h.all q hq with ⟨a, b⟩ | a
      · exact .inl ⟨a, fun x hx => by have := w3 x (by simpa using b x hx); simpa using this⟩
      · exact .inr a
    · rw [List.mem_singleton.1 hq]
      exact .inl ⟨c, fun x hx => by have := w2 x hx; simpa using this⟩
  · rw [if_neg c]
    have hall := addW_all (st.rs.length : Int) r.src st.ws (fun y hy => by rw [h.wt.len]; exact hsrc y hy)
    refine ⟨⟨by rw [addW_len]; exact h.wt.len, fun x hx i hi => ?_, fun x hx i hi => ?_, fun x hx => ?_⟩, by rw [List.length_append, List.length_append, h.ml]; rfl, fun i hi => ?_, fun q hq => ?_, fun q hq => ?_, fun q hq => ?_, h.wl⟩
    · simp only at hi ⊢
      rw [hall] at hi
      rw [List.length_append, List.length_singleton]
      rcases List.mem_append.1 hi with hi | hi
      · have := h.wt.rng x hx i hi; omega
      · have := List.eq_of_mem_replicate hi; omega
    · simp only at hi ⊢
      rw [hall, List.count_append, getD_snoc_r]
      rw [List.length_append, List.length_singleton] at hi
      split
      · rename_i ci
        rw [h.wt.cnt x hx i ci, List.count_replicate]
        have : ((st.rs.length : Int) == (i : Int)) = false := by rw [beq_eq_false_iff_ne]; omega
        rw [this]; simp
      · rw [if_pos (by omega)]
        have e : i = st.rs.length := by omega
        subst e
        have hz : (st.ws.getD x []).count (st.rs.length : Int) = 0 := by
          rw [List.count_eq_zero]
          intro hm
          have := (h.wt.rng x hx _ hm).2
          omega
        rw [hz]
        simp
    · simp only
      rw [hall, List.length_append, List.length_replicate, List.map_append, List.sum_append]
      have := h.wt.few x hx
      have := List.count_le_length (a := (x : Int)) (l := r.src)
      simp only [List.map_cons, List.map_nil, List.sum_cons, List.sum_nil]
      omega
    · simp only at hi ⊢
      rw [getD_snoc_j, getD_snoc_r, h.ml]
      rw [List.length_append, List.length_singleton] at hi
      split
      · rename_i ci
        exact h.ms i ci
      · rw [if_pos (by omega), if_pos (by omega)]
    · rcases List.mem_append.1 hq with hq | hq
      · exact h.ne q hq
      · rw [List.mem_singleton.1 hq]; exact c
    · rcases List.mem_append.1 hq with hq | hq
      · exact h.sub q hq
      · rw [List.mem_singleton.1 hq]; exact hr
    · rcases List.mem_append.1 hq with hq | hq
      · rcases h.all q hq with a | a
        · exact .inl a
        · exact .inr (List.mem_append_left _ a)
      · rw [List.mem_singleton.1 hq]
        exact .inr (List.mem_append_right _ (List.mem_singleton.2 rfl))
theorem Told.tells {ds : List Nd} (hg : Good ds) {l : List Int} : ∀ (Q : List Rl) {R : List Rl} {st : St}, Told ds l R st → (∀ r ∈ Q, r ∈ rules ds) → Told ds l (R ++ Q) (Q.foldl YtekieioffaafaaaDoor.tell st)
  | [], R, st, h, _ => by simpa using h
  | r :: Q, R, st, h, hq => by
    have := Told.tells hg Q (h.tell hg (hq r List.mem_cons_self)) (fun x hx => hq x (List.mem_cons_of_mem _ hx))
    simpa using this

/-! ## the loop -/
/-- Between two rounds. -/
structure Lp (ds : List Nd) (l : List Int) (rs : List Rl) (P : List Int) (ms : List Int) (s : List Bool × List Int) : Prop where
  wl : WL ds.length (Der ds l) P [] s
  miss : Miss rs ms P [] (fun x => x ∈ P ++ [] ++ s.2)
  has : ∀ x ∈ l, x ∈ P ++ [] ++ s.2
  ax : ∀ r ∈ rules ds, (r.src = [] ∧ ∀ x ∈ r.to, x ∈ P ++ [] ++ s.2) ∨ r ∈ rs
/-- Within one: t is gone through, k of those that wait for it have heard. -/
structure Lq (ds : List Nd) (l : List Int) (rs : List Rl) (ws : List (List Int)) (P : List Int) (t k : Nat) (ms : List Int) (s : List Bool × List Int) : Prop where
  wl : WL ds.length (Der ds l) P [(t : Int)] s
  miss : Miss rs ms P ((ws.getD t []).take k) (fun x => x ∈ P ++ [(t : Int)] ++ s.2)
  has : ∀ x ∈ l, x ∈ P ++ [(t : Int)] ++ s.2
  ax : ∀ r ∈ rules ds, (r.src = [] ∧ ∀ x ∈ r.to, x ∈ P ++ [(t : Int)] ++ s.2) ∨ r ∈ rs

theorem Lp.start {ds : List Nd} {l : List Int} {st : St} (h : Told ds l (rules ds) st) (hl : ∀ x ∈ l, IsT ds x) : Lp ds l st.rs [] st.ms (know st.s l) := by
  obtain ⟨w1, w2, w3⟩ := h.wl.know l (fun x hx => ⟨hl x hx, .base hx⟩)
  exact ⟨w1, Miss.start h.ml h.ms h.ne, w2, fun r hr => (h.all r hr).imp (fun ⟨a, b⟩ => ⟨a, fun x hx => w3 x (by simpa using b x hx)⟩) id⟩
theorem last_split {l : List Int} (h : 0 < l.length) : l = l.take (l.length - 1) ++ [l.getD (l.length - 1) 0] := by
  have h1 := List.take_succ_eq_append_getElem (show l.length - 1 < l.length by omega)
  rw [List.take_of_length_le (by omega)] at h1
  rw [List.getD_eq_getElem?_getD, List.getElem?_eq_getElem (show l.length - 1 < l.length by omega)]
  exact h1

theorem Lp.pop {ds : List Nd} {l : List Int} {rs : List Rl} {ws : List (List Int)} {P ms : List Int} {s : List Bool × List Int} (h : Lp ds l rs P ms s) (hp : 0 < s.2.length) {t : Nat} (ht : s.2.getD (s.2.length - 1) 0 = (t : Int)) :
    Lq ds l rs ws P t 0 ms (s.1, s.2.take (s.2.length - 1)) ∧ t < ds.length ∧ (t : Int) ∉ P := by
  have hs := last_split hp
  rw [ht] at hs
  have hmem : ∀ x, x ∈ P ++ [] ++ s.2 ↔ x ∈ P ++ [(t : Int)] ++ s.2.take (s.2.length - 1) := fun x => by
    rw [hs]
    simp only [List.mem_append, List.mem_singleton, List.append_nil]
    constructor
    · rintro (a | a | a)
      · exact .inl (.inl a)
      · refine .inr ?_
        rw [← hs]; exact a
      · exact .inl (.inr a)
    · rintro ((a | a) | a)
      · exact .inl a
      · exact .inr (.inr a)
      · refine .inr (.inl ?_)
        rw [← hs] at a; exact a
  have hnd : (P ++ [(t : Int)] ++ s.2.take (s.2.length - 1)).Nodup := by
    have h1 := h.wl.nodup
    rw [List.append_nil, hs] at h1
    refine (List.Perm.nodup_iff ?_).1 h1
    rw [List.append_assoc]
    refine List.Perm.append_left P ?_
    have : (s.2.take (s.2.length - 1) ++ [(t : Int)]).take ((s.2.take (s.2.length - 1) ++ [(t : Int)]).length - 1) = s.2.take (s.2.length - 1) := by rw [← hs]
    exact List.perm_append_comm
  have htm : (t : Int) ∈ P ++ [] ++ s.2 := (hmem _).2 (by simp)
  refine ⟨⟨⟨h.wl.len, fun x h0 h1 => (h.wl.mem x h0 h1).trans (hmem x), fun x hx => h.wl.rng x ((hmem x).2 hx), hnd, fun x hx => h.wl.good x ((hmem x).2 hx)⟩, ?_, fun x hx => (hmem x).1 (h.has x hx), fun r hr => (h.ax r hr).imp (fun ⟨a, b⟩ => ⟨a, fun x hx => (hmem x).1 (b x hx)⟩) id⟩, ?_, ?_⟩
  · rw [List.take_zero]
    exact h.miss.mono fun x hx => (hmem x).1 hx
  · have := h.wl.rng _ htm; omega
  · intro hc
    rw [List.append_assoc, List.nodup_append] at hnd
    exact hnd.2.2 _ hc (t : Int) (by simp) rfl
theorem Lq.len {ds : List Nd} {l : List Int} {rs : List Rl} {ws : List (List Int)} {P ms : List Int} {s : List Bool × List Int} {t k : Nat} (h : Lq ds l rs ws P t k ms s) : s.2.length ≤ ds.length ∧ P.length + 1 + s.2.length ≤ ds.length := by
  have := h.wl.lenle
  simp only [List.length_append, List.length_singleton] at this
  omega
theorem Lq.step {ds : List Nd} (hg : Good ds) {l : List Int} {rs : List Rl} {ws : List (List Int)} {P ms : List Int} {s : List Bool × List Int} {t k i : Nat} (hsub : ∀ r ∈ rs, r ∈ rules ds) (hw : Waits ds.length rs ws) (ht : t < ds.length) (hn : (t : Int) ∉ P) (h : Lq ds l rs ws P t k ms s) (hk : k < (ws.getD t []).length) (he : (ws.getD t []).getD k 0 = (i : Int)) (hi : i < rs.length) :
    Lq ds l rs ws P t (k + 1) (ms.set i (ms.getD i 0 - 1)) (if ms.getD i 0 - 1 = 0 then know s (rs.getD i rl0).to else s) := by
  have htake : (ws.getD t []).take (k + 1) = (ws.getD t []).take k ++ [(i : Int)] := by
    rw [List.take_succ_eq_append_getElem hk]
    congr 2
    rw [List.getD_eq_getElem?_getD, List.getElem?_eq_getElem hk, Option.getD_some] at he
    exact he
  have hr : rs.getD i rl0 ∈ rs := by rw [List.getD_eq_getElem?_getD, List.getElem?_eq_getElem hi]; exact List.getElem_mem hi
  split
  · rename_i h0
    have hall := h.miss.all hw ht hn hk hi he h0
    obtain ⟨w1, w2, w3⟩ := h.wl.know (rs.getD i rl0).to (fun x hx => ⟨(rules_terms hg (hsub _ hr)).2 x hx, .step _ (hsub _ hr) (fun y hy => h.wl.good y (List.mem_append_left _ (hall y hy))) hx⟩)
    exact ⟨w1, by rw [htake]; exact h.miss.hear hi w3 (fun _ => w2), fun x hx => w3 x (h.has x hx), fun r hr => (h.ax r hr).imp (fun ⟨a, b⟩ => ⟨a, fun x hx => w3 x (b x hx)⟩) id⟩
  · rename_i h0
    exact ⟨h.wl, by rw [htake]; exact h.miss.hear hi (fun x hx => hx) (fun c => absurd c h0), h.has, h.ax⟩
theorem Lq.fin {ds : List Nd} {l : List Int} {rs : List Rl} {ws : List (List Int)} {P ms : List Int} {s : List Bool × List Int} {t : Nat} (hw : Waits ds.length rs ws) (ht : t < ds.length) (hn : (t : Int) ∉ P) (h : Lq ds l rs ws P t (ws.getD t []).length ms s) :
    Lp ds l rs (P ++ [(t : Int)]) ms s := by
  have e : ∀ x, x ∈ P ++ [(t : Int)] ++ s.2 ↔ x ∈ (P ++ [(t : Int)]) ++ [] ++ s.2 := fun x => by simp
  refine ⟨⟨h.wl.len, fun x h0 h1 => (h.wl.mem x h0 h1).trans (e x), fun x hx => h.wl.rng x ((e x).2 hx), by have := h.wl.nodup; simpa using this, fun x hx => h.wl.good x ((e x).2 hx)⟩, ?_, fun x hx => (e x).1 (h.has x hx), fun r hr => (h.ax r hr).imp (fun ⟨a, b⟩ => ⟨a, fun x hx => (e x).1 (b x hx)⟩) id⟩
  have := h.miss
  rw [List.take_length] at this
  exact (this.over hw ht hn).mono fun x hx => (e x).1 hx

/-! ## how far it is -/
open Classical in
/-- How many of the first n truth values of a slice are true. -/
noncomputable def trues (w : World) (v : Value) (n : Nat) : Nat := ((List.range n).filter fun i => decide (∃ g c m, v = .slice (some ⟨g, 0, none⟩) m c ∧ w.cell? ⟨g, i, none⟩ = some (.bool true))).length
def lenOf : Option Value → Nat
  | some (.slice _ n _) => n
  | _ => 0
noncomputable def far (w : World) (kb tb n : Nat) : Nat := n + lenOf (w.cell? ⟨tb, 0, none⟩) - trues w ((w.cell? ⟨kb, 0, none⟩).getD undef) n
open Classical in
theorem trues_eq {B : Nat} {w : World} {v : Value} {bs : List Bool} (h : OwnB B w v bs) : trues w v bs.length = ((List.range bs.length).filter fun i => bs.getD i false).length := by
  unfold trues
  congr 1
  refine List.filter_congr fun i hi => ?_
  rw [List.mem_range] at hi
  obtain ⟨g, cap, rfl, _, _, _, _, h5, _⟩ := h.row (by omega)
  have e := h5 i hi
  cases hb : bs.getD i false with
  | true =>
    rw [hb] at e
    exact decide_eq_true ⟨g, cap, _, rfl, e⟩
  | false =>
    rw [hb] at e
    refine decide_eq_false ?_
    rintro ⟨g', c', m', h1, h2⟩
    simp only [Value.slice.injEq, Option.some.injEq, Addr.mk.injEq] at h1
    rw [← h1.1.1, e] at h2
    cases h2
theorem WL.count {n : Nat} {G : Int → Prop} {P E : List Int} {s : List Bool × List Int} (h : WL n G P E s) : ((List.range s.1.length).filter fun i => s.1.getD i false).length = (P ++ E ++ s.2).length := by
  have h1 : ((P ++ E ++ s.2).map Int.toNat).Nodup := by
    refine List.nodup_iff_pairwise_ne.2 ?_
    rw [List.pairwise_map]
    refine List.Pairwise.imp_of_mem (R := fun a b => a ≠ b) ?_ (List.nodup_iff_pairwise_ne.1 h.nodup)
    intro a b ha hb hne e
    have := (h.rng a ha).1; have := (h.rng b hb).1
    omega
  have h2 : ((List.range s.1.length).filter fun i => s.1.getD i false).Nodup := List.Nodup.sublist List.filter_sublist List.nodup_range
  have a1 := nodup_leN h1 (m := (List.range s.1.length).filter fun i => s.1.getD i false) (fun x hx => by
    obtain ⟨y, hy, rfl⟩ := List.mem_map.1 hx
    have hr := h.rng y hy
    rw [List.mem_filter, List.mem_range, h.len]
    exact ⟨by omega, (h.mem y hr.1 hr.2).2 hy⟩)
  have a2 := nodup_leN h2 (m := (P ++ E ++ s.2).map Int.toNat) (fun x hx => by
    obtain ⟨hx1, hx2⟩ := List.mem_filter.1 hx
    rw [List.mem_range, h.len] at hx1
    refine List.mem_map.2 ⟨(x : Int), (h.mem (x : Int) (by omega) (by omega)).1 (by rw [Int.toNat_natCast]; exact hx2), by simp⟩)
  rw [List.length_map] at a1 a2
  omega
/-- What is far is what was not gone through. -/
theorem far_eq {FW S : Nat → Prop} {w : World} {x : Bx} {st : St} {ds : List Nd} {l : List Int} {P ms : List Int} (h : DvW FW S w x st) (hp : Lp ds l st.rs P ms st.s) : far w x.kb x.tb ds.length = ds.length - P.length := by
  obtain ⟨tv, t1, _, t2⟩ := h.todo
  obtain ⟨kv, k1, k2, _⟩ := h.out
  obtain ⟨ta, tc, rfl, _, _, _⟩ := t2.rd.len
  unfold far
  rw [t1, k1, Option.getD_some]
  have e := trues_eq k2
  rw [hp.wl.count, hp.wl.len] at e
  rw [e]
  simp only [lenOf, List.length_append, List.length_nil, Nat.add_zero]
  have := hp.wl.lenle
  simp only [List.length_append, List.length_nil, Nat.add_zero] at this
  omega
end Go.Proofs.YtekieioffaafaaaDoor
end

section
/- Parts of the walk of eachRule. -/
set_option linter.unusedSimpArgs false
set_option linter.unusedVariables false
namespace Go.Proofs.YtekieioffaafaaaDoor
open Go.RowKit Go.Maps

theorem RdI.vb' {w : World} {v : Value} {zs : List Int} (h : RdI w v zs) {b : Nat} (hb : VB v b) : b < w.heap.size := by
  refine h.vb ?_ hb
  obtain ⟨off, sp, n, cap, hn, rfl⟩ := hb
  obtain ⟨a, c, e, _⟩ := h.len
  simp only [Value.slice.injEq] at e
  omega
theorem four_of {l : List Int} (h : l.length = 4) : ∃ a b c d, l = [a, b, c, d] := by
  match l, h with
  | [a, b, c, d], _ => exact ⟨a, b, c, d, rfl⟩
theorem two_of {l : List Int} (h : l.length = 2) : ∃ a b, l = [a, b] := by
  match l, h with
  | [a, b], _ => exact ⟨a, b, rfl⟩
def TellWPost (S : Nat → Prop) (wr W : World) (x : Bx) (st : St) (e : Ending) (w' : World) : Prop := e = .returned (.tuple #[]) ∧ DvS (SN S wr W) w' x st ∧ Turn (fun b => ¬ SN S wr W b) W w'
theorem tellW {S : Nat → Prop} {wr W : World} {x : Bx} {s0 : St} {n j : Nat} (hD : DvS S wr x s0) (hfit : Fit n j s0) (hj : j ≤ 1000000) (kW : Kept wr W) {tv fv : Value} (r : Rl) (ht : RdI W tv r.to) (htS : ∀ b, VB tv b → S b ∨ wr.heap.size ≤ b) (hf : RdI W fv r.src) (hfS : ∀ b, VB fv b → S b ∨ wr.heap.size ≤ b)
    (hfr : ∀ y ∈ r.src, 0 ≤ y ∧ y < (n : Int)) (htr : ∀ y ∈ r.to, 0 ≤ y ∧ y < (n : Int)) (h1 : r.src.length ≤ 64) (h2 : r.to.length ≤ 64) :
    Calls Tryd.prog 81 #[tv, fv, .pointer (some ⟨x.xb, 0, none⟩), .pointer (some ⟨x.wb, 0, none⟩), .pointer (some ⟨x.rb, 0, none⟩)] W (TellWPost S wr W x (tell s0 r)) := by
  refine (tell_any (hD.since kW) hfit hj ht (fun b hb => (htS b hb).imp id (fun c => ⟨c, ht.vb' hb⟩)) hf (fun b hb => (hfS b hb).imp id (fun c => ⟨c, hf.vb' hb⟩)) hfr htr h1 h2).mono ?_
  rintro e w' ⟨h1, h2, h3⟩
  exact ⟨h1, h2, h3⟩
theorem VB.new {b n cap c : Nat} {a : Nat} (h : VB (.slice (some ⟨b, 0, none⟩) n cap) c) (hb : a ≤ b) : a ≤ c := by
  rw [h.of]; exact hb


theorem RdI.sub {w : World} {rb ro n lc : Nat} {l : List Int} (h : RdI w (.slice (some ⟨rb, ro, none⟩) n lc) l) (lo hi : Nat) (h1 : lo ≤ hi) (h2 : hi ≤ l.length) : RdI w (.slice (some ⟨rb, ro + lo, none⟩) (hi - lo) (lc - lo)) ((l.take hi).drop lo) := by
  obtain ⟨a, cap, e, hl, hc, hm, hno, hcell⟩ := h
  simp only [Value.slice.injEq] at e
  obtain ⟨rfl, rfl, rfl⟩ := e
  have hlen : ((l.take hi).drop lo).length = hi - lo := by rw [List.length_drop, List.length_take]; omega
  refine ⟨_, _, by rw [hlen], by rw [List.length_map, hlen, Nat.mul_one], by rw [hlen]; omega, by omega, (fun h => by cases h), fun ad had j u hj => ?_⟩
  cases had
  rw [List.getElem?_map, List.getElem?_drop, List.getElem?_take] at hj
  have := hcell ⟨rb, ro, none⟩ rfl (lo + j) u (by
    rw [List.getElem?_map, ← hj]
    by_cases c : lo + j < hi
    · rw [if_pos c]
    · rw [if_neg c] at hj; simp at hj)
  rw [Addr.add_lit] at this
  rw [Addr.add_lit, Nat.add_assoc]
  exact this
theorem SigM.look {w : World} {mb : Nat} {ds : List Nd} (h : SigM w mb ds ds.length) (hg : Good ds) (hl : ds.length ≤ 100000) {k m : Int} (hk : I64 k) (hm : I64 m) :
    ∃ c : Int, (∀ n, (Instr.lookup 138 (.map (some mb)) (.agg #[.int .i64 k, .int .i64 m]) true).run Tryd.prog (w.drewN n) = .ok (.tuple #[.int .i64 c, .bool (sigAt ds k m).isSome]) (w.drewN n)) ∧ ∀ s, sigAt ds k m = some s → c = s := by
  obtain ⟨q, D, h1, h2, h3⟩ := h
  have hb : Maps.has D (.string (k2 k m)) = (sigAt ds k m).isSome := by
    rcases h3.at hg hl hk hm with ⟨a, b⟩ | ⟨s, a, _, b, _⟩
    · rw [a, b]; rfl
    · rw [a, b]; rfl
  have one : ∀ n, ∃ c : Int, (Instr.lookup 138 (.map (some mb)) (.agg #[.int .i64 k, .int .i64 m]) true).run Tryd.prog (w.drewN n) = .ok (.tuple #[.int .i64 c, .bool (sigAt ds k m).isSome]) (w.drewN n) ∧ D.atKey (.string (k2 k m)) (.lit (.int .i64 0)) = .lit (.int .i64 c) := fun n => by
    have h1' := ownsMap_kept h1 ((Kept.refl w).drewN n)
    obtain ⟨v, ps, hrun, hv⟩ := h1'.look_ok pair_keyed Tryd.underlying138 (z := .int .i64 0) (zd := .lit (.int .i64 0)) (zp := []) (by kernel_rfl) (plainElem_int Tryd.underlying3 (by decide)) (keyPair hk hm)
    obtain ⟨c, rfl, hc, hwc⟩ := plainElem_int_inv Tryd.underlying3 hv
    rw [hb] at hrun
    exact ⟨c, hrun, congrArg Prod.fst hc⟩
  obtain ⟨c, c1, c2⟩ := one 0
  refine ⟨c, fun n => ?_, fun s hs => ?_⟩
  · obtain ⟨c', d1, d2⟩ := one n
    rw [c2] at d2
    simp only [DataW.lit.injEq, Lit.int.injEq, true_and] at d2
    rw [d2]; exact d1
  · rcases h3.at hg hl hk hm with ⟨a, _⟩ | ⟨s', a, _, _, b⟩
    · rw [a] at hs; cases hs
    · rw [a] at hs
      rw [b] at c2
      simp only [DataW.lit.injEq, Lit.int.injEq, true_and] at c2
      rw [← c2]
      exact Option.some.inj hs
end Go.Proofs.YtekieioffaafaaaDoor
end

section
/- What can be derived: the walk of derived, its beginning. -/
set_option linter.unusedSimpArgs false
set_option linter.unusedVariables false
namespace Go.Proofs.YtekieioffaafaaaDoor
open Go.RowKit Go.Maps

theorem Tryd.infoInts : (Tryd.prog.info? 22).map (fun i => (i.zero, i.size, i.bytes)) = some (some (.slice none 0 0), 1, 24) := by kernel_rfl
/-- make([][]int, n). -/
theorem go_mkll {w : World} {ops : Array Oper} {rest : List Oper} {a : Act} {Q : Exit → Act → World → Prop} {d : Option Tmp} {ty : TypeId} {ps : String} {af : Array Edge} {l c : Operand}
    (n : Nat) (L : Int) (hl : a.eval l = .int .i64 L) (hc : a.eval c = .int .i64 L) (hL : L = (n : Int)) (h1 : n ≤ 1000000000)
    (hK : ∀ w', Ownv w.heap.size 22 1 w' (.slice (some ⟨w.heap.size, 0, none⟩) n n) n (List.replicate n (.slice none 0 0)) → Kept w w' → w'.heap.size = w'.heap.size → wpList Tryd.prog ops Q rest (a.put d (.slice (some ⟨w.heap.size, 0, none⟩) n n)) w') :
    wpList Tryd.prog ops Q (⟨d, .makeSlice 51 l c, ty, ps, af, none⟩ :: rest) a w := by
  obtain ⟨i0, hi, hz0, hz1, hz2⟩ := info_parts Tryd.infoInts
  refine wpList_make_full w rfl l c 51 rfl w.heap.size 22 i0 (.slice none 0 0) 1 Tryd.underlying51 hi hz0 hz1 .i64 .i64 L L n hl hc hL hL (by rw [hz2]; omega) (by unfold maxLen; omega) (Nat.le_refl _) ?_
  intro w' ho hg
  refine hK w' ?_ ((Below.refl w.heap.size w).grown hg (Nat.le_refl _) fun k hk => by cases hk) rfl
  unfold Ownv
  simpa [toList_madeCells_one, Value.cells] using ho
theorem rep_val (n i : Nat) : (List.replicate n (Value.slice none 0 0)).getD i undef = if i < n then .slice none 0 0 else undef := by
  rw [List.getD_eq_getElem?_getD, List.getElem?_replicate]
  split <;> rfl
/-- What derived begins with. -/
theorem dvs_init {W : World} {N0 kg wg n : Nat} {x : Bx} (o1 : N0 ≤ kg) (o2 : kg < x.kb) (o3 : x.kb < wg) (o4 : wg < x.wb) (o5 : x.wb < x.rb) (o6 : x.rb < x.tb) (o7 : x.tb < x.xb)
    (hK : OwnB 0 W (.slice (some ⟨kg, 0, none⟩) n n) (List.replicate n false)) (hkb : Blk W x.kb 112 [.slice (some ⟨kg, 0, none⟩) n n]) (htb : Blk W x.tb 22 [.slice none 0 0])
    (hW : Ownv 0 22 1 W (.slice (some ⟨wg, 0, none⟩) n n) n (List.replicate n (.slice none 0 0))) (hwb : Blk W x.wb 51 [.slice (some ⟨wg, 0, none⟩) n n]) (hrb : Blk W x.rb 131 [.slice none 0 0])
    (hxb : Blk W x.xb 132 [.func (.func 79) #[] #[.pointer (some ⟨x.kb, 0, none⟩), .pointer (some ⟨x.tb, 0, none⟩)]]) :
    DvS (fun b => b < N0 ∨ b = x.xb) W x (st0 n) := by
  have lx := hxb.lt
  refine ⟨⟨fun b => b = kg ∨ b = x.kb ∨ b = x.tb, fun b => b = wg ∨ b = x.wb, fun b => b = x.rb, ⟨⟨_, _, hkb, hK, htb, OwnI.nil _ _, .inr (.inl rfl), .inr (.inr rfl), fun b hb => ?_, fun b hb => by cases hb⟩, fun b hb => by omega⟩, ⟨⟨_, _, hwb, by simpa [st0] using hW, fun i hi => ?_, fun i j hi hj hij b hb => ?_, .inr rfl, fun b hb => ?_, fun i hi b hb => ?_⟩, fun b hb => by omega⟩,
    ⟨rfl, ⟨.slice none 0 0, [], hrb, World.ownsRow_nil _ _ _ _, rfl, fun i hi => absurd hi (Nat.not_lt_zero _), rfl, (fun b hb => by cases hb), fun i hi => absurd hi (Nat.not_lt_zero _)⟩, fun b hb => by omega⟩, fun b hb => ⟨fun c => by omega, fun c => by omega⟩, fun b hb c => by omega, fun b hb hs => by omega⟩, hxb, .inr rfl, fun b hb => by omega⟩
  · have : b = kg := (Option.some.inj hb).symm
    exact .inl this
  · simp only [st0, List.length_replicate] at hi ⊢
    rw [rep_val, if_pos hi, rep_nil]
    exact OwnI.nil _ _
  · simp only [st0, List.length_replicate] at hi
    rw [rep_val, if_pos hi] at hb
    cases hb
  · have : b = wg := (Option.some.inj hb).symm
    exact .inl this
  · simp only [st0, List.length_replicate] at hi
    rw [rep_val, if_pos hi] at hb
    cases hb
end Go.Proofs.YtekieioffaafaaaDoor
end

section
/- An arena as it is seen: look. -/
set_option linter.unusedSimpArgs false
set_option linter.unusedVariables false
namespace Go.Proofs.YtekieioffaafaaaDoor
open Go.RowKit Go.Maps

/-- vp is a view of the terms ds, of which the known ones can be derived; its memory is V. -/
structure IsVw (V : Nat → Prop) (w : World) (vp : Value) (ds : List Nd) (kn : List Bool) : Prop where
  rep : ∃ (vb : Nat) (nv kv : Value) (lvs : List Value), vp = .pointer (some ⟨vb, 0, none⟩) ∧ Blk w vb 114 [nv, kv] ∧ Ownv 0 64 4 w nv ds.length (flat ds lvs) ∧ lvs.length = ds.length ∧ (∀ i, i < ds.length → OwnI 0 w (lvs.getD i undef) (ds.getD i nd0).l) ∧
    OwnB 0 w kv kn ∧ V vb ∧ (∀ b, Blks nv b → V b) ∧ (∀ b, Blks kv b → V b) ∧ ∀ i, i < ds.length → ∀ b, Blks (lvs.getD i undef) b → V b
  len : kn.length = ds.length
  lt : ∀ b, V b → b < w.heap.size
theorem IsVw.same {V : Nat → Prop} {w w' : World} {vp : Value} {ds : List Nd} {kn : List Bool} (h : IsVw V w vp ds kn) (k : Same V w w') (hl : w.heap.size ≤ w'.heap.size) : IsVw V w' vp ds kn := by
  obtain ⟨vb, nv, kv, lvs, h1, h2, h3, h4, h5, h6, h7, h8, h9, h10⟩ := h.rep
  exact ⟨⟨vb, nv, kv, lvs, h1, h2.same (k.mono fun b e => by rw [e]; exact h7), h3.same (k.mono h8), h4, fun i hi => Ownv.same (h5 i hi) (k.mono (h10 i hi)), Ownv.same h6 (k.mono h9), h7, h8, h9, h10⟩, h.len, fun b hb => Nat.lt_of_lt_of_le (h.lt b hb) hl⟩
theorem IsVw.turn {V G : Nat → Prop} {w w' : World} {vp : Value} {ds : List Nd} {kn : List Bool} (h : IsVw V w vp ds kn) (k : Turn G w w') (hd : ∀ b, V b → ¬ G b) : IsVw V w' vp ds kn := h.same (k.same h.lt hd) k.size
theorem IsVw.kept {V : Nat → Prop} {w w' : World} {vp : Value} {ds : List Nd} {kn : List Bool} (h : IsVw V w vp ds kn) (k : Kept w w') : IsVw V w' vp ds kn := h.same (k.same h.lt) k.size
theorem IsVw.read {V : Nat → Prop} {w : World} {vp : Value} {ds : List Nd} {kn : List Bool} (h : IsVw V w vp ds kn) : ∃ (vb : Nat) (nv kv : Value), vp = .pointer (some ⟨vb, 0, none⟩) ∧ w.cell? ⟨vb, 0, none⟩ = some nv ∧ w.cell? ⟨vb, 1, none⟩ = some kv ∧ RdNs w nv ds ∧ OwnB 0 w kv kn := by
  obtain ⟨vb, nv, kv, lvs, h1, h2, h3, h4, h5, h6, _⟩ := h.rep
  exact ⟨vb, nv, kv, h1, h2.cell 0, h2.cell 1, ⟨lvs, h4, h3.rdv, fun i hi => (h5 i hi).rd⟩, h6⟩

/-! ## nodes that are put into a row -/
theorem Tryd.infoNode4 : (Tryd.prog.info? 64).map (fun i => (i.zero, i.size, i.bytes)) = some (some (.agg #[.int .i64 0, .int .i64 0, .string ⟨#[]⟩, .slice none 0 0]), 4, 56) := by kernel_rfl
theorem made_nodes (n : Nat) : (madeCells #[.int .i64 0, .int .i64 0, .string ⟨#[]⟩, .slice none 0 0] (n * 4)).toList = flat (List.replicate n nd0) (List.replicate n (.slice none 0 0)) := by
  refine List.ext_getElem? fun q => ?_
  by_cases hq : q < n * 4
  · have e : q = q / 4 * 4 + q % 4 := by omega
    have h4 : q % 4 < 4 := by omega
    have hi : q / 4 < n := by omega
    have h1 : (madeCells #[.int .i64 0, .int .i64 0, .string ⟨#[]⟩, .slice none 0 0] (n * 4)).toList[q]? = some ((#[.int .i64 0, .int .i64 0, .string ⟨#[]⟩, .slice none 0 0] : Array Value)[q % 4]!) := by
      simp [madeCells, hq]
    rw [h1, e, flat_at _ _ (q / 4) (q % 4) (by simpa using hi) h4]
    have g1 : (List.replicate n nd0).getD (q / 4) nd0 = nd0 := by
      rw [List.getD_eq_getElem?_getD, List.getElem?_replicate]; split <;> rfl
    have g2 : (List.replicate n (Value.slice none 0 0)).getD (q / 4) undef = .slice none 0 0 := by rw [rep_val, if_pos hi]
    rw [g1, g2, ← e]
    have : q % 4 = 0 ∨ q % 4 = 1 ∨ q % 4 = 2 ∨ q % 4 = 3 := by omega
    rcases this with c | c | c | c <;> rw [c] <;> rfl
  · rw [List.getElem?_eq_none (by simp [madeCells]; omega), List.getElem?_eq_none (by rw [flat_length, List.length_replicate]; omega)]
theorem go_mknodes {w : World} {ops : Array Oper} {rest : List Oper} {a : Act} {Q : Exit → Act → World → Prop} {d : Option Tmp} {ty : TypeId} {ps : String} {af : Array Edge} {l c : Operand}
    (n : Nat) (L : Int) (hl : a.eval l = .int .i64 L) (hc : a.eval c = .int .i64 L) (hL : L = (n : Int)) (h1 : n ≤ 1000000000)
    (hK : ∀ w', Ownv w.heap.size 64 4 w' (.slice (some ⟨w.heap.size, 0, none⟩) n n) n (flat (List.replicate n nd0) (List.replicate n (.slice none 0 0))) → Kept w w' → w'.heap.size = w'.heap.size → wpList Tryd.prog ops Q rest (a.put d (.slice (some ⟨w.heap.size, 0, none⟩) n n)) w') :
    wpList Tryd.prog ops Q (⟨d, .makeSlice 40 l c, ty, ps, af, none⟩ :: rest) a w := by
  obtain ⟨i0, hi, hz0, hz1, hz2⟩ := info_parts Tryd.infoNode4
  refine wpList_make_full w rfl l c 40 rfl w.heap.size 64 i0 (.agg #[.int .i64 0, .int .i64 0, .string ⟨#[]⟩, .slice none 0 0]) 4 Tryd.underlying40 hi hz0 hz1 .i64 .i64 L L n hl hc hL hL (by rw [hz2]; omega) (by unfold maxLen; omega) (Nat.le_refl _) ?_
  intro w' ho hg
  refine hK w' ?_ ((Below.refl w.heap.size w).grown hg (Nat.le_refl _) fun k hk => by cases hk) rfl
  unfold Ownv
  rw [← made_nodes]
  simpa [Value.cells] using ho
theorem flat_put (es : List Nd) (lvs : List Value) (k : Nat) (d : Nd) (lv : Value) (hk : k < es.length) (hl : lvs.length = es.length) :
    ((((flat es lvs).set (k * 4) (.int .i64 d.op)).set (k * 4 + 1) (.int .i64 d.n)).set (k * 4 + 2) (.string (strB d.s))).set (k * 4 + 3) lv = flat (es.set k d) (lvs.set k lv) := by
  induction es generalizing lvs k with
  | nil => simp at hk
  | cons e es ih =>
    cases lvs with
    | nil => simp at hl
    | cons v lvs =>
      cases k with
      | zero => simp [flat, ndCells]
      | succ k =>
        have e1 : (k + 1) * 4 = k * 4 + 1 + 1 + 1 + 1 := by omega
        have := ih lvs k (by simpa using hk) (by simpa using hl)
        simp only [flat, ndCells, List.cons_append, List.nil_append, List.headD_cons, List.tail_cons, List.set_cons_succ]
        rw [e1]
        simp only [List.set_cons_succ, List.cons.injEq, true_and]
        exact this
end Go.Proofs.YtekieioffaafaaaDoor
end

section
/- terms, can, opens, look. -/
set_option linter.unusedSimpArgs false
set_option linter.unusedVariables false
namespace Go.Proofs.YtekieioffaafaaaDoor
open Go.RowKit Go.Maps

theorem termsB_take {ds : List Nd} {l : List Int} (h : ∀ j, j < l.length → IsT ds (l.getD j 0)) : termsB ds l = true :=
  terms_of fun x hx => by
    obtain ⟨j, hj, rfl⟩ := List.getElem_of_mem hx
    have := h j hj
    rwa [List.getD_eq_getElem?_getD, List.getElem?_eq_getElem hj] at this
theorem termsB_not {ds : List Nd} {l : List Int} {j : Nat} (hj : j < l.length) (h : ¬ IsT ds (l.getD j 0)) : termsB ds l = false := by
  unfold termsB
  rw [List.all_eq_false]
  exact ⟨l.getD j 0, getD_mem hj, by simpa using h⟩
theorem termsB_all {ds : List Nd} {l : List Int} (h : termsB ds l = true) : ∀ x ∈ l, IsT ds x := fun x hx => by
  unfold termsB at h
  have := List.all_eq_true.1 h x hx
  simpa using this

set_option maxHeartbeats 4000000 in
set_option maxRecDepth 100000 in
theorem termsD {F : Nat → Prop} {w : World} {p : Value} {ds : List Nd} (h : Ar F w p ds) {v : Value} {l : List Int} (hd : RdI w v l) :
    Calls Tryd.prog 51 #[p, v] w fun e w' => e = .returned (.bool (termsB ds l)) ∧ w = w' := by
  obtain ⟨la, lc, rfl, l1, l2, l3⟩ := hd.len
  have l63 : ((l.length : Nat) : Int) ≤ 9223372036854775807 := by unfold maxLen at l2; omega
  go_enter Tryd.func51, Tryd.ntmps51
  go_wp2
  go_loop [9] (fun i => ∃ k : Nat, (k ≤ l.length ∧ ∀ j, j < k → IsT ds (l.getD j 0)) ∧ i = .int .i64 k) (fun i => l.length - (intOf i).toNat)
  case atStart => exact ⟨0, ⟨Nat.zero_le _, fun j hj => absurd hj (Nat.not_lt_zero _)⟩, rfl⟩
  case round =>
    obtain ⟨k, ⟨hk0, hall⟩, rfl⟩ := hrel
    have HALL := Shut.mk hall
    clear hall
    by_cases hlt : k < l.length
    · obtain ⟨rb, ro, rfl, hx⟩ := hd.at hlt
      have x1 := hx w (Kept.refl w)
      clear hx
      generalize hx : l.getD k 0 = x at x1
      have HX := Shut.mk hx
      clear hx
      by_cases hT : 0 ≤ x ∧ x < (ds.length : Int)
      · have t0 := hT.1
        have t1 := hT.2
        have b0 : decide (x < 0) = false := decide_eq_false (by omega)
        have b1 : decide (x ≥ (ds.length : Int)) = false := decide_eq_false (by omega)
        have b2 : decide ((ds.length : Int) ≤ x) = false := decide_eq_false (by omega)
        have HT := Shut.mk hT
        clear hT
        go_wp2_with (go_at_call 39; refine (arg_len h).mono ?_; rintro e w' ⟨rfl, rfl⟩)
        go_round
        case rel => exact ⟨k + 1, ⟨hlt, fun j hj => by
          by_cases c : j < k
          · exact HALL.out j c
          · obtain rfl : j = k := by omega
            rw [HX.out]; exact HT.out⟩, rfl⟩
        case measure => simp [intOf]; omega
      · have HF := Shut.mk (termsB_not hlt (by rw [HX.out]; exact hT))
        by_cases t0 : x < 0
        · clear hT
          go_wp2_with (go_at_call 39; refine (arg_len h).mono ?_; rintro e w' ⟨rfl, rfl⟩)
          go_ret
          exact ⟨by rw [HF.out]; rfl, rfl⟩
        · have t1 : (ds.length : Int) ≤ x := by omega
          have b0 : decide (x < 0) = false := decide_eq_false t0
          have b1 : decide (x ≥ (ds.length : Int)) = true := decide_eq_true t1
          have b2 : decide ((ds.length : Int) ≤ x) = true := decide_eq_true t1
          clear hT
          go_wp2_with (go_at_call 39; refine (arg_len h).mono ?_; rintro e w' ⟨rfl, rfl⟩)
          go_ret
          exact ⟨by rw [HF.out]; rfl, rfl⟩
    · obtain rfl : k = l.length := by omega
      have HT := Shut.mk (termsB_take HALL.out)
      go_wp2
      go_ret
      exact ⟨by rw [HT.out]; rfl, rfl⟩

/-- What can be derived, by the truth values. -/
def knB (kn : List Bool) (t : Int) : Bool := kn.getD t.toNat false
set_option maxHeartbeats 4000000 in
set_option maxRecDepth 100000 in
theorem can_any {V : Nat → Prop} {w : World} {vp : Value} {ds : List Nd} {kn : List Bool} (h : IsVw V w vp ds kn) {v : Value} {l : List Int} (hd : RdI w v l) (hT : ∀ x ∈ l, IsT ds x) :
    Calls Tryd.prog 53 #[vp, v] w fun e w' => e = .returned (.bool (l.all (knB kn))) ∧ w = w' := by
  obtain ⟨la, lc, rfl, l1, l2, l3⟩ := hd.len
  have l63 : ((l.length : Nat) : Int) ≤ 9223372036854775807 := by unfold maxLen at l2; omega
  obtain ⟨vb, nv, kv, rfl, r0, r1, r2, r3⟩ := h.read
  have HT := Shut.mk hT
  have hkl := h.len
  clear hT
  obtain ⟨ka, kc, hkv, _, _, _⟩ := (Ownv.rdv r3)
  subst hkv
  go_enter Tryd.func53, Tryd.ntmps53
  go_wp2
  go_loop [9] (fun i => ∃ k : Nat, (k ≤ l.length ∧ ∀ j, j < k → knB kn (l.getD j 0) = true) ∧ i = .int .i64 k) (fun i => l.length - (intOf i).toNat)
  case atStart => exact ⟨0, ⟨Nat.zero_le _, fun j hj => absurd hj (Nat.not_lt_zero _)⟩, rfl⟩
  case round =>
    obtain ⟨k, ⟨hk0, hall⟩, rfl⟩ := hrel
    have HALL := Shut.mk hall
    clear hall
    by_cases hlt : k < l.length
    · obtain ⟨rb, ro, rfl, hx⟩ := hd.at hlt
      have x1 := hx w (Kept.refl w)
      have hxT := HT.out _ (getD_mem hlt)
      clear hx
      obtain ⟨t, ht, htl⟩ := isT_nat hxT
      rw [ht] at x1
      obtain ⟨g, cap, hg, g1, g2, g3, g4, g5, g6⟩ := r3.row (by omega)
      simp only [Value.slice.injEq] at hg
      obtain ⟨rfl, _, rfl⟩ := hg
      have c1 := g5 t (by omega)
      have htk : (t : Int) < (kn.length : Int) := by omega
      have hbt : knB kn (l.getD k 0) = kn.getD t false := by unfold knB; rw [ht, Int.toNat_natCast]
      have HBT := Shut.mk hbt
      clear g5 g6 hbt ht hxT
      cases hb : kn.getD t false with
      | true =>
        rw [hb] at c1
        have HB := Shut.mk hb
        clear hb
        go_wp2
        go_round
        case rel => exact ⟨k + 1, ⟨hlt, fun j hj => by
          by_cases c : j < k
          · exact HALL.out j c
          · obtain rfl : j = k := by omega
            rw [HBT.out, HB.out]⟩, rfl⟩
        case measure => simp [intOf]; omega
      | false =>
        rw [hb] at c1
        have HF : Shut (l.all (knB kn) = false) := ⟨by
          rw [List.all_eq_false]
          exact ⟨l.getD k 0, getD_mem hlt, by rw [HBT.out, hb]; simp⟩⟩
        clear hb
        go_wp2
        go_ret
        exact ⟨by rw [HF.out]; rfl, rfl⟩
    · obtain rfl : k = l.length := by omega
      have HF : Shut (l.all (knB kn) = true) := ⟨by
        rw [List.all_eq_true]
        intro x hx
        obtain ⟨j, hj, rfl⟩ := List.getElem_of_mem hx
        have := HALL.out j hj
        rwa [List.getD_eq_getElem?_getD, List.getElem?_eq_getElem hj] at this⟩
      go_wp2
      go_ret
      exact ⟨by rw [HF.out]; rfl, rfl⟩
end Go.Proofs.YtekieioffaafaaaDoor
end

section
/- What terms are made of: how it is marked from behind; what is known of it. Plain facts. -/
set_option linter.unusedSimpArgs false
set_option linter.unusedVariables false
namespace Go.Proofs.YtekieioffaafaaaDoor
open Go

/-- t is one of l, or one that these are made of. -/
inductive Inn (ds : List Nd) (l : List Int) : Int → Prop
  | base {t : Int} : t ∈ l → Inn ds l t
  | part {t u : Int} : Inn ds l u → t ∈ (nd ds u).l → Inn ds l t
theorem Inn.isT {ds : List Nd} (hg : Good ds) {l : List Int} (hl : ∀ x ∈ l, IsT ds x) {t : Int} (h : Inn ds l t) : IsT ds t := by
  induction h with
  | base h => exact hl _ h
  | part h1 h2 ih => exact hg.partT ih _ h2
theorem Inn.mono {ds : List Nd} {l m : List Int} (h : ∀ x ∈ l, Inn ds m x) {t : Int} (k : Inn ds l t) : Inn ds m t := by
  induction k with
  | base h1 => exact h _ h1
  | part _ h2 ih => exact .part ih h2

def mark (bs : List Bool) (l : List Int) : List Bool := l.foldl (fun b t => b.set t.toNat true) bs
theorem mark_len (bs : List Bool) (l : List Int) : (mark bs l).length = bs.length := by
  induction l generalizing bs with
  | nil => rfl
  | cons a l ih => show (mark (bs.set a.toNat true) l).length = _; rw [ih, List.length_set]
theorem mark_take (bs : List Bool) (l : List Int) (k : Nat) (h : k < l.length) : mark bs (l.take (k + 1)) = (mark bs (l.take k)).set (l.getD k 0).toNat true := by
  unfold mark
  rw [List.take_succ_eq_append_getElem h, List.foldl_append, List.getD_eq_getElem?_getD, List.getElem?_eq_getElem h]
  rfl
theorem mark_at (bs : List Bool) (l : List Int) (hl : ∀ x ∈ l, 0 ≤ x ∧ x < (bs.length : Int)) (i : Nat) : (mark bs l).getD i false = true ↔ bs.getD i false = true ∨ (i : Int) ∈ l := by
  induction l generalizing bs with
  | nil => simp [mark]
  | cons a l ih =>
    have ha := hl a List.mem_cons_self
    show (mark (bs.set a.toNat true) l).getD i false = true ↔ _
    rw [ih (bs.set a.toNat true) (fun x hx => by rw [List.length_set]; exact hl x (List.mem_cons_of_mem _ hx)), getD_set_b, List.mem_cons]
    by_cases c : a.toNat = i
    · rw [if_pos ⟨c, by omega⟩]
      have : (i : Int) = a := by omega
      simp [this]
    · rw [if_neg (fun e => c e.1)]
      have : ¬ (i : Int) = a := by omega
      simp [this]
/-- One round: the parts of t, if it is marked. -/
def mstep (ds : List Nd) (bs : List Bool) (t : Nat) : List Bool := if bs.getD t false = true then mark bs (ds.getD t nd0).l else bs
/-- Behind k rounds, from behind. -/
def mrounds (ds : List Nd) (bs : List Bool) : Nat → List Bool
  | 0 => bs
  | k + 1 => mstep ds (mrounds ds bs k) (ds.length - 1 - k)
def marks0 (ds : List Nd) (l : List Int) : List Bool := mark (List.replicate ds.length false) l
theorem mstep_len (ds : List Nd) (bs : List Bool) (t : Nat) : (mstep ds bs t).length = bs.length := by
  unfold mstep
  split
  · exact mark_len _ _
  · rfl
theorem mrounds_len (ds : List Nd) (bs : List Bool) (k : Nat) : (mrounds ds bs k).length = bs.length := by
  induction k with
  | zero => rfl
  | succ k ih => show (mstep ds _ _).length = _; rw [mstep_len, ih]
theorem marks0_len (ds : List Nd) (l : List Int) : (marks0 ds l).length = ds.length := by unfold marks0; rw [mark_len, List.length_replicate]
/-- What is marked behind k rounds: what is in l, and closed from n - k on. -/
theorem mrounds_inv {ds : List Nd} (hg : Good ds) {l : List Int} (hl : ∀ x ∈ l, IsT ds x) : ∀ k, k ≤ ds.length →
    (∀ i : Nat, (mrounds ds (marks0 ds l) k).getD i false = true → Inn ds l (i : Int)) ∧ (∀ x ∈ l, (mrounds ds (marks0 ds l) k).getD x.toNat false = true) ∧
    (∀ u : Nat, ds.length - k ≤ u → u < ds.length → (mrounds ds (marks0 ds l) k).getD u false = true → ∀ y ∈ (ds.getD u nd0).l, (mrounds ds (marks0 ds l) k).getD y.toNat false = true) := by
  have hz : ∀ i : Nat, (List.replicate ds.length false).getD i false = false := fun i => by
    rw [List.getD_eq_getElem?_getD, List.getElem?_replicate]; split <;> rfl
  have hm0 := mark_at (List.replicate ds.length false) l (fun x hx => by rw [List.length_replicate]; exact hl x hx)
  intro k
  induction k with
  | zero =>
    intro _
    refine ⟨fun i hi => ?_, fun x hx => ?_, fun u h1 h2 => by omega⟩
    · rcases (hm0 i).1 hi with c | c
      · rw [hz] at c; cases c
      · exact .base c
    · refine (hm0 x.toNat).2 (.inr ?_)
      have := (hl x hx).1
      rw [show (x.toNat : Int) = x by omega]
      exact hx
  | succ k ih =>
    intro hk
    obtain ⟨a, b, c⟩ := ih (by omega)
    generalize hbs : mrounds ds (marks0 ds l) k = bs at a b c
    have hlen : bs.length = ds.length := by rw [← hbs, mrounds_len, marks0_len]
    have ht : ds.length - 1 - k < ds.length := by omega
    have hpl := hg.lesser ht
    have e : mrounds ds (marks0 ds l) (k + 1) = mstep ds (mrounds ds (marks0 ds l) k) (ds.length - 1 - k) := rfl
    rw [e]
    rw [hbs]
    unfold mstep
    split
    · rename_i hb
      have hma := mark_at bs (ds.getD (ds.length - 1 - k) nd0).l (fun x hx => by have := hpl x hx; omega)
      refine ⟨fun i hi => ?_, fun x hx => (hma _).2 (.inl (b x hx)), fun u h1 h2 hu y hy => ?_⟩
      · rcases (hma i).1 hi with d | d
        · exact a i d
        · exact .part (a _ hb) (by rw [nd_of]; exact d)
      · by_cases e : u = ds.length - 1 - k
        · subst e
          have := hpl y hy
          exact (hma _).2 (.inr (by rw [show (y.toNat : Int) = y by omega]; exact hy))
        · rcases (hma u).1 hu with d | d
          · exact (hma _).2 (.inl (c u (by omega) h2 d y hy))
          · have := hpl _ d; omega
    · rename_i hb
      refine ⟨a, b, fun u h1 h2 hu y hy => ?_⟩
      by_cases e : u = ds.length - 1 - k
      · subst e; exact absurd hu hb
      · exact c u (by omega) h2 hu y hy
/-- At the end: all that they are made of. -/
theorem within_all {ds : List Nd} (hg : Good ds) {l : List Int} (hl : ∀ x ∈ l, IsT ds x) (t : Nat) (ht : t < ds.length) : (mrounds ds (marks0 ds l) ds.length).getD t false = true ↔ Inn ds l (t : Int) := by
  obtain ⟨a, b, c⟩ := mrounds_inv hg hl ds.length (Nat.le_refl _)
  refine ⟨a t, fun h => ?_⟩
  have key : ∀ x, Inn ds l x → (mrounds ds (marks0 ds l) ds.length).getD x.toNat false = true := by
    intro x hx
    induction hx with
    | base h => exact b _ h
    | part h1 h2 ih =>
      obtain ⟨n, rfl, hn⟩ := isT_nat (h1.isT hg hl)
      rw [Int.toNat_natCast] at ih
      rw [nd_of] at h2
      exact c n (by omega) hn ih _ h2
  have := key _ h
  rwa [Int.toNat_natCast] at this

/-! ## what is known -/
/-- Those that are marked and can be derived, rising. -/
def knownB (ins kn : List Bool) (k : Nat) : List Int := ((List.range k).filter fun t => ins.getD t false && kn.getD t false).map fun t : Nat => (t : Int)
theorem knownB_succ (ins kn : List Bool) (k : Nat) : knownB ins kn (k + 1) = knownB ins kn k ++ (if (ins.getD k false && kn.getD k false) = true then [(k : Int)] else []) := by
  unfold knownB
  rw [List.range_succ, List.filter_append, List.map_append]
  congr 1
  by_cases h : (ins.getD k false && kn.getD k false) = true
  · rw [if_pos h, List.filter_cons, if_pos h]; rfl
  · rw [if_neg h, List.filter_cons, if_neg h]; rfl
theorem knownB_len (ins kn : List Bool) (k : Nat) : (knownB ins kn k).length ≤ k := by
  unfold knownB
  rw [List.length_map]
  exact Nat.le_trans (List.length_filter_le _ _) (by simp)
/-- What Known tells. -/
structure Knows (ds : List Nd) (l us : List Int) : Prop where
  rise : us.Pairwise (· < ·)
  mem : ∀ t, t ∈ us ↔ Inn ds l t ∧ Der ds l t
theorem knows_of {ds : List Nd} (hg : Good ds) {l : List Int} (hl : ∀ x ∈ l, IsT ds x) {ins kn : List Bool} (hi : ∀ t : Nat, t < ds.length → (ins.getD t false = true ↔ Inn ds l (t : Int))) (hk : ∀ t : Nat, t < ds.length → (kn.getD t false = true ↔ Der ds l (t : Int))) : Knows ds l (knownB ins kn ds.length) := by
  refine ⟨?_, fun t => ?_⟩
  · unfold knownB
    rw [List.pairwise_map]
    refine List.Pairwise.filter _ ?_
    exact (List.pairwise_lt_range).imp (fun h => by omega)
  · unfold knownB
    rw [List.mem_map]
    constructor
    · rintro ⟨n, hn, rfl⟩
      obtain ⟨h1, h2⟩ := List.mem_filter.1 hn
      have hn := List.mem_range.1 h1
      simp only [Bool.and_eq_true] at h2
      exact ⟨(hi n hn).1 h2.1, (hk n hn).1 h2.2⟩
    · rintro ⟨h1, h2⟩
      obtain ⟨n, rfl, hn⟩ := isT_nat (h1.isT hg hl)
      exact ⟨n, List.mem_filter.2 ⟨List.mem_range.2 hn, by simp only [Bool.and_eq_true]; exact ⟨(hi n hn).2 h1, (hk n hn).2 h2⟩⟩, rfl⟩
theorem pairwise_ext {l m : List Int} (hl : l.Pairwise (· < ·)) (hm : m.Pairwise (· < ·)) (h : ∀ x, x ∈ l ↔ x ∈ m) : l = m := by
  induction l generalizing m with
  | nil =>
    cases m with
    | nil => rfl
    | cons b m => have := (h b).2 List.mem_cons_self; cases this
  | cons a l ih =>
    cases m with
    | nil => have := (h a).1 List.mem_cons_self; cases this
    | cons b m =>
      have h1 := List.pairwise_cons.1 hl
      have h2 := List.pairwise_cons.1 hm
      have e : a = b := by
        rcases List.mem_cons.1 ((h a).1 List.mem_cons_self) with c | c
        · exact c
        · rcases List.mem_cons.1 ((h b).2 List.mem_cons_self) with d | d
          · exact d.symm
          · have := h1.1 b d; have := h2.1 a c; omega
      subst e
      congr 1
      refine ih h1.2 h2.2 fun x => ⟨fun hx => ?_, fun hx => ?_⟩
      · rcases List.mem_cons.1 ((h x).1 (List.mem_cons_of_mem _ hx)) with c | c
        · have := h1.1 x hx; omega
        · exact c
      · rcases List.mem_cons.1 ((h x).2 (List.mem_cons_of_mem _ hx)) with c | c
        · have := h2.1 x hx; omega
        · exact c
theorem Knows.unique {ds : List Nd} {l us vs : List Int} (h : Knows ds l us) (k : Knows ds l vs) : us = vs := pairwise_ext h.rise k.rise fun x => (h.mem x).trans (k.mem x).symm

/-! ## what follows (P5.3) -/
theorem Knows.more {ds : List Nd} {l m us vs : List Int} (h : Knows ds l us) (k : Knows ds (l ++ m) vs) : ∀ t ∈ us, t ∈ vs := fun t ht => by
  obtain ⟨a, b⟩ := (h.mem t).1 ht
  exact (k.mem t).2 ⟨a.mono (fun x hx => .base (List.mem_append_left _ hx)), b.mono (fun x hx => .base (List.mem_append_left _ hx))⟩
theorem Knows.adds {ds : List Nd} {l us vs : List Int} (h : Knows ds l us) (k : Knows ds (l ++ us) vs) : us = vs := by
  refine pairwise_ext h.rise k.rise fun t => ?_
  rw [h.mem, k.mem]
  refine ⟨fun ⟨a, b⟩ => ⟨a.mono (fun x hx => .base (List.mem_append_left _ hx)), b.mono (fun x hx => .base (List.mem_append_left _ hx))⟩, fun ⟨a, b⟩ => ⟨a.mono fun x hx => ?_, b.mono fun x hx => ?_⟩⟩
  · rcases List.mem_append.1 hx with c | c
    · exact .base c
    · exact ((h.mem x).1 c).1
  · rcases List.mem_append.1 hx with c | c
    · exact .base c
    · exact ((h.mem x).1 c).2
theorem Knows.same {ds : List Nd} {l us : List Int} (h : Knows ds l us) (t : Int) : Der ds l t ↔ Der ds us t :=
  ⟨fun a => a.mono fun x hx => .base ((h.mem x).2 ⟨.base hx, .base hx⟩), fun a => a.mono fun x hx => ((h.mem x).1 hx).2⟩
end Go.Proofs.YtekieioffaafaaaDoor
end

section
/- within: a range over slices.Backward. -/
set_option linter.unusedSimpArgs false
set_option linter.unusedVariables false
namespace Go.Proofs.YtekieioffaafaaaDoor
open Go.RowKit Go.Shelf

attribute [local go_sem] Oper.semAt_some

/-- The places that have come when k rounds are over: from behind. -/
def backN (len k : Nat) : List Nat := (List.range k).map fun j => len - 1 - j
theorem backN_succ (len k : Nat) : backN len (k + 1) = backN len k ++ [len - 1 - k] := by simp [backN, List.range_succ]
theorem backN_length (len k : Nat) : (backN len k).length = k := by simp [backN]

/-- What a round keeps: what lay below n₀, and the box of the slice. -/
def KeepB (n₀ Bs : Nat) (W W' : World) : Prop := Below n₀ W W' ∧ W'.heap[Bs]? = W.heap[Bs]?
theorem KeepB.trans {n₀ Bs : Nat} {A B C : World} (h : KeepB n₀ Bs A B) (k : KeepB n₀ Bs B C) : KeepB n₀ Bs A C := ⟨h.1.trans k.1, k.2.trans h.2⟩
theorem KeepB.refl (n₀ Bs : Nat) (W : World) : KeepB n₀ Bs W W := ⟨Below.refl _ _, rfl⟩
theorem KeepB.turn {n₀ Bs : Nat} {w : World} (hn : n₀ ≤ w.heap.size) (hb : Bs < w.heap.size) (W : World) (l : Nat) (o o' : Obj) (hl : w.heap.size ≤ l) (h : W.heap[l]? = some o) (h1 : o.isCells = false) (h2 : o.isWalk = false) : KeepB n₀ Bs W (W.putObj l o') :=
  ⟨belowK_b hn W l o o' hl h h1 h2, by
    have := (grownBy_putObj' W l o').block Bs (by have := (Array.getElem?_eq_some_iff.1 h).1; omega) (by simp; omega)
    exact this⟩

/-- The node at a place, as a value. -/
def ndVal (ds : List Nd) (lvs : List Value) (j : Nat) : Value := .agg #[.int .i64 (ds.getD j nd0).op, .int .i64 (ds.getD j nd0).n, .string (strB (ds.getD j nd0).s), lvs.getD j undef]

/-- The slice value holds these nodes in a block below n₀, or it has none. -/
def NodesAt (n₀ : Nat) (W : World) (sv : Value) (ds : List Nd) (lvs : List Value) : Prop :=
  (∃ a cap, sv = .slice a 0 cap ∧ ds = []) ∨ ∃ b cap, sv = .slice (some ⟨b, 0, none⟩) ds.length cap ∧ b < n₀ ∧ ∀ j, j < ds.length → W.cell? ⟨b, j * 4, none⟩ = some (.int .i64 (ds.getD j nd0).op) ∧ W.cell? ⟨b, j * 4 + 1, none⟩ = some (.int .i64 (ds.getD j nd0).n) ∧ W.cell? ⟨b, j * 4 + 2, none⟩ = some (.string (strB (ds.getD j nd0).s)) ∧ W.cell? ⟨b, j * 4 + 3, none⟩ = some (lvs.getD j undef)
theorem NodesAt.below {n₀ : Nat} {A B : World} (h : Below n₀ A B) {sv : Value} {ds : List Nd} {lvs : List Value} : NodesAt n₀ A sv ds lvs → NodesAt n₀ B sv ds lvs
  | .inl e => .inl e
  | .inr ⟨b, cap, e, hb, hc⟩ => .inr ⟨b, cap, e, hb, fun j hj => ⟨(h.cell (p := ⟨b, j * 4, none⟩) hb).trans (hc j hj).1, (h.cell (p := ⟨b, j * 4 + 1, none⟩) hb).trans (hc j hj).2.1, (h.cell (p := ⟨b, j * 4 + 2, none⟩) hb).trans (hc j hj).2.2.1, (h.cell (p := ⟨b, j * 4 + 3, none⟩) hb).trans (hc j hj).2.2.2⟩⟩
theorem nodesAt_of {w : World} {nv : Value} {ds : List Nd} {lvs : List Value} (h : Ownv 0 64 4 w nv ds.length (flat ds lvs)) : NodesAt w.heap.size w nv ds lvs := by
  by_cases hp : 0 < ds.length
  · obtain ⟨g, cap, rfl, _, _, _, hg, h5, _⟩ := Ownv.row h hp
    refine .inr ⟨g, cap, rfl, hg, fun j hj => ?_⟩
    have hx : ∀ q, q < 4 → w.cell? ⟨g, j * 4 + q, none⟩ = (ndCells (ds.getD j nd0) (lvs.getD j undef))[q]? := fun q hq => by
      rw [h5 (j * 4 + q) (by omega), List.getD_eq_getElem?_getD, flat_at ds lvs j q hj hq]
      have : q < (ndCells (ds.getD j nd0) (lvs.getD j undef)).length := by simp [ndCells]; omega
      rw [List.getElem?_eq_getElem this]
      rfl
    exact ⟨hx 0 (by omega), hx 1 (by omega), hx 2 (by omega), hx 3 (by omega)⟩
  · have : ds = [] := List.eq_nil_of_length_eq_zero (by omega)
    subst this
    obtain ⟨a, cap, rfl, _⟩ := Ownv.rdv h
    exact .inl ⟨a, cap, rfl, rfl⟩
/-- Places of a list, as such. -/
def valsN {n : Nat} (xs : List (Fin n)) : List Nat := xs.map (·.val)
/-- What the rounds make of the marks. -/
def foldF {n : Nat} (ds : List Nd) (bs : List Bool) (ys : List (Fin n)) : List Bool := ys.foldl (fun b x => mstep ds b x.val) bs
theorem foldF_vals {n : Nat} (ds : List Nd) (bs : List Bool) (ys : List (Fin n)) : foldF ds bs ys = (valsN ys).foldl (mstep ds) bs := by
  unfold foldF valsN
  rw [List.foldl_map]
theorem fold_back (ds : List Nd) (bs : List Bool) (k : Nat) : (backN ds.length k).foldl (mstep ds) bs = mrounds ds bs k := by
  induction k with
  | zero => rfl
  | succ k ih => rw [backN_succ, List.foldl_append, ih]; rfl
theorem foldF_all {ds : List Nd} {bs : List Bool} {ys : List (Fin ds.length)} (h : valsN ys = backN ds.length ds.length) : foldF ds bs ys = mrounds ds bs ds.length := by rw [foldF_vals, h, fold_back]
theorem foldF_snoc {n : Nat} (ds : List Nd) (bs : List Bool) (ys : List (Fin n)) (x : Fin n) : foldF ds bs (ys ++ [x]) = mstep ds (foldF ds bs ys) x.val := by
  unfold foldF
  rw [List.foldl_append]; rfl
theorem foldF_len {n : Nat} (ds : List Nd) (bs : List Bool) (ys : List (Fin n)) : (foldF ds bs ys).length = bs.length := by
  unfold foldF
  induction ys generalizing bs with
  | nil => rfl
  | cons a l ih => simp only [List.foldl_cons]; rw [ih, mstep_len]

/-- make([]bool, n), inside a fence. -/
theorem gi_mkbool {F : Fence} {m : Nat} {w : World} {ops : Array Oper} {rest : List Oper} {a : Act} {Q : Exit → Act → World → Prop} {d : Option Tmp} {ty : TypeId} {ps : String} {af : Array Edge} {l c : Operand}
    (n : Nat) (hl : a.eval l = .int .i64 (n : Int)) (hc : a.eval c = .int .i64 (n : Int)) (h1 : n ≤ 140737488355328)
    (hK : ∀ w', OwnB w.heap.size w' (.slice (some ⟨w.heap.size, 0, none⟩) n n) (List.replicate n false) → Kept w w' → w'.heap.size = w'.heap.size → wpListIn F m Tryd.prog ops Q rest (a.put d (.slice (some ⟨w.heap.size, 0, none⟩) n n)) w') :
    wpListIn F m Tryd.prog ops Q (⟨d, .makeSlice 112 l c, ty, ps, af, none⟩ :: rest) a w := by
  obtain ⟨i0, hi, hz0, hz1, hz2⟩ := info_parts Tryd.infoBool
  refine wpListIn_plain rfl fun K hK' => ?_
  obtain ⟨w', hrun, r1, r2⟩ := run_make_full (P := Tryd.prog) w w.heap.size 112 4 i0 (.bool false) 1 Tryd.underlying112 hi hz0 hz1 .i64 .i64 n (by rw [hz2]; omega) (by unfold maxLen; omega) (Nat.le_refl _)
  unfold Oper.wpIn
  refine ⟨?_, ?_⟩
  · simp [Oper.about]
  · rw [Oper.semAt_plain F _ _ (by intro c hc'; cases hc')]
    simp [execOp, hl, hc, hrun, Result.andThen]
    refine hK' _ _ (hK w' ?_ ((Below.refl w.heap.size w).grown r2 (Nat.le_refl _) fun k hk => by cases hk) rfl)
    unfold OwnB Ownv
    rw [List.length_replicate, List.map_replicate]
    simpa [toList_madeCells_one, Value.cells] using r1

def WithinPost (w : World) (ds : List Nd) (l : List Int) (e : Ending) (w' : World) : Prop :=
  ∃ v, e = .returned v ∧ OwnB w.heap.size w' v (mrounds ds (marks0 ds l) ds.length) ∧ Kept w w'
end Go.Proofs.YtekieioffaafaaaDoor
end

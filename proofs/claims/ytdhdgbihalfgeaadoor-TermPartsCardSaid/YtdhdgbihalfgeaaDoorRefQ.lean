/- The document's terms: Show, Parts, Size, Atoms. -/
import Derived.Test.YtdhdgbihalfgeaaDoorRefS
import Derived.Test.YtdhdgbihalfgeaaDoorTermQ
import Derived.Test.YtdhdgbihalfgeaaDoorRising
import Derived.Laws.OwnMore
import Derived.OwnWalk
set_option linter.unusedSimpArgs false
set_option linter.unusedVariables false
namespace Go.Proofs.YtdhdgbihalfgeaaDoor
open Go.RowKit Go.Maps

/-! ## what the marks say -/
structure Mark (ds : List Nd) (t : Nat) (i : Int) (bs : List Bool) : Prop where
  len : bs.length = t + 1
  sub : ∀ x : Nat, bs.getD x false = true → Reach ds t x
  top : bs.getD t false = true
  done : ∀ u : Nat, i < u → u ≤ t → bs.getD u false = true → ∀ y ∈ (ds.getD u nd0).l, bs.getD y.toNat false = true
structure Mark2 (ds : List Nd) (t q k : Nat) (bs : List Bool) : Prop where
  mark : Mark ds t q bs
  at' : bs.getD q false = true
  own : ∀ j, j < k → bs.getD ((ds.getD q nd0).l.getD j 0).toNat false = true
theorem getD_set (bs : List Bool) (i j : Nat) : (bs.set i true).getD j false = if j = i ∧ i < bs.length then true else bs.getD j false := by
  simp only [List.getD_eq_getElem?_getD, List.getElem?_set]
  by_cases h : i = j
  · subst h
    by_cases h2 : i < bs.length
    · simp [h2]
    · simp [h2]
  · rw [if_neg h, if_neg (fun e => h e.1.symm)]
theorem set_mono {bs : List Bool} {i j : Nat} (h : bs.getD j false = true) : (bs.set i true).getD j false = true := by
  rw [getD_set]; split <;> trivial
theorem Mark.start {ds : List Nd} {t : Nat} (ht : t < ds.length) : Mark ds t t ((List.replicate (t + 1) false).set t true) := by
  refine ⟨by simp, fun x hx => ?_, by rw [getD_set]; simp, fun u hu ht => by omega⟩
  rw [getD_set] at hx
  split at hx
  · rename_i h; rw [h.1]; exact .refl (by omega) (by omega)
  · rw [List.getD_eq_getElem?_getD] at hx
    by_cases h : x < t + 1
    · rw [List.getElem?_replicate, if_pos h] at hx; cases hx
    · rw [List.getElem?_replicate, if_neg h] at hx; cases hx
theorem Mark.skip {ds : List Nd} {t q : Nat} {bs : List Bool} (h : Mark ds t q bs) (hq : bs.getD q false = false) : Mark ds t ((q : Int) - 1) bs :=
  ⟨h.len, h.sub, h.top, fun u hu ht hb => by
    by_cases c : u = q
    · rw [c, hq] at hb; cases hb
    · exact h.done u (by omega) ht hb⟩
theorem Mark.go {ds : List Nd} {t q : Nat} {bs : List Bool} (h : Mark ds t q bs) (hq : bs.getD q false = true) : Mark2 ds t q 0 bs := ⟨h, hq, fun j hj => absurd hj (Nat.not_lt_zero _)⟩
theorem Mark2.step {ds : List Nd} {t q k : Nat} {bs : List Bool} (h : Mark2 ds t q k bs) (hg : Good ds) (htl : t < ds.length) (hqt : q ≤ t) (hk : k < (ds.getD q nd0).l.length) : Mark2 ds t q (k + 1) (bs.set ((ds.getD q nd0).l.getD k 0).toNat true) := by
  have hmem : (ds.getD q nd0).l.getD k 0 ∈ (ds.getD q nd0).l := mem_getD hk
  have hb := hg.lesser (i := q) (by omega) _ hmem
  refine ⟨⟨by simp [h.mark.len], fun x hx => ?_, set_mono h.mark.top, fun u hu ht hb2 y hy => ?_⟩, set_mono h.at', fun j hj => ?_⟩
  · rw [getD_set] at hx
    split at hx
    · rename_i c
      rw [c.1]
      have := Reach.step (h.mark.sub q h.at') (y := (ds.getD q nd0).l.getD k 0) (by rw [Int.toNat_natCast]; exact hmem)
      have e : (((ds.getD q nd0).l.getD k 0).toNat : Int) = (ds.getD q nd0).l.getD k 0 := by omega
      rw [e]; exact this
    · exact h.mark.sub x hx
  · rw [getD_set] at hb2
    split at hb2
    · rename_i c; omega
    · exact set_mono (h.mark.done u hu ht hb2 y hy)
  · by_cases c : j = k
    · subst c
      rw [getD_set, if_pos ⟨rfl, by rw [h.mark.len]; omega⟩]
    · exact set_mono (h.own j (by omega))
theorem Mark2.fin {ds : List Nd} {t q : Nat} {bs : List Bool} (h : Mark2 ds t q (ds.getD q nd0).l.length bs) : Mark ds t ((q : Int) - 1) bs :=
  ⟨h.mark.len, h.mark.sub, h.mark.top, fun u hu ht hb y hy => by
    by_cases c : u = q
    · subst c
      obtain ⟨j, hj, e⟩ := List.mem_iff_getElem.1 hy
      have := h.own j hj
      rwa [List.getD_eq_getElem?_getD (l := (ds.getD u nd0).l), List.getElem?_eq_getElem hj, Option.getD_some, e] at this
    · exact h.mark.done u (by omega) ht hb y hy⟩
/-- The marked ones below k. -/
def pick (bs : List Bool) (k : Nat) : List Int := ((List.range k).filter fun x => bs.getD x false).map fun x : Nat => (x : Int)
theorem pick_succ (bs : List Bool) (k : Nat) : pick bs (k + 1) = pick bs k ++ (if bs.getD k false = true then [(k : Int)] else []) := by
  unfold pick
  rw [List.range_succ, List.filter_append, List.map_append]
  congr 1
  by_cases h : bs.getD k false = true
  · rw [if_pos h, List.filter_cons, if_pos h]; rfl
  · rw [if_neg h, List.filter_cons, if_neg h]; rfl
theorem pick_len (bs : List Bool) (k : Nat) : (pick bs k).length ≤ k := by
  unfold pick
  rw [List.length_map]
  exact Nat.le_trans (List.length_filter_le _ _) (by simp)
theorem Mark.parts {ds : List Nd} (hg : Good ds) {t : Nat} {bs : List Bool} (h : Mark ds t (-1) bs) : Parts ds t (pick bs bs.length) := by
  have hall : ∀ x : Int, Reach ds t x → bs.getD x.toNat false = true := by
    intro x hx
    induction hx with
    | refl _ _ => rw [Int.toNat_natCast]; exact h.top
    | step h1 h2 ih =>
      have := h1.bound hg
      exact h.done _ (by omega) (by omega) ih _ h2
  refine ⟨?_, fun x => ?_⟩
  · unfold pick
    have : (List.range bs.length).Nodup := List.nodup_range
    exact List.pairwise_map.2 ((List.Pairwise.filter _ this).imp fun h => by omega)
  · unfold pick
    rw [List.mem_map]
    constructor
    · rintro ⟨y, hy, rfl⟩
      exact h.sub y (List.mem_filter.1 hy).2
    · intro hx
      have hb := hx.bound hg
      refine ⟨x.toNat, List.mem_filter.2 ⟨List.mem_range.2 (by rw [h.len]; omega), hall x hx⟩, by omega⟩

/-! ## rows of bools -/
def OwnB (B : Nat) (w : World) (v : Value) (bs : List Bool) : Prop := Ownv B 4 1 w v bs.length (bs.map Value.bool)
theorem Tryd.infoBool : (Tryd.prog.info? 4).map (fun i => (i.zero, i.size, i.bytes)) = some (some (.bool false), 1, 1) := by kernel_rfl
theorem OwnB.set {B : Nat} {w : World} {g n c : Nat} {bs : List Bool} (h : OwnB B w (.slice (some ⟨g, 0, none⟩) n c) bs) (hn : bs.length = n) (j : Nat) (b : Bool) :
    OwnB B (w.setCell ⟨g, j, none⟩ (.bool b)) (.slice (some ⟨g, 0, none⟩) n c) (bs.set j b) := by
  subst hn
  have := (World.ownsRow.stored h j (.bool b)).1
  unfold OwnB Ownv
  rw [List.length_set, List.map_set]
  exact this
theorem OwnB.cell {B : Nat} {w : World} {g n c : Nat} {bs : List Bool} (h : OwnB B w (.slice (some ⟨g, 0, none⟩) n c) bs) (hn : bs.length = n) {j : Nat} (hj : j < n) : w.cell? ⟨g, j, none⟩ = some (.bool (bs.getD j false)) := by
  subst hn
  have := World.ownsRow.cells h rfl j (.bool (bs.getD j false)) (by simp [List.getD, List.getElem?_eq_getElem hj])
  rwa [Addr.add_lit, Nat.zero_add] at this
theorem OwnB.frozen {B : Nat} {w : World} {g n c : Nat} {bs : List Bool} (h : OwnB B w (.slice (some ⟨g, 0, none⟩) n c) bs) (hn : bs.length = n) (j : Nat) : w.frozen? ⟨g, j, none⟩ = false := by
  subst hn
  exact World.ownsRow.frozenAt h j
theorem go_mkbool {w : World} {ops : Array Oper} {rest : List Oper} {a : Act} {Q : Exit → Act → World → Prop} {d : Option Tmp} {ty : TypeId} {ps : String} {af : Array Edge} {l c : Operand}
    (n : Nat) (L : Int) (hl : a.eval l = .int .i64 L) (hc : a.eval c = .int .i64 L) (hL : L = (n : Int)) (h1 : n ≤ 140737488355328)
    (hK : ∀ w', OwnB w.heap.size w' (.slice (some ⟨w.heap.size, 0, none⟩) n n) (List.replicate n false) → Kept w w' → w'.heap.size = w'.heap.size → wpList Tryd.prog ops Q rest (a.put d (.slice (some ⟨w.heap.size, 0, none⟩) n n)) w') :
    wpList Tryd.prog ops Q (⟨d, .makeSlice 91 l c, ty, ps, af, none⟩ :: rest) a w := by
  obtain ⟨i0, hi, hz0, hz1, hz2⟩ := info_parts Tryd.infoBool
  refine wpList_make_full w rfl l c 91 rfl w.heap.size 4 i0 (.bool false) 1 Tryd.underlying91 hi hz0 hz1 .i64 .i64 L L n hl hc hL hL (by rw [hz2]; omega) (by unfold maxLen; omega) (Nat.le_refl _) ?_
  intro w' ho hg
  refine hK w' ?_ ((Below.refl w.heap.size w).grown hg (Nat.le_refl _) fun k hk => by cases hk) rfl
  unfold OwnB Ownv
  rw [List.length_replicate, List.map_replicate]
  simpa [toList_madeCells_one, Value.cells] using ho

theorem showTopR {F : Nat → Prop} {w : World} {p : Value} {ds : List Nd} (h : ArR F w p ds) (t : Int) :
    Calls Tryd.prog 21 #[p, .int .i64 t] w fun e w' => e = .returned (.tuple #[.string (strB (shT ds t)), .int .i64 (shE ds t)]) ∧ Kept w w' := by
  have HH := Shut.mk h
  have hfew := h.few
  obtain ⟨pb, mb, nv, rfl, q0, q1, hns⟩ := ArG.nodes h
  obtain ⟨na, ncap, rfl, n1, n2, n3⟩ := hns.len
  by_cases t0 : t < 0
  · have hE : shE ds t = 4 := by unfold shE; rw [if_neg (by omega)]
    have hT : shT ds t = [] := by unfold shT; rw [hE, if_neg (by decide)]
    rw [hE, hT]
    clear hE hT
    go_enter Tryd.func21, Tryd.ntmps21
    go_wp2
    go_ret2
    exact ⟨rfl, Kept.refl _⟩
  by_cases t1 : (ds.length : Int) ≤ t
  · have hE : shE ds t = 4 := by unfold shE; rw [if_neg (by omega)]
    have hT : shT ds t = [] := by unfold shT; rw [hE, if_neg (by decide)]
    rw [hE, hT]
    clear hE hT
    go_enter Tryd.func21, Tryd.ntmps21
    go_wp2
    go_ret2
    exact ⟨rfl, Kept.refl _⟩
  obtain ⟨k, rfl⟩ := Int.eq_ofNat_of_zero_le (show 0 ≤ t by omega)
  have hs := showR_ok HH.out k (by omega) 4000 w (Kept.refl _) (by omega) (by omega)
  have hE : shE ds k = if 4000 < (shw ds k).length then 2 else 0 := by unfold shE; rw [if_pos (by omega)]
  have HE := Shut.mk hE
  clear hE
  have HT : Shut (shT ds k = if shE ds k = 0 then shw ds k else []) := ⟨rfl⟩
  go_enter Tryd.func21, Tryd.ntmps21
  go_wp2_with fail
  refine hs.mono ?_
  rintro e w1 ⟨S, b, rfl, hb1, hb2, k1⟩
  cases b with
  | true =>
    have hl := hb1.1 rfl
    have hS := Shut.mk (hb2 rfl)
    clear hb1 hb2
    go_wp2
    go_ret2
    have hE0 : shE ds k = 0 := by rw [HE.out]; exact if_neg (by omega)
    have hT0 : shT ds k = shw ds k := by rw [HT.out]; exact if_pos hE0
    rw [hE0, hT0, ← hS.out]
    exact ⟨rfl, k1⟩
  | false =>
    have hl : ¬ (((shw ds k).length : Int) ≤ 4000) := fun h => by have := hb1.2 h; cases this
    clear hb1 hb2
    go_wp2
    go_ret2
    have hE0 : shE ds k = 2 := by rw [HE.out]; exact if_pos (by omega)
    have hT0 : shT ds k = [] := by rw [HT.out]; exact if_neg (by omega)
    rw [hE0, hT0]
    exact ⟨rfl, k1⟩

/-! ## Parts -/
def PartsRPost (w : World) (ds : List Nd) (t : Int) (e : Ending) (w' : World) : Prop := ∃ (v : Value) (zs : List Int), e = .returned v ∧ RdI w' v zs ∧ Parts ds t zs ∧ zs.length ≤ ds.length ∧ Kept w w'
set_option maxHeartbeats 8000000 in
set_option maxRecDepth 100000 in
theorem partsR_any {F : Nat → Prop} {w : World} {p : Value} {ds : List Nd} (h : ArR F w p ds) {t : Int} (ht64 : I64 t) :
    Calls Tryd.prog 42 #[p, .int .i64 t] w (PartsRPost w ds t) := by
  have HH := Shut.mk h
  have hfew := h.few
  obtain ⟨pb, mb, nv, rfl, q0, q1, hns⟩ := ArG.nodes h
  by_cases hin : ¬ (0 ≤ t ∧ t < ds.length)
  · have hpn : Parts ds t [] := ⟨by simp, fun x => ⟨(fun hx => by cases hx), fun hx => by have := hx.bound h.good; omega⟩⟩
    obtain ⟨na, ncap, rfl, n1, n2, n3⟩ := hns.len
    clear h
    by_cases t0 : t < 0
    · go_enter Tryd.func42, Tryd.ntmps42
      go_wp2
      go_ret
      exact ⟨_, [], rfl, RdI.nil _, hpn, Nat.zero_le _, Kept.refl _⟩
    · have t1 : (ds.length : Int) ≤ t := by omega
      clear hin
      go_enter Tryd.func42, Tryd.ntmps42
      go_wp2
      go_ret
      exact ⟨_, [], rfl, RdI.nil _, hpn, Nat.zero_le _, Kept.refl _⟩
  obtain ⟨k0, rfl⟩ := Int.eq_ofNat_of_zero_le (show 0 ≤ t by omega)
  have htl : k0 < ds.length := by omega
  have htl' : (k0 : Int) < (ds.length : Int) := by omega
  have t00 : (0 : Int) ≤ (k0 : Int) := by omega
  clear hin
  obtain ⟨nb, noff, ncap, lvs, rfl, _, _, hnb, hnc, hnl⟩ := hns.addr (by omega)
  have HNC := Shut.mk hnc
  clear hnc h
  go_enter Tryd.func42, Tryd.ntmps42
  go_wp2_with (at_make; refine go_mkbool (k0 + 1) _ rfl rfl (by omega) (by omega) ?_; intro w1 o1 k1 _; have c1 := o1.frozen (List.length_replicate ..) k0; have c2 := o1.cell (List.length_replicate ..) (show k0 < k0 + 1 by omega))
  have o2 := OwnB.set o1 (List.length_replicate ..) k0 true
  have hm2 := Mark.start htl
  have k2 : Kept w (w1.setCell ⟨w.heap.size, k0, none⟩ (.bool true)) := k1.setCell (Nat.le_refl _) _
  generalize w1.setCell ⟨w.heap.size, k0, none⟩ (.bool true) = w2 at o2 k2 ⊢
  clear o1 k1 c1 c2
  go_loopw [6] (fun i wr => ∃ (m : Int) (bs : List Bool), i = .int .i64 m ∧ -1 ≤ m ∧ m ≤ (k0 : Int) ∧ Mark ds k0 m bs ∧ OwnB w.heap.size wr (.slice (some ⟨w.heap.size, 0, none⟩) (k0 + 1) (k0 + 1)) bs ∧ Kept w wr) (fun i _ => (intOf i + 1).toNat)
  case atStart => exact ⟨k0, _, rfl, by omega, Int.le_refl _, hm2, o2, k2⟩
  case round =>
    clear hm2 o2 k2
    obtain ⟨m, bs, rfl, hm0, hm1, hmk, ho, hk⟩ := hrel
    have HM := Shut.mk hmk
    have hbl : Shut (bs.length = k0 + 1) := ⟨hmk.len⟩
    clear hmk
    by_cases hneg : 0 ≤ m
    · obtain ⟨q, rfl⟩ := Int.eq_ofNat_of_zero_le hneg
      have hqk : q ≤ k0 := by omega
      have hqd : (q : Int) < (ds.length : Int) := by omega
      have c1 := ho.cell hbl.out (show q < k0 + 1 by omega)
      have hq1 : (q : Int) < (k0 : Int) + 1 := by omega
      cases hbq : bs.getD q false with
      | false =>
        rw [hbq] at c1
        have HBQ := Shut.mk hbq
        clear hbq
        go_wp2
        go_roundw
        case rel => exact ⟨(q : Int) - 1, bs, rfl, by omega, by omega, HM.out.skip HBQ.out, ho, hk⟩
        case measure => simp [intOf]; try omega
      | true =>
        rw [hbq] at c1
        have HBQ := Shut.mk hbq
        clear hbq
        have hmk2 := HM.out.go HBQ.out
        have z := hk.cell (p := ⟨pb, 0, none⟩) (World.block_lt_of_cell? _ _ q0) |>.trans q0
        obtain ⟨y0, y1, y2, y3⟩ := HNC.out q (by omega)
        have z3 := hk.cell (p := ⟨nb, noff + q * 4 + 3, none⟩) hnb |>.trans y3
        have hlr := hnl q (by omega)
        have hless := HH.out.good.lesser (i := q) (by omega)
        have hlen64 := (HH.out.good.may' (i := q) (by omega)).len64
        obtain ⟨la, lc, hlv, l1, l2, l3⟩ := hlr.len
        rw [hlv] at z3 hlr
        have HST : Shut (∀ k bs, k < (ds.getD q nd0).l.length → Mark2 ds k0 q k bs → Mark2 ds k0 q (k + 1) (bs.set ((ds.getD q nd0).l.getD k 0).toNat true)) := ⟨fun k bs hk h => h.step HH.out.good htl hqk hk⟩
        have HFI : Shut (∀ bs, Mark2 ds k0 q (ds.getD q nd0).l.length bs → Mark ds k0 ((q : Int) - 1) bs) := ⟨fun bs h => h.fin⟩
        clear hlv y0 y1 y2 y3
        generalize (ds.getD q nd0).l = l at hlr z3 hless hlen64 HST HFI
        have l63 : ((l.length : Nat) : Int) ≤ 9223372036854775807 := by omega
        go_wp2
        obtain ⟨wq, rfl⟩ : ∃ wq : World, wq = wr := ⟨_, rfl⟩
        go_loopw [48] (fun i wx => ∃ (k : Nat) (bs : List Bool), k ≤ l.length ∧ i = .int .i64 k ∧ Mark2 ds k0 q k bs ∧ OwnB w.heap.size wx (.slice (some ⟨w.heap.size, 0, none⟩) (k0 + 1) (k0 + 1)) bs ∧ Kept w wx) (fun i _ => l.length - (intOf i).toNat)
        case atStart => exact ⟨0, bs, Nat.zero_le _, rfl, hmk2, ho, hk⟩
        case round =>
          clear hmk2 ho hk HM hbl c1 HBQ z z3
          obtain ⟨k, bs, hkl, rfl, hmk2, ho, hk⟩ := hrel
          have HM := Shut.mk hmk2
          have hbl : Shut (bs.length = k0 + 1) := ⟨hmk2.mark.len⟩
          clear hmk2
          by_cases hlt : k < l.length
          · have hless' := hless (l.getD k 0) (mem_getD hlt)
            have hM2 := HST.out k bs hlt HM.out
            obtain ⟨rb, ro, rc, hrv, _, _, hrb, hcell⟩ := hlr.addr (by omega)
            simp only [Value.slice.injEq] at hrv
            obtain ⟨rfl, hdrop, rfl⟩ := hrv
            clear hdrop
            have hcw : wr.cell? ⟨rb, ro + k, none⟩ = some (.int .i64 (l.getD k 0)) := hk.cell (p := ⟨rb, ro + k, none⟩) hrb |>.trans (hcell k hlt)
            clear hcell
            generalize l.getD k 0 = x at hcw hless' hM2
            obtain ⟨y, rfl⟩ := Int.eq_ofNat_of_zero_le hless'.1
            rw [Int.toNat_natCast] at hM2
            have hyk : y < k0 + 1 := by omega
            have hy1 : (y : Int) < (k0 : Int) + 1 := by omega
            have hf := ho.frozen hbl.out y
            have hc := ho.cell hbl.out hyk
            go_wp2
            go_roundw
            case rel => exact ⟨k + 1, bs.set y true, hlt, rfl, hM2, OwnB.set ho hbl.out y true, hk.setCell (Nat.le_refl _) _⟩
            case measure => simp [intOf]; omega
          · obtain rfl : k = l.length := by omega
            go_wp2
            go_roundw
            case rel => exact ⟨(q : Int) - 1, bs, rfl, by omega, by omega, HFI.out bs HM.out, ho, hk⟩
            case measure => simp [intOf]; try omega
    · obtain rfl : m = -1 := by omega
      have hparts := HM.out.parts HH.out.good
      have HP := Shut.mk hparts
      have hkk : (((k0 + 1 : Nat)) : Int) ≤ 200000 := by omega
      clear hparts
      go_wp2
      go_loopw [9, 58] (fun ov i wx => ∃ (k : Nat), k ≤ k0 + 1 ∧ i = .int .i64 k ∧ OwnI w.heap.size wx ov (pick bs k) ∧ OwnB w.heap.size wx (.slice (some ⟨w.heap.size, 0, none⟩) (k0 + 1) (k0 + 1)) bs ∧ Kept w wx) (fun _ i _ => k0 + 1 - (intOf i).toNat)
      case atStart => exact ⟨0, Nat.zero_le _, rfl, OwnI.nil _ _, ho, hk⟩
      case round =>
        clear ho hk
        obtain ⟨k, hkl, rfl, hoi, ho, hk⟩ := hrel
        by_cases hlt : k < k0 + 1
        · have hc := ho.cell hbl.out hlt
          have hps := pick_succ bs k
          have hpl := pick_len bs k
          have HPS := Shut.mk hps
          clear hps
          have hlt' : (k : Int) < (k0 : Int) + 1 := by omega
          cases hb : bs.getD k false with
          | true =>
            rw [hb] at hc
            have HB := Shut.mk hb
            clear hb
            generalize pick bs k = zs at hoi hpl HPS
            have ha := fun W kk => Ownv.kept (w' := W) ho kk
            go_wp2_with (at_builtin; refine go_appi w.heap.size _ zs rfl (Ownv.kept hoi ((Kept.refl _).alloc _)) _ [(k : Int)] rfl (OwnI.rd (OwnI.lit1 _ k)) (by simp; omega) (Nat.le_trans hk.size ((Kept.refl _).alloc _).size) ?_; intro v6 w6 o6 t6 l6)
            have kk := (Kept.refl wr).alloc (.cells #[.int .i64 (k : Int)] 3)
            have hoa := Ownv.kept ho kk
            have hot := Ownv.kept hoi kk
            go_roundw
            case rel =>
              exact ⟨k + 1, by omega, rfl, by rw [HPS.out, if_pos HB.out]; exact o6, Ownv.turn hoa t6 (fun b h1 h2 => Ownv.apart hot hoa (by decide) h2 h1), Turn.keptOf (hk.trans kk) t6 (fun b hb => (Ownv.lt hoi hb).2)⟩
            case measure => simp [intOf]; omega
          | false =>
            rw [hb] at hc
            have HB := Shut.mk hb
            clear hb
            go_wp2
            go_roundw
            case rel => exact ⟨k + 1, by omega, rfl, by rw [HPS.out, if_neg (by rw [HB.out]; decide), List.append_nil]; exact hoi, ho, hk⟩
            case measure => simp [intOf]; omega
        · obtain rfl : k = k0 + 1 := by omega
          go_wp2
          go_ret
          have hpl := pick_len bs (k0 + 1)
          refine ⟨_, pick bs (k0 + 1), rfl, hoi.rd, ?_, by omega, hk⟩
          have := HP.out
          rwa [hbl.out] at this
end Go.Proofs.YtdhdgbihalfgeaaDoor

/- Texts of one proof, put together: ShwP, ShwA, ShwN, ShwM, ShwQ, ShwR, ShwT, ShwU, ShwV, ShwX, ShwY. -/
import Derived.Test.YtangbnmgkcmhbaaDoorMg10
import Derived.Test.YtangbnmgkcmhbaaDoorMg08
import Derived.Test.YtangbnmgkcmhbaaDoorMg09
import Derived.Test.YtangbnmgkcmhbaaDoorMg05
import Derived.Test.YtangbnmgkcmhbaaDoorMg02
import Derived.Test.YtangbnmgkcmhbaaDoorMg06
import Derived.Deep.RegionHeldLaw
import Derived.BigQuiet
import Derived.Test.YtangbnmgkcmhbaaDoorMg11
section
/- What is told of a term that can be derived, can be. Plain facts. -/
set_option linter.unusedSimpArgs false
set_option linter.unusedVariables false
namespace Go.Proofs.YtangbnmgkcmhbaaDoor
open Go

structure Clos (ds : List Nd) (kn : Int → Bool) : Prop where
  cList : ∀ t, IsT ds t → kn t = true → (nd ds t).op = 3 → ∀ x ∈ (nd ds t).l, kn x = true
  cEnc : ∀ t, IsT ds t → kn t = true → (nd ds t).op = 9 → kn ((nd ds t).l.getD 0 0) = true → ∀ x ∈ (nd ds t).l, kn x = true
  cSig : ∀ t, IsT ds t → kn t = true → (nd ds t).op = 10 → ∀ x ∈ (nd ds t).l.drop 1, kn x = true
  cSeal : ∀ t, IsT ds t → kn t = true → ∀ sk, sealedTo ds (nd ds t) = some sk → kn sk = true → ∀ x ∈ ((nd ds t).l.drop 1).take 2, kn x = true

theorem opened_sub {ds : List Nd} {bs : List Bool} {t : Int} : ∀ x ∈ openedL ds bs t, x ∈ (nd ds t).l := by
  intro x hx
  unfold openedL at hx
  split at hx
  · exact hx
  split at hx
  · split at hx
    · split at hx
      · exact List.mem_of_mem_drop (List.mem_of_mem_take hx)
      · cases hx
    · cases hx
  split at hx
  · split at hx
    · exact List.mem_of_mem_drop hx
    · cases hx
  split at hx
  · exact List.mem_of_mem_drop hx
  split at hx
  · split at hx
    · exact List.mem_of_mem_take hx
    · cases hx
  · cases hx
theorem opened_kn {ds : List Nd} (hg : Good ds) {l : List Int} {bs : List Bool} (hb : ∀ t : Nat, t < ds.length → (bs.getD t false = true ↔ Der ds l (t : Int))) {t : Int} (ht : IsT ds t) (hk : knB bs t = true) {x : Int} (hx : x ∈ openedL ds bs t) : knB bs x = true := by
  have hT : ∀ y, IsT ds y → (knB bs y = true ↔ Der ds l y) := fun y hy => by
    obtain ⟨n, rfl, hn⟩ := isT_nat hy
    have := hb n hn
    unfold knB
    rwa [Int.toNat_natCast]
  by_cases hall : ((nd ds t).op != 1 && (nd ds t).l.all (knB bs)) = true
  · rw [Bool.and_eq_true, List.all_eq_true] at hall
    exact hall.2 x (opened_sub x hx)
  · have hnx : nextL ds bs t = openedL ds bs t := by
      unfold nextL
      rw [if_neg hall, if_pos hk]
    rw [← hnx] at hx
    exact (hT x (nextL_isT hg ht x hx)).2 (nextL_sound hg (fun y hy h => (hT y hy).1 h) ht x hx)
theorem clos_of {ds : List Nd} (hg : Good ds) {l : List Int} {bs : List Bool} (hb : ∀ t : Nat, t < ds.length → (bs.getD t false = true ↔ Der ds l (t : Int))) : Clos ds (knB bs) where
  cList := fun t ht hk ho x hx => opened_kn hg hb ht hk (by unfold openedL; rw [if_pos ho]; exact hx)
  cEnc := fun t ht hk ho h0 x hx => by
    have hm : ∀ y ∈ (nd ds t).l.drop 1, knB bs y = true := fun y hy => opened_kn hg hb ht hk (by unfold openedL; rw [if_neg (by omega), if_neg (by omega), if_pos ho, if_pos h0]; exact hy)
    cases hl : (nd ds t).l with
    | nil => rw [hl] at hx; cases hx
    | cons a r =>
      rw [hl] at hx hm h0
      rcases List.mem_cons.1 hx with rfl | hx
      · exact h0
      · exact hm x hx
  cSig := fun t ht hk ho x hx => opened_kn hg hb ht hk (by unfold openedL; rw [if_neg (by omega), if_neg (by omega), if_neg (by omega), if_pos ho]; exact hx)
  cSeal := fun t ht hk sk hs h0 x hx => by
    have ho : (nd ds t).op = 8 := by
      unfold sealedTo at hs
      split at hs
      · assumption
      · cases hs
    exact opened_kn hg hb ht hk (by unfold openedL; rw [if_neg (by omega), if_pos ho, hs]; simp only; rw [if_pos h0]; exact hx)
theorem Clos.compound {ds : List Nd} {kn : Int → Bool} (h : Clos ds kn) {t : Int} (ht : IsT ds t) (hk : kn t = true) (hc : compound kn (nd ds t) = true) : ∀ x ∈ (nd ds t).l, kn x = true := fun x hx => by
  unfold Go.Proofs.YtangbnmgkcmhbaaDoor.compound at hc
  rw [Bool.or_eq_true, beq_iff_eq, Bool.and_eq_true] at hc
  rcases hc with hc | ⟨_, hc⟩
  · exact h.cList t ht hk hc x hx
  · exact List.all_eq_true.1 hc x hx
end Go.Proofs.YtangbnmgkcmhbaaDoor
end

section
/- Walks: the document's shower: name, number. -/
set_option linter.unusedSimpArgs false
set_option linter.unusedVariables false
namespace Go.Proofs.YtangbnmgkcmhbaaDoor
open Go.RowKit Go.Maps

/-- The shower, where it lies; what it had ahead lies as in w0. -/
structure ShG (w0 W : World) (sb : Nat) (q iv : Value) (ds : List Nd) (a : List Int) : Prop where
  kept : Kept w0 W
  sb0 : w0.heap.size ≤ sb
  rep : ∃ av, Blk W sb 75 [q, iv, av] ∧ OwnI w0.heap.size W av a
  nums : Nums ds a
/-- The blocks of the shower. -/
def shU (W : World) (sb b : Nat) : Prop := b = sb ∨ ∃ av, W.cell? ⟨sb, 2, none⟩ = some av ∧ Blks av b
/-- What a call leaves of it. -/
structure ShT (w0 W : World) (sb : Nat) (q iv : Value) (ds : List Nd) (a : List Int) (W' : World) : Prop where
  g : ShG w0 W' sb q iv ds a
  t : Turn (shU W sb) W W'
  n : ∀ b, shU W' sb b → shU W sb b ∨ W.heap.size ≤ b
section
variable {w0 W : World} {sb : Nat} {q iv : Value} {ds : List Nd} {a : List Int}
theorem ShG.lt (h : ShG w0 W sb q iv ds a) : ∀ b, shU W sb b → b < W.heap.size ∧ w0.heap.size ≤ b := by
  obtain ⟨av, h1, h2⟩ := h.rep
  rintro b (rfl | ⟨av', hc, hb⟩)
  · exact ⟨h1.lt, h.sb0⟩
  · have := h1.cell 2
    simp only [List.getElem?_cons_succ, List.getElem?_cons_zero] at this
    rw [this] at hc
    obtain rfl := Option.some.inj hc
    exact Ownv.lt h2 hb
theorem shU_kept (h : ShG w0 W sb q iv ds a) {W' : World} (k : Kept W W') (b : Nat) : shU W' sb b ↔ shU W sb b := by
  have e : W'.cell? ⟨sb, 2, none⟩ = W.cell? ⟨sb, 2, none⟩ := k.cell (p := ⟨sb, 2, none⟩) (h.lt sb (.inl rfl)).1
  unfold shU
  rw [e]
theorem ShG.more (h : ShG w0 W sb q iv ds a) {W' : World} (k : Kept W W') : ShG w0 W' sb q iv ds a := by
  obtain ⟨av, h1, h2⟩ := h.rep
  exact ⟨h.kept.trans k, h.sb0, ⟨av, h1.kept k, Ownv.kept h2 k⟩, h.nums⟩
theorem ShT.refl (h : ShG w0 W sb q iv ds a) : ShT w0 W sb q iv ds a W := ⟨h, Turn.refl _ _, fun b hb => .inl hb⟩
theorem ShT.trans {a' a'' : List Int} {W' W'' : World} (h : ShT w0 W sb q iv ds a' W') (k : ShT w0 W' sb q iv ds a'' W'') : ShT w0 W sb q iv ds a'' W'' :=
  ⟨k.g, h.t.trans k.t (fun b hb => h.n b hb), fun b hb => (k.n b hb).elim (h.n b) (fun c => .inr (Nat.le_trans h.t.size c))⟩
/-- Memory was added behind. -/
theorem ShT.more {a' : List Int} {W' : World} (h : ShT w0 W sb q iv ds a' W') {W'' : World} (k : Kept W' W'') : ShT w0 W sb q iv ds a' W'' :=
  ⟨h.g.more k, h.t.kept k, fun b hb => h.n b ((shU_kept h.g k b).1 hb)⟩
/-- Memory was added ahead. -/
theorem ShT.ahead (hg : ShG w0 W sb q iv ds a) {W1 : World} (k : Kept W W1) {a' : List Int} {W' : World} (h : ShT w0 W1 sb q iv ds a' W') : ShT w0 W sb q iv ds a' W' :=
  ⟨h.g, (k.turn _).trans h.t (fun b hb => .inl ((shU_kept hg k b).1 hb)), fun b hb => (h.n b hb).elim (fun c => .inl ((shU_kept hg k b).1 c)) (fun c => .inr (Nat.le_trans k.size c))⟩
end
def ShPost (w0 W : World) (sb : Nat) (q iv : Value) (ds : List Nd) (txt : List UInt8) (a' : List Int) (e : Ending) (W' : World) : Prop := e = .returned (.string (strB txt)) ∧ ShT w0 W sb q iv ds a' W'
theorem ShPost.ahead {w0 W W1 : World} {sb : Nat} {q iv : Value} {ds : List Nd} {a : List Int} (hg : ShG w0 W sb q iv ds a) (k : Kept W W1) {txt : List UInt8} {a' : List Int} {e : Ending} {W' : World} (h : ShPost w0 W1 sb q iv ds txt a' e W') : ShPost w0 W sb q iv ds txt a' e W' := ⟨h.1, ShT.ahead hg k h.2⟩

set_option maxHeartbeats 4000000 in
set_option maxRecDepth 100000 in
theorem name_any (op : Int) (h1 : 1 ≤ op) (h2 : op ≤ 12) (h3 : op ≠ 2) (w : World) :
    Calls Tryd.prog 57 #[.int .i64 op] w fun e w' => e = .returned (.string (strB (pName op))) ∧ Kept w w' := by
  have hc : op = 1 ∨ op = 3 ∨ op = 4 ∨ op = 5 ∨ op = 6 ∨ op = 7 ∨ op = 8 ∨ op = 9 ∨ op = 10 ∨ op = 11 ∨ op = 12 := by omega
  rcases hc with rfl | rfl | rfl | rfl | rfl | rfl | rfl | rfl | rfl | rfl | rfl
  all_goals
    go_enter Tryd.func57, Tryd.ntmps57
    go_wp2
    go_ret
    exact ⟨rfl, (Kept.refl w).alloc _⟩

theorem numAt_mem {a : List Int} {t : Int} (h : t ∈ a) : numAt a t < a.length ∧ a.getD (numAt a t) 0 = t := by
  unfold numAt
  have := List.idxOf_lt_length_iff.2 h
  refine ⟨this, ?_⟩
  rw [List.getD_eq_getElem?_getD, List.getElem?_eq_getElem this]
  simp
theorem numAt_before {a : List Int} {t : Int} {j : Nat} (h : j < numAt a t) : a.getD j 0 ≠ t := by
  unfold numAt at h
  have hl := Nat.lt_of_lt_of_le h List.idxOf_le_length
  rw [List.getD_eq_getElem?_getD, List.getElem?_eq_getElem hl]
  intro e
  have h2 := List.not_of_lt_findIdx (p := fun x => x == t) (xs := a) (i := j) (by unfold List.idxOf at h; exact h)
  simp at h2 e
  exact h2 e
theorem numAt_new {a : List Int} {t : Int} (h : t ∉ a) : numAt a t = a.length ∧ addN a t = a ++ [t] := by
  refine ⟨?_, by unfold addN; rw [if_neg h]⟩
  unfold numAt
  exact List.idxOf_eq_length h
end Go.Proofs.YtangbnmgkcmhbaaDoor
end

section
/- Walks: the document's shower: number. -/
set_option linter.unusedSimpArgs false
set_option linter.unusedVariables false
namespace Go.Proofs.YtangbnmgkcmhbaaDoor
open Go.RowKit Go.Maps

set_option maxHeartbeats 4000000 in
set_option maxRecDepth 100000 in
theorem number_any05 {w0 W : World} {sb : Nat} {q iv : Value} {ds : List Nd} {a : List Int} (h : ShG w0 W sb q iv ds a) (hds : ds.length ≤ 100000) {t : Int} (ht : IsT ds t) :
    Calls Tryd.prog 59 #[.pointer (some ⟨sb, 0, none⟩), .int .i64 t] W (ShPost w0 W sb q iv ds (35 :: Lib.itoa (numAt a t)) (addN a t)) := by
  have HH := Shut.mk h
  have hal : a.length ≤ 100000 := Nat.le_trans h.nums.len hds
  have hlo := (h.lt sb (.inl rfl)).2
  obtain ⟨av, hb, ho⟩ := h.rep
  obtain ⟨aa, ac, rfl, a1, a2, a3⟩ := (OwnI.rd ho).len
  have c2 := hb.cell 2
  have f2 := hb.frozen 2
  simp only [List.getElem?_cons_succ, List.getElem?_cons_zero] at c2
  have HT := Shut.mk ht
  have hrd := OwnI.rd ho
  have a63 : (a.length : Int) ≤ 9223372036854775807 := by omega
  have hsz := W.heap.size
  by_cases hm : t ∈ a
  · obtain ⟨hn1, hn2⟩ := numAt_mem hm
    have hnew : addN a t = a := by unfold addN; rw [if_pos hm]
    rw [hnew]
    have hbef := fun j => @numAt_before a t j
    generalize numAt a t = n at hn1 hn2 hbef ⊢
    have hdg := itoaR (n : Int) (by omega) (by omega)
    have HBEF := Shut.mk hbef
    have HN2 := Shut.mk hn2
    have hil : (Lib.itoa (n : Int)).length ≤ 30 := Nat.le_trans (itoa_len ⟨by omega, by omega⟩) (by omega)
    have hj : strB (35 :: Lib.itoa (n : Int)) = (⟨#[35]⟩ : ByteArray) ++ strB (Lib.itoa (n : Int)) := strB_cat2 [35] _
    have HJ := Shut.mk hj
    have hsn := strB_size (Lib.itoa (n : Int))
    generalize strB (Lib.itoa (n : Int)) = S at hdg hsn HJ
    rw [← hsn] at hil
    clear h ht hm hnew hbef hn2 hb ho f2 hj hsn
    go_enter Tryd.func59, Tryd.ntmps59
    go_wp2
    go_loopw [12] (fun i wr => ∃ k : Nat, k ≤ n ∧ i = .int .i64 k ∧ W = wr) (fun i _ => n - (intOf i).toNat)
    case atStart => exact ⟨0, Nat.zero_le _, rfl, rfl⟩
    case round =>
      obtain ⟨k, hk0, rfl, rfl⟩ := hrel
      obtain ⟨rb, ro, rc, hrv, _, _, hrb, hcl⟩ := hrd.addr (by omega)
      simp only [Value.slice.injEq] at hrv
      obtain ⟨rfl, _, rfl⟩ := hrv
      have hcw := hcl k (by omega)
      have hkI : (k : Int) < (a.length : Int) := by omega
      by_cases hlt : k < n
      · have hne := HBEF.out k hlt
        have hneb : (a.getD k 0 == t) = false := by rw [beq_eq_false_iff_ne]; exact hne
        have HLT := Shut.mk hlt
        generalize a.getD k 0 = x at hcw hneb
        clear hcl hne hlt
        go_wp2
        go_roundw
        case rel => exact ⟨k + 1, HLT.out, rfl, by first | rfl | trivial⟩
        case measure => simp [intOf]; have := HLT.out; omega
      · obtain rfl : k = n := by omega
        rw [HN2.out] at hcw
        clear hcl hlt
        go_wp2_with (go_at_call 68; refine (hdg _).mono ?_; rintro e w' ⟨rfl, m, rfl⟩)
        go_ret
        exact ⟨by rw [HJ.out]; rfl, (ShT.refl HH.out).more ((Kept.refl _).drewN _)⟩
  · obtain ⟨hn1, hn2⟩ := numAt_new hm
    have HNUM := Shut.mk (h.nums.add ht)
    rw [hn2] at HNUM
    rw [hn1, hn2]
    have hdg := itoaR (a.length : Int) (by omega) (by omega)
    have hil : (Lib.itoa (a.length : Int)).length ≤ 30 := Nat.le_trans (itoa_len ⟨by omega, by omega⟩) (by omega)
    have hj : strB (35 :: Lib.itoa (a.length : Int)) = (⟨#[35]⟩ : ByteArray) ++ strB (Lib.itoa (a.length : Int)) := strB_cat2 [35] _
    have HJ := Shut.mk hj
    have hsn := strB_size (Lib.itoa (a.length : Int))
    generalize strB (Lib.itoa (a.length : Int)) = S at hdg hsn HJ
    rw [← hsn] at hil
    have HB := Shut.mk hb
    have HO := Shut.mk ho
    have HM : Shut (∀ k, k < a.length → (a.getD k 0 == t) = false) := ⟨fun k hk => by rw [beq_eq_false_iff_ne]; exact fun e => hm (e ▸ getD_mem hk)⟩
    have t64 : I64 t := ⟨by have := ht.1; omega, by have := ht.2; omega⟩
    clear h ht hm hn1 hn2 hb ho hj hsn
    go_enter Tryd.func59, Tryd.ntmps59
    go_wp2
    go_loopw [12] (fun i wr => ∃ k : Nat, k ≤ a.length ∧ i = .int .i64 k ∧ W = wr) (fun i _ => a.length - (intOf i).toNat)
    case atStart => exact ⟨0, Nat.zero_le _, rfl, rfl⟩
    case round =>
      obtain ⟨k, hk0, rfl, rfl⟩ := hrel
      by_cases hlt : k < a.length
      · obtain ⟨rb, ro, rc, hrv, _, _, hrb, hcl⟩ := hrd.addr (by omega)
        simp only [Value.slice.injEq] at hrv
        obtain ⟨rfl, _, rfl⟩ := hrv
        have hcw := hcl k (by omega)
        have hkI : (k : Int) < (a.length : Int) := by omega
        have hneb := HM.out k hlt
        have HLT := Shut.mk hlt
        generalize a.getD k 0 = x at hcw hneb
        clear hcl hlt
        go_wp2
        go_roundw
        case rel => exact ⟨k + 1, HLT.out, rfl, by first | rfl | trivial⟩
        case measure => simp [intOf]; have := HLT.out; omega
      · obtain rfl : k = a.length := by omega
        clear hlt hk0
        have k1 : Kept W (W.alloc (.cells #[.int .i64 t] 3)) := (Kept.refl W).alloc _
        have oA : OwnI w0.heap.size _ _ _ := Ownv.kept HO.out k1
        have oL := (OwnI.lit1 W t).rd
        have hw0 : w0.heap.size ≤ (W.alloc (.cells #[.int .i64 t] 3)).heap.size := Nat.le_trans HH.out.kept.size k1.size
        go_wp2_with (first
          | (at_builtin; refine go_appi w0.heap.size _ a rfl oA _ [t] rfl oL (by simp; omega) hw0 ?_; intro v2 w2 o2 t2 l2; obtain ⟨g2, c2', hv2, _, _, _, _, _, _⟩ := OwnI.row o2 (by simp); rw [List.length_append, List.length_singleton] at hv2; subst hv2; have b2 := (HB.out.kept k1).turn t2 (Ownv.notBlk oA (HB.out.kept k1) (by decide)); have d2 := b2.cell 2; have e2 := b2.frozen 2; simp only [List.getElem?_cons_succ, List.getElem?_cons_zero] at d2)
          | (go_at_call 68; refine (hdg _).mono ?_; rintro e w' ⟨rfl, m, rfl⟩))
        go_ret
        have t2' : Turn (Blks (.slice aa a.length ac)) W w2 := (k1.turn _).trans t2 (fun b hb => .inl hb)
        have ts := turn_setCell w2 ⟨sb, 2, none⟩ (.slice (some ⟨g2, 0, none⟩) (a.length + 1) c2')
        have tt : Turn (shU W sb) W (w2.setCell ⟨sb, 2, none⟩ (.slice (some ⟨g2, 0, none⟩) (a.length + 1) c2')) := (t2'.mono fun b hb => .inr ⟨_, c2, hb⟩).trans ts (fun b hb => .inl (.inl hb))
        have hB : Blk (w2.setCell ⟨sb, 2, none⟩ (.slice (some ⟨g2, 0, none⟩) (a.length + 1) c2')) sb 75 [q, iv, .slice (some ⟨g2, 0, none⟩) (a.length + 1) c2'] := b2.set 2 _
        have hO : OwnI w0.heap.size (w2.setCell ⟨sb, 2, none⟩ (.slice (some ⟨g2, 0, none⟩) (a.length + 1) c2')) (.slice (some ⟨g2, 0, none⟩) (a.length + 1) c2') (a ++ [t]) := Ownv.setCell o2 (Ownv.notBlk o2 b2 (by decide)) _
        have hT : ShT w0 W sb q iv ds (a ++ [t]) (w2.setCell ⟨sb, 2, none⟩ (.slice (some ⟨g2, 0, none⟩) (a.length + 1) c2')) := by
          refine ⟨⟨Turn.keptOf HH.out.kept tt (fun b hb => (HH.out.lt b hb).2), HH.out.sb0, ⟨_, hB, hO⟩, HNUM.out⟩, tt, fun b hb => ?_⟩
          rcases hb with rfl | ⟨av', hc, hb⟩
          · exact .inl (.inl rfl)
          · have := hB.cell 2
            simp only [List.getElem?_cons_succ, List.getElem?_cons_zero] at this
            rw [this] at hc
            obtain rfl := Option.some.inj hc
            rcases l2 b hb with c | c
            · exact .inl (.inr ⟨_, c2, c⟩)
            · rw [alloc_size] at c
              exact .inr (by omega)
        exact ⟨by rw [HJ.out]; rfl, hT.more ((Kept.refl _).drewN _)⟩
end Go.Proofs.YtangbnmgkcmhbaaDoor
end

section
/- Walks: the document's shower: parts. -/
set_option linter.unusedSimpArgs false
set_option linter.unusedVariables false
namespace Go.Proofs.YtangbnmgkcmhbaaDoor
open Go.RowKit Go.Maps

/-- What pattern does to t, wherever. -/
def PatC (w0 : World) (sb : Nat) (q iv : Value) (ds : List Nd) (kn : Int → Bool) (t : Int) : Prop :=
  ∀ (W : World) (a : List Int), ShG w0 W sb q iv ds a → Calls Tryd.prog 39 #[.pointer (some ⟨sb, 0, none⟩), .int .i64 t] W (ShPost w0 W sb q iv ds (pat ds kn a t).1 (pat ds kn a t).2)
theorem strB_ss {a b c : List UInt8} (h : c = a ++ b) : strB c = strB a ++ strB b := by rw [h]; exact strB_cat2 a b

set_option maxHeartbeats 4000000 in
set_option maxRecDepth 100000 in
theorem parts_any05 {w0 W : World} {sb : Nat} {q iv v : Value} {ds : List Nd} {kn : Int → Bool} {a l : List Int} (h : ShG w0 W sb q iv ds a) (hd : RdI w0 v l) (hll : l.length ≤ 1000) (hih : ∀ x ∈ l, PatC w0 sb q iv ds kn x)
    (hsum : ∀ k, k ≤ l.length → (pts (pat ds kn) true a (l.take k)).1.length ≤ 200000) (hone : ∀ a', Nums ds a' → ∀ x ∈ l, (pat ds kn a' x).1.length ≤ 200000) :
    Calls Tryd.prog 58 #[.pointer (some ⟨sb, 0, none⟩), v] W (ShPost w0 W sb q iv ds (40 :: ((pts (pat ds kn) true a l).1 ++ [41])) (pts (pat ds kn) true a l).2) := by
  have HH := Shut.mk h
  have HIH := Shut.mk hih
  have HSUM := Shut.mk hsum
  have HONE := Shut.mk hone
  have hrd := hd.kept h.kept
  obtain ⟨la, lc, rfl, l1, l2, _⟩ := hrd.len
  have l63 : (l.length : Int) ≤ 9223372036854775807 := by omega
  have HD := Shut.mk hd
  clear h hd hih hsum hone hrd l1 l2
  go_enter Tryd.func58, Tryd.ntmps58
  go_wp2
  go_loopw [5, 10] (fun s i wr => ∃ k : Nat, k ≤ l.length ∧ i = .int .i64 k ∧ s = .string (strB (40 :: (pts (pat ds kn) true a (l.take k)).1)) ∧ Shut (ShT w0 W sb q iv ds (pts (pat ds kn) true a (l.take k)).2 wr)) (fun _ i _ => l.length - (intOf i).toNat)
  case atStart => exact ⟨0, Nat.zero_le _, rfl, rfl, ⟨ShT.refl HH.out⟩⟩
  case round =>
    obtain ⟨k, hk0, rfl, rfl, st⟩ := hrel
    have hsz := strB_size (40 :: (pts (pat ds kn) true a (l.take k)).1)
    have hb := HSUM.out k hk0
    rw [List.length_cons] at hsz
    by_cases hlt : k < l.length
    · obtain ⟨rb, ro, rfl, hx⟩ := (HD.out.kept HH.out.kept).at hlt
      have hkw : Kept w0 wr := st.out.g.kept
      obtain ⟨rb', ro', hla, hx'⟩ := HD.out.at hlt
      simp only [Option.some.injEq, Addr.mk.injEq, and_true] at hla
      obtain ⟨rfl, rfl⟩ := hla
      have c1 := hx' wr hkw
      have hm := getD_mem hlt
      have hpc := HIH.out _ hm wr _ st.out.g
      have hon := HONE.out _ st.out.g.nums _ hm
      have hstep := pts_step (pat ds kn) a hlt
      clear hx hx'
      generalize l.getD k 0 = x at c1 hpc hstep hon
      have hf : (pts (pat ds kn) true a (l.take (k + 1))).1 = (pts (pat ds kn) true a (l.take k)).1 ++ ((if k = 0 then [] else [44]) ++ (pat ds kn (pts (pat ds kn) true a (l.take k)).2 x).1) := by rw [hstep]
      have hs2 : (pts (pat ds kn) true a (l.take (k + 1))).2 = (pat ds kn (pts (pat ds kn) true a (l.take k)).2 x).2 := by rw [hstep]
      have HF := Shut.mk hf
      have HS2 := Shut.mk hs2
      clear hf hs2 hstep
      generalize hP : pat ds kn (pts (pat ds kn) true a (l.take k)).2 x = P at HF HS2 hpc hon
      have hsp := strB_size P.1
      have HP := Shut.mk hP
      clear hP
      have HLT := Shut.mk hlt
      have hkI : (k : Int) < (l.length : Int) := by omega
      by_cases k0 : k = 0
      · subst k0
        simp only [Nat.add_zero] at c1
        have hjoin : strB (40 :: (pts (pat ds kn) true a (l.take (0 + 1))).1) = strB (40 :: (pts (pat ds kn) true a (l.take 0)).1) ++ strB P.1 := strB_ss (by rw [HF.out, if_pos rfl, List.nil_append]; rfl)
        have HJ := Shut.mk hjoin
        clear hjoin
        generalize hS : strB (40 :: (pts (pat ds kn) true a (l.take 0)).1) = S at hsz HJ ⊢
        have hpc' : Calls Tryd.prog 39 #[.pointer (some ⟨sb, 0, none⟩), .int .i64 x] wr fun e W' => e = .returned (.string (strB P.1)) ∧ ShT w0 wr sb q iv ds P.2 W' := hpc
        generalize hT : strB P.1 = T at hsp hpc' HJ
        clear hpc hS hT
        go_wp2_with (go_at_call 39; (with_reducible refine hpc'.mono ?_); rintro e w1 ⟨rfl, t1⟩)
        go_roundw
        case rel => exact ⟨0 + 1, HLT.out, rfl, by rw [HJ.out], ⟨by rw [HS2.out]; exact st.out.trans t1⟩⟩
        case measure => simp [intOf]; have := HLT.out; omega
      · have hjoin : strB (40 :: (pts (pat ds kn) true a (l.take (k + 1))).1) = (strB (40 :: (pts (pat ds kn) true a (l.take k)).1) ++ (⟨#[44]⟩ : ByteArray)) ++ strB P.1 := by
          have e1 : (40 :: (pts (pat ds kn) true a (l.take (k + 1))).1) = ((40 :: (pts (pat ds kn) true a (l.take k)).1) ++ [44]) ++ P.1 := by rw [HF.out, if_neg k0]; simp
          rw [strB_ss e1, strB_ss (rfl : (40 :: (pts (pat ds kn) true a (l.take k)).1) ++ [44] = _ ++ [44])]
          rfl
        have HJ := Shut.mk hjoin
        have k0I : (0 : Int) < (k : Int) := by omega
        clear hjoin k0
        generalize hS : strB (40 :: (pts (pat ds kn) true a (l.take k)).1) = S at hsz HJ ⊢
        have hpc' : Calls Tryd.prog 39 #[.pointer (some ⟨sb, 0, none⟩), .int .i64 x] wr fun e W' => e = .returned (.string (strB P.1)) ∧ ShT w0 wr sb q iv ds P.2 W' := hpc
        generalize hT : strB P.1 = T at hsp hpc' HJ
        clear hpc hS hT
        go_wp2_with (go_at_call 39; (with_reducible refine hpc'.mono ?_); rintro e w1 ⟨rfl, t1⟩)
        go_roundw
        case rel => exact ⟨k + 1, HLT.out, rfl, by rw [HJ.out], ⟨by rw [HS2.out]; exact st.out.trans t1⟩⟩
        case measure => simp [intOf]; have := HLT.out; omega
    · obtain rfl : k = l.length := by omega
      have ht : l.take l.length = l := List.take_length
      have hjoin : strB (40 :: ((pts (pat ds kn) true a l).1 ++ [41])) = strB (40 :: (pts (pat ds kn) true a (l.take l.length)).1) ++ (⟨#[41]⟩ : ByteArray) := by
        rw [ht]
        exact strB_ss rfl
      have HJ := Shut.mk hjoin
      clear hjoin
      have HT := Shut.mk ht
      clear ht
      generalize hS : strB (40 :: (pts (pat ds kn) true a (l.take l.length)).1) = S at hsz HJ ⊢
      have hsb : S.size ≤ 200001 := by omega
      clear hS hsz hb
      go_wp2
      go_ret
      exact ⟨by rw [HJ.out]; rfl, by have := st.out; rwa [HT.out] at this⟩
end Go.Proofs.YtangbnmgkcmhbaaDoor
end

section
/- Walks: the document's shower: pattern of a Text, of a compound. -/
set_option linter.unusedSimpArgs false
set_option linter.unusedVariables false
namespace Go.Proofs.YtangbnmgkcmhbaaDoor
open Go.RowKit Go.Maps

/-- What the shower stands on. -/
structure ShA (G : Nat → Prop) (w0 : World) (q : Value) (ds : List Nd) (g c : Nat) (bs : List Bool) : Prop where
  ar : ArR G w0 q ds
  inn : OwnB 0 w0 (.slice (some ⟨g, 0, none⟩) ds.length c) bs
  len : bs.length = ds.length
  clos : Clos ds (knB bs)
  few : ds.length ≤ 1000
  s60 : ∀ t, IsT ds t → (nd ds t).s.length ≤ 60

theorem kept_cell'' {w w' : World} (k : Kept w w') {b i : Nat} {v : Value} (h : w.cell? ⟨b, i, none⟩ = some v) : w'.cell? ⟨b, i, none⟩ = some v := (k.cell (p := ⟨b, i, none⟩) (World.block_lt_of_cell? _ _ h)).trans h

set_option maxHeartbeats 8000000 in
set_option maxRecDepth 100000 in
theorem patD_text {G : Nat → Prop} {w0 W : World} {sb g c : Nat} {q : Value} {ds : List Nd} {bs : List Bool} {a : List Int} (hA : ShA G w0 q ds g c bs) (h : ShG w0 W sb q (.slice (some ⟨g, 0, none⟩) ds.length c) ds a) {t : Nat} (ht : t < ds.length) (ho : (nd ds (t : Int)).op = 2) :
    Calls Tryd.prog 39 #[.pointer (some ⟨sb, 0, none⟩), .int .i64 (t : Int)] W (ShPost w0 W sb q (.slice (some ⟨g, 0, none⟩) ds.length c) ds (pat ds (knB bs) a (t : Int)).1 (pat ds (knB bs) a (t : Int)).2) := by
  have hg := hA.ar.good
  have hfew := hA.few
  have hT : IsT ds (t : Int) := ⟨by omega, by omega⟩
  have hp : pat ds (knB bs) a (t : Int) = (34 :: ((nd ds (t : Int)).s ++ [34]), a) := by
    rw [pat_eq hg _ hT]
    unfold pstep
    rw [if_pos ho]
  have hs60 := hA.s60 _ hT
  rw [hp]
  obtain ⟨pb, nb, ncap, rfl, c0, hpb, hall⟩ := ArG.rowN hA.ar (by omega)
  obtain ⟨la, lc, hcl, hlr, hGl⟩ := hall t ht
  obtain ⟨y0, y1, y2, y3⟩ := hcl W h.kept
  obtain ⟨av, hb, _⟩ := h.rep
  have s0 := hb.cell 0
  simp only [List.getElem?_cons_zero] at s0
  have c0W := kept_cell'' h.kept c0
  have tI : (t : Int) < (ds.length : Int) := by omega
  rw [nd_of] at ho hs60
  rw [ho] at y0
  have hj : strB (34 :: ((nd ds (t : Int)).s ++ [34])) = ((⟨#[34]⟩ : ByteArray) ++ strB (ds.getD t nd0).s) ++ (⟨#[34]⟩ : ByteArray) := by
    rw [nd_of]
    have e1 : 34 :: ((ds.getD t nd0).s ++ [34]) = ([34] ++ (ds.getD t nd0).s) ++ [34] := by simp
    rw [strB_ss e1, strB_ss (rfl : [34] ++ (ds.getD t nd0).s = [34] ++ _)]
    rfl
  have HJ := Shut.mk hj
  have hz := strB_size (ds.getD t nd0).s
  rw [← hz] at hs60
  generalize (ds.getD t nd0).n = nn at y1
  generalize (ds.getD t nd0).l.length = L at y3
  generalize strB (ds.getD t nd0).s = X at y2 hs60 HJ
  have HH := Shut.mk h
  clear h hA hall hcl hlr hGl hp hj hz ho c0 hb
  go_enter Tryd.func39, Tryd.ntmps39
  go_wp2
  go_ret
  exact ⟨by rw [HJ.out]; rfl, (ShT.refl HH.out).more ((Kept.refl _).alloc _)⟩
/-- Texts that are short. -/
structure LenOk (ds : List Nd) (kn : Int → Bool) (l : List Int) : Prop where
  one : ∀ a', Nums ds a' → ∀ x ∈ l, (pat ds kn a' x).1.length ≤ 200000
  sum : ∀ a', Nums ds a' → ∀ k, k ≤ l.length → (pts (pat ds kn) true a' (l.take k)).1.length ≤ 200000
theorem lenOk_of {ds : List Nd} (hg : Good ds) (hl : ds.length ≤ 100000) (hs : ∀ t, IsT ds t → (nd ds t).s.length ≤ 60) (kn : Int → Bool) {l : List Int} (hT : ∀ x ∈ l, IsT ds x) (hw : (l.map (wt ds)).sum < 3000) : LenOk ds kn l := by
  have h1 : ∀ a, Nums ds a → ∀ x ∈ l, (pat ds kn a x).1.length + 1 ≤ 63 * wt ds x := fun a ha x hx => pat_len hg hl hs kn _ x (Nat.lt_succ_self _) (hT x hx) (by
    have : wt ds x ≤ (l.map (wt ds)).sum := mem_sum_le (List.mem_map.2 ⟨x, hx, rfl⟩)
    omega) a ha
  refine ⟨fun a ha x hx => ?_, fun a ha k hk => ?_⟩
  · have := h1 a ha x hx
    have : wt ds x ≤ (l.map (wt ds)).sum := mem_sum_le (List.mem_map.2 ⟨x, hx, rfl⟩)
    omega
  · have := pts_len (g := wt ds) (one := pat ds kn) (l := l.take k) (fun a ha x hx => h1 a ha x (List.mem_of_mem_take hx)) (fun a ha x hx => pat_nums hg kn _ x (Nat.lt_succ_self _) (hT x (List.mem_of_mem_take hx)) a ha) true ha
    have h3 : ((l.take k).map (wt ds)).sum ≤ (l.map (wt ds)).sum := by rw [List.map_take]; have := congrArg List.sum (List.take_append_drop k (l.map (wt ds))); rw [List.sum_append] at this; omega
    omega

set_option maxHeartbeats 8000000 in
set_option maxRecDepth 100000 in
theorem patD_comp {G : Nat → Prop} {w0 W : World} {sb g c : Nat} {q : Value} {ds : List Nd} {bs : List Bool} {a : List Int} (hA : ShA G w0 q ds g c bs) (h : ShG w0 W sb q (.slice (some ⟨g, 0, none⟩) ds.length c) ds a) {t : Nat} (ht : t < ds.length) (ho : (nd ds (t : Int)).op ≠ 2) (hc : compound (knB bs) (nd ds (t : Int)) = true)
    (hih : ∀ x ∈ (nd ds (t : Int)).l, PatC w0 sb q (.slice (some ⟨g, 0, none⟩) ds.length c) ds (knB bs) x) (hlen : LenOk ds (knB bs) (nd ds (t : Int)).l) :
    Calls Tryd.prog 39 #[.pointer (some ⟨sb, 0, none⟩), .int .i64 (t : Int)] W (ShPost w0 W sb q (.slice (some ⟨g, 0, none⟩) ds.length c) ds (pat ds (knB bs) a (t : Int)).1 (pat ds (knB bs) a (t : Int)).2) := by
  have hg := hA.ar.good
  have hfew := hA.few
  have hT : IsT ds (t : Int) := ⟨by omega, by omega⟩
  have hp : pat ds (knB bs) a (t : Int) = br (pName (nd ds (t : Int)).op) (pts (pat ds (knB bs)) true a (nd ds (t : Int)).l) := by
    rw [pat_eq hg _ hT]
    unfold pstep
    rw [if_neg ho, if_pos hc]
  have hmay := hg.may' ht
  rw [hp]
  have hpl := hlen.sum a h.nums (nd ds (t : Int)).l.length (Nat.le_refl _)
  rw [List.take_length] at hpl
  obtain ⟨pb, nb, ncap, rfl, c0, hpb, hall⟩ := ArG.rowN hA.ar (by omega)
  obtain ⟨la, lc, hcl, hlr, hGl⟩ := hall t ht
  obtain ⟨y0, y1, y2, y3⟩ := hcl W h.kept
  obtain ⟨av, hb, _⟩ := h.rep
  have s0 := hb.cell 0
  have s1 := hb.cell 1
  simp only [List.getElem?_cons_zero, List.getElem?_cons_succ] at s0 s1
  have c0W := kept_cell'' h.kept c0
  have tI : (t : Int) < (ds.length : Int) := by omega
  have hless := hg.lesser ht
  rw [nd_of] at ho hc hih hpl hlen ⊢
  obtain ⟨WA, hWA⟩ : ∃ WA, WA = W.alloc (.cells #[.int .i64 (ds.getD t nd0).op, .int .i64 (ds.getD t nd0).n, .string (strB (ds.getD t nd0).s), .slice la (ds.getD t nd0).l.length lc] 51) := ⟨_, rfl⟩
  have kA : Kept W WA := by rw [hWA]; exact (Kept.refl W).alloc _
  have bA := Blk.new W [.int .i64 (ds.getD t nd0).op, .int .i64 (ds.getD t nd0).n, .string (strB (ds.getD t nd0).s), .slice la (ds.getD t nd0).l.length lc] 51
  rw [← hWA] at bA
  have hgA := h.more kA
  have hnU : ¬ shU WA sb W.heap.size := fun hc => by have := (h.lt _ ((shU_kept h kA _).1 hc)).1; omega
  have HWA := Shut.mk hWA
  clear hWA
  have hpa : ∀ W', Kept WA W' → Calls Tryd.prog 58 #[.pointer (some ⟨sb, 0, none⟩), .slice la (ds.getD t nd0).l.length lc] W' (ShPost w0 WA sb (.pointer (some ⟨pb, 0, none⟩)) (.slice (some ⟨g, 0, none⟩) ds.length c) ds (40 :: ((pts (pat ds (knB bs)) true a (ds.getD t nd0).l).1 ++ [41])) (pts (pat ds (knB bs)) true a (ds.getD t nd0).l).2) := fun W' k =>
    (parts_any05 (hgA.more k) hlr (by have := hmay.len64; omega) hih (hlen.sum a h.nums) hlen.one).mono fun e w' p => p.ahead hgA k
  have hal := fun W' (k : Kept WA W') => allR_any (Ownv.kept hA.inn (hgA.kept.trans k)) hA.len ((hlr.kept hgA.kept).kept k) (fun x hx => by have := hless x hx; omega)
  have hop := hmay.op1
  have hop2 := hmay.op12
  have hcomp : (ds.getD t nd0).op = 3 ∨ ((ds.getD t nd0).op ≠ 1 ∧ (ds.getD t nd0).op ≠ 3 ∧ (ds.getD t nd0).l.all (knB bs) = true) := by
    unfold compound at hc
    rw [Bool.or_eq_true, beq_iff_eq, Bool.and_eq_true] at hc
    by_cases c3 : (ds.getD t nd0).op = 3
    · exact .inl c3
    · rcases hc with hc | ⟨h1, h2⟩
      · exact .inl hc
      · exact .inr ⟨by simpa using h1, c3, h2⟩
  have HH := Shut.mk h
  clear hall hcl hlr hGl hp c0 hb hih hlen hA hc hmay hless h
  generalize ds.getD t nd0 = d at y0 y1 y2 y3 ho hpl hpa hal hop hop2 hcomp bA HWA ⊢
  obtain ⟨op, n, s, l⟩ := d
  simp only at y0 y1 y2 y3 ho hpl hpa hal hop hop2 hcomp bA HWA ⊢
  obtain ⟨hnm⟩ : Shut (∀ w : World, Calls Tryd.prog 57 #[.int .i64 op] w fun e w' => e = .returned (.string (strB (pName op))) ∧ Kept w w') := ⟨fun w => name_any op hop hop2 ho w⟩
  have hj : strB (br (pName op) (pts (pat ds (knB bs)) true a l)).1 = strB (pName op) ++ strB (40 :: ((pts (pat ds (knB bs)) true a l).1 ++ [41])) := strB_ss rfl
  have HJ := Shut.mk hj
  have hz := strB_size (40 :: ((pts (pat ds (knB bs)) true a l).1 ++ [41]))
  have hz2 := strB_size (pName op)
  have hnl := pName_len op
  rw [List.length_cons, List.length_append, List.length_singleton] at hz
  have hpa' : ∀ W', Kept WA W' → Calls Tryd.prog 58 #[.pointer (some ⟨sb, 0, none⟩), .slice la l.length lc] W' fun e W'' => e = .returned (.string (strB (40 :: ((pts (pat ds (knB bs)) true a l).1 ++ [41])))) ∧ ShT w0 WA sb (.pointer (some ⟨pb, 0, none⟩)) (.slice (some ⟨g, 0, none⟩) ds.length c) ds (pts (pat ds (knB bs)) true a l).2 W'' := hpa
  generalize strB (40 :: ((pts (pat ds (knB bs)) true a l).1 ++ [41])) = T at hz hpa' HJ
  generalize strB (pName op) = N at hnm hz2 HJ
  have hTb : T.size ≤ 200002 := by omega
  have hNb : N.size ≤ 5 := by omega
  have hNT : ¬ 9223372036854775807 < N.size + T.size := by omega
  have hbr2 : (br (pName op) (pts (pat ds (knB bs)) true a l)).2 = (pts (pat ds (knB bs)) true a l).2 := rfl
  have HB2 := Shut.mk hbr2
  generalize strB s = X at y2 bA HWA
  generalize l.all (knB bs) = ab at hal hcomp
  have o2b : (op == 2) = false := by simpa using ho
  clear hj hpa hz hz2 hnl hpl hbr2
  rcases hcomp with rfl | ⟨o1, o3, rfl⟩
  · go_enter Tryd.func39, Tryd.ntmps39
    go_wp2_with fail
    have hWA := HWA.out
    rw [← hWA]
    clear hWA
    have n0 := bA.cell 0
    have n3 := bA.cell 3
    simp only [List.getElem?_cons_succ, List.getElem?_cons_zero] at n0 n3
    go_quiet (fail)
    have kB : Kept WA (WA.drewN nq) := (Kept.refl _).drewN nq
    generalize WA.drewN nq = WB at kB ⊢
    have m0 := kept_cell'' kB n0
    have m3 := kept_cell'' kB n3
    go_wp2_with fail
    go_region_held3 (fun w' => w'.cell? ⟨W.heap.size, 0, none⟩ = some (.int .i64 3) ∧ w'.cell? ⟨W.heap.size, 3, none⟩ = some (.slice la l.length lc))
      (first | exact ⟨m0, m3⟩ | exact ⟨kept_cell'' kq n0, kept_cell'' kq n3⟩ | exact ⟨r0, r3⟩)
      (first
        | (go_at_call 57; (with_reducible refine (hnm _).mono ?_); rintro e w5 ⟨rfl, k5⟩; have kq : Kept WA w5 := (by first | exact kB.trans k5 | exact kB.drew.trans k5 | exact (kB.drewN _).trans k5))
        | (go_at_call 58; (with_reducible refine (hpa' _ (by first | exact kq | exact kq.drew | exact kq.drewN _)).mono ?_); rintro e w6 ⟨rfl, t6⟩; have b6 := bA.turn t6.t hnU; have r0 := b6.cell 0; have r3 := b6.cell 3; simp only [List.getElem?_cons_succ, List.getElem?_cons_zero] at r0 r3))
    go_wp2
    go_ret
    first | exact ⟨by rw [HJ.out]; rfl, by rw [HB2.out]; exact ShT.ahead HH.out kA t6⟩ | exact ⟨by rw [HJ.out]; rfl, by rw [HB2.out]; exact (ShT.ahead HH.out kA t6).more (Kept.refl _).drew⟩ | exact ⟨by rw [HJ.out]; rfl, by rw [HB2.out]; exact (ShT.ahead HH.out kA t6).more ((Kept.refl _).drewN _)⟩
  · have o3b : (op == 3) = false := by simpa using o3
    have o1b : (op != 1) = true := by simpa using o1
    have o1c : (op == 1) = false := by simpa using o1
    have hq := fun (n : Nat) => Calls.quiet_of_same ((hal (WA.drewN n) ((Kept.refl _).drewN n)).mono fun e w' ⟨x, y⟩ => ⟨x, y.symm⟩)
    have s1A := kept_cell'' kA s1
    clear ho o1 o3
    go_enter Tryd.func39, Tryd.ntmps39
    go_wp2_with fail
    have hWA := HWA.out
    rw [← hWA]
    clear hWA
    have n0 := bA.cell 0
    have n3 := bA.cell 3
    simp only [List.getElem?_cons_succ, List.getElem?_cons_zero] at n0 n3
    go_quiet ((go_at_call 56; exact hq _))
    have kB : Kept WA (WA.drewN nq) := (Kept.refl _).drewN nq
    generalize WA.drewN nq = WB at kB ⊢
    have m0 := kept_cell'' kB n0
    have m3 := kept_cell'' kB n3
    go_wp2_with fail
    go_region_held3 (fun w' => w'.cell? ⟨W.heap.size, 0, none⟩ = some (.int .i64 op) ∧ w'.cell? ⟨W.heap.size, 3, none⟩ = some (.slice la l.length lc))
      (first | exact ⟨m0, m3⟩ | exact ⟨kept_cell'' kq n0, kept_cell'' kq n3⟩ | exact ⟨r0, r3⟩)
      (first
        | (go_at_call 57; (with_reducible refine (hnm _).mono ?_); rintro e w5 ⟨rfl, k5⟩; have kq : Kept WA w5 := (by first | exact kB.trans k5 | exact kB.drew.trans k5 | exact (kB.drewN _).trans k5))
        | (go_at_call 58; (with_reducible refine (hpa' _ (by first | exact kq | exact kq.drew | exact kq.drewN _)).mono ?_); rintro e w6 ⟨rfl, t6⟩; have b6 := bA.turn t6.t hnU; have r0 := b6.cell 0; have r3 := b6.cell 3; simp only [List.getElem?_cons_succ, List.getElem?_cons_zero] at r0 r3))
    go_wp2
    go_ret
    first | exact ⟨by rw [HJ.out]; rfl, by rw [HB2.out]; exact ShT.ahead HH.out kA t6⟩ | exact ⟨by rw [HJ.out]; rfl, by rw [HB2.out]; exact (ShT.ahead HH.out kA t6).more (Kept.refl _).drew⟩ | exact ⟨by rw [HJ.out]; rfl, by rw [HB2.out]; exact (ShT.ahead HH.out kA t6).more ((Kept.refl _).drewN _)⟩
end Go.Proofs.YtangbnmgkcmhbaaDoor
end

section
/- Walks: the document's shower: pattern of what has a number. -/
set_option linter.unusedSimpArgs false
set_option linter.unusedVariables false
namespace Go.Proofs.YtangbnmgkcmhbaaDoor
open Go.RowKit Go.Maps

/-- What pattern finds at its beginning. -/
structure PreM (w0 W WA : World) (sb pb nb ncap g c lc : Nat) (la : Option Addr) (ds : List Nd) (bs : List Bool) (a : List Int) (t : Nat) (op n : Int) (s : List UInt8) (l : List Int) : Prop where
  dd : ds.getD t nd0 = ⟨op, n, s, l⟩
  wa : WA = W.alloc (.cells #[.int .i64 op, .int .i64 n, .string (strB s), .slice la l.length lc] 51)
  s0 : W.cell? ⟨sb, 0, none⟩ = some (.pointer (some ⟨pb, 0, none⟩))
  s1 : W.cell? ⟨sb, 1, none⟩ = some (.slice (some ⟨g, 0, none⟩) ds.length c)
  c0 : W.cell? ⟨pb, 0, none⟩ = some (.slice (some ⟨nb, 0, none⟩) ds.length ncap)
  y0 : W.cell? ⟨nb, t * 4, none⟩ = some (.int .i64 op)
  y1 : W.cell? ⟨nb, t * 4 + 1, none⟩ = some (.int .i64 n)
  y2 : W.cell? ⟨nb, t * 4 + 2, none⟩ = some (.string (strB s))
  y3 : W.cell? ⟨nb, t * 4 + 3, none⟩ = some (.slice la l.length lc)
  rd : RdI w0 (.slice la l.length lc) l
  kA : Kept W WA
  bA : Blk WA W.heap.size 51 [.int .i64 op, .int .i64 n, .string (strB s), .slice la l.length lc]
  hg : ShG w0 W sb (.pointer (some ⟨pb, 0, none⟩)) (.slice (some ⟨g, 0, none⟩) ds.length c) ds a
  nU : ¬ shU WA sb W.heap.size
  may : May ds ⟨op, n, s, l⟩
  less : ∀ x ∈ l, 0 ≤ x ∧ x < (t : Int)
  c00 : ∀ W', Kept w0 W' → W'.cell? ⟨pb, 0, none⟩ = some (.slice (some ⟨nb, 0, none⟩) ds.length ncap)
  all : ∀ i, i < ds.length → ∃ la lc, (∀ W', Kept w0 W' → W'.cell? ⟨nb, i * 4, none⟩ = some (.int .i64 (ds.getD i nd0).op) ∧ W'.cell? ⟨nb, i * 4 + 1, none⟩ = some (.int .i64 (ds.getD i nd0).n) ∧ W'.cell? ⟨nb, i * 4 + 2, none⟩ = some (.string (strB (ds.getD i nd0).s)) ∧ W'.cell? ⟨nb, i * 4 + 3, none⟩ = some (.slice la (ds.getD i nd0).l.length lc)) ∧
        RdI w0 (.slice la (ds.getD i nd0).l.length lc) (ds.getD i nd0).l
theorem ShA.pre {G : Nat → Prop} {w0 W : World} {sb g c : Nat} {q : Value} {ds : List Nd} {bs : List Bool} {a : List Int} (hA : ShA G w0 q ds g c bs) (h : ShG w0 W sb q (.slice (some ⟨g, 0, none⟩) ds.length c) ds a) {t : Nat} (ht : t < ds.length) :
    ∃ pb nb ncap lc la op n s l WA, q = .pointer (some ⟨pb, 0, none⟩) ∧ PreM w0 W WA sb pb nb ncap g c lc la ds bs a t op n s l := by
  have hg := hA.ar.good
  obtain ⟨pb, nb, ncap, rfl, c0, hpb, hall⟩ := ArG.rowN hA.ar (by omega)
  have hall2 := hall
  obtain ⟨la, lc, hcl, hlr, hGl⟩ := hall t ht
  obtain ⟨y0, y1, y2, y3⟩ := hcl W h.kept
  obtain ⟨av, hb, _⟩ := h.rep
  have s0 := hb.cell 0
  have s1 := hb.cell 1
  simp only [List.getElem?_cons_zero, List.getElem?_cons_succ] at s0 s1
  have hless := hg.lesser ht
  have hmay := hg.may' ht
  generalize hdd : ds.getD t nd0 = d at y0 y1 y2 y3 hlr hless hmay
  obtain ⟨op, n, s, l⟩ := d
  have kA : Kept W (W.alloc (.cells #[.int .i64 op, .int .i64 n, .string (strB s), .slice la l.length lc] 51)) := (Kept.refl W).alloc _
  refine ⟨pb, nb, ncap, lc, la, op, n, s, l, _, rfl, ⟨hdd, rfl, s0, s1, kept_cell'' h.kept c0, y0, y1, y2, y3, hlr, kA, Blk.new W _ _, h, fun hc => ?_, ?_, ?_, ?_, ?_⟩⟩
  · have := (h.lt _ ((shU_kept h kA _).1 hc)).1
    omega
  · exact hmay
  · exact hless
  · exact fun W' k => kept_cell'' k c0
  · exact fun i hi => (hall2 i hi).imp fun _ h => h.imp fun _ h => ⟨h.1, h.2.1⟩
/-- A term that is not told whole: its head. -/
theorem pat_head {ds : List Nd} (hg : Good ds) {kn : Int → Bool} {t : Int} (hT : IsT ds t) (h2 : (nd ds t).op ≠ 2) (hc : compound kn (nd ds t) = false) (a : List Int) :
    (shownOf ds kn (nd ds t) = none → pat ds kn a t = (headOf a (nd ds t) t, addN a t)) ∧ ∀ l, shownOf ds kn (nd ds t) = some l → pat ds kn a t = br (headOf a (nd ds t) t) (pts (pat ds kn) true (addN a t) l) := by
  rw [pat_eq hg _ hT]
  unfold pstep
  rw [if_neg h2, if_neg (by rw [hc]; decide)]
  refine ⟨fun e => by rw [e], fun l e => by rw [e]⟩

set_option maxHeartbeats 8000000 in
set_option maxRecDepth 100000 in
theorem patD_bare {G : Nat → Prop} {w0 W : World} {sb g c : Nat} {q : Value} {ds : List Nd} {bs : List Bool} {a : List Int} (hA : ShA G w0 q ds g c bs) (h : ShG w0 W sb q (.slice (some ⟨g, 0, none⟩) ds.length c) ds a) {t : Nat} (ht : t < ds.length) (h2 : (nd ds (t : Int)).op ≠ 2) (hc : compound (knB bs) (nd ds (t : Int)) = false)
    (h8 : (nd ds (t : Int)).op ≠ 8) (h9 : (nd ds (t : Int)).op ≠ 9) (h10 : (nd ds (t : Int)).op ≠ 10) :
    Calls Tryd.prog 39 #[.pointer (some ⟨sb, 0, none⟩), .int .i64 (t : Int)] W (ShPost w0 W sb q (.slice (some ⟨g, 0, none⟩) ds.length c) ds (pat ds (knB bs) a (t : Int)).1 (pat ds (knB bs) a (t : Int)).2) := by
  have hgd := hA.ar.good
  have hfew := hA.few
  have hT : IsT ds (t : Int) := ⟨by omega, by omega⟩
  have hp := (pat_head hgd hT h2 hc a).1 (by unfold shownOf sealedTo; rw [if_neg h10, if_neg h8])
  rw [hp]
  have tI : (t : Int) < (ds.length : Int) := by omega
  have hnl := fun W' (k : Kept W W') => (number_any05 (h.more k) (by omega) hT)
  obtain ⟨pb, nb, ncap, lc, la, op, n, s, l, WA, rfl, hP⟩ := hA.pre h ht
  have hgA := hP.hg.more hP.kA
  have hnb : ∀ W', Kept WA W' → Calls Tryd.prog 59 #[.pointer (some ⟨sb, 0, none⟩), .int .i64 (t : Int)] W' fun e W'' => e = .returned (.string (strB (35 :: Lib.itoa (numAt a (t : Int))))) ∧ ShT w0 WA sb (.pointer (some ⟨pb, 0, none⟩)) (.slice (some ⟨g, 0, none⟩) ds.length c) ds (addN a (t : Int)) W'' := fun W' k => (number_any05 (hgA.more k) (by omega) hT).mono fun e w' p => p.ahead hgA k
  have hal := fun W' (k : Kept WA W') => allR_any (Ownv.kept hA.inn (hgA.kept.trans k)) hA.len (hP.rd.kept (hgA.kept.trans k)) (fun x hx => by have := hP.less x hx; omega)
  rw [nd_of, hP.dd] at h2 hc h8 h9 h10 ⊢
  simp only at h2 hc h8 h9 h10
  have hop := hP.may.op1
  have hop2 := hP.may.op12
  simp only at hop hop2
  have hcomp : op = 1 ∨ (op ≠ 1 ∧ op ≠ 3 ∧ l.all (knB bs) = false) := by
    unfold compound at hc
    simp only at hc
    rw [Bool.or_eq_false_iff, beq_eq_false_iff_ne, Bool.and_eq_false_iff] at hc
    by_cases c1 : op = 1
    · exact .inl c1
    · exact .inr ⟨c1, hc.1, hc.2.elim (fun e => absurd (by simpa using e) c1) id⟩
  have hnm : ∀ w : World, Calls Tryd.prog 57 #[.int .i64 op] w fun e w' => e = .returned (.string (strB (pName op))) ∧ Kept w w' := fun w => name_any op hop hop2 h2 w
  have hj : strB (headOf a ⟨op, n, s, l⟩ (t : Int)) = strB (pName op) ++ strB (35 :: Lib.itoa (numAt a (t : Int))) := strB_ss rfl
  have HJ := Shut.mk hj
  have hz2 := strB_size (pName op)
  have hnl := pName_len op
  have hz := strB_size (35 :: Lib.itoa (numAt a (t : Int)))
  have hna : numAt a (t : Int) ≤ a.length := by unfold numAt; exact List.idxOf_le_length
  have hal2 := h.nums.len
  have hil : (Lib.itoa (numAt a (t : Int) : Int)).length ≤ 30 := Nat.le_trans (itoa_len ⟨by omega, by omega⟩) (by omega)
  rw [List.length_cons] at hz
  generalize strB (35 :: Lib.itoa (numAt a (t : Int))) = T at hz hnb HJ
  generalize strB (pName op) = N at hnm hz2 HJ
  have hNT : ¬ 9223372036854775807 < N.size + T.size := by omega
  have HPP := Shut.mk hP
  have bA := hP.bA
  have s0 := hP.s0
  have s1 := hP.s1
  have c0 := hP.c0
  have y0 := hP.y0
  have y1 := hP.y1
  have y2 := hP.y2
  have y3 := hP.y3
  have HWA := Shut.mk hP.wa
  have kA := hP.kA
  have hnU := hP.nU
  generalize strB s = X at y2 bA HWA
  have o2b : (op == 2) = false := by simpa using h2
  have o8b : (op == 8) = false := by simpa using h8
  have o9b : (op == 9) = false := by simpa using h9
  have o10b : (op == 10) = false := by simpa using h10
  have HH := Shut.mk hP.hg
  clear hP hc h hA hj hz hz2 hnl hp hna hal2 hil hgA
  rcases hcomp with rfl | ⟨o1, o3, hall⟩
  · go_enter Tryd.func39, Tryd.ntmps39
    go_wp2_with fail
    have hWA := HWA.out
    rw [← hWA]
    clear hWA
    have n0 := bA.cell 0
    have n3 := bA.cell 3
    simp only [List.getElem?_cons_succ, List.getElem?_cons_zero] at n0 n3
    go_quiet (fail)
    have kB : Kept WA (WA.drewN nq) := (Kept.refl _).drewN nq
    generalize WA.drewN nq = WB at kB ⊢
    have m0 := kept_cell'' kB n0
    go_wp2_with (first
      | (go_at_call 57; (with_reducible refine (hnm _).mono ?_); rintro e w5 ⟨rfl, k5⟩; have kq : Kept WA w5 := kB.trans k5)
      | (go_at_call 59; (with_reducible refine (hnb _ kq).mono ?_); rintro e w6 ⟨rfl, t6⟩; have b6 := bA.turn t6.t hnU; have r0 := b6.cell 0; have r3 := b6.cell 3; simp only [List.getElem?_cons_succ, List.getElem?_cons_zero] at r0 r3))
    go_ret
    exact ⟨by rw [HJ.out]; rfl, ShT.ahead HH.out kA t6⟩
  · have o3b : (op == 3) = false := by simpa using o3
    have o1b : (op != 1) = true := by simpa using o1
    have o1c : (op == 1) = false := by simpa using o1
    have hq := fun (n : Nat) => Calls.quiet_of_same ((hal (WA.drewN n) ((Kept.refl _).drewN n)).mono fun e w' ⟨x, y⟩ => ⟨x, y.symm⟩)
    have s1A := kept_cell'' kA s1
    rw [hall] at hq
    clear h2 o1 o3 h8 h9 h10 hal hall
    go_enter Tryd.func39, Tryd.ntmps39
    go_wp2_with fail
    have hWA := HWA.out
    rw [← hWA]
    clear hWA
    have n0 := bA.cell 0
    have n3 := bA.cell 3
    simp only [List.getElem?_cons_succ, List.getElem?_cons_zero] at n0 n3
    go_quiet ((go_at_call 56; exact hq _))
    have kB : Kept WA (WA.drewN nq) := (Kept.refl _).drewN nq
    generalize WA.drewN nq = WB at kB ⊢
    have m0 := kept_cell'' kB n0
    go_wp2_with (first
      | (go_at_call 57; (with_reducible refine (hnm _).mono ?_); rintro e w5 ⟨rfl, k5⟩; have kq : Kept WA w5 := kB.trans k5)
      | (go_at_call 59; (with_reducible refine (hnb _ kq).mono ?_); rintro e w6 ⟨rfl, t6⟩; have b6 := bA.turn t6.t hnU; have r0 := b6.cell 0; have r3 := b6.cell 3; simp only [List.getElem?_cons_succ, List.getElem?_cons_zero] at r0 r3))
    go_ret
    exact ⟨by rw [HJ.out]; rfl, ShT.ahead HH.out kA t6⟩
end Go.Proofs.YtangbnmgkcmhbaaDoor
end

section
/- Walks: the document's shower: pattern of a Sig. -/
set_option linter.unusedSimpArgs false
set_option linter.unusedVariables false
namespace Go.Proofs.YtangbnmgkcmhbaaDoor
open Go.RowKit Go.Maps

set_option maxHeartbeats 8000000 in
set_option maxRecDepth 100000 in
theorem patD_sig {G : Nat → Prop} {w0 W : World} {sb g c : Nat} {q : Value} {ds : List Nd} {bs : List Bool} {a : List Int} (hA : ShA G w0 q ds g c bs) (h : ShG w0 W sb q (.slice (some ⟨g, 0, none⟩) ds.length c) ds a) {t : Nat} (ht : t < ds.length) (hc : compound (knB bs) (nd ds (t : Int)) = false) (h10 : (nd ds (t : Int)).op = 10)
    (hih : ∀ x ∈ (nd ds (t : Int)).l.drop 1, PatC w0 sb q (.slice (some ⟨g, 0, none⟩) ds.length c) ds (knB bs) x) (hlen : LenOk ds (knB bs) ((nd ds (t : Int)).l.drop 1)) :
    Calls Tryd.prog 39 #[.pointer (some ⟨sb, 0, none⟩), .int .i64 (t : Int)] W (ShPost w0 W sb q (.slice (some ⟨g, 0, none⟩) ds.length c) ds (pat ds (knB bs) a (t : Int)).1 (pat ds (knB bs) a (t : Int)).2) := by
  have hgd := hA.ar.good
  have hfew := hA.few
  have hT : IsT ds (t : Int) := ⟨by omega, by omega⟩
  have hp := (pat_head hgd hT (by omega) hc a).2 _ (by unfold shownOf; rw [if_pos h10])
  rw [hp]
  have tI : (t : Int) < (ds.length : Int) := by omega
  obtain ⟨pb, nb, ncap, lc, la, op, n, s, l, WA, rfl, hP⟩ := hA.pre h ht
  have hgA := hP.hg.more hP.kA
  have hnb : ∀ W', Kept WA W' → Calls Tryd.prog 59 #[.pointer (some ⟨sb, 0, none⟩), .int .i64 (t : Int)] W' fun e W'' => e = .returned (.string (strB (35 :: Lib.itoa (numAt a (t : Int))))) ∧ ShT w0 WA sb (.pointer (some ⟨pb, 0, none⟩)) (.slice (some ⟨g, 0, none⟩) ds.length c) ds (addN a (t : Int)) W'' := fun W' k => (number_any05 (hgA.more k) (by omega) hT).mono fun e w' p => p.ahead hgA k
  have hal := fun W' (k : Kept WA W') => allR_any (Ownv.kept hA.inn (hgA.kept.trans k)) hA.len (hP.rd.kept (hgA.kept.trans k)) (fun x hx => by have := hP.less x hx; omega)
  rw [nd_of, hP.dd] at h10 hc hih hlen ⊢
  simp only at h10 hc hih hlen
  subst h10
  have hall : l.all (knB bs) = false := by
    unfold compound at hc
    simpa using hc
  have l2 := hP.may.p2 (.inl rfl)
  simp only at l2
  obtain ⟨l0, l1, rfl⟩ := two_of l2
  obtain ⟨rb, ro, hla, hx⟩ := hP.rd.at (i := 0) (by simp)
  subst hla
  have hrd0 : RdI w0 (.slice (some ⟨rb, ro, none⟩) 2 lc) [l0, l1] := hP.rd
  have hrd1 : RdI w0 (.slice (some ⟨rb, ro + 1, none⟩) 1 (lc - 1)) [l1] := hrd0.sub 1 2 (by omega) (by simp)
  obtain ⟨_, _, hle, hlc2, _, _⟩ := hrd0.len
  simp only [Value.slice.injEq] at hle
  obtain ⟨rfl, _, rfl⟩ := hle
  simp only [List.length_cons, List.length_nil, Nat.zero_add, Nat.reduceAdd] at hlc2
  have hlc1 : (lc = 1) = False := eq_false (by omega)
  have hlcI : (1 : Int) ≤ (lc : Int) := by omega
  have HIH := Shut.mk hih
  have HLEN := Shut.mk hlen
  have hps := fun W' a' (h' : ShG w0 W' sb (.pointer (some ⟨pb, 0, none⟩)) (.slice (some ⟨g, 0, none⟩) ds.length c) ds a') => parts_any05 h' hrd1 (by simp) HIH.out (HLEN.out.sum a' h'.nums) HLEN.out.one
  have hpl := HLEN.out.sum _ (h.nums.add hT) 1 (by simp)
  have hnm : ∀ w : World, Calls Tryd.prog 57 #[.int .i64 10] w fun e w' => e = .returned (.string (strB (pName 10))) ∧ Kept w w' := fun w => name_any 10 (by decide) (by decide) (by decide) w
  have hj : strB (br (headOf a ⟨10, n, s, [l0, l1]⟩ (t : Int)) (pts (pat ds (knB bs)) true (addN a (t : Int)) [l1])).1 = (strB (pName 10) ++ strB (35 :: Lib.itoa (numAt a (t : Int)))) ++ strB (40 :: ((pts (pat ds (knB bs)) true (addN a (t : Int)) [l1]).1 ++ [41])) := by
    rw [strB_ss (rfl : (br (headOf a ⟨10, n, s, [l0, l1]⟩ (t : Int)) (pts (pat ds (knB bs)) true (addN a (t : Int)) [l1])).1 = (pName 10 ++ 35 :: Lib.itoa (numAt a (t : Int))) ++ 40 :: ((pts (pat ds (knB bs)) true (addN a (t : Int)) [l1]).1 ++ [41])), strB_ss (rfl : headOf a ⟨10, n, s, [l0, l1]⟩ (t : Int) = pName 10 ++ _)]
  have HJ := Shut.mk hj
  have hz2 := strB_size (pName 10)
  have hnl := pName_len 10
  have hz := strB_size (35 :: Lib.itoa (numAt a (t : Int)))
  have hz3 := strB_size (40 :: ((pts (pat ds (knB bs)) true (addN a (t : Int)) [l1]).1 ++ [41]))
  have hna : numAt a (t : Int) ≤ a.length := by unfold numAt; exact List.idxOf_le_length
  have hal2 := h.nums.len
  have hil : (Lib.itoa (numAt a (t : Int) : Int)).length ≤ 30 := Nat.le_trans (itoa_len ⟨by omega, by omega⟩) (by omega)
  rw [List.length_cons] at hz
  rw [List.length_cons, List.length_append, List.length_singleton] at hz3
  rw [show [l0, l1].drop 1 = [l1] from rfl, List.take_of_length_le (by simp)] at hpl
  have hps' : ∀ W', ShG w0 W' sb (.pointer (some ⟨pb, 0, none⟩)) (.slice (some ⟨g, 0, none⟩) ds.length c) ds (addN a (t : Int)) → Calls Tryd.prog 58 #[.pointer (some ⟨sb, 0, none⟩), .slice (some ⟨rb, ro + 1, none⟩) 1 (lc - 1)] W' fun e W'' => e = .returned (.string (strB (40 :: ((pts (pat ds (knB bs)) true (addN a (t : Int)) [l1]).1 ++ [41])))) ∧ ShT w0 W' sb (.pointer (some ⟨pb, 0, none⟩)) (.slice (some ⟨g, 0, none⟩) ds.length c) ds (pts (pat ds (knB bs)) true (addN a (t : Int)) [l1]).2 W'' := fun W' h' => hps W' _ h'
  have hbr2 : (br (headOf a ⟨10, n, s, [l0, l1]⟩ (t : Int)) (pts (pat ds (knB bs)) true (addN a (t : Int)) [l1])).2 = (pts (pat ds (knB bs)) true (addN a (t : Int)) [l1]).2 := rfl
  have HB2 := Shut.mk hbr2
  generalize strB (40 :: ((pts (pat ds (knB bs)) true (addN a (t : Int)) [l1]).1 ++ [41])) = U at hz3 hps' HJ
  generalize strB (35 :: Lib.itoa (numAt a (t : Int))) = T at hz hnb HJ
  generalize strB (pName 10) = N at hnm hz2 HJ
  have hNT : ¬ 9223372036854775807 < N.size + T.size := by omega
  have hNU : ¬ 9223372036854775807 < N.size + T.size + U.size := by omega
  have hNV : ¬ 9223372036854775807 < (N ++ T).size + U.size := by rw [ByteArray.size_append]; omega
  have bA := hP.bA
  have s0 := hP.s0
  have s1 := hP.s1
  have c0 := hP.c0
  have y0 := hP.y0
  have y1 := hP.y1
  have y2 := hP.y2
  have y3 := hP.y3
  have HWA := Shut.mk hP.wa
  have kA := hP.kA
  have hnU := hP.nU
  generalize strB s = X at y2 bA HWA
  have HH := Shut.mk hP.hg
  simp only [List.length_cons, List.length_nil, Nat.zero_add, Nat.reduceAdd] at y3 bA HWA hal
  have hq := fun (n : Nat) => Calls.quiet_of_same ((hal (WA.drewN n) ((Kept.refl _).drewN n)).mono fun e w' ⟨x, y⟩ => ⟨x, y.symm⟩)
  have s1A := kept_cell'' kA s1
  rw [hall] at hq
  have HL2 := Shut.mk hlc2
  clear hP hc h hA hj hz hz2 hnl hp hna hal2 hil hgA hal hall hih hlen hps hx hz3 hpl hbr2 l2 hrd0 hlc2
  go_enter Tryd.func39, Tryd.ntmps39
  go_wp2_with fail
  have hWA := HWA.out
  rw [← hWA]
  clear hWA
  have n0 := bA.cell 0
  have n3 := bA.cell 3
  simp only [List.getElem?_cons_succ, List.getElem?_cons_zero] at n0 n3
  go_quiet ((go_at_call 56; exact hq _))
  have kB : Kept WA (WA.drewN nq) := (Kept.refl _).drewN nq
  generalize WA.drewN nq = WB at kB ⊢
  have m0 := kept_cell'' kB n0
  go_wp2_with (first
    | (go_at_call 57; (with_reducible refine (hnm _).mono ?_); rintro e w5 ⟨rfl, k5⟩; have kq : Kept WA w5 := kB.trans k5)
    | (go_at_call 59; (with_reducible refine (hnb _ kq).mono ?_); rintro e w6 ⟨rfl, t6⟩; have b6 := bA.turn t6.t hnU; have r0 := b6.cell 0; have r3 := b6.cell 3; simp only [List.getElem?_cons_succ, List.getElem?_cons_zero] at r0 r3)
    | (go_at_call 58; (with_reducible refine (hps' _ t6.g).mono ?_); rintro e w7 ⟨rfl, t7⟩))
  go_ret
  exact ⟨congrArg (fun b => Ending.returned (Value.string b)) HJ.out.symm, ShT.ahead HH.out kA (t6.trans t7)⟩
end Go.Proofs.YtangbnmgkcmhbaaDoor
end

section
/- Walks: the document's shower: pattern of an Enc. -/
set_option linter.unusedSimpArgs false
set_option linter.unusedVariables false
namespace Go.Proofs.YtangbnmgkcmhbaaDoor
open Go.RowKit Go.Maps

set_option maxHeartbeats 8000000 in
set_option maxRecDepth 100000 in
theorem patD_enc {G : Nat → Prop} {w0 W : World} {sb g c : Nat} {q : Value} {ds : List Nd} {bs : List Bool} {a : List Int} (hA : ShA G w0 q ds g c bs) (h : ShG w0 W sb q (.slice (some ⟨g, 0, none⟩) ds.length c) ds a) {t : Nat} (ht : t < ds.length) (hc : compound (knB bs) (nd ds (t : Int)) = false) (h10 : (nd ds (t : Int)).op = 9) (hk : knB bs ((nd ds (t : Int)).l.getD 0 0) = false) :
    Calls Tryd.prog 39 #[.pointer (some ⟨sb, 0, none⟩), .int .i64 (t : Int)] W (ShPost w0 W sb q (.slice (some ⟨g, 0, none⟩) ds.length c) ds (pat ds (knB bs) a (t : Int)).1 (pat ds (knB bs) a (t : Int)).2) := by
  have hgd := hA.ar.good
  have hfew := hA.few
  have hT : IsT ds (t : Int) := ⟨by omega, by omega⟩
  have hp := (pat_head hgd hT (by omega) hc a).1 (by unfold shownOf sealedTo; rw [if_neg (by omega), if_neg (by omega)])
  rw [hp]
  have tI : (t : Int) < (ds.length : Int) := by omega
  obtain ⟨pb, nb, ncap, lc, la, op, n, s, l, WA, rfl, hP⟩ := hA.pre h ht
  have hgA := hP.hg.more hP.kA
  have hnb : ∀ W', Kept WA W' → Calls Tryd.prog 59 #[.pointer (some ⟨sb, 0, none⟩), .int .i64 (t : Int)] W' fun e W'' => e = .returned (.string (strB (35 :: Lib.itoa (numAt a (t : Int))))) ∧ ShT w0 WA sb (.pointer (some ⟨pb, 0, none⟩)) (.slice (some ⟨g, 0, none⟩) ds.length c) ds (addN a (t : Int)) W'' := fun W' k => (number_any05 (hgA.more k) (by omega) hT).mono fun e w' p => p.ahead hgA k
  have hal := fun W' (k : Kept WA W') => allR_any (Ownv.kept hA.inn (hgA.kept.trans k)) hA.len (hP.rd.kept (hgA.kept.trans k)) (fun x hx => by have := hP.less x hx; omega)
  rw [nd_of, hP.dd] at h10 hc hk ⊢
  simp only at h10 hc hk
  subst h10
  have hall : l.all (knB bs) = false := by
    unfold compound at hc
    simpa using hc
  have l4 := hP.may.p4 (.inr rfl)
  simp only at l4
  obtain ⟨l0, l1, l2, l3, rfl⟩ := four_of l4
  obtain ⟨rb, ro, hla, hx⟩ := hP.rd.at (i := 0) (by simp)
  subst hla
  have hrd0 : RdI w0 (.slice (some ⟨rb, ro, none⟩) 4 lc) [l0, l1, l2, l3] := hP.rd
  have hz := hP.less l0 (by simp)
  obtain ⟨zn, hzn⟩ := Int.eq_ofNat_of_zero_le hz.1
  subst hzn
  have hzl : zn < ds.length := by omega
  have hzI : (zn : Int) < (ds.length : Int) := by omega
  have hcw := fun W' (k : Kept w0 W') => OwnB.cell (Ownv.kept hA.inn k) hA.len (j := zn) hzl
  have hkb : bs.getD zn false = false := by
    have := hk
    unfold knB at this
    simpa using this
  rw [hkb] at hcw
  have hrw : ∀ W', Kept w0 W' → W'.cell? ⟨rb, ro, none⟩ = some (.int .i64 (zn : Int)) := fun W' k => by
    have := hx W' k
    rw [Nat.add_zero] at this
    simpa using this
  have hnm : ∀ w : World, Calls Tryd.prog 57 #[.int .i64 9] w fun e w' => e = .returned (.string (strB (pName 9))) ∧ Kept w w' := fun w => name_any 9 (by decide) (by decide) (by decide) w
  have hj : strB (headOf a ⟨9, n, s, [(zn : Int), l1, l2, l3]⟩ (t : Int)) = strB (pName 9) ++ strB (35 :: Lib.itoa (numAt a (t : Int))) := strB_ss rfl
  have HJ := Shut.mk hj
  have hz2 := strB_size (pName 9)
  have hnl := pName_len 9
  have hz := strB_size (35 :: Lib.itoa (numAt a (t : Int)))
  have hna : numAt a (t : Int) ≤ a.length := by unfold numAt; exact List.idxOf_le_length
  have hal2 := h.nums.len
  have hil : (Lib.itoa (numAt a (t : Int) : Int)).length ≤ 30 := Nat.le_trans (itoa_len ⟨by omega, by omega⟩) (by omega)
  rw [List.length_cons] at hz
  generalize strB (35 :: Lib.itoa (numAt a (t : Int))) = T at hz hnb HJ
  generalize strB (pName 9) = N at hnm hz2 HJ
  have hNT : ¬ 9223372036854775807 < N.size + T.size := by omega
  have bA := hP.bA
  have s0 := hP.s0
  have s1 := hP.s1
  have c0 := hP.c0
  have y0 := hP.y0
  have y1 := hP.y1
  have y2 := hP.y2
  have y3 := hP.y3
  have HWA := Shut.mk hP.wa
  have kA := hP.kA
  have hnU := hP.nU
  generalize strB s = X at y2 bA HWA
  have HH := Shut.mk hP.hg
  simp only [List.length_cons, List.length_nil, Nat.zero_add, Nat.reduceAdd] at y3 bA HWA hal
  have hq := fun (n : Nat) => Calls.quiet_of_same ((hal (WA.drewN n) ((Kept.refl _).drewN n)).mono fun e w' ⟨x, y⟩ => ⟨x, y.symm⟩)
  have s1A := kept_cell'' kA s1
  rw [hall] at hq
  clear hP hc h hA hj hz hz2 hnl hp hna hal2 hil hgA hal hall hx l4 hrd0 hk hkb
  go_enter Tryd.func39, Tryd.ntmps39
  go_wp2_with fail
  have hWA := HWA.out
  rw [← hWA]
  clear hWA
  have n0 := bA.cell 0
  have n3 := bA.cell 3
  simp only [List.getElem?_cons_succ, List.getElem?_cons_zero] at n0 n3
  go_quiet ((go_at_call 56; exact hq _))
  have kB : Kept WA (WA.drewN nq) := (Kept.refl _).drewN nq
  generalize WA.drewN nq = WB at kB ⊢
  have m0 := kept_cell'' kB n0
  go_wp2_with (first
    | (go_at_call 57; (with_reducible refine (hnm _).mono ?_); rintro e w5 ⟨rfl, k5⟩; have kq : Kept WA w5 := kB.trans k5)
    | (go_at_call 59; (with_reducible refine (hnb _ kq).mono ?_); rintro e w6 ⟨rfl, t6⟩; have b6 := bA.turn t6.t hnU; have r0 := b6.cell 0; have r3 := b6.cell 3; simp only [List.getElem?_cons_succ, List.getElem?_cons_zero] at r0 r3; have e0 := hrw w6 t6.g.kept; have e1 := hcw w6 t6.g.kept; obtain ⟨av6, hb6, _⟩ := t6.g.rep; have e2 := hb6.cell 1; simp only [List.getElem?_cons_succ, List.getElem?_cons_zero] at e2)
    | fail)
  go_quiet (fail)
  go_wp2
  go_ret
  exact ⟨congrArg (fun b => Ending.returned (Value.string b)) HJ.out.symm, (ShT.ahead HH.out kA t6).more ((Kept.refl _).drewN _)⟩
end Go.Proofs.YtangbnmgkcmhbaaDoor
end

section
/- Walks: the document's shower: pattern of a Seal. -/
set_option linter.unusedSimpArgs false
set_option linter.unusedVariables false
namespace Go.Proofs.YtangbnmgkcmhbaaDoor
open Go.RowKit Go.Maps
attribute [local go_sem] cellD frozenD setCellD

set_option maxHeartbeats 8000000 in
set_option maxRecDepth 100000 in
theorem patD_seal1 {G : Nat → Prop} {w0 W : World} {sb g c : Nat} {q : Value} {ds : List Nd} {bs : List Bool} {a : List Int} (hA : ShA G w0 q ds g c bs) (h : ShG w0 W sb q (.slice (some ⟨g, 0, none⟩) ds.length c) ds a) {t : Nat} (ht : t < ds.length) (hc : compound (knB bs) (nd ds (t : Int)) = false) (h10 : (nd ds (t : Int)).op = 8) {sk : Int} (hsk : sealedTo ds (nd ds (t : Int)) = some sk) (hk : knB bs sk = true)
    (hih : ∀ x ∈ ((nd ds (t : Int)).l.drop 1).take 2, PatC w0 sb q (.slice (some ⟨g, 0, none⟩) ds.length c) ds (knB bs) x) (hlen : LenOk ds (knB bs) (((nd ds (t : Int)).l.drop 1).take 2)) :
    Calls Tryd.prog 39 #[.pointer (some ⟨sb, 0, none⟩), .int .i64 (t : Int)] W (ShPost w0 W sb q (.slice (some ⟨g, 0, none⟩) ds.length c) ds (pat ds (knB bs) a (t : Int)).1 (pat ds (knB bs) a (t : Int)).2) := by
  have hgd := hA.ar.good
  have hfew := hA.few
  have hT : IsT ds (t : Int) := ⟨by omega, by omega⟩
  have hp := (pat_head hgd hT (by omega) hc a).2 _ (by unfold shownOf; rw [if_neg (by omega), hsk]; simp only; rw [if_pos hk])
  rw [hp]
  have tI : (t : Int) < (ds.length : Int) := by omega
  obtain ⟨pb, nb, ncap, lc, la, op, n, s, l, WA, rfl, hP⟩ := hA.pre h ht
  have hc0 := hP.c00
  have hgA := hP.hg.more hP.kA
  have hnb : ∀ W', Kept WA W' → Calls Tryd.prog 59 #[.pointer (some ⟨sb, 0, none⟩), .int .i64 (t : Int)] W' fun e W'' => e = .returned (.string (strB (35 :: Lib.itoa (numAt a (t : Int))))) ∧ ShT w0 WA sb (.pointer (some ⟨pb, 0, none⟩)) (.slice (some ⟨g, 0, none⟩) ds.length c) ds (addN a (t : Int)) W'' := fun W' k => (number_any05 (hgA.more k) (by omega) hT).mono fun e w' p => p.ahead hgA k
  have hal := fun W' (k : Kept WA W') => allR_any (Ownv.kept hA.inn (hgA.kept.trans k)) hA.len (hP.rd.kept (hgA.kept.trans k)) (fun x hx => by have := hP.less x hx; omega)
  rw [nd_of, hP.dd] at h10 hc hsk hih hlen ⊢
  simp only at h10 hc hsk hih hlen
  subst h10
  have hall : l.all (knB bs) = false := by
    unfold compound at hc
    simpa using hc
  have l4 := hP.may.p4 (.inl rfl)
  simp only at l4
  obtain ⟨l0, l1, l2, l3, rfl⟩ := four_of l4
  obtain ⟨rb, ro, hla, hx⟩ := hP.rd.at (i := 0) (by simp)
  subst hla
  have hrd0 : RdI w0 (.slice (some ⟨rb, ro, none⟩) 4 lc) [l0, l1, l2, l3] := hP.rd
  have hz := hP.less l0 (by simp)
  obtain ⟨zn, hzn⟩ := Int.eq_ofNat_of_zero_le hz.1
  subst hzn
  have hzl : zn < ds.length := by omega
  have hzI : (zn : Int) < (ds.length : Int) := by omega
  have hrw : ∀ W', Kept w0 W' → W'.cell? ⟨rb, ro, none⟩ = some (.int .i64 (zn : Int)) := fun W' k => by
    have := hx W' k
    rw [Nat.add_zero] at this
    simpa using this
  obtain ⟨pa, pc, hpl4, hpr⟩ := hP.all zn hzl
  have hpm := hgd.may' hzl
  have hsl := hgd.lesser hzl
  unfold sealedTo at hsk
  rw [if_pos rfl] at hsk
  simp only [List.getD_cons_zero] at hsk
  rw [nd_of] at hsk
  obtain ⟨_, _, hle, hlc2, _, _⟩ := hrd0.len
  simp only [Value.slice.injEq] at hle
  obtain ⟨rfl, _, rfl⟩ := hle
  simp only [List.length_cons, List.length_nil, Nat.zero_add, Nat.reduceAdd] at hlc2
  have hlc1 : (lc = 1) = False := eq_false (by omega)
  have hlcI : (1 : Int) ≤ (lc : Int) := by omega
  have hlcI3 : (3 : Int) ≤ (lc : Int) := by omega
  have c0w := hP.c0
  have HL2 := Shut.mk hlc2
  clear hlc2
  generalize hff : ds.getD zn nd0 = f at hpl4 hpr hpm hsl hsk
  obtain ⟨op3, nk, s3, pl⟩ := f
  simp only at hpl4 hpr hsk hsl
  have HFF := Shut.mk hff
  clear hff
  generalize strB s3 = X3 at hpl4
  have o7 : op3 = 7 := by
    by_cases c7 : op3 = 7
    · exact c7
    · rw [if_neg c7] at hsk; cases hsk
  subst o7
  rw [if_pos rfl] at hsk
  have hp1 : pl.length = 1 := hpm.p1 (.inl rfl)
  obtain ⟨sk', rfl⟩ := one_of hp1
  obtain rfl : sk' = sk := by simpa using hsk
  obtain ⟨tb, tw, hpa, hx1⟩ := hpr.at (i := 0) (by simp)
  subst hpa
  have hskz := hsl sk' (by simp)
  obtain ⟨sn, hsn⟩ := Int.eq_ofNat_of_zero_le hskz.1
  subst hsn
  have hsnl : sn < ds.length := by have := hskz.2; omega
  have hsnI : (sn : Int) < (ds.length : Int) := by omega
  have hcw := fun W' (k : Kept w0 W') => OwnB.cell (Ownv.kept hA.inn k) hA.len (j := sn) hsnl
  have hkb : bs.getD sn false = true := by
    have := hk
    unfold knB at this
    simpa using this
  rw [hkb] at hcw
  have htw : ∀ W', Kept w0 W' → W'.cell? ⟨tb, tw, none⟩ = some (.int .i64 (sn : Int)) := fun W' k => by
    have := hx1 W' k
    rw [Nat.add_zero] at this
    simpa using this
  simp only [List.length_cons, List.length_nil, Nat.zero_add, Nat.reduceAdd] at hpl4
  clear hx1 hpr hkb
  have hrd1 : RdI w0 (.slice (some ⟨rb, ro + 1, none⟩) 2 (lc - 1)) [l1, l2] := hrd0.sub 1 3 (by omega) (by simp)
  have HIH := Shut.mk hih
  have HLEN := Shut.mk hlen
  have hps := fun W' a' (h' : ShG w0 W' sb (.pointer (some ⟨pb, 0, none⟩)) (.slice (some ⟨g, 0, none⟩) ds.length c) ds a') => parts_any05 h' hrd1 (by simp) HIH.out (HLEN.out.sum a' h'.nums) HLEN.out.one
  have hpl := HLEN.out.sum _ (h.nums.add hT) 2 (by simp)
  have hnm : ∀ w : World, Calls Tryd.prog 57 #[.int .i64 8] w fun e w' => e = .returned (.string (strB (pName 8))) ∧ Kept w w' := fun w => name_any 8 (by decide) (by decide) (by decide) w
  have hj : strB (br (headOf a ⟨8, n, s, [(zn : Int), l1, l2, l3]⟩ (t : Int)) (pts (pat ds (knB bs)) true (addN a (t : Int)) [l1, l2])).1 = (strB (pName 8) ++ strB (35 :: Lib.itoa (numAt a (t : Int)))) ++ strB (40 :: ((pts (pat ds (knB bs)) true (addN a (t : Int)) [l1, l2]).1 ++ [41])) := by
    rw [strB_ss (rfl : (br (headOf a ⟨8, n, s, [(zn : Int), l1, l2, l3]⟩ (t : Int)) (pts (pat ds (knB bs)) true (addN a (t : Int)) [l1, l2])).1 = (pName 8 ++ 35 :: Lib.itoa (numAt a (t : Int))) ++ 40 :: ((pts (pat ds (knB bs)) true (addN a (t : Int)) [l1, l2]).1 ++ [41])), strB_ss (rfl : headOf a ⟨8, n, s, [(zn : Int), l1, l2, l3]⟩ (t : Int) = pName 8 ++ _)]
  have HJ := Shut.mk hj
  have hz2 := strB_size (pName 8)
  have hnl := pName_len 8
  have hz := strB_size (35 :: Lib.itoa (numAt a (t : Int)))
  have hz3 := strB_size (40 :: ((pts (pat ds (knB bs)) true (addN a (t : Int)) [l1, l2]).1 ++ [41]))
  have hna : numAt a (t : Int) ≤ a.length := by unfold numAt; exact List.idxOf_le_length
  have hal2 := h.nums.len
  have hil : (Lib.itoa (numAt a (t : Int) : Int)).length ≤ 30 := Nat.le_trans (itoa_len ⟨by omega, by omega⟩) (by omega)
  rw [List.length_cons] at hz
  rw [List.length_cons, List.length_append, List.length_singleton] at hz3
  rw [show ([(zn : Int), l1, l2, l3].drop 1).take 2 = [l1, l2] from rfl, List.take_of_length_le (by simp)] at hpl
  have hps' : ∀ W', ShG w0 W' sb (.pointer (some ⟨pb, 0, none⟩)) (.slice (some ⟨g, 0, none⟩) ds.length c) ds (addN a (t : Int)) → Calls Tryd.prog 58 #[.pointer (some ⟨sb, 0, none⟩), .slice (some ⟨rb, ro + 1, none⟩) 2 (lc - 1)] W' fun e W'' => e = .returned (.string (strB (40 :: ((pts (pat ds (knB bs)) true (addN a (t : Int)) [l1, l2]).1 ++ [41])))) ∧ ShT w0 W' sb (.pointer (some ⟨pb, 0, none⟩)) (.slice (some ⟨g, 0, none⟩) ds.length c) ds (pts (pat ds (knB bs)) true (addN a (t : Int)) [l1, l2]).2 W'' := fun W' h' => hps W' _ h'
  have hbr2 : (br (headOf a ⟨8, n, s, [(zn : Int), l1, l2, l3]⟩ (t : Int)) (pts (pat ds (knB bs)) true (addN a (t : Int)) [l1, l2])).2 = (pts (pat ds (knB bs)) true (addN a (t : Int)) [l1, l2]).2 := rfl
  have HB2 := Shut.mk hbr2
  generalize strB (40 :: ((pts (pat ds (knB bs)) true (addN a (t : Int)) [l1, l2]).1 ++ [41])) = U at hz3 hps' HJ
  generalize strB (35 :: Lib.itoa (numAt a (t : Int))) = T at hz hnb HJ
  generalize strB (pName 8) = N at hnm hz2 HJ
  have hNT : ¬ 9223372036854775807 < N.size + T.size := by omega
  have hNU : ¬ 9223372036854775807 < N.size + T.size + U.size := by omega
  have hNV : ¬ 9223372036854775807 < (N ++ T).size + U.size := by rw [ByteArray.size_append]; omega
  have bA := hP.bA
  have s0 := hP.s0
  have s1 := hP.s1
  have c0 := hP.c0
  have y0 := hP.y0
  have y1 := hP.y1
  have y2 := hP.y2
  have y3 := hP.y3
  have HWA := Shut.mk hP.wa
  have kA := hP.kA
  have hnU := hP.nU
  generalize strB s = X at y2 bA HWA
  have HH := Shut.mk hP.hg
  simp only [List.length_cons, List.length_nil, Nat.zero_add, Nat.reduceAdd] at y3 bA HWA hal
  have hq := fun (n : Nat) => Calls.quiet_of_same ((hal (WA.drewN n) ((Kept.refl _).drewN n)).mono fun e w' ⟨x, y⟩ => ⟨x, y.symm⟩)
  have s1A := kept_cell'' kA s1
  rw [hall] at hq
  clear hP hc h hA hj hz hz2 hnl hp hna hal2 hil hgA hal hall hx l4 hrd0 hsk hpm hsl hih hlen hps hz3 hpl hbr2 hk
  go_enter Tryd.func39, Tryd.ntmps39
  go_wp2_with fail
  have hWA := HWA.out
  rw [← hWA]
  clear hWA
  have n0 := bA.cell 0
  have n3 := bA.cell 3
  simp only [List.getElem?_cons_succ, List.getElem?_cons_zero] at n0 n3
  go_quiet ((go_at_call 56; exact hq _))
  have kB : Kept WA (WA.drewN nq) := (Kept.refl _).drewN nq
  generalize WA.drewN nq = WB at kB ⊢
  have m0 := kept_cell'' kB n0
  go_wp2_with (first
    | (go_at_call 57; (with_reducible refine (hnm _).mono ?_); rintro e w5 ⟨rfl, k5⟩; have kq : Kept WA w5 := kB.trans k5)
    | (go_at_call 59; (with_reducible refine (hnb _ kq).mono ?_); rintro e w6 ⟨rfl, t6⟩; have b6 := bA.turn t6.t hnU; have r0 := b6.cell 0; have r3 := b6.cell 3; simp only [List.getElem?_cons_succ, List.getElem?_cons_zero] at r0 r3)
    | fail)
  have e0 := hrw w6 t6.g.kept
  obtain ⟨u0, u1, u2, u3⟩ := hpl4 w6 t6.g.kept
  have c06 := hc0 w6 t6.g.kept
  obtain ⟨av6, hb6, _⟩ := t6.g.rep
  have s06 := hb6.cell 0
  have s16 := hb6.cell 1
  simp only [List.getElem?_cons_succ, List.getElem?_cons_zero] at s06 s16
  have T6 := Shut.mk t6
  have B6 := Shut.mk b6
  clear t6 b6 hb6
  go_wp2_with fail
  have nq0 := World.new_ne w6 _ c06
  have nq1 := World.new_ne w6 _ r3
  have nq2 := World.new_ne w6 _ e0
  have nq3 := World.new_ne w6 _ u0
  have nq4 := World.new_ne w6 _ u1
  have nq5 := World.new_ne w6 _ u2
  have nq6 := World.new_ne w6 _ u3
  have nq7 := World.new_ne w6 _ s06
  go_region_held3 (fun w' => w'.cell? ⟨sb, 0, none⟩ = some (.pointer (some ⟨pb, 0, none⟩)) ∧ w'.cell? ⟨pb, 0, none⟩ = some (.slice (some ⟨nb, 0, none⟩) ds.length ncap) ∧ w'.cell? ⟨W.heap.size, 3, none⟩ = some (.slice (some ⟨rb, ro, none⟩) 4 lc) ∧ w'.cell? ⟨rb, ro, none⟩ = some (.int .i64 (zn : Int)) ∧ w'.cell? ⟨nb, zn * 4, none⟩ = some (.int .i64 7) ∧ w'.cell? ⟨nb, zn * 4 + 1, none⟩ = some (.int .i64 nk) ∧ w'.cell? ⟨nb, zn * 4 + 2, none⟩ = some (.string X3) ∧ w'.cell? ⟨nb, zn * 4 + 3, none⟩ = some (.slice (some ⟨tb, tw, none⟩) 1 pc))
    (first | exact ⟨s06, c06, r3, e0, u0, u1, u2, u3⟩ | assumption | go_keep) (fail)
  all_goals
    refine cap_world ?_
    intro wC hC
    have kC : Kept w6 wC := by rw [hC]; first | exact (Kept.refl _).alloc _ | exact ((Kept.refl _).drew).alloc _ | exact ((Kept.refl _).drewN _).alloc _ | exact (((Kept.refl _).drewN _).drew).alloc _ | exact ((Kept.refl _).alloc _).drew | exact (((Kept.refl _).drew).alloc _).drew | exact (((Kept.refl _).drewN _).alloc _).drew | exact ((((Kept.refl _).drewN _).drew).alloc _).drew
    have bC : Blk wC w6.heap.size 51 [.int .i64 7, .int .i64 nk, .string X3, (.slice (some ⟨tb, tw, none⟩) 1 pc)] := by rw [hC]; first | exact Blk.new w6 _ _ | exact Blk.new w6.drew _ _ | exact Blk.new (w6.drewN _) _ _ | exact Blk.new (w6.drewN _).drew _ _ | exact (Blk.new w6 _ _).kept ((Kept.refl _).drew) | exact (Blk.new w6.drew _ _).kept ((Kept.refl _).drew) | exact (Blk.new (w6.drewN _) _ _).kept ((Kept.refl _).drew) | exact (Blk.new (w6.drewN _).drew _ _).kept ((Kept.refl _).drew)
    clear hC nq0 nq1 nq2 nq3 nq4 nq5 nq6 nq7
    have v0 := bC.cell 0
    have v3 := bC.cell 3
    simp only [List.getElem?_cons_succ, List.getElem?_cons_zero] at v0 v3
    have T7 := Shut.mk (T6.out.more kC)
    have r3C := kept_cell'' kC r3
    have s1C := kept_cell'' kC s16
    have cd := hcw wC T7.out.g.kept
    have t0 := htw wC T7.out.g.kept
    clear bC u0 u1 u2 u3 e0 c06 s06 s16 r0 r3
    go_wp2_with fail
    go_quiet (fail)
    have kE : Kept wC (wC.drewN nq) := (Kept.refl _).drewN nq
    generalize wC.drewN nq = wE at kE ⊢
    have T8 := Shut.mk (T7.out.more kE)
    have r3E := kept_cell'' kE r3C
    go_wp2_with (go_at_call 58; (with_reducible refine (hps' _ T8.out.g).mono ?_); rintro e w7 ⟨rfl, t7⟩)
    go_ret
    exact ⟨congrArg (fun b => Ending.returned (Value.string b)) HJ.out.symm, ShT.ahead HH.out kA (T8.out.trans t7)⟩

set_option maxHeartbeats 8000000 in
set_option maxRecDepth 100000 in
theorem patD_seal2 {G : Nat → Prop} {w0 W : World} {sb g c : Nat} {q : Value} {ds : List Nd} {bs : List Bool} {a : List Int} (hA : ShA G w0 q ds g c bs) (h : ShG w0 W sb q (.slice (some ⟨g, 0, none⟩) ds.length c) ds a) {t : Nat} (ht : t < ds.length) (hc : compound (knB bs) (nd ds (t : Int)) = false) (h10 : (nd ds (t : Int)).op = 8) {sk : Int} (hsk : sealedTo ds (nd ds (t : Int)) = some sk) (hk : knB bs sk = false) :
    Calls Tryd.prog 39 #[.pointer (some ⟨sb, 0, none⟩), .int .i64 (t : Int)] W (ShPost w0 W sb q (.slice (some ⟨g, 0, none⟩) ds.length c) ds (pat ds (knB bs) a (t : Int)).1 (pat ds (knB bs) a (t : Int)).2) := by
  have hgd := hA.ar.good
  have hfew := hA.few
  have hT : IsT ds (t : Int) := ⟨by omega, by omega⟩
  have hp := (pat_head hgd hT (by omega) hc a).1 (by unfold shownOf; rw [if_neg (by omega), hsk]; simp only; rw [if_neg (by rw [hk]; decide)])
  rw [hp]
  have tI : (t : Int) < (ds.length : Int) := by omega
  obtain ⟨pb, nb, ncap, lc, la, op, n, s, l, WA, rfl, hP⟩ := hA.pre h ht
  have hc0 := hP.c00
  have hgA := hP.hg.more hP.kA
  have hnb : ∀ W', Kept WA W' → Calls Tryd.prog 59 #[.pointer (some ⟨sb, 0, none⟩), .int .i64 (t : Int)] W' fun e W'' => e = .returned (.string (strB (35 :: Lib.itoa (numAt a (t : Int))))) ∧ ShT w0 WA sb (.pointer (some ⟨pb, 0, none⟩)) (.slice (some ⟨g, 0, none⟩) ds.length c) ds (addN a (t : Int)) W'' := fun W' k => (number_any05 (hgA.more k) (by omega) hT).mono fun e w' p => p.ahead hgA k
  have hal := fun W' (k : Kept WA W') => allR_any (Ownv.kept hA.inn (hgA.kept.trans k)) hA.len (hP.rd.kept (hgA.kept.trans k)) (fun x hx => by have := hP.less x hx; omega)
  rw [nd_of, hP.dd] at h10 hc hsk ⊢
  simp only at h10 hc hsk
  subst h10
  have hall : l.all (knB bs) = false := by
    unfold compound at hc
    simpa using hc
  have l4 := hP.may.p4 (.inl rfl)
  simp only at l4
  obtain ⟨l0, l1, l2, l3, rfl⟩ := four_of l4
  obtain ⟨rb, ro, hla, hx⟩ := hP.rd.at (i := 0) (by simp)
  subst hla
  have hrd0 : RdI w0 (.slice (some ⟨rb, ro, none⟩) 4 lc) [l0, l1, l2, l3] := hP.rd
  have hz := hP.less l0 (by simp)
  obtain ⟨zn, hzn⟩ := Int.eq_ofNat_of_zero_le hz.1
  subst hzn
  have hzl : zn < ds.length := by omega
  have hzI : (zn : Int) < (ds.length : Int) := by omega
  have hrw : ∀ W', Kept w0 W' → W'.cell? ⟨rb, ro, none⟩ = some (.int .i64 (zn : Int)) := fun W' k => by
    have := hx W' k
    rw [Nat.add_zero] at this
    simpa using this
  obtain ⟨pa, pc, hpl4, hpr⟩ := hP.all zn hzl
  have hpm := hgd.may' hzl
  have hsl := hgd.lesser hzl
  unfold sealedTo at hsk
  rw [if_pos rfl] at hsk
  simp only [List.getD_cons_zero] at hsk
  rw [nd_of] at hsk
  obtain ⟨_, _, hle, hlc2, _, _⟩ := hrd0.len
  simp only [Value.slice.injEq] at hle
  obtain ⟨rfl, _, rfl⟩ := hle
  simp only [List.length_cons, List.length_nil, Nat.zero_add, Nat.reduceAdd] at hlc2
  have hlc1 : (lc = 1) = False := eq_false (by omega)
  have hlcI : (1 : Int) ≤ (lc : Int) := by omega
  have hlcI3 : (3 : Int) ≤ (lc : Int) := by omega
  have c0w := hP.c0
  have HL2 := Shut.mk hlc2
  clear hlc2
  generalize hff : ds.getD zn nd0 = f at hpl4 hpr hpm hsl hsk
  obtain ⟨op3, nk, s3, pl⟩ := f
  simp only at hpl4 hpr hsk hsl
  have HFF := Shut.mk hff
  clear hff
  generalize strB s3 = X3 at hpl4
  have o7 : op3 = 7 := by
    by_cases c7 : op3 = 7
    · exact c7
    · rw [if_neg c7] at hsk; cases hsk
  subst o7
  rw [if_pos rfl] at hsk
  have hp1 : pl.length = 1 := hpm.p1 (.inl rfl)
  obtain ⟨sk', rfl⟩ := one_of hp1
  obtain rfl : sk' = sk := by simpa using hsk
  obtain ⟨tb, tw, hpa, hx1⟩ := hpr.at (i := 0) (by simp)
  subst hpa
  have hskz := hsl sk' (by simp)
  obtain ⟨sn, hsn⟩ := Int.eq_ofNat_of_zero_le hskz.1
  subst hsn
  have hsnl : sn < ds.length := by have := hskz.2; omega
  have hsnI : (sn : Int) < (ds.length : Int) := by omega
  have hcw := fun W' (k : Kept w0 W') => OwnB.cell (Ownv.kept hA.inn k) hA.len (j := sn) hsnl
  have hkb : bs.getD sn false = false := by
    have := hk
    unfold knB at this
    simpa using this
  rw [hkb] at hcw
  have htw : ∀ W', Kept w0 W' → W'.cell? ⟨tb, tw, none⟩ = some (.int .i64 (sn : Int)) := fun W' k => by
    have := hx1 W' k
    rw [Nat.add_zero] at this
    simpa using this
  simp only [List.length_cons, List.length_nil, Nat.zero_add, Nat.reduceAdd] at hpl4
  clear hx1 hpr hkb
  have hnm : ∀ w : World, Calls Tryd.prog 57 #[.int .i64 8] w fun e w' => e = .returned (.string (strB (pName 8))) ∧ Kept w w' := fun w => name_any 8 (by decide) (by decide) (by decide) w
  have hj : strB (headOf a ⟨8, n, s, [(zn : Int), l1, l2, l3]⟩ (t : Int)) = strB (pName 8) ++ strB (35 :: Lib.itoa (numAt a (t : Int))) := strB_ss rfl
  have HJ := Shut.mk hj
  have hz2 := strB_size (pName 8)
  have hnl := pName_len 8
  have hz := strB_size (35 :: Lib.itoa (numAt a (t : Int)))
  have hna : numAt a (t : Int) ≤ a.length := by unfold numAt; exact List.idxOf_le_length
  have hal2 := h.nums.len
  have hil : (Lib.itoa (numAt a (t : Int) : Int)).length ≤ 30 := Nat.le_trans (itoa_len ⟨by omega, by omega⟩) (by omega)
  rw [List.length_cons] at hz
  generalize strB (35 :: Lib.itoa (numAt a (t : Int))) = T at hz hnb HJ
  generalize strB (pName 8) = N at hnm hz2 HJ
  have hNT : ¬ 9223372036854775807 < N.size + T.size := by omega
  have bA := hP.bA
  have s0 := hP.s0
  have s1 := hP.s1
  have c0 := hP.c0
  have y0 := hP.y0
  have y1 := hP.y1
  have y2 := hP.y2
  have y3 := hP.y3
  have HWA := Shut.mk hP.wa
  have kA := hP.kA
  have hnU := hP.nU
  generalize strB s = X at y2 bA HWA
  have HH := Shut.mk hP.hg
  simp only [List.length_cons, List.length_nil, Nat.zero_add, Nat.reduceAdd] at y3 bA HWA hal
  have hq := fun (n : Nat) => Calls.quiet_of_same ((hal (WA.drewN n) ((Kept.refl _).drewN n)).mono fun e w' ⟨x, y⟩ => ⟨x, y.symm⟩)
  have s1A := kept_cell'' kA s1
  rw [hall] at hq
  clear hP hc h hA hj hz hz2 hnl hp hna hal2 hil hgA hal hall hx l4 hrd0 hsk hpm hsl hk
  go_enter Tryd.func39, Tryd.ntmps39
  go_wp2_with fail
  have hWA := HWA.out
  rw [← hWA]
  clear hWA
  have n0 := bA.cell 0
  have n3 := bA.cell 3
  simp only [List.getElem?_cons_succ, List.getElem?_cons_zero] at n0 n3
  go_quiet ((go_at_call 56; exact hq _))
  have kB : Kept WA (WA.drewN nq) := (Kept.refl _).drewN nq
  generalize WA.drewN nq = WB at kB ⊢
  have m0 := kept_cell'' kB n0
  go_wp2_with (first
    | (go_at_call 57; (with_reducible refine (hnm _).mono ?_); rintro e w5 ⟨rfl, k5⟩; have kq : Kept WA w5 := kB.trans k5)
    | (go_at_call 59; (with_reducible refine (hnb _ kq).mono ?_); rintro e w6 ⟨rfl, t6⟩; have b6 := bA.turn t6.t hnU; have r0 := b6.cell 0; have r3 := b6.cell 3; simp only [List.getElem?_cons_succ, List.getElem?_cons_zero] at r0 r3)
    | fail)
  have e0 := hrw w6 t6.g.kept
  obtain ⟨u0, u1, u2, u3⟩ := hpl4 w6 t6.g.kept
  have c06 := hc0 w6 t6.g.kept
  obtain ⟨av6, hb6, _⟩ := t6.g.rep
  have s06 := hb6.cell 0
  have s16 := hb6.cell 1
  simp only [List.getElem?_cons_succ, List.getElem?_cons_zero] at s06 s16
  have T6 := Shut.mk t6
  have B6 := Shut.mk b6
  clear t6 b6 hb6
  go_wp2_with fail
  have nq0 := World.new_ne w6 _ c06
  have nq1 := World.new_ne w6 _ r3
  have nq2 := World.new_ne w6 _ e0
  have nq3 := World.new_ne w6 _ u0
  have nq4 := World.new_ne w6 _ u1
  have nq5 := World.new_ne w6 _ u2
  have nq6 := World.new_ne w6 _ u3
  have nq7 := World.new_ne w6 _ s06
  go_region_held3 (fun w' => w'.cell? ⟨sb, 0, none⟩ = some (.pointer (some ⟨pb, 0, none⟩)) ∧ w'.cell? ⟨pb, 0, none⟩ = some (.slice (some ⟨nb, 0, none⟩) ds.length ncap) ∧ w'.cell? ⟨W.heap.size, 3, none⟩ = some (.slice (some ⟨rb, ro, none⟩) 4 lc) ∧ w'.cell? ⟨rb, ro, none⟩ = some (.int .i64 (zn : Int)) ∧ w'.cell? ⟨nb, zn * 4, none⟩ = some (.int .i64 7) ∧ w'.cell? ⟨nb, zn * 4 + 1, none⟩ = some (.int .i64 nk) ∧ w'.cell? ⟨nb, zn * 4 + 2, none⟩ = some (.string X3) ∧ w'.cell? ⟨nb, zn * 4 + 3, none⟩ = some (.slice (some ⟨tb, tw, none⟩) 1 pc))
    (first | exact ⟨s06, c06, r3, e0, u0, u1, u2, u3⟩ | assumption | go_keep) (fail)
  all_goals
    refine cap_world ?_
    intro wC hC
    have kC : Kept w6 wC := by rw [hC]; first | exact (Kept.refl _).alloc _ | exact ((Kept.refl _).drew).alloc _ | exact ((Kept.refl _).drewN _).alloc _ | exact (((Kept.refl _).drewN _).drew).alloc _ | exact ((Kept.refl _).alloc _).drew | exact (((Kept.refl _).drew).alloc _).drew | exact (((Kept.refl _).drewN _).alloc _).drew | exact ((((Kept.refl _).drewN _).drew).alloc _).drew
    have bC : Blk wC w6.heap.size 51 [.int .i64 7, .int .i64 nk, .string X3, (.slice (some ⟨tb, tw, none⟩) 1 pc)] := by rw [hC]; first | exact Blk.new w6 _ _ | exact Blk.new w6.drew _ _ | exact Blk.new (w6.drewN _) _ _ | exact Blk.new (w6.drewN _).drew _ _ | exact (Blk.new w6 _ _).kept ((Kept.refl _).drew) | exact (Blk.new w6.drew _ _).kept ((Kept.refl _).drew) | exact (Blk.new (w6.drewN _) _ _).kept ((Kept.refl _).drew) | exact (Blk.new (w6.drewN _).drew _ _).kept ((Kept.refl _).drew)
    clear hC nq0 nq1 nq2 nq3 nq4 nq5 nq6 nq7
    have v0 := bC.cell 0
    have v3 := bC.cell 3
    simp only [List.getElem?_cons_succ, List.getElem?_cons_zero] at v0 v3
    have T7 := Shut.mk (T6.out.more kC)
    have r3C := kept_cell'' kC r3
    have s1C := kept_cell'' kC s16
    have cd := hcw wC T7.out.g.kept
    have t0 := htw wC T7.out.g.kept
    clear bC u0 u1 u2 u3 e0 c06 s06 s16 r0 r3
    go_wp2_with fail
    go_quiet (fail)
    have kE : Kept wC (wC.drewN nq) := (Kept.refl _).drewN nq
    generalize wC.drewN nq = wE at kE ⊢
    have T8 := Shut.mk (T7.out.more kE)
    have r3E := kept_cell'' kE r3C
    go_wp2
    go_ret
    exact ⟨congrArg (fun b => Ending.returned (Value.string b)) HJ.out.symm, ShT.ahead HH.out kA T8.out⟩

set_option maxHeartbeats 8000000 in
set_option maxRecDepth 100000 in
theorem patD_seal3 {G : Nat → Prop} {w0 W : World} {sb g c : Nat} {q : Value} {ds : List Nd} {bs : List Bool} {a : List Int} (hA : ShA G w0 q ds g c bs) (h : ShG w0 W sb q (.slice (some ⟨g, 0, none⟩) ds.length c) ds a) {t : Nat} (ht : t < ds.length) (hc : compound (knB bs) (nd ds (t : Int)) = false) (h10 : (nd ds (t : Int)).op = 8) (hsk : sealedTo ds (nd ds (t : Int)) = none) :
    Calls Tryd.prog 39 #[.pointer (some ⟨sb, 0, none⟩), .int .i64 (t : Int)] W (ShPost w0 W sb q (.slice (some ⟨g, 0, none⟩) ds.length c) ds (pat ds (knB bs) a (t : Int)).1 (pat ds (knB bs) a (t : Int)).2) := by
  have hgd := hA.ar.good
  have hfew := hA.few
  have hT : IsT ds (t : Int) := ⟨by omega, by omega⟩
  have hp := (pat_head hgd hT (by omega) hc a).1 (by unfold shownOf; rw [if_neg (by omega), hsk])
  rw [hp]
  have tI : (t : Int) < (ds.length : Int) := by omega
  obtain ⟨pb, nb, ncap, lc, la, op, n, s, l, WA, rfl, hP⟩ := hA.pre h ht
  have hc0 := hP.c00
  have hgA := hP.hg.more hP.kA
  have hnb : ∀ W', Kept WA W' → Calls Tryd.prog 59 #[.pointer (some ⟨sb, 0, none⟩), .int .i64 (t : Int)] W' fun e W'' => e = .returned (.string (strB (35 :: Lib.itoa (numAt a (t : Int))))) ∧ ShT w0 WA sb (.pointer (some ⟨pb, 0, none⟩)) (.slice (some ⟨g, 0, none⟩) ds.length c) ds (addN a (t : Int)) W'' := fun W' k => (number_any05 (hgA.more k) (by omega) hT).mono fun e w' p => p.ahead hgA k
  have hal := fun W' (k : Kept WA W') => allR_any (Ownv.kept hA.inn (hgA.kept.trans k)) hA.len (hP.rd.kept (hgA.kept.trans k)) (fun x hx => by have := hP.less x hx; omega)
  rw [nd_of, hP.dd] at h10 hc hsk ⊢
  simp only at h10 hc hsk
  subst h10
  have hall : l.all (knB bs) = false := by
    unfold compound at hc
    simpa using hc
  have l4 := hP.may.p4 (.inl rfl)
  simp only at l4
  obtain ⟨l0, l1, l2, l3, rfl⟩ := four_of l4
  obtain ⟨rb, ro, hla, hx⟩ := hP.rd.at (i := 0) (by simp)
  subst hla
  have hrd0 : RdI w0 (.slice (some ⟨rb, ro, none⟩) 4 lc) [l0, l1, l2, l3] := hP.rd
  have hz := hP.less l0 (by simp)
  obtain ⟨zn, hzn⟩ := Int.eq_ofNat_of_zero_le hz.1
  subst hzn
  have hzl : zn < ds.length := by omega
  have hzI : (zn : Int) < (ds.length : Int) := by omega
  have hrw : ∀ W', Kept w0 W' → W'.cell? ⟨rb, ro, none⟩ = some (.int .i64 (zn : Int)) := fun W' k => by
    have := hx W' k
    rw [Nat.add_zero] at this
    simpa using this
  obtain ⟨pa, pc, hpl4, hpr⟩ := hP.all zn hzl
  have hpm := hgd.may' hzl
  have hsl := hgd.lesser hzl
  unfold sealedTo at hsk
  rw [if_pos rfl] at hsk
  simp only [List.getD_cons_zero] at hsk
  rw [nd_of] at hsk
  obtain ⟨_, _, hle, hlc2, _, _⟩ := hrd0.len
  simp only [Value.slice.injEq] at hle
  obtain ⟨rfl, _, rfl⟩ := hle
  simp only [List.length_cons, List.length_nil, Nat.zero_add, Nat.reduceAdd] at hlc2
  have hlc1 : (lc = 1) = False := eq_false (by omega)
  have hlcI : (1 : Int) ≤ (lc : Int) := by omega
  have hlcI3 : (3 : Int) ≤ (lc : Int) := by omega
  have c0w := hP.c0
  have HL2 := Shut.mk hlc2
  clear hlc2
  generalize hff : ds.getD zn nd0 = f at hpl4 hpr hpm hsl hsk
  obtain ⟨op3, nk, s3, pl⟩ := f
  simp only at hpl4 hpr hsk hsl
  have HFF := Shut.mk hff
  clear hff
  generalize strB s3 = X3 at hpl4
  have o7 : op3 ≠ 7 := fun c7 => by rw [if_pos c7] at hsk; cases hsk
  have o7b : (op3 == 7) = false := by simpa using o7
  clear o7
  have hnm : ∀ w : World, Calls Tryd.prog 57 #[.int .i64 8] w fun e w' => e = .returned (.string (strB (pName 8))) ∧ Kept w w' := fun w => name_any 8 (by decide) (by decide) (by decide) w
  have hj : strB (headOf a ⟨8, n, s, [(zn : Int), l1, l2, l3]⟩ (t : Int)) = strB (pName 8) ++ strB (35 :: Lib.itoa (numAt a (t : Int))) := strB_ss rfl
  have HJ := Shut.mk hj
  have hz2 := strB_size (pName 8)
  have hnl := pName_len 8
  have hz := strB_size (35 :: Lib.itoa (numAt a (t : Int)))
  have hna : numAt a (t : Int) ≤ a.length := by unfold numAt; exact List.idxOf_le_length
  have hal2 := h.nums.len
  have hil : (Lib.itoa (numAt a (t : Int) : Int)).length ≤ 30 := Nat.le_trans (itoa_len ⟨by omega, by omega⟩) (by omega)
  rw [List.length_cons] at hz
  generalize strB (35 :: Lib.itoa (numAt a (t : Int))) = T at hz hnb HJ
  generalize strB (pName 8) = N at hnm hz2 HJ
  have hNT : ¬ 9223372036854775807 < N.size + T.size := by omega
  have bA := hP.bA
  have s0 := hP.s0
  have s1 := hP.s1
  have c0 := hP.c0
  have y0 := hP.y0
  have y1 := hP.y1
  have y2 := hP.y2
  have y3 := hP.y3
  have HWA := Shut.mk hP.wa
  have kA := hP.kA
  have hnU := hP.nU
  generalize strB s = X at y2 bA HWA
  have HH := Shut.mk hP.hg
  simp only [List.length_cons, List.length_nil, Nat.zero_add, Nat.reduceAdd] at y3 bA HWA hal
  have hq := fun (n : Nat) => Calls.quiet_of_same ((hal (WA.drewN n) ((Kept.refl _).drewN n)).mono fun e w' ⟨x, y⟩ => ⟨x, y.symm⟩)
  have s1A := kept_cell'' kA s1
  rw [hall] at hq
  clear hP hc h hA hj hz hz2 hnl hp hna hal2 hil hgA hal hall hx l4 hrd0 hsk hpm hsl
  go_enter Tryd.func39, Tryd.ntmps39
  go_wp2_with fail
  have hWA := HWA.out
  rw [← hWA]
  clear hWA
  have n0 := bA.cell 0
  have n3 := bA.cell 3
  simp only [List.getElem?_cons_succ, List.getElem?_cons_zero] at n0 n3
  go_quiet ((go_at_call 56; exact hq _))
  have kB : Kept WA (WA.drewN nq) := (Kept.refl _).drewN nq
  generalize WA.drewN nq = WB at kB ⊢
  have m0 := kept_cell'' kB n0
  go_wp2_with (first
    | (go_at_call 57; (with_reducible refine (hnm _).mono ?_); rintro e w5 ⟨rfl, k5⟩; have kq : Kept WA w5 := kB.trans k5)
    | (go_at_call 59; (with_reducible refine (hnb _ kq).mono ?_); rintro e w6 ⟨rfl, t6⟩; have b6 := bA.turn t6.t hnU; have r0 := b6.cell 0; have r3 := b6.cell 3; simp only [List.getElem?_cons_succ, List.getElem?_cons_zero] at r0 r3)
    | fail)
  have e0 := hrw w6 t6.g.kept
  obtain ⟨u0, u1, u2, u3⟩ := hpl4 w6 t6.g.kept
  have c06 := hc0 w6 t6.g.kept
  obtain ⟨av6, hb6, _⟩ := t6.g.rep
  have s06 := hb6.cell 0
  have s16 := hb6.cell 1
  simp only [List.getElem?_cons_succ, List.getElem?_cons_zero] at s06 s16
  have T6 := Shut.mk t6
  have B6 := Shut.mk b6
  clear t6 b6 hb6
  go_wp2_with fail
  have nq0 := World.new_ne w6 _ c06
  have nq1 := World.new_ne w6 _ r3
  have nq2 := World.new_ne w6 _ e0
  have nq3 := World.new_ne w6 _ u0
  have nq4 := World.new_ne w6 _ u1
  have nq5 := World.new_ne w6 _ u2
  have nq6 := World.new_ne w6 _ u3
  have nq7 := World.new_ne w6 _ s06
  go_region_held3 (fun w' => w'.cell? ⟨sb, 0, none⟩ = some (.pointer (some ⟨pb, 0, none⟩)) ∧ w'.cell? ⟨pb, 0, none⟩ = some (.slice (some ⟨nb, 0, none⟩) ds.length ncap) ∧ w'.cell? ⟨W.heap.size, 3, none⟩ = some (.slice (some ⟨rb, ro, none⟩) 4 lc) ∧ w'.cell? ⟨rb, ro, none⟩ = some (.int .i64 (zn : Int)) ∧ w'.cell? ⟨nb, zn * 4, none⟩ = some (.int .i64 op3) ∧ w'.cell? ⟨nb, zn * 4 + 1, none⟩ = some (.int .i64 nk) ∧ w'.cell? ⟨nb, zn * 4 + 2, none⟩ = some (.string X3) ∧ w'.cell? ⟨nb, zn * 4 + 3, none⟩ = some (.slice pa pl.length pc))
    (first | exact ⟨s06, c06, r3, e0, u0, u1, u2, u3⟩ | assumption | go_keep) (fail)
  all_goals
    refine cap_world ?_
    intro wC hC
    have kC : Kept w6 wC := by rw [hC]; first | exact (Kept.refl _).alloc _ | exact ((Kept.refl _).drew).alloc _ | exact ((Kept.refl _).drewN _).alloc _ | exact (((Kept.refl _).drewN _).drew).alloc _ | exact ((Kept.refl _).alloc _).drew | exact (((Kept.refl _).drew).alloc _).drew | exact (((Kept.refl _).drewN _).alloc _).drew | exact ((((Kept.refl _).drewN _).drew).alloc _).drew
    have bC : Blk wC w6.heap.size 51 [.int .i64 op3, .int .i64 nk, .string X3, (.slice pa pl.length pc)] := by rw [hC]; first | exact Blk.new w6 _ _ | exact Blk.new w6.drew _ _ | exact Blk.new (w6.drewN _) _ _ | exact Blk.new (w6.drewN _).drew _ _ | exact (Blk.new w6 _ _).kept ((Kept.refl _).drew) | exact (Blk.new w6.drew _ _).kept ((Kept.refl _).drew) | exact (Blk.new (w6.drewN _) _ _).kept ((Kept.refl _).drew) | exact (Blk.new (w6.drewN _).drew _ _).kept ((Kept.refl _).drew)
    clear hC nq0 nq1 nq2 nq3 nq4 nq5 nq6 nq7
    have v0 := bC.cell 0
    have v3 := bC.cell 3
    simp only [List.getElem?_cons_succ, List.getElem?_cons_zero] at v0 v3
    have T7 := Shut.mk (T6.out.more kC)
    have r3C := kept_cell'' kC r3
    have s1C := kept_cell'' kC s16
    clear bC u0 u1 u2 u3 e0 c06 s06 s16 r0 r3
    go_wp2_with fail
    go_quiet (fail)
    have kE : Kept wC (wC.drewN nq) := (Kept.refl _).drewN nq
    generalize wC.drewN nq = wE at kE ⊢
    have T8 := Shut.mk (T7.out.more kE)
    have r3E := kept_cell'' kE r3C
    go_wp2
    go_ret
    exact ⟨congrArg (fun b => Ending.returned (Value.string b)) HJ.out.symm, ShT.ahead HH.out kA T8.out⟩
end Go.Proofs.YtangbnmgkcmhbaaDoor
end

section
/- Walks: the document's shower: pattern of any term that can be derived. -/
set_option linter.unusedSimpArgs false
set_option linter.unusedVariables false
namespace Go.Proofs.YtangbnmgkcmhbaaDoor
open Go.RowKit Go.Maps

theorem sum_sub {f : Int → Nat} {l : List Int} : (((l.drop 1).take 2).map f).sum ≤ (l.map f).sum ∧ ((l.drop 1).map f).sum ≤ (l.map f).sum := by
  have h1 : ((l.drop 1).map f).sum ≤ (l.map f).sum := by
    cases l with
    | nil => simp
    | cons a l => simp
  have h2 : (((l.drop 1).take 2).map f).sum ≤ ((l.drop 1).map f).sum := by
    generalize l.drop 1 = m
    have := congrArg List.sum (List.take_append_drop 2 (m.map f))
    rw [List.sum_append] at this
    rw [List.map_take]
    omega
  exact ⟨Nat.le_trans h2 h1, h1⟩
theorem patD_any {G : Nat → Prop} {w0 : World} {sb g c : Nat} {q : Value} {ds : List Nd} {bs : List Bool} (hA : ShA G w0 q ds g c bs) : ∀ (N : Nat) (t : Int), t.toNat < N → IsT ds t → knB bs t = true → wt ds t < 3000 → PatC w0 sb q (.slice (some ⟨g, 0, none⟩) ds.length c) ds (knB bs) t := by
  intro N
  induction N with
  | zero => intro t h; omega
  | succ N ih =>
    intro t hN ht hk hw W a h
    have hg := hA.ar.good
    have hfew := hA.few
    have hsum : ((nd ds t).l.map (wt ds)).sum < 3000 := by
      have h1 := wt_eq hg ht
      have h2 := csum_eq (wt ds) (a := 1) (by decide) (nd ds t).l (by rw [← h1]; omega)
      omega
    have hwx : ∀ x ∈ (nd ds t).l, wt ds x < 3000 := fun x hx => by
      have : wt ds x ≤ ((nd ds t).l.map (wt ds)).sum := mem_sum_le (List.mem_map.2 ⟨x, hx, rfl⟩)
      omega
    have hpart : ∀ x ∈ (nd ds t).l, IsT ds x := fun x hx => hg.partT ht x hx
    have hrec : ∀ x ∈ (nd ds t).l, knB bs x = true → PatC w0 sb q (.slice (some ⟨g, 0, none⟩) ds.length c) ds (knB bs) x := fun x hx hkx => by
      have hl := hg.lessT ht x hx
      have := (hpart x hx).1
      exact ih x (by omega) (hpart x hx) hkx (hwx x hx)
    obtain ⟨n, rfl, hn⟩ := isT_nat ht
    by_cases o2 : (nd ds (n : Int)).op = 2
    · exact patD_text hA h hn o2
    cases hc : compound (knB bs) (nd ds (n : Int)) with
    | true =>
      exact patD_comp hA h hn o2 hc (fun x hx => hrec x hx (hA.clos.compound ht hk hc x hx)) (lenOk_of hg (by omega) hA.s60 _ hpart hsum)
    | false =>
      by_cases o10 : (nd ds (n : Int)).op = 10
      · exact patD_sig hA h hn hc o10 (fun x hx => hrec x (List.mem_of_mem_drop hx) (hA.clos.cSig _ ht hk o10 x hx)) (lenOk_of hg (by omega) hA.s60 _ (fun x hx => hpart x (List.mem_of_mem_drop hx)) (Nat.lt_of_le_of_lt sum_sub.2 hsum))
      by_cases o9 : (nd ds (n : Int)).op = 9
      · refine patD_enc hA h hn hc o9 ?_
        cases h0 : knB bs ((nd ds (n : Int)).l.getD 0 0) with
        | false => rfl
        | true =>
          have hall := hA.clos.cEnc _ ht hk o9 h0
          unfold compound at hc
          rw [Bool.or_eq_false_iff, Bool.and_eq_false_iff] at hc
          rcases hc.2 with e | e
          · rw [o9] at e; exact absurd e (by decide)
          · rw [List.all_eq_true.2 hall] at e; cases e
      by_cases o8 : (nd ds (n : Int)).op = 8
      · cases hs : sealedTo ds (nd ds (n : Int)) with
        | none => exact patD_seal3 hA h hn hc o8 hs
        | some sk =>
          cases hks : knB bs sk with
          | false => exact patD_seal2 hA h hn hc o8 hs hks
          | true =>
            exact patD_seal1 hA h hn hc o8 hs hks (fun x hx => hrec x (List.mem_of_mem_drop (List.mem_of_mem_take hx)) (hA.clos.cSeal _ ht hk sk hs hks x hx)) (lenOk_of hg (by omega) hA.s60 _ (fun x hx => hpart x (List.mem_of_mem_drop (List.mem_of_mem_take hx))) (Nat.lt_of_le_of_lt sum_sub.1 hsum))
      · exact patD_bare hA h hn o2 hc o8 o9 o10
end Go.Proofs.YtangbnmgkcmhbaaDoor
end

section
/- Walks: the document's Pattern, Alike. -/
set_option linter.unusedSimpArgs false
set_option linter.unusedVariables false
namespace Go.Proofs.YtangbnmgkcmhbaaDoor
open Go.RowKit Go.Maps

theorem ShG.far {w0 W : World} {sb : Nat} {q iv : Value} {ds : List Nd} {a : List Int} (h : ShG w0 W sb q iv ds a) {F : Nat → Prop} {W' : World} (t : Turn F W W') (hF : ∀ b, F b → w0.heap.size ≤ b) (hn : ∀ b, shU W sb b → ¬ F b) : ShG w0 W' sb q iv ds a := by
  obtain ⟨av, h1, h2⟩ := h.rep
  have c2 := h1.cell 2
  simp only [List.getElem?_cons_succ, List.getElem?_cons_zero] at c2
  exact ⟨Turn.keptOf h.kept t hF, h.sb0, ⟨av, h1.turn t (hn sb (.inl rfl)), Ownv.turn h2 t (fun b hb => hn b (.inr ⟨av, c2, hb⟩))⟩, h.nums⟩
/-- A list of texts lies apart from the shower. -/
theorem ShG.apartT {w0 W : World} {sb : Nat} {q iv : Value} {ds : List Nd} {a : List Int} (h : ShG w0 W sb q iv ds a) {B : Nat} {tv : Value} {n : Nat} {xs : List Value} (ho : Ownv B 9 1 W tv n xs) : ∀ b, Blks tv b → ¬ shU W sb b := by
  obtain ⟨av, h1, h2⟩ := h.rep
  rintro b hb (rfl | ⟨av', hc, hb'⟩)
  · exact Ownv.notBlk ho h1 (by decide) hb
  · have := h1.cell 2
    simp only [List.getElem?_cons_succ, List.getElem?_cons_zero] at this
    rw [this] at hc
    obtain rfl := Option.some.inj hc
    exact Ownv.apart ho h2 (by decide) hb hb'

set_option maxHeartbeats 4000000 in
set_option maxRecDepth 100000 in
theorem patternR_bad {G : Nat → Prop} {w : World} {q v : Value} {ds : List Nd} {l : List Int} (h : ArR G w q ds) (hd : RdI w v l) (hT : termsB ds l = false) :
    Calls Tryd.prog 18 #[q, v] w fun e w' => e = .returned (.tuple #[.slice none 0 0, .int .i64 1]) ∧ Kept w w' := by
  have hb := badR_any h hd
  rw [hT] at hb
  obtain ⟨la, lc, rfl, _, _, _⟩ := hd.len
  clear h hd hT
  go_enter Tryd.func18, Tryd.ntmps18
  go_wp2_with (go_at_call 31; refine hb.mono ?_; rintro e w' ⟨rfl, rfl⟩)
  go_ret2
  exact ⟨rfl, Kept.refl _⟩

set_option maxHeartbeats 8000000 in
set_option maxRecDepth 100000 in
theorem patternR_any {G : Nat → Prop} {w : World} {q v : Value} {ds : List Nd} {l : List Int} (h : ArR G w q ds) (hd : RdI w v l) (hT : termsB ds l = true) (hll : l.length ≤ 1000) (hds : ds.length ≤ 1000) (hs60 : ∀ t, IsT ds t → (nd ds t).s.length ≤ 60) (hw : lightN ds l < 3000) :
    Calls Tryd.prog 18 #[q, v] w (TextsPost w (looks ds l)) := by
  have hb := badR_any h hd
  rw [hT] at hb
  have hg := h.good
  have HT := Shut.mk (termsB_all hT)
  have hdr := derivedR_any h hd (termsB_all hT)
  have HH := Shut.mk h
  have HD := Shut.mk hd
  have H60 := Shut.mk hs60
  have HW : Shut (∀ x ∈ l, wt ds x < 3000) := ⟨fun x hx => by
    have e : l.map (fun x => if 0 ≤ x ∧ x < (ds.length : Int) then wt ds x else 0) = l.map (wt ds) := List.map_congr_left fun x hx => if_pos (termsB_all hT x hx)
    unfold lightN at hw
    rw [e] at hw
    have : wt ds x ≤ (l.map (wt ds)).sum := mem_sum_le (List.mem_map.2 ⟨x, hx, rfl⟩)
    omega⟩
  have hqf : ∃ pb, q = .pointer (some ⟨pb, 0, none⟩) := by
    obtain ⟨pb, mb, n, nv, lvs, D, h1, _⟩ := h.rep
    exact ⟨pb, h1⟩
  obtain ⟨pb, rfl⟩ := hqf
  obtain ⟨la, lc, rfl, _, _, _⟩ := hd.len
  have l63 : (l.length : Int) ≤ 9223372036854775807 := by omega
  have HDS := Shut.mk hds
  clear h hd hT hs60 hw hds
  go_enter Tryd.func18, Tryd.ntmps18
  go_wp2_with (first
    | (go_at_call 31; refine hb.mono ?_; rintro e w' ⟨rfl, rfl⟩)
    | (go_at_call 32; (with_reducible refine hdr.mono ?_); rintro e w2 ⟨g, bs, rfl, ob, hbl, hder, hg0, k2⟩)
    | fail)
  have hkn := knL_eq hbl hder
  have hA : ShA G w2 (.pointer (some ⟨pb, 0, none⟩)) ds g ds.length bs := ⟨ArG.kept HH.out k2, ob, hbl, clos_of hg hder, HDS.out, H60.out⟩
  have HA := Shut.mk hA
  have HK2 := Shut.mk k2
  have HKL : Shut (∀ x ∈ l, knB bs x = true) := ⟨fun x hx => by
    obtain ⟨n, rfl, hn⟩ := isT_nat (HT.out x hx)
    unfold knB
    rw [Int.toNat_natCast]
    exact (hder n hn).2 (.base hx)⟩
  have HL : Shut (looks ds l = (patL (pat ds (knB bs)) [] l).1) := ⟨by unfold looks; rw [← hkn]⟩
  have hG0 : ShG w2 (w2.alloc (.cells #[.pointer (some ⟨pb, 0, none⟩), .slice (some ⟨g, 0, none⟩) ds.length ds.length, .slice none 0 0] 75)) w2.heap.size (.pointer (some ⟨pb, 0, none⟩)) (.slice (some ⟨g, 0, none⟩) ds.length ds.length) ds [] :=
    ⟨(Kept.refl w2).alloc _, Nat.le_refl _, ⟨_, Blk.new w2 _ _, World.ownsRow_nil _ _ _ _⟩, Nums.nil ds⟩
  have HG0 := Shut.mk hG0
  clear hb hdr ob hbl hder hg0 k2 hkn hA hG0
  obtain ⟨W0, hW0⟩ : ∃ W0, W0 = w2.alloc (.cells #[.pointer (some ⟨pb, 0, none⟩), .slice (some ⟨g, 0, none⟩) ds.length ds.length, .slice none 0 0] 75) := ⟨_, rfl⟩
  rw [← hW0] at HG0 ⊢
  clear hW0
  go_loopw [7, 21] (fun tv i wr => ∃ k : Nat, k ≤ l.length ∧ i = .int .i64 k ∧ Shut (ShG w2 wr w2.heap.size (.pointer (some ⟨pb, 0, none⟩)) (.slice (some ⟨g, 0, none⟩) ds.length ds.length) ds (patL (pat ds (knB bs)) [] (l.take k)).2) ∧ Shut (OwnT w2.heap.size wr tv (patL (pat ds (knB bs)) [] (l.take k)).1)) (fun _ i _ => l.length - (intOf i).toNat)
  case atStart => exact ⟨0, Nat.zero_le _, rfl, HG0, ⟨World.ownsRow_nil _ _ _ _⟩⟩
  case round =>
    obtain ⟨k, hk0, rfl, sg, so⟩ := hrel
    by_cases hlt : k < l.length
    · obtain ⟨rb, ro, hla, hx'⟩ := HD.out.at hlt
      subst hla
      have c1 := hx' wr (HK2.out.trans sg.out.kept)
      have hm := getD_mem hlt
      have hpc := patD_any HA.out _ _ (Nat.lt_succ_self _) (HT.out _ hm) (HKL.out _ hm) (HW.out _ hm) wr _ sg.out
      have hgx : l.getD k 0 = l[k] := by rw [List.getD_eq_getElem?_getD, List.getElem?_eq_getElem hlt]; rfl
      have hstep := patL_snoc (pat ds (knB bs)) [] (l.take k) l[k]
      rw [← List.take_succ_eq_append_getElem hlt, ← hgx] at hstep
      have HSTEP := Shut.mk hstep
      have hln : (patL (pat ds (knB bs)) [] (l.take k)).1.length = k := by rw [patL_len, List.length_take]; omega
      clear hstep hx' hgx
      generalize l.getD k 0 = x at c1 hpc HSTEP hm
      generalize hP : pat ds (knB bs) (patL (pat ds (knB bs)) [] (l.take k)).2 x = P at hpc HSTEP
      have HP := Shut.mk hP
      clear hP
      have hpc' : Calls Tryd.prog 39 #[.pointer (some ⟨w2.heap.size, 0, none⟩), .int .i64 x] wr fun e W' => e = .returned (.string (strB P.1)) ∧ ShT w2 wr w2.heap.size (.pointer (some ⟨pb, 0, none⟩)) (.slice (some ⟨g, 0, none⟩) ds.length ds.length) ds P.2 W' := hpc
      have HV : Shut (strV P.1 = .string (strB P.1)) := ⟨rfl⟩
      generalize strB P.1 = S at hpc' HV
      have hkI : (k : Int) < (l.length : Int) := by omega
      have HLT := Shut.mk hlt
      have HLN := Shut.mk hln
      obtain ⟨ta, tc, htv, _, _, _⟩ := (Ownv.rdv so.out)
      rw [hln] at htv
      subst htv
      clear hpc hm hln hlt
      obtain ⟨i0, hi, hz0, hz1, hz2⟩ := info_parts Tryd.infoStr
      go_wp2_with (first
        | (go_at_call 39; (with_reducible refine hpc'.mono ?_); rintro e w5 ⟨rfl, t5⟩; have o5 := Ownv.turn so.out t5.t (fun b hb hc => sg.out.apartT so.out b hb hc); have k6 : Kept w5 (w5.alloc (.cells #[.string S] 9)) := (Kept.refl w5).alloc _; have o6 := Ownv.kept o5 k6; have b6 := Blk.new w5 [.string S] 9; have hsz6 := Nat.le_trans t5.g.kept.size k6.size; rw [HLN.out] at o6)
        | (at_builtin; refine go_app_at w2.heap.size 9 1 16 i0 (.string ⟨#[]⟩) Tryd.underlying40 hi hz0 hz1 hz2 rfl (by decide) _ k _ rfl o6 _ 1 [.string S] rfl (Rdv.blk b6 rfl (by unfold maxLen; decide)) (by intro u hu; rw [List.mem_singleton.1 hu]; rfl) (by unfold maxLen; omega) (by omega) hsz6 ?_; intro v7 w7 o7 t7 l7))
      go_roundw
      case rel =>
        have hno : ∀ b, shU (w5.alloc (.cells #[.string S] 9)) w2.heap.size b → ¬ Blks (.slice ta k tc) b := fun b h1 h2 => (t5.g.more k6).apartT o6 b h2 h1
        refine ⟨k + 1, HLT.out, rfl, ⟨?_⟩, ⟨?_⟩⟩
        · rw [HSTEP.out]
          exact (t5.g.more k6).far t7 (fun b hb => (Ownv.lt o6 hb).2) hno
        · rw [HSTEP.out]
          unfold OwnT
          rw [List.length_append, HLN.out, List.map_append, List.length_singleton]
          show Ownv _ _ 1 w7 v7 (k + 1) (_ ++ [strV P.1])
          rw [HV.out]
          exact o7
      case measure => simp [intOf]; have := HLT.out; omega
    · obtain rfl : k = l.length := by omega
      have htk : l.take l.length = l := List.take_length
      have ho := so.out
      rw [htk, ← HL.out] at ho
      have HO := Shut.mk ho
      obtain ⟨ta, tc, htv, _, _, _⟩ := (Ownv.rdv so.out)
      generalize (patL (pat ds (knB bs)) [] (l.take l.length)).1.length = L at htv
      subst htv
      clear htk ho
      go_wp2
      go_ret2
      exact ⟨_, rfl, Ownv.mono HO.out HK2.out.size, HK2.out.trans sg.out.kept⟩

set_option maxHeartbeats 4000000 in
set_option maxRecDepth 100000 in
theorem alikeR_any {G : Nat → Prop} {w : World} {q v u : Value} {ds : List Nd} {l m : List Int} (h : ArR G w q ds) (hd : RdI w v l) (hm : RdI w u m) (hll : l.length ≤ 1000) (hml : m.length ≤ 1000) (hds : ds.length ≤ 1000) (hs60 : ∀ t, IsT ds t → (nd ds t).s.length ≤ 60) (hw : lightN ds l < 3000) (hw2 : lightN ds m < 3000) :
    Calls Tryd.prog 20 #[q, v, u] w fun e w' => e = .returned (.tuple #[.bool (termsB ds l && termsB ds m && decide (looks ds l = looks ds m)), .int .i64 (if (termsB ds l && termsB ds m) = true then 0 else 1)]) ∧ Kept w w' := by
  have HM0 := fun W (k : Kept w W) => hm.kept k
  cases hT : termsB ds l with
  | false =>
    have hp := patternR_bad h hd hT
    obtain ⟨la, lc, rfl, _, _, _⟩ := hd.len
    obtain ⟨ma, mc, rfl, _, _, _⟩ := hm.len
    clear h hd hm hs60 hT HM0
    simp only [Bool.false_and, Bool.false_eq_true, if_false]
    go_enter Tryd.func20, Tryd.ntmps20
    go_wp2_with (go_at_call 18; (with_reducible refine hp.mono ?_); rintro e w1 ⟨rfl, k1⟩)
    go_ret2
    exact ⟨rfl, k1⟩
  | true =>
    have hp := patternR_any h hd hT hll hds hs60 hw
    have hnext : Shut (∀ W, Kept w W → (termsB ds m = true → Calls Tryd.prog 18 #[q, u] W (TextsPost W (looks ds m))) ∧ (termsB ds m = false → Calls Tryd.prog 18 #[q, u] W fun e w' => e = .returned (.tuple #[.slice none 0 0, .int .i64 1]) ∧ Kept W w')) :=
      ⟨fun W k => ⟨fun e => patternR_any (ArG.kept h k) (HM0 W k) e hml hds hs60 hw2, fun e => patternR_bad (ArG.kept h k) (HM0 W k) e⟩⟩
    obtain ⟨la, lc, rfl, _, _, _⟩ := hd.len
    obtain ⟨ma, mc, rfl, _, _, _⟩ := hm.len
    cases hU : termsB ds m with
    | false =>
      have HU := Shut.mk hU
      clear h hd hm hs60 hT HM0 hU
      simp only [Bool.true_and, Bool.and_false, Bool.false_and, Bool.false_eq_true, if_false]
      go_enter Tryd.func20, Tryd.ntmps20
      go_wp2_with fail
      (with_reducible refine hp.mono ?_)
      clear hp
      rintro e w1 ⟨u1, rfl, o1, k1⟩
      have hp2 := (hnext.out w1 k1).2 HU.out
      obtain ⟨ta, tc, htv, _, _, _⟩ := Ownv.rdv o1
      generalize (looks ds l).length = L at htv
      subst htv
      clear o1
      have HK1 := Shut.mk k1
      clear k1
      go_wp2_with fail
      (with_reducible refine hp2.mono ?_)
      clear hp2
      rintro e w2 ⟨rfl, k2⟩
      go_wp2
      go_ret2
      exact ⟨rfl, HK1.out.trans k2⟩
    | true =>
      have HU := Shut.mk hU
      clear h hd hm hs60 hT HM0 hU
      simp only [Bool.true_and, if_true]
      obtain ⟨r, hr⟩ : ∃ r, r = decide (looks ds l = looks ds m) := ⟨_, rfl⟩
      rw [← hr]
      have HR := Shut.mk hr
      clear hr
      go_enter Tryd.func20, Tryd.ntmps20
      go_wp2_with fail
      (with_reducible refine hp.mono ?_)
      clear hp
      rintro e w1 ⟨u1, rfl, o1, k1⟩
      have hp2 := (hnext.out w1 k1).1 HU.out
      have HO1 := Shut.mk (OwnT.rd o1)
      obtain ⟨ta, tc, htv, _, _, _⟩ := Ownv.rdv o1
      generalize hL : (looks ds l).length = L at htv
      subst htv
      clear o1 hL
      have HK1 := Shut.mk k1
      clear k1
      go_wp2_with fail
      (with_reducible refine hp2.mono ?_)
      clear hp2
      rintro e w2 ⟨u2, rfl, o2, k2⟩
      have hs := sameTexts_any (HO1.out.kept k2) (OwnT.rd o2)
      rw [← HR.out] at hs
      obtain ⟨tb, td, htv, _, _, _⟩ := Ownv.rdv o2
      generalize hL : (looks ds m).length = L2 at htv
      subst htv
      clear o2 hL
      have HK2 := Shut.mk (HK1.out.trans k2)
      clear k2
      go_wp2_with fail
      (with_reducible refine hs.mono ?_)
      clear hs
      rintro e w3 ⟨rfl, k3⟩
      go_wp2
      go_ret2
      exact ⟨rfl, HK2.out.trans k3⟩
end Go.Proofs.YtangbnmgkcmhbaaDoor
end

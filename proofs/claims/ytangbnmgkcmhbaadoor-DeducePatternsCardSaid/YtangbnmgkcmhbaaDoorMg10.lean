/- Texts of one proof, put together: NextP, NextA, NextB, NextC, NextD, RefPa, NextE, KnowsT. -/
import Derived.Test.YtangbnmgkcmhbaaDoorMg05
import Derived.Test.YtangbnmgkcmhbaaDoorMg08
import Derived.BigQuiet
import Derived.Deep.RegionHeld3
import Derived.Laws.NewBlocks
import Derived.Test.YtangbnmgkcmhbaaDoorMg04
import Derived.Test.YtangbnmgkcmhbaaDoorMg07
import Derived.Test.YtangbnmgkcmhbaaDoorMg06
import Derived.Test.YtangbnmgkcmhbaaDoorMg02
import Derived.Test.YtangbnmgkcmhbaaDoorMg03
import Derived.Test.YtangbnmgkcmhbaaDoorMg09
section
/- What the document's next says: plain facts. -/
set_option linter.unusedSimpArgs false
set_option linter.unusedVariables false
namespace Go.Proofs.YtangbnmgkcmhbaaDoor
open Go

/-- s is a Sig by the same key of a blinded message, the message that t signs, and what blinds it can be derived. -/
def witB (ds : List Nd) (bs : List Bool) (t s : Int) : Bool :=
  (nd ds s).op == 10 && knB bs s && ((nd ds s).l.getD 0 0 == (nd ds t).l.getD 0 0) && ((nd ds ((nd ds s).l.getD 1 0)).op == 12) && ((nd ds ((nd ds s).l.getD 1 0)).l.getD 0 0 == (nd ds t).l.getD 1 0) && knB bs ((nd ds ((nd ds s).l.getD 1 0)).l.getD 1 0)
def unblB (ds : List Nd) (bs : List Bool) (t : Int) : Bool := (nd ds t).op == 10 && (List.range ds.length).any (fun s => witB ds bs t (s : Int))
def openedL (ds : List Nd) (bs : List Bool) (t : Int) : List Int :=
  if (nd ds t).op = 3 then (nd ds t).l
  else if (nd ds t).op = 8 then (match sealedTo ds (nd ds t) with | some sk => if knB bs sk = true then ((nd ds t).l.drop 1).take 2 else [] | none => [])
  else if (nd ds t).op = 9 then (if knB bs ((nd ds t).l.getD 0 0) = true then (nd ds t).l.drop 1 else [])
  else if (nd ds t).op = 10 then (nd ds t).l.drop 1
  else if (nd ds t).op = 12 then (if knB bs ((nd ds t).l.getD 1 0) = true then (nd ds t).l.take 1 else [])
  else []
/-- What one step derives with t. -/
def nextL (ds : List Nd) (bs : List Bool) (t : Int) : List Int :=
  if ((nd ds t).op != 1 && (nd ds t).l.all (knB bs)) = true then [t]
  else if knB bs t = true then openedL ds bs t
  else if unblB ds bs t = true then [t] else []

/-- What is opened is what rules say. -/
theorem opened_rule {ds : List Nd} (hg : Good ds) {bs : List Bool} {t : Int} (ht : IsT ds t) {x : Int} (hx : x ∈ openedL ds bs t) (hb : knB bs t = true) : ∃ r ∈ openRules ds t (nd ds t), x ∈ r.to ∧ ∀ y ∈ r.src, knB bs y = true := by
  unfold openedL at hx
  unfold openRules
  split at hx
  · rename_i ho
    rw [if_pos ho]
    exact ⟨_, List.mem_singleton.2 rfl, hx, fun y hy => by rw [List.mem_singleton.1 hy]; exact hb⟩
  rename_i o3
  rw [if_neg o3]
  split at hx
  · rename_i ho
    rw [if_pos ho]
    cases hs : sealedTo ds (nd ds t) with
    | none => rw [hs] at hx; cases hx
    | some sk =>
      rw [hs] at hx
      simp only at hx ⊢
      split at hx
      · rename_i hk
        refine ⟨_, List.mem_singleton.2 rfl, hx, fun y hy => ?_⟩
        simp only [List.mem_cons, List.not_mem_nil, or_false] at hy
        rcases hy with rfl | rfl
        · exact hb
        · exact hk
      · cases hx
  rename_i o8
  rw [if_neg o8]
  split at hx
  · rename_i ho
    rw [if_pos ho]
    split at hx
    · rename_i hk
      refine ⟨_, List.mem_singleton.2 rfl, hx, fun y hy => ?_⟩
      simp only [List.mem_cons, List.not_mem_nil, or_false] at hy
      rcases hy with rfl | rfl
      · exact hb
      · exact hk
    · cases hx
  rename_i o9
  rw [if_neg o9]
  split at hx
  · rename_i ho
    rw [if_neg (by omega), if_pos ho]
    exact ⟨_, List.mem_cons_self, hx, fun y hy => by rw [List.mem_singleton.1 hy]; exact hb⟩
  rename_i o10
  split at hx
  · rename_i ho
    rw [if_pos ho]
    split at hx
    · rename_i hk
      refine ⟨_, List.mem_singleton.2 rfl, hx, fun y hy => ?_⟩
      simp only [List.mem_cons, List.not_mem_nil, or_false] at hy
      rcases hy with rfl | rfl
      · exact hb
      · exact hk
    · cases hx
  · cases hx
theorem wit_some {ds : List Nd} {bs : List Bool} {t s : Int} (h : witB ds bs t s = true) : (nd ds s).op = 10 ∧ knB bs s = true ∧ (nd ds s).l.getD 0 0 = (nd ds t).l.getD 0 0 ∧ (nd ds ((nd ds s).l.getD 1 0)).op = 12 ∧ (nd ds ((nd ds s).l.getD 1 0)).l.getD 0 0 = (nd ds t).l.getD 1 0 ∧ knB bs ((nd ds ((nd ds s).l.getD 1 0)).l.getD 1 0) = true := by
  unfold witB at h
  simp only [Bool.and_eq_true, beq_iff_eq] at h
  exact ⟨h.1.1.1.1.1, h.1.1.1.1.2, h.1.1.1.2, h.1.1.2, h.1.2, h.2⟩
theorem nextL_sound {ds : List Nd} (hg : Good ds) {l : List Int} {bs : List Bool} (hb : ∀ x, IsT ds x → knB bs x = true → Der ds l x) {t : Int} (ht : IsT ds t) : ∀ x ∈ nextL ds bs t, Der ds l x := by
  intro x hx
  unfold nextL at hx
  split at hx
  · rename_i h
    rw [List.mem_singleton.1 hx]
    rw [Bool.and_eq_true] at h
    exact Der.made ht (by simpa using h.1) (fun y hy => hb y (hg.partT ht y hy) (List.all_eq_true.1 h.2 y hy))
  split at hx
  · rename_i h
    obtain ⟨r, hr, hxr, hs⟩ := opened_rule hg ht hx h
    exact Der.opened ht hr (fun y hy => hb y ((openRules_terms hg ht r hr).1 y hy) (hs y hy)) hxr
  split at hx
  · rename_i h
    rw [List.mem_singleton.1 hx]
    unfold unblB at h
    rw [Bool.and_eq_true] at h
    have h10 : (nd ds t).op = 10 := by simpa using h.1
    obtain ⟨s, hsm, hw⟩ := List.any_eq_true.1 h.2
    have hs : IsT ds (s : Int) := ⟨by omega, by have := List.mem_range.1 hsm; omega⟩
    obtain ⟨a1, a2, a3, a4, a5, a6⟩ := wit_some hw
    have l2 := (hg.mayT hs).p2 (.inl a1)
    have hm : IsT ds ((nd ds (s : Int)).l.getD 1 0) := hg.partT hs _ (getD_mem (by omega))
    have m2 := (hg.mayT hm).p2 (.inr a4)
    have hk : IsT ds ((nd ds ((nd ds (s : Int)).l.getD 1 0)).l.getD 1 0) := hg.partT hm _ (getD_mem (by omega))
    have hsg := hg.sigAt_eq ht h10
    rw [← a3, ← a5] at hsg
    refine Der.opened hs (r := ⟨[(s : Int), (nd ds ((nd ds (s : Int)).l.getD 1 0)).l.getD 1 0], [t]⟩) ?_ (fun y hy => ?_) (by simp)
    · unfold openRules
      rw [if_neg (by omega), if_neg (by omega), if_neg (by omega), if_neg (by omega), if_pos a1, if_pos a4, hsg]
      simp
    · simp only [List.mem_cons, List.not_mem_nil, or_false] at hy
      rcases hy with rfl | rfl
      · exact hb _ hs a2
      · exact hb _ hk a6
  · cases hx
theorem nextL_isT {ds : List Nd} (hg : Good ds) {bs : List Bool} {t : Int} (ht : IsT ds t) : ∀ x ∈ nextL ds bs t, IsT ds x := by
  intro x hx
  unfold nextL at hx
  split at hx
  · rw [List.mem_singleton.1 hx]; exact ht
  split at hx
  · rename_i h
    obtain ⟨r, hr, hxr, _⟩ := opened_rule hg ht hx h
    exact (openRules_terms hg ht r hr).2.1 x hxr
  split at hx
  · rw [List.mem_singleton.1 hx]; exact ht
  · cases hx
theorem nextL_closed {ds : List Nd} (hg : Good ds) {l : List Int} {bs : List Bool} (hc : ∀ t, IsT ds t → ∀ x ∈ nextL ds bs t, knB bs x = true) (hl : ∀ x ∈ l, knB bs x = true) {t : Int} (h : Der ds l t) : knB bs t = true := by
  induction h with
  | base h1 => exact hl _ h1
  | @step x r hr _ hx ih =>
    obtain ⟨k, hk, hra⟩ := rules_mem.1 hr
    have hT : IsT ds (k : Int) := ⟨by omega, by omega⟩
    unfold rulesAt at hra
    rw [← nd_of] at hra
    have hmade : ((nd ds (k : Int)).op != 1 && (nd ds (k : Int)).l.all (knB bs)) = true → knB bs (k : Int) = true := fun h => hc _ hT _ (by unfold nextL; rw [if_pos h]; simp)
    rcases List.mem_append.1 hra with hra | hra
    · split at hra
      · cases hra
      · rename_i ho
        obtain rfl := List.mem_singleton.1 hra
        rw [List.mem_singleton.1 hx]
        refine hmade ?_
        rw [Bool.and_eq_true]
        exact ⟨by simpa using ho, List.all_eq_true.2 fun y hy => ih y hy⟩
    · -- what is opened
      have hparts : ((nd ds (k : Int)).op != 1 && (nd ds (k : Int)).l.all (knB bs)) = true → ∀ y ∈ (nd ds (k : Int)).l, knB bs y = true := fun h y hy => by
        rw [Bool.and_eq_true] at h
        exact List.all_eq_true.1 h.2 y hy
      have hopen : knB bs (k : Int) = true → x ∈ openedL ds bs (k : Int) → (x ∈ (nd ds (k : Int)).l) → knB bs x = true := fun h1 h2 h3 => by
        by_cases c : ((nd ds (k : Int)).op != 1 && (nd ds (k : Int)).l.all (knB bs)) = true
        · exact hparts c x h3
        · exact hc _ hT x (by unfold nextL; rw [if_neg c, if_pos h1]; exact h2)
      unfold openRules at hra
      split at hra
      · rename_i ho
        obtain rfl := List.mem_singleton.1 hra
        exact hopen (ih _ (by simp)) (by unfold openedL; rw [if_pos ho]; exact hx) hx
      rename_i o3
      split at hra
      · rename_i ho
        split at hra
        · rename_i _ sk hs
          obtain rfl := List.mem_singleton.1 hra
          have h1 := ih (k : Int) (by simp)
          have h2 := ih sk (by simp)
          exact hopen h1 (by unfold openedL; rw [if_neg o3, if_pos ho, hs]; simp only; rw [if_pos h2]; exact hx) (List.mem_of_mem_drop (List.mem_of_mem_take hx))
        · cases hra
      rename_i o8
      split at hra
      · rename_i ho
        obtain rfl := List.mem_singleton.1 hra
        have h1 := ih (k : Int) (by simp)
        have h2 := ih ((nd ds (k : Int)).l.getD 0 0) (by simp)
        exact hopen h1 (by unfold openedL; rw [if_neg o3, if_neg o8, if_pos ho, if_pos h2]; exact hx) (List.mem_of_mem_drop hx)
      rename_i o9
      split at hra
      · rename_i ho
        obtain rfl := List.mem_singleton.1 hra
        have h1 := ih (k : Int) (by simp)
        have h2 := ih ((nd ds (k : Int)).l.getD 1 0) (by simp)
        exact hopen h1 (by unfold openedL; rw [if_neg o3, if_neg o8, if_neg o9, if_neg (by omega), if_pos ho, if_pos h2]; exact hx) (List.mem_of_mem_take hx)
      rename_i o12
      split at hra
      · rename_i ho
        rcases List.mem_cons.1 hra with rfl | hra
        · have h1 := ih (k : Int) (by simp)
          exact hopen h1 (by unfold openedL; rw [if_neg o3, if_neg o8, if_neg o9, if_pos ho]; exact hx) (List.mem_of_mem_drop hx)
        · split at hra
          · rename_i hb
            split at hra
            · rename_i s hs
              obtain rfl := List.mem_singleton.1 hra
              rw [List.mem_singleton.1 hx]
              have h1 := ih (k : Int) (by simp)
              have h2 := ih ((nd ds ((nd ds (k : Int)).l.getD 1 0)).l.getD 1 0) (by simp)
              obtain ⟨hsT, hsd⟩ := sig_some hs
              cases hin : knB bs s with
              | true => rfl
              | false =>
                have hw : witB ds bs s (k : Int) = true := by
                  unfold witB
                  rw [hsd]
                  simp only [Bool.and_eq_true, beq_iff_eq]
                  exact ⟨⟨⟨⟨⟨ho, h1⟩, rfl⟩, hb⟩, rfl⟩, h2⟩
                have hu : unblB ds bs s = true := by
                  unfold unblB
                  rw [Bool.and_eq_true]
                  refine ⟨by rw [hsd]; rfl, List.any_eq_true.2 ⟨k, List.mem_range.2 hk, hw⟩⟩
                have hmem : s ∈ nextL ds bs s := by
                  unfold nextL
                  by_cases c : ((nd ds s).op != 1 && (nd ds s).l.all (knB bs)) = true
                  · rw [if_pos c]; exact List.mem_singleton.2 rfl
                  · rw [if_neg c, if_neg (by rw [hin]; decide), if_pos hu]; exact List.mem_singleton.2 rfl
                have := hc s hsT s hmem
                rw [hin] at this
                exact this
            · cases hra
          · cases hra
      · cases hra
end Go.Proofs.YtangbnmgkcmhbaaDoor
end

section
/- Walks: the document's answer of layer 5: all, bad, unblinded. -/
set_option linter.unusedSimpArgs false
set_option linter.unusedVariables false
namespace Go.Proofs.YtangbnmgkcmhbaaDoor
open Go.RowKit Go.Maps

set_option maxHeartbeats 4000000 in
set_option maxRecDepth 100000 in
theorem allR_any {w : World} {g n c : Nat} {bs : List Bool} (ho : OwnB 0 w (.slice (some ⟨g, 0, none⟩) n c) bs) (hn : bs.length = n) {v : Value} {l : List Int} (hd : RdI w v l) (hT : ∀ x ∈ l, 0 ≤ x ∧ x < (n : Int)) :
    Calls Tryd.prog 56 #[.slice (some ⟨g, 0, none⟩) n c, v] w fun e w' => e = .returned (.bool (l.all (knB bs))) ∧ w = w' := by
  obtain ⟨la, lc, rfl, l1, l2, l3⟩ := hd.len
  have l63 : ((l.length : Nat) : Int) ≤ 9223372036854775807 := by unfold maxLen at l2; omega
  have HT := Shut.mk hT
  have HN := Shut.mk hn
  clear hT hn
  go_enter Tryd.func56, Tryd.ntmps56
  go_wp2
  go_loop [9] (fun i => ∃ k : Nat, (k ≤ l.length ∧ ∀ j, j < k → knB bs (l.getD j 0) = true) ∧ i = .int .i64 k) (fun i => l.length - (intOf i).toNat)
  case atStart => exact ⟨0, ⟨Nat.zero_le _, fun j hj => absurd hj (Nat.not_lt_zero _)⟩, rfl⟩
  case round =>
    obtain ⟨k, ⟨hk0, hall⟩, rfl⟩ := hrel
    have HALL := Shut.mk hall
    clear hall
    by_cases hlt : k < l.length
    · obtain ⟨rb, ro, rfl, hx⟩ := hd.at hlt
      have x1 := hx w (Kept.refl w)
      have hxT := HT.out _ (getD_mem hlt)
      clear hx
      obtain ⟨t, ht⟩ := Int.eq_ofNat_of_zero_le hxT.1
      rw [ht] at x1 hxT
      have c1 := OwnB.cell ho HN.out (j := t) (by omega)
      have htk : (t : Int) < (n : Int) := hxT.2
      have hbt : knB bs (l.getD k 0) = bs.getD t false := by unfold knB; rw [ht, Int.toNat_natCast]
      have HBT := Shut.mk hbt
      clear hbt ht hxT
      cases hb : bs.getD t false with
      | true =>
        rw [hb] at c1
        have HB := Shut.mk hb
        clear hb
        go_wp2
        go_round
        case rel => exact ⟨k + 1, ⟨hlt, fun j hj => by
          by_cases c : j < k
          · exact HALL.out j c
          · obtain rfl : j = k := by omega
            rw [HBT.out, HB.out]⟩, rfl⟩
        case measure => simp [intOf]; omega
      | false =>
        rw [hb] at c1
        have HB := Shut.mk hb
        have HM := Shut.mk (getD_mem (l := l) hlt)
        clear hb
        go_wp2
        go_ret
        refine ⟨?_, rfl⟩
        have : l.all (knB bs) = false := List.all_eq_false.2 ⟨_, HM.out, by rw [HBT.out, HB.out]; decide⟩
        rw [this]
        rfl
    · obtain rfl : k = l.length := by omega
      go_wp2
      go_ret
      refine ⟨?_, rfl⟩
      have : l.all (knB bs) = true := List.all_eq_true.2 fun x hx => by
        obtain ⟨j, hj, rfl⟩ := List.getElem_of_mem hx
        have := HALL.out j hj
        rwa [List.getD_eq_getElem?_getD, List.getElem?_eq_getElem hj] at this
      rw [this]
      rfl

set_option maxHeartbeats 4000000 in
set_option maxRecDepth 100000 in
theorem badR_any {G : Nat → Prop} {w : World} {q : Value} {ds : List Nd} (h : ArR G w q ds) {v : Value} {l : List Int} (hd : RdI w v l) :
    Calls Tryd.prog 31 #[q, v] w fun e w' => e = .returned (.bool (!termsB ds l)) ∧ w = w' := by
  obtain ⟨la, lc, rfl, l1, l2, l3⟩ := hd.len
  have l63 : ((l.length : Nat) : Int) ≤ 9223372036854775807 := by unfold maxLen at l2; omega
  have hln := lenR h
  have hfew := h.few
  have hqf : ∃ a, q = .pointer (some a) := by
    obtain ⟨pb, mb, nv, e, _⟩ := ArG.nodes h
    exact ⟨_, e⟩
  obtain ⟨qa, rfl⟩ := hqf
  go_enter Tryd.func31, Tryd.ntmps31
  go_wp2
  go_loopw [9] (fun i wr => ∃ k : Nat, k ≤ l.length ∧ (∀ j, j < k → IsT ds (l.getD j 0)) ∧ i = .int .i64 k ∧ w = wr) (fun i _ => l.length - (intOf i).toNat)
  case atStart => exact ⟨0, Nat.zero_le _, (fun j hj => absurd hj (Nat.not_lt_zero _)), rfl, rfl⟩
  case round =>
    obtain ⟨k, hk0, hall, rfl, rfl⟩ := hrel
    have HALL := Shut.mk hall
    clear hall
    by_cases hlt : k < l.length
    · obtain ⟨rb, ro, rfl, hx⟩ := hd.at hlt
      have x1 := hx w (Kept.refl w)
      clear hx
      generalize hxe : l.getD k 0 = x at x1
      have HX := Shut.mk hxe
      have HLT := Shut.mk hlt
      clear hxe
      by_cases c0 : x < 0
      · have HN : Shut (¬ IsT ds x) := ⟨fun h => by have := h.1; omega⟩
        go_wp2
        go_ret
        have : termsB ds l = false := termsB_not HLT.out (by rw [HX.out]; exact HN.out)
        rw [this]
        exact ⟨rfl, rfl⟩
      · by_cases c1 : x < (ds.length : Int)
        · have HI : Shut (IsT ds x) := ⟨⟨by omega, c1⟩⟩
          go_wp2_with (go_at_call 23; refine hln.mono ?_; rintro e w' ⟨rfl, rfl⟩)
          go_roundw
          case rel => exact ⟨k + 1, HLT.out, (fun j hj => by
            by_cases c : j < k
            · exact HALL.out j c
            · obtain rfl : j = k := by omega
              rw [HX.out]; exact HI.out), rfl, by first | rfl | trivial⟩
          case measure => simp [intOf]; omega
        · have HN : Shut (¬ IsT ds x) := ⟨fun h => c1 h.2⟩
          go_wp2_with (go_at_call 23; refine hln.mono ?_; rintro e w' ⟨rfl, rfl⟩)
          go_ret
          have : termsB ds l = false := termsB_not HLT.out (by rw [HX.out]; exact HN.out)
          rw [this]
          exact ⟨rfl, rfl⟩
    · obtain rfl : k = l.length := by omega
      go_wp2
      go_ret
      have : termsB ds l = true := termsB_take HALL.out
      rw [this]
      exact ⟨rfl, rfl⟩
end Go.Proofs.YtangbnmgkcmhbaaDoor
end

section
/- Walks: the document's answer of layer 5: unblinded. -/
set_option linter.unusedSimpArgs false
set_option linter.unusedVariables false
namespace Go.Proofs.YtangbnmgkcmhbaaDoor
open Go.RowKit Go.Maps

/-- The nodes of an arena, where they lie. -/
theorem ArG.rowN {T : TypeId} {key : Nd → List UInt8} {F : Nat → Prop} {w : World} {p : Value} {ds : List Nd} (h : ArG T key F w p ds) (hp : 0 < ds.length) :
    ∃ pb nb ncap, p = .pointer (some ⟨pb, 0, none⟩) ∧ w.cell? ⟨pb, 0, none⟩ = some (.slice (some ⟨nb, 0, none⟩) ds.length ncap) ∧ pb < w.heap.size ∧
      ∀ i, i < ds.length → ∃ la lc, (∀ W, Kept w W → W.cell? ⟨nb, i * 4, none⟩ = some (.int .i64 (ds.getD i nd0).op) ∧ W.cell? ⟨nb, i * 4 + 1, none⟩ = some (.int .i64 (ds.getD i nd0).n) ∧ W.cell? ⟨nb, i * 4 + 2, none⟩ = some (.string (strB (ds.getD i nd0).s)) ∧ W.cell? ⟨nb, i * 4 + 3, none⟩ = some (.slice la (ds.getD i nd0).l.length lc)) ∧
        RdI w (.slice la (ds.getD i nd0).l.length lc) (ds.getD i nd0).l ∧ ∀ b, VB (.slice la (ds.getD i nd0).l.length lc) b → F b := by
  obtain ⟨pb, mb, n, nv, lvs, D, h1, h2, h3, h4, h5, h6, h7, h8, h9, h10, h11, h12⟩ := h.rep
  obtain ⟨g, cap, rfl, g1, g2, g3, g4, g5, g6⟩ := Ownv.row h3 hp
  refine ⟨pb, g, cap, h1, h2.cell 0, h2.lt, fun k hk => ?_⟩
  have hat : ∀ j u, j < 4 → (ndCells (ds.getD k nd0) (lvs.getD k undef))[j]? = some u → w.cell? ⟨g, k * 4 + j, none⟩ = some u := by
    intro j u hj hu
    have := g5 (k * 4 + j) (by omega)
    rw [List.getD_eq_getElem?_getD, flat_at ds lvs k j hk hj, hu] at this
    exact this
  have hr := (h5 k hk).rd
  obtain ⟨la, lc, hlv, _, _, _⟩ := hr.len
  refine ⟨la, lc, fun W kW => ⟨(kW.cell (p := ⟨g, k * 4, none⟩) g4).trans (hat 0 _ (by omega) rfl), (kW.cell (p := ⟨g, k * 4 + 1, none⟩) g4).trans (hat 1 _ (by omega) rfl), (kW.cell (p := ⟨g, k * 4 + 2, none⟩) g4).trans (hat 2 _ (by omega) rfl), (kW.cell (p := ⟨g, k * 4 + 3, none⟩) g4).trans ?_⟩, ?_, fun b hb => h12 k hk b ?_⟩
  · rw [← hlv]; exact hat 3 _ (by omega) rfl
  · rw [← hlv]; exact hr
  · obtain ⟨o, sp, n', c', _, hv⟩ := hb
    rw [hlv, hv]; rfl

theorem cellD (w : World) (n : Nat) (c : Array Value) (t : TypeId) (i : Nat) : ((w.drewN n).alloc (.cells c t)).cell? ⟨w.heap.size, i, none⟩ = c[i]? := World.cell?_alloc_at c t _ i rfl
theorem frozenD (w : World) (n : Nat) (c : Array Value) (t : TypeId) (i : Nat) : ((w.drewN n).alloc (.cells c t)).frozen? ⟨w.heap.size, i, none⟩ = false := World.frozen?_alloc_at c t _ i rfl
theorem setCellD (w : World) (n : Nat) (c : Array Value) (t : TypeId) (i : Nat) (v : Value) : ((w.drewN n).alloc (.cells c t)).setCell ⟨w.heap.size, i, none⟩ v = (w.drewN n).alloc (.cells (c.setIfInBounds i v) t) := World.setCell_alloc_at c t _ i v rfl
attribute [local go_sem] cellD frozenD setCellD
/-- The world at hand gets a name. -/
theorem cap_world {K : Act → World → Prop} {a : Act} {w : World} (h : ∀ w', w' = w → K a w') : K a w := h w rfl
/-- A row of numbers is answered: the arena's own, or a new one. -/
def RowPost (G : Nat → Prop) (w : World) (l : List Int) (e : Ending) (w' : World) : Prop := ∃ v, e = .returned v ∧ RdI w' v l ∧ (∀ b, VB v b → G b ∨ w.heap.size ≤ b) ∧ Kept w w'
theorem RowPost.nil (G : Nat → Prop) {w w' : World} (k : Kept w w') : RowPost G w [] (.returned (.slice none 0 0)) w' := ⟨_, rfl, RdI.nil _, (fun b hb => by obtain ⟨_, _, _, _, h0, e⟩ := hb; simp only [Value.slice.injEq] at e; exact absurd e.1 (by simp)), k⟩
theorem RowPost.one (G : Nat → Prop) {w w1 : World} (k : Kept w w1) (t : Int) : RowPost G w [t] (.returned (.slice (some ⟨w1.heap.size, 0, none⟩) 1 1)) (w1.alloc (.cells #[.int .i64 t] 3)) :=
  ⟨_, rfl, OwnI.rd (lit1 w1 t), fun b hb => .inr (by rw [hb.of]; exact k.size), k.trans ((Kept.refl w1).alloc _)⟩

set_option maxHeartbeats 8000000 in
set_option maxRecDepth 100000 in
theorem unblR_any {G : Nat → Prop} {w : World} {q : Value} {ds : List Nd} (h : ArR G w q ds) {g c : Nat} {bs : List Bool} (ho : OwnB 0 w (.slice (some ⟨g, 0, none⟩) ds.length c) bs) (hn : bs.length = ds.length) {t : Nat} (ht : t < ds.length) :
    Calls Tryd.prog 73 #[q, .slice (some ⟨g, 0, none⟩) ds.length c, .int .i64 (t : Int)] w (RowPost G w (if unblB ds bs (t : Int) = true then [(t : Int)] else [])) := by
  generalize hR : (if unblB ds bs (t : Int) = true then [(t : Int)] else []) = R
  have HR := Shut.mk hR
  clear hR
  have hfew := h.few
  have hg := h.good
  have hgl : g < w.heap.size := (Ownv.lt ho (b := g) rfl).1
  obtain ⟨pb, nb, ncap, rfl, c0, hpb, hall⟩ := ArG.rowN h (by omega)
  have HALL := Shut.mk hall
  have HN := Shut.mk hn
  have HO := Shut.mk ho
  have tI : (t : Int) < (ds.length : Int) := by omega
  obtain ⟨la, lc, hcl, hlr, _⟩ := hall t ht
  obtain ⟨y0, y1, y2, y3⟩ := hcl w (Kept.refl w)
  have hmay := hg.may' ht
  have HU : Shut (unblB ds bs (t : Int) = ((ds.getD t nd0).op == 10 && (List.range ds.length).any (fun s => witB ds bs (t : Int) (s : Int)))) := ⟨by unfold unblB; rw [nd_of]⟩
  have HW : Shut (∀ s : Nat, witB ds bs (t : Int) (s : Int) = ((ds.getD s nd0).op == 10 && bs.getD s false && ((ds.getD s nd0).l.getD 0 0 == (ds.getD t nd0).l.getD 0 0) && ((nd ds ((ds.getD s nd0).l.getD 1 0)).op == 12) && ((nd ds ((ds.getD s nd0).l.getD 1 0)).l.getD 0 0 == (ds.getD t nd0).l.getD 1 0) && knB bs ((nd ds ((ds.getD s nd0).l.getD 1 0)).l.getD 1 0))) := ⟨fun s => by
    unfold witB
    rw [nd_of, nd_of]
    unfold knB
    rw [Int.toNat_natCast]⟩
  clear hall hcl h ho hn
  generalize hdd : ds.getD t nd0 = d at y0 y1 y2 y3 hlr hmay HU HW
  have HDD := Shut.mk hdd
  clear hdd
  obtain ⟨op, n, s, l⟩ := d
  simp only at y0 y1 y2 y3 hlr HU HW
  generalize strB s = X at y2
  by_cases o10 : op = 10
  · subst o10
    have hl2 : l.length = 2 := hmay.p2 (.inl rfl)
    obtain ⟨l0, l1, rfl⟩ := two_of hl2
    obtain ⟨rb, ro, hla, hx⟩ := hlr.at (i := 0) (by simp)
    obtain ⟨rb', ro', hla', hx1⟩ := hlr.at (i := 1) (by simp)
    subst hla
    simp only [Option.some.injEq, Addr.mk.injEq, and_true] at hla'
    obtain ⟨rfl, rfl⟩ := hla'
    have HX := Shut.mk hx
    have HX1 := Shut.mk hx1
    clear hx hx1 hl2
    simp only [List.length_cons, List.length_nil, Nat.zero_add, Nat.reduceAdd] at y3 hlr
    have kA : Kept w (w.alloc (.cells #[.int .i64 10, .int .i64 n, .string X, .slice (some ⟨rb, ro, none⟩) 2 lc] 51)) := (Kept.refl w).alloc _
    have bA := Blk.new w [.int .i64 10, .int .i64 n, .string X, .slice (some ⟨rb, ro, none⟩) 2 lc] 51
    have d63 : ((ds.length : Nat) : Int) ≤ 9223372036854775807 := by omega
    go_enter Tryd.func73, Tryd.ntmps73
    go_wp2
    generalize w.alloc (.cells #[.int .i64 10, .int .i64 n, .string X, .slice (some ⟨rb, ro, none⟩) 2 lc] 51) = wA at kA bA ⊢
    have q3 := bA.cell 3
    have blt := bA.lt
    simp only [List.getElem?_cons_succ, List.getElem?_cons_zero] at q3
    clear bA y0 y1 y2 y3
    go_loopw [26] (fun i wr => ∃ k : Nat, k ≤ ds.length ∧ i = .int .i64 k ∧ (List.range k).any (fun s => witB ds bs (t : Int) (s : Int)) = false ∧ Kept wA wr) (fun i _ => ds.length - (intOf i).toNat)
    case atStart => exact ⟨0, Nat.zero_le _, rfl, rfl, Kept.refl _⟩
    case round =>
      obtain ⟨k, hk0, rfl, hno, hk⟩ := hrel
      have HNO := Shut.mk hno
      clear hno
      have hkw := kA.trans hk
      by_cases hlt : k < ds.length
      · obtain ⟨sa, sc, hcl, hsr, _⟩ := HALL.out k hlt
        obtain ⟨z0, z1, z2, z3⟩ := hcl wr hkw
        have hms := hg.may' hlt
        have hls := hg.lesser hlt
        have HWk := Shut.mk (HW.out k)
        clear hcl
        generalize hee : ds.getD k nd0 = e at z0 z1 z2 z3 hsr hms HWk hls
        obtain ⟨op2, n2, s2, m⟩ := e
        simp only at z0 z1 z2 z3 hsr HWk hls
        generalize strB s2 = X2 at z2
        have HSTEP : Shut (∀ b, witB ds bs (t : Int) (k : Int) = b → b = false → (List.range (k + 1)).any (fun s => witB ds bs (t : Int) (s : Int)) = false) := ⟨fun b hb hf => by
          rw [List.range_succ, List.any_append, HNO.out, Bool.false_or]
          simp [hb, hf]⟩
        have p3 : wr.cell? ⟨w.heap.size, 3, none⟩ = _ := (hk.cell (p := ⟨w.heap.size, 3, none⟩) blt).trans q3
        have r0 : wr.cell? ⟨pb, 0, none⟩ = _ := (hkw.cell (p := ⟨pb, 0, none⟩) hpb).trans c0
        have x0 := HX.out wr hkw
        have x1 := HX1.out wr hkw
        have cb := OwnB.cell (Ownv.kept HO.out hkw) HN.out (j := k) hlt
        have kB : Kept wr (wr.alloc (.cells #[.int .i64 op2, .int .i64 n2, .string X2, .slice sa m.length sc] 51)) := (Kept.refl wr).alloc _
        have bB := Blk.new wr [.int .i64 op2, .int .i64 n2, .string X2, .slice sa m.length sc] 51
        have hkI : (k : Int) < (ds.length : Int) := by omega
        have HLT := Shut.mk hlt
        go_wp2
        generalize wr.alloc (.cells #[.int .i64 op2, .int .i64 n2, .string X2, .slice sa m.length sc] 51) = wB at kB bB ⊢
        have b0 := bB.cell 0
        have b3 := bB.cell 3
        have b3lt := bB.lt
        simp only [List.getElem?_cons_succ, List.getElem?_cons_zero] at b0 b3
        have p3B := (kB.cell (p := ⟨w.heap.size, 3, none⟩) (World.block_lt_of_cell? _ _ p3)).trans p3
        have r0B := (kB.cell (p := ⟨pb, 0, none⟩) (World.block_lt_of_cell? _ _ r0)).trans r0
        have x0B := (kB.cell (p := ⟨rb, ro + 0, none⟩) (World.block_lt_of_cell? _ _ x0)).trans x0
        have x1B := (kB.cell (p := ⟨rb, ro + 1, none⟩) (World.block_lt_of_cell? _ _ x1)).trans x1
        have cbB := (kB.cell (p := ⟨g, k, none⟩) (World.block_lt_of_cell? _ _ cb)).trans cb
        rw [Nat.add_zero] at x0B
        have hkB := hk.trans kB
        have HKB := Shut.mk hkB
        have hkwB := kA.trans hkB
        clear p3 r0 x0 x1 cb z0 z1 z2 z3 bB kB
        by_cases o2 : op2 = 10
        · subst o2
          generalize hbk : bs.getD k false = bk at cbB HWk
          cases bk with
          | false =>
            have HW2 : Shut (witB ds bs (t : Int) (k : Int) = false) := ⟨by rw [HWk.out]; simp⟩
            go_quiet (fail)
            go_wp2
            go_roundw
            case rel => exact ⟨k + 1, HLT.out, rfl, HSTEP.out _ HW2.out rfl, by first | exact HKB.out | exact HKB.out.drewN _⟩
            case measure => simp [intOf]; omega
          | true =>
            have hm2 : m.length = 2 := hms.p2 (.inl rfl)
            obtain ⟨m0, m1, rfl⟩ := two_of hm2
            obtain ⟨sb, so, hsa, hx⟩ := hsr.at (i := 0) (by simp)
            obtain ⟨sb', so', hsa', hx1⟩ := hsr.at (i := 1) (by simp)
            subst hsa
            simp only [Option.some.injEq, Addr.mk.injEq, and_true] at hsa'
            obtain ⟨rfl, rfl⟩ := hsa'
            simp only [List.length_cons, List.length_nil, Nat.zero_add, Nat.reduceAdd] at b3
            have s0 : wB.cell? ⟨sb, so, none⟩ = some (.int .i64 m0) := by
              have := hx wB hkwB
              rw [Nat.add_zero] at this
              simpa using this
            have s1 : wB.cell? ⟨sb, so + 1, none⟩ = some (.int .i64 m1) := by simpa using hx1 wB hkwB
            have hm1 : 0 ≤ m1 ∧ m1 < k := hls m1 (by simp)
            obtain ⟨mn, hmn⟩ := Int.eq_ofNat_of_zero_le hm1.1
            subst hmn
            have hmn : mn < ds.length := by have := hm1.2; omega
            obtain ⟨ba, bc, hbl, hbr, _⟩ := HALL.out mn hmn
            obtain ⟨u0, u1, u2, u3⟩ := hbl wB hkwB
            have hmb := hg.may' hmn
            have hwk := HWk.out
            simp only [List.getD_cons_zero, List.getD_cons_succ] at hwk
            rw [nd_of] at hwk
            clear hx hx1 hsr hm2 hbl
            generalize hff : ds.getD mn nd0 = f at u0 u1 u2 u3 hbr hmb hwk
            obtain ⟨op3, n3, s3, bl⟩ := f
            simp only at u0 u1 u2 u3 hbr hmb hwk
            generalize strB s3 = X3 at u2
            have HWK := Shut.mk hwk
            have HFF := Shut.mk hff
            have hmI : (mn : Int) < (ds.length : Int) := by omega
            clear hwk hbk hff hls
            by_cases e0 : m0 = l0
            · subst e0
              go_quiet (fail)
              go_wp2_with fail
              have nq0 := World.new_ne wB _ r0B
              have nq1 := World.new_ne wB _ b3
              have nq2 := World.new_ne wB _ s1
              have nq3 := World.new_ne wB _ u0
              have nq4 := World.new_ne wB _ u1
              have nq5 := World.new_ne wB _ u2
              have nq6 := World.new_ne wB _ u3
              go_region_held3 (fun w' => w'.cell? ⟨pb, 0, none⟩ = some (.slice (some ⟨nb, 0, none⟩) ds.length ncap) ∧ w'.cell? ⟨wr.heap.size, 3, none⟩ = some (.slice (some ⟨sb, so, none⟩) 2 sc) ∧ w'.cell? ⟨sb, so + 1, none⟩ = some (.int .i64 (mn : Int)) ∧ w'.cell? ⟨nb, mn * 4, none⟩ = some (.int .i64 op3) ∧ w'.cell? ⟨nb, mn * 4 + 1, none⟩ = some (.int .i64 n3) ∧ w'.cell? ⟨nb, mn * 4 + 2, none⟩ = some (.string X3) ∧ w'.cell? ⟨nb, mn * 4 + 3, none⟩ = some (.slice ba bl.length bc))
                (first | exact ⟨r0B, b3, s1, u0, u1, u2, u3⟩ | assumption | go_keep) (fail)
              all_goals
                refine cap_world ?_
                intro wC hC
                have kC : Kept wB wC := by rw [hC]; first | exact (Kept.refl _).alloc _ | exact ((Kept.refl _).drew).alloc _ | exact ((Kept.refl _).drewN _).alloc _ | exact (((Kept.refl _).drewN _).drew).alloc _ | exact ((Kept.refl _).alloc _).drew | exact (((Kept.refl _).drew).alloc _).drew | exact (((Kept.refl _).drewN _).alloc _).drew | exact ((((Kept.refl _).drewN _).drew).alloc _).drew
                have bC : Blk wC wB.heap.size 51 [.int .i64 op3, .int .i64 n3, .string X3, .slice ba bl.length bc] := by rw [hC]; first | exact Blk.new wB _ _ | exact Blk.new wB.drew _ _ | exact Blk.new (wB.drewN _) _ _ | exact Blk.new (wB.drewN _).drew _ _ | exact (Blk.new wB _ _).kept ((Kept.refl _).drew) | exact (Blk.new wB.drew _ _).kept ((Kept.refl _).drew) | exact (Blk.new (wB.drewN _) _ _).kept ((Kept.refl _).drew) | exact (Blk.new (wB.drewN _).drew _ _).kept ((Kept.refl _).drew)
                clear hC
                have v0 := bC.cell 0
                have v3 := bC.cell 3
                simp only [List.getElem?_cons_succ, List.getElem?_cons_zero] at v0 v3
                have p3C := (kC.cell (p := ⟨w.heap.size, 3, none⟩) (World.block_lt_of_cell? _ _ p3B)).trans p3B
                have x1C := (kC.cell (p := ⟨rb, ro + 1, none⟩) (World.block_lt_of_cell? _ _ x1B)).trans x1B
                have HKC := Shut.mk (HKB.out.trans kC)
                have hkwC := hkwB.trans kC
                have hoC := Ownv.kept HO.out hkwC
                clear bC
                by_cases o3 : op3 = 12
                · subst o3
                  have hb2 : bl.length = 2 := hmb.p2 (.inr rfl)
                  obtain ⟨d0, d1, rfl⟩ := two_of hb2
                  obtain ⟨tb, tw, hba, hx⟩ := hbr.at (i := 0) (by simp)
                  obtain ⟨tb', tw', hba', hx1⟩ := hbr.at (i := 1) (by simp)
                  subst hba
                  simp only [Option.some.injEq, Addr.mk.injEq, and_true] at hba'
                  obtain ⟨rfl, rfl⟩ := hba'
                  simp only [List.length_cons, List.length_nil, Nat.zero_add, Nat.reduceAdd] at v3
                  have t0 : wC.cell? ⟨tb, tw, none⟩ = some (.int .i64 d0) := by
                    have := hx wC hkwC
                    rw [Nat.add_zero] at this
                    simpa using this
                  have t1 : wC.cell? ⟨tb, tw + 1, none⟩ = some (.int .i64 d1) := by simpa using hx1 wC hkwC
                  have hd1 : 0 ≤ d1 ∧ d1 < mn := hg.lesser hmn d1 (by rw [HFF.out]; simp)
                  obtain ⟨dn, hdn⟩ := Int.eq_ofNat_of_zero_le hd1.1
                  subst hdn
                  have hdn : dn < ds.length := by have := hd1.2; omega
                  have cd := OwnB.cell hoC HN.out (j := dn) hdn
                  have hdI : (dn : Int) < (ds.length : Int) := by omega
                  have hwk := HWK.out
                  simp only [List.getD_cons_zero, List.getD_cons_succ] at hwk
                  have hkb : knB bs (dn : Int) = bs.getD dn false := by unfold knB; rw [Int.toNat_natCast]
                  rw [hkb] at hwk
                  clear hx hx1 hkb hb2
                  generalize bs.getD dn false = bd at cd hwk
                  have HWD := Shut.mk hwk
                  clear hwk
                  by_cases e1 : d0 = l1
                  · subst e1
                    cases bd with
                    | true =>
                      have HW2 : Shut (witB ds bs (t : Int) (k : Int) = true) := ⟨by rw [HWD.out]; simp⟩
                      go_wp2_with fail
                      go_quiet (fail)
                      go_wp2
                      go_ret
                      have hany : (List.range ds.length).any (fun s => witB ds bs (t : Int) (s : Int)) = true := List.any_eq_true.2 ⟨k, List.mem_range.2 HLT.out, HW2.out⟩
                      rw [← HR.out, HU.out, hany]
                      have hkw2 := kA.trans HKC.out
                      first | exact RowPost.one G hkw2 (t : Int) | exact RowPost.one G (hkw2.drewN _) (t : Int)
                    | false =>
                      have HW2 : Shut (witB ds bs (t : Int) (k : Int) = false) := ⟨by rw [HWD.out]; simp⟩
                      go_wp2_with fail
                      go_quiet (fail)
                      go_wp2
                      go_roundw
                      case rel => exact ⟨k + 1, HLT.out, rfl, HSTEP.out _ HW2.out rfl, by first | exact HKC.out | exact HKC.out.drewN _⟩
                      case measure => simp [intOf]; omega
                  · have e1b : (d0 == l1) = false := by simpa using e1
                    have HW2 : Shut (witB ds bs (t : Int) (k : Int) = false) := ⟨by rw [HWD.out]; simp [e1b]⟩
                    go_wp2_with fail
                    go_quiet (fail)
                    go_wp2
                    go_roundw
                    case rel => exact ⟨k + 1, HLT.out, rfl, HSTEP.out _ HW2.out rfl, by first | exact HKC.out | exact HKC.out.drewN _⟩
                    case measure => simp [intOf]; omega
                · have o3b : (op3 == 12) = false := by simpa using o3
                  have HW2 : Shut (witB ds bs (t : Int) (k : Int) = false) := ⟨by rw [HWK.out]; simp [o3b]⟩
                  go_wp2_with fail
                  go_quiet (fail)
                  go_wp2
                  go_roundw
                  case rel => exact ⟨k + 1, HLT.out, rfl, HSTEP.out _ HW2.out rfl, by first | exact HKC.out | exact HKC.out.drewN _⟩
                  case measure => simp [intOf]; omega
            · have HW2 : Shut (witB ds bs (t : Int) (k : Int) = false) := ⟨by
                rw [HWK.out]
                have : (m0 == l0) = false := by simpa using e0
                simp [this]⟩
              have e0b : (m0 != l0) = true := by simpa using e0
              go_quiet (fail)
              go_wp2
              go_roundw
              case rel => exact ⟨k + 1, HLT.out, rfl, HSTEP.out _ HW2.out rfl, by first | exact HKB.out | exact HKB.out.drewN _⟩
              case measure => simp [intOf]; omega
        · have o2b : (op2 != 10) = true := by simpa using o2
          have HW2 : Shut (witB ds bs (t : Int) (k : Int) = false) := ⟨by rw [HWk.out]; simp [o2]⟩
          go_quiet (fail)
          go_wp2
          go_roundw
          case rel => exact ⟨k + 1, HLT.out, rfl, HSTEP.out _ HW2.out rfl, by first | exact HKB.out | exact HKB.out.drewN _⟩
          case measure => simp [intOf]; omega
      · obtain rfl : k = ds.length := by omega
        go_wp2
        go_ret
        rw [← HR.out, HU.out, HNO.out]
        exact RowPost.nil G hkw
  · have o10b : (op == 10) = false := by simpa using o10
    have o10c : (op != 10) = true := by simpa using o10
    have kA : Kept w (w.alloc (.cells #[.int .i64 op, .int .i64 n, .string X, .slice la l.length lc] 51)) := (Kept.refl w).alloc _
    go_enter Tryd.func73, Tryd.ntmps73
    go_wp2
    go_ret
    rw [← HR.out, HU.out, o10b]
    exact RowPost.nil G kA
end Go.Proofs.YtangbnmgkcmhbaaDoor
end

section
/- Walks: the document's answer of layer 5: next. -/
set_option linter.unusedSimpArgs false
set_option linter.unusedVariables false
namespace Go.Proofs.YtangbnmgkcmhbaaDoor
open Go.RowKit Go.Maps
attribute [local go_sem] cellD frozenD setCellD

theorem one_of {l : List Int} (h : l.length = 1) : ∃ a, l = [a] := by
  match l, h with
  | [a], _ => exact ⟨a, rfl⟩
theorem RowPost.sub {G : Nat → Prop} {w w1 : World} (k : Kept w w1) {rb ro n lc : Nat} {l : List Int} (h : RdI w1 (.slice (some ⟨rb, ro, none⟩) n lc) l) (hp : 0 < l.length) (hG : G rb) (lo hi : Nat) (h1 : lo ≤ hi) (h2 : hi ≤ l.length) {a b : Nat} (ha : a = hi - lo) (hb : b = lc - lo) {R : List Int} (hR : (l.take hi).drop lo = R) :
    RowPost G w R (.returned (.slice (some ⟨rb, ro + lo, none⟩) a b)) w1 := by
  subst ha hb hR
  exact ⟨_, rfl, h.sub lo hi h1 h2, fun c hc => .inl (by rw [hc.of]; exact hG), k⟩

set_option maxHeartbeats 8000000 in
set_option maxRecDepth 100000 in
theorem nextR_any {G : Nat → Prop} {w : World} {q : Value} {ds : List Nd} (h : ArR G w q ds) {g c : Nat} {bs : List Bool} (ho : OwnB 0 w (.slice (some ⟨g, 0, none⟩) ds.length c) bs) (hn : bs.length = ds.length) {t : Nat} (ht : t < ds.length) :
    Calls Tryd.prog 51 #[q, .slice (some ⟨g, 0, none⟩) ds.length c, .int .i64 (t : Int)] w (RowPost G w (nextL ds bs (t : Int))) := by
  have hfew := h.few
  have hg := h.good
  have HH := Shut.mk h
  obtain ⟨pb, nb, ncap, rfl, c0, hpb, hall⟩ := ArG.rowN h (by omega)
  have HALL := Shut.mk hall
  have HN := Shut.mk hn
  have HO := Shut.mk ho
  have tI : (t : Int) < (ds.length : Int) := by omega
  obtain ⟨la, lc, hcl, hlr, hGl⟩ := hall t ht
  obtain ⟨y0, y1, y2, y3⟩ := hcl w (Kept.refl w)
  have hmay := hg.may' ht
  have hless := hg.lesser ht
  have hub := fun W (kW : Kept w W) => unblR_any (ArG.kept h kW) (Ownv.kept ho kW) hn ht
  have hnx : nextL ds bs (t : Int) = if ((ds.getD t nd0).op != 1 && (ds.getD t nd0).l.all (knB bs)) = true then [(t : Int)] else if bs.getD t false = true then openedL ds bs (t : Int) else if unblB ds bs (t : Int) = true then [(t : Int)] else [] := by
    unfold nextL
    rw [nd_of]
    try rfl
  have hop : openedL ds bs (t : Int) = if (ds.getD t nd0).op = 3 then (ds.getD t nd0).l
      else if (ds.getD t nd0).op = 8 then (match sealedTo ds (ds.getD t nd0) with | some sk => if knB bs sk = true then ((ds.getD t nd0).l.drop 1).take 2 else [] | none => [])
      else if (ds.getD t nd0).op = 9 then (if knB bs ((ds.getD t nd0).l.getD 0 0) = true then (ds.getD t nd0).l.drop 1 else [])
      else if (ds.getD t nd0).op = 10 then (ds.getD t nd0).l.drop 1
      else if (ds.getD t nd0).op = 12 then (if knB bs ((ds.getD t nd0).l.getD 1 0) = true then (ds.getD t nd0).l.take 1 else [])
      else [] := by
    unfold openedL
    rw [nd_of]
    try rfl
  generalize (if unblB ds bs (t : Int) = true then [(t : Int)] else []) = UB at hub hnx
  generalize hR : nextL ds bs (t : Int) = R at hnx ⊢
  generalize hO : openedL ds bs (t : Int) = OP at hnx hop
  have HNX := Shut.mk hnx
  have HOP := Shut.mk hop
  clear hall hcl h ho hn hnx hop hR hO
  generalize hdd : ds.getD t nd0 = d at y0 y1 y2 y3 hlr hmay HNX HOP hless hGl
  have HDD := Shut.mk hdd
  clear hdd
  obtain ⟨op, n, s, l⟩ := d
  simp only at y0 y1 y2 y3 hlr HNX HOP hless hGl
  generalize strB s = X at y2
  obtain ⟨_, _, hlve, hl1, hl2, _⟩ := hlr.len
  simp only [Value.slice.injEq, true_and] at hlve
  obtain ⟨rfl, rfl⟩ := hlve
  have kA : Kept w (w.alloc (.cells #[.int .i64 op, .int .i64 n, .string X, .slice la l.length lc] 51)) := (Kept.refl w).alloc _
  have bA := Blk.new w [.int .i64 op, .int .i64 n, .string X, .slice la l.length lc] 51
  have hal := fun W (kW : Kept w W) => allR_any (Ownv.kept HO.out kW) HN.out (hlr.kept kW) (fun x hx => by have := hless x hx; omega)
  generalize hAB : l.all (knB bs) = ab at hal HNX
  clear hAB
  have cb := OwnB.cell (Ownv.kept HO.out kA) HN.out (j := t) ht
  generalize hbt : bs.getD t false = bt at cb HNX
  clear hbt
  have hlI : ((l.length : Nat) : Int) ≤ (lc : Int) := by omega
  by_cases o1 : op = 1
  · subst o1
    have e1 : R = if bt = true then OP else UB := by rw [HNX.out]; simp
    have HE := Shut.mk e1
    clear e1
    cases bt with
    | false =>
      have HE2 : Shut (R = UB) := ⟨by rw [HE.out]; rfl⟩
      go_enter Tryd.func51, Tryd.ntmps51
      go_wp2_with (go_at_call 73; (with_reducible refine (hub _ kA).mono ?_); rintro e w5 ⟨u5, rfl, r5, v5, k5⟩)
      go_ret
      rw [HE2.out]
      exact ⟨u5, rfl, r5, fun b hb => (v5 b hb).elim .inl (fun x => .inr (Nat.le_trans kA.size x)), kA.trans k5⟩
    | true =>
      have HE2 : Shut (R = []) := ⟨by rw [HE.out, if_pos rfl, HOP.out]; rfl⟩
      go_enter Tryd.func51, Tryd.ntmps51
      go_wp2
      go_ret
      rw [HE2.out]
      exact RowPost.nil G kA
  have o1b : (op != 1) = true := by simpa using o1
  have o1c : (op == 1) = false := by simpa using o1
  clear o1
  cases ab with
  | true =>
    have HE2 : Shut (R = [(t : Int)]) := ⟨by rw [HNX.out, o1b]; rfl⟩
    go_enter Tryd.func51, Tryd.ntmps51
    go_wp2_with (go_at_call 56; refine (hal _ kA).mono ?_; rintro e w' ⟨rfl, rfl⟩)
    go_ret
    rw [HE2.out]
    have hone := RowPost.one G kA (t : Int)
    rw [alloc_size] at hone
    exact hone
  | false =>
  have e1 : R = if bt = true then OP else UB := by rw [HNX.out]; simp
  have HE := Shut.mk e1
  clear e1
  cases bt with
  | false =>
    have HE2 : Shut (R = UB) := ⟨by rw [HE.out]; rfl⟩
    go_enter Tryd.func51, Tryd.ntmps51
    go_wp2_with (first | (go_at_call 56; refine (hal _ kA).mono ?_; rintro e w' ⟨rfl, rfl⟩) | (go_at_call 73; (with_reducible refine (hub _ kA).mono ?_); rintro e w5 ⟨u5, rfl, r5, v5, k5⟩))
    go_ret
    rw [HE2.out]
    exact ⟨u5, rfl, r5, fun b hb => (v5 b hb).elim .inl (fun x => .inr (Nat.le_trans kA.size x)), kA.trans k5⟩
  | true =>
  have HR : Shut (R = OP) := ⟨by rw [HE.out]; rfl⟩
  by_cases o3 : op = 3
  · subst o3
    have HE2 : Shut (R = l) := ⟨by rw [HR.out, HOP.out]; rfl⟩
    go_enter Tryd.func51, Tryd.ntmps51
    go_wp2_with (go_at_call 56; refine (hal _ kA).mono ?_; rintro e w' ⟨rfl, rfl⟩)
    go_ret
    rw [HE2.out]
    exact ⟨_, rfl, hlr.kept kA, fun b hb => .inl (hGl b hb), kA⟩
  have o3b : (op == 3) = false := by simpa using o3
  by_cases o9 : op = 9
  · subst o9
    have l4 := hmay.p4 (.inr rfl)
    obtain ⟨l0, l1, l2, l3, rfl⟩ := four_of l4
    obtain ⟨rb, ro, hla, hx⟩ := hlr.at (i := 0) (by simp)
    subst hla
    simp only [List.length_cons, List.length_nil, Nat.zero_add, Nat.reduceAdd] at y3 hlr hl1 kA hal cb hub hlI
    have x0 : _ := hx _ kA
    rw [Nat.add_zero, List.getD_cons_zero] at x0
    have hz := hless l0 (by simp)
    obtain ⟨zn, hzn⟩ := Int.eq_ofNat_of_zero_le hz.1
    subst hzn
    have hzl : zn < ds.length := by omega
    have c1 := OwnB.cell (Ownv.kept HO.out kA) HN.out (j := zn) hzl
    have hzI : (zn : Int) < (ds.length : Int) := by omega
    have hkb : knB bs (zn : Int) = bs.getD zn false := by unfold knB; rw [Int.toNat_natCast]
    have hG0 : G rb := hGl rb ⟨ro, none, 4, lc, by omega, rfl⟩
    have hlc1 : (lc = 1) = False := eq_false (by omega)
    have hlcI : (1 : Int) ≤ (lc : Int) := by omega
    have e2 : OP = if bs.getD zn false = true then [l1, l2, l3] else [] := by rw [HOP.out]; simp [hkb]
    have HE1 := Shut.mk e2
    clear e2 hkb hx
    generalize bs.getD zn false = b9 at c1 HE1
    cases b9 with
    | true =>
      have HE2 : Shut (R = [l1, l2, l3]) := ⟨by rw [HR.out, HE1.out]; rfl⟩
      go_enter Tryd.func51, Tryd.ntmps51
      go_wp2_with (go_at_call 56; refine (hal _ kA).mono ?_; rintro e w' ⟨rfl, rfl⟩)
      go_ret
      rw [HE2.out]
      exact RowPost.sub kA (hlr.kept kA) (by simp) hG0 1 4 (by omega) (by simp) rfl rfl rfl
    | false =>
      have HE2 : Shut (R = []) := ⟨by rw [HR.out, HE1.out]; rfl⟩
      go_enter Tryd.func51, Tryd.ntmps51
      go_wp2_with (go_at_call 56; refine (hal _ kA).mono ?_; rintro e w' ⟨rfl, rfl⟩)
      go_ret
      rw [HE2.out]
      exact RowPost.nil G kA
  have o9b : (op == 9) = false := by simpa using o9
  by_cases o10 : op = 10
  · subst o10
    have l2 := hmay.p2 (.inl rfl)
    obtain ⟨l0, l1, rfl⟩ := two_of l2
    obtain ⟨rb, ro, hla, hx⟩ := hlr.at (i := 0) (by simp)
    subst hla
    simp only [List.length_cons, List.length_nil, Nat.zero_add, Nat.reduceAdd] at y3 hlr hl1 kA hal cb hub hlI
    have hG0 : G rb := hGl rb ⟨ro, none, 2, lc, by omega, rfl⟩
    have hlc1 : (lc = 1) = False := eq_false (by omega)
    have hlcI : (1 : Int) ≤ (lc : Int) := by omega
    have HE2 : Shut (R = [l1]) := ⟨by rw [HR.out, HOP.out]; rfl⟩
    clear hx
    go_enter Tryd.func51, Tryd.ntmps51
    go_wp2_with (go_at_call 56; refine (hal _ kA).mono ?_; rintro e w' ⟨rfl, rfl⟩)
    go_ret
    rw [HE2.out]
    exact RowPost.sub kA (hlr.kept kA) (by simp) hG0 1 2 (by omega) (by simp) rfl rfl rfl
  have o10b : (op == 10) = false := by simpa using o10
  by_cases o12 : op = 12
  · subst o12
    have l2 := hmay.p2 (.inr rfl)
    obtain ⟨l0, l1, rfl⟩ := two_of l2
    obtain ⟨rb, ro, hla, hx⟩ := hlr.at (i := 1) (by simp)
    subst hla
    simp only [List.length_cons, List.length_nil, Nat.zero_add, Nat.reduceAdd] at y3 hlr hl1 kA hal cb hub hlI
    have x0 : _ := hx _ kA
    simp only [List.getD_cons_zero, List.getD_cons_succ] at x0
    have hz := hless l1 (by simp)
    obtain ⟨zn, hzn⟩ := Int.eq_ofNat_of_zero_le hz.1
    subst hzn
    have hzl : zn < ds.length := by omega
    have c1 := OwnB.cell (Ownv.kept HO.out kA) HN.out (j := zn) hzl
    have hzI : (zn : Int) < (ds.length : Int) := by omega
    have hkb : knB bs (zn : Int) = bs.getD zn false := by unfold knB; rw [Int.toNat_natCast]
    have hG0 : G rb := hGl rb ⟨ro, none, 2, lc, by omega, rfl⟩
    have hlc1 : (lc = 1) = False := eq_false (by omega)
    have hlcI : (1 : Int) ≤ (lc : Int) := by omega
    have hlcN : 1 ≤ lc := by omega
    have e2 : OP = if bs.getD zn false = true then [l0] else [] := by rw [HOP.out]; simp [hkb]
    have HE1 := Shut.mk e2
    clear e2 hkb hx
    generalize bs.getD zn false = b9 at c1 HE1
    cases b9 with
    | true =>
      have HE2 : Shut (R = [l0]) := ⟨by rw [HR.out, HE1.out]; rfl⟩
      go_enter Tryd.func51, Tryd.ntmps51
      go_wp2_with (go_at_call 56; refine (hal _ kA).mono ?_; rintro e w' ⟨rfl, rfl⟩)
      go_ret
      rw [HE2.out]
      exact RowPost.sub kA (hlr.kept kA) (by simp) hG0 0 1 (by omega) (by simp) rfl rfl rfl
    | false =>
      have HE2 : Shut (R = []) := ⟨by rw [HR.out, HE1.out]; rfl⟩
      go_enter Tryd.func51, Tryd.ntmps51
      go_wp2_with (go_at_call 56; refine (hal _ kA).mono ?_; rintro e w' ⟨rfl, rfl⟩)
      go_ret
      rw [HE2.out]
      exact RowPost.nil G kA
  have o12b : (op == 12) = false := by simpa using o12
  by_cases o8 : op = 8
  · subst o8
    have l4 := hmay.p4 (.inl rfl)
    obtain ⟨l0, l1, l2, l3, rfl⟩ := four_of l4
    obtain ⟨rb, ro, hla, hx⟩ := hlr.at (i := 0) (by simp)
    subst hla
    simp only [List.length_cons, List.length_nil, Nat.zero_add, Nat.reduceAdd] at y3 hlr hl1 kA bA hal cb hub hlI
    have x0 : _ := hx _ kA
    rw [Nat.add_zero, List.getD_cons_zero] at x0
    have hz := hless l0 (by simp)
    obtain ⟨zn, hzn⟩ := Int.eq_ofNat_of_zero_le hz.1
    subst hzn
    have hzl : zn < ds.length := by omega
    have hzI : (zn : Int) < (ds.length : Int) := by omega
    have hG0 : G rb := hGl rb ⟨ro, none, 4, lc, by omega, rfl⟩
    have hlcI : (1 : Int) ≤ (lc : Int) := by omega
    have hlcI3 : (3 : Int) ≤ (lc : Int) := by omega
    have hlc1 : (lc = 1) = False := eq_false (by omega)
    obtain ⟨pa, pc, hpl, hpr, _⟩ := HALL.out zn hzl
    obtain ⟨u0, u1, u2, u3⟩ := hpl _ kA
    have hpm := hg.may' hzl
    have r0 := (kA.cell (p := ⟨pb, 0, none⟩) hpb).trans c0
    clear hx hpl
    generalize hff : ds.getD zn nd0 = f at u0 u1 u2 u3 hpr hpm
    have HFF := Shut.mk hff
    clear hff
    obtain ⟨op3, n3, s3, pl⟩ := f
    simp only at u0 u1 u2 u3 hpr
    generalize strB s3 = X3 at u2
    go_enter Tryd.func51, Tryd.ntmps51
    go_wp2_with (go_at_call 56; refine (hal _ kA).mono ?_; rintro e w' ⟨rfl, rfl⟩)
    generalize w.alloc (.cells #[.int .i64 8, .int .i64 n, .string X, .slice (some ⟨rb, ro, none⟩) 4 lc] 51) = wA at kA bA x0 u0 u1 u2 u3 r0 ⊢
    have b3 := bA.cell 3
    simp only [List.getElem?_cons_succ, List.getElem?_cons_zero] at b3
    have nq0 := World.new_ne wA _ r0
    have nq1 := World.new_ne wA _ b3
    have nq2 := World.new_ne wA _ x0
    have nq3 := World.new_ne wA _ u0
    have nq4 := World.new_ne wA _ u1
    have nq5 := World.new_ne wA _ u2
    have nq6 := World.new_ne wA _ u3
    go_region_held3 (fun w' => w'.cell? ⟨pb, 0, none⟩ = some (.slice (some ⟨nb, 0, none⟩) ds.length ncap) ∧ w'.cell? ⟨w.heap.size, 3, none⟩ = some (.slice (some ⟨rb, ro, none⟩) 4 lc) ∧ w'.cell? ⟨rb, ro, none⟩ = some (.int .i64 (zn : Int)) ∧ w'.cell? ⟨nb, zn * 4, none⟩ = some (.int .i64 op3) ∧ w'.cell? ⟨nb, zn * 4 + 1, none⟩ = some (.int .i64 n3) ∧ w'.cell? ⟨nb, zn * 4 + 2, none⟩ = some (.string X3) ∧ w'.cell? ⟨nb, zn * 4 + 3, none⟩ = some (.slice pa pl.length pc))
      (first | exact ⟨r0, b3, x0, u0, u1, u2, u3⟩ | assumption | go_keep) (fail)
    all_goals
      refine cap_world ?_
      intro wC hC
      have kC : Kept wA wC := by rw [hC]; first | exact (Kept.refl _).alloc _ | exact ((Kept.refl _).drew).alloc _ | exact ((Kept.refl _).drewN _).alloc _ | exact (((Kept.refl _).drewN _).drew).alloc _ | exact ((Kept.refl _).alloc _).drew | exact (((Kept.refl _).drew).alloc _).drew | exact (((Kept.refl _).drewN _).alloc _).drew | exact ((((Kept.refl _).drewN _).drew).alloc _).drew
      have bC : Blk wC wA.heap.size 51 [.int .i64 op3, .int .i64 n3, .string X3, .slice pa pl.length pc] := by rw [hC]; first | exact Blk.new wA _ _ | exact Blk.new wA.drew _ _ | exact Blk.new (wA.drewN _) _ _ | exact Blk.new (wA.drewN _).drew _ _ | exact (Blk.new wA _ _).kept ((Kept.refl _).drew) | exact (Blk.new wA.drew _ _).kept ((Kept.refl _).drew) | exact (Blk.new (wA.drewN _) _ _).kept ((Kept.refl _).drew) | exact (Blk.new (wA.drewN _).drew _ _).kept ((Kept.refl _).drew)
      clear hC
      have v0 := bC.cell 0
      have v3 := bC.cell 3
      simp only [List.getElem?_cons_succ, List.getElem?_cons_zero] at v0 v3
      have b3C := (kC.cell (p := ⟨w.heap.size, 3, none⟩) (World.block_lt_of_cell? _ _ b3)).trans b3
      have kwC := kA.trans kC
      have hoC := Ownv.kept HO.out kwC
      clear bC
      by_cases o7 : op3 = 7
      · subst o7
        have hp1 : pl.length = 1 := hpm.p1 (.inl rfl)
        obtain ⟨sk, rfl⟩ := one_of hp1
        obtain ⟨tb, tw, hpa, hx1⟩ := hpr.at (i := 0) (by simp)
        subst hpa
        simp only [List.length_cons, List.length_nil, Nat.zero_add, Nat.reduceAdd] at v3
        have t0 : wC.cell? ⟨tb, tw, none⟩ = some (.int .i64 sk) := by
          have := hx1 wC kwC
          rw [Nat.add_zero] at this
          simpa using this
        have hsk := hg.lesser hzl sk (by rw [HFF.out]; simp)
        obtain ⟨sn, hsn⟩ := Int.eq_ofNat_of_zero_le hsk.1
        subst hsn
        have hsl : sn < ds.length := by have := hsk.2; omega
        have hsI : (sn : Int) < (ds.length : Int) := by omega
        have cd := OwnB.cell hoC HN.out (j := sn) hsl
        have hkb : knB bs (sn : Int) = bs.getD sn false := by unfold knB; rw [Int.toNat_natCast]
        have hsd : sealedTo ds ⟨8, n, s, [(zn : Int), l1, l2, l3]⟩ = some (sn : Int) := by
          unfold sealedTo
          rw [if_pos rfl]
          show (if (nd ds (zn : Int)).op = 7 then some ((nd ds (zn : Int)).l.getD 0 0) else none) = _
          rw [nd_of, HFF.out]
          rfl
        have e2 : OP = if bs.getD sn false = true then [l1, l2] else [] := by rw [HOP.out]; simp [hsd, hkb]
        have HE1 := Shut.mk e2
        clear e2 hkb hsd hx1
        generalize bs.getD sn false = b9 at cd HE1
        cases b9 with
        | true =>
          have HE2 : Shut (R = [l1, l2]) := ⟨by rw [HR.out, HE1.out]; rfl⟩
          go_wp2
          go_ret
          rw [HE2.out]
          exact RowPost.sub kwC (hlr.kept kwC) (by simp) hG0 1 3 (by omega) (by simp) rfl rfl rfl
        | false =>
          have HE2 : Shut (R = []) := ⟨by rw [HR.out, HE1.out]; rfl⟩
          go_wp2
          go_ret
          rw [HE2.out]
          exact RowPost.nil G kwC
      · have o7b : (op3 == 7) = false := by simpa using o7
        have hsd : sealedTo ds ⟨8, n, s, [(zn : Int), l1, l2, l3]⟩ = none := by
          unfold sealedTo
          rw [if_pos rfl]
          show (if (nd ds (zn : Int)).op = 7 then some ((nd ds (zn : Int)).l.getD 0 0) else none) = _
          rw [nd_of, HFF.out, if_neg o7]
        have HE2 : Shut (R = []) := ⟨by rw [HR.out, HOP.out]; simp [hsd]⟩
        clear hsd o7
        go_wp2
        go_ret
        rw [HE2.out]
        exact RowPost.nil G kwC
  have o8b : (op == 8) = false := by simpa using o8
  have HE2 : Shut (R = []) := ⟨by rw [HR.out, HOP.out, if_neg o3, if_neg o8, if_neg o9, if_neg o10, if_neg o12]⟩
  clear o3 o8 o9 o10 o12
  go_enter Tryd.func51, Tryd.ntmps51
  go_wp2_with (go_at_call 56; refine (hal _ kA).mono ?_; rintro e w' ⟨rfl, rfl⟩)
  go_ret
  rw [HE2.out]
  exact RowPost.nil G kA
end Go.Proofs.YtangbnmgkcmhbaaDoor
end

section
/- Walks: the document's answer of layer 5: derived, Derives. -/
set_option linter.unusedSimpArgs false
set_option linter.unusedVariables false
namespace Go.Proofs.YtangbnmgkcmhbaaDoor
open Go.RowKit Go.Maps

theorem knB_set {bs : List Bool} {i : Nat} (hi : i < bs.length) (x : Int) : knB (bs.set i true) x = true ↔ x.toNat = i ∨ knB bs x = true := by
  unfold knB
  simp only [List.getD_eq_getElem?_getD, List.getElem?_set]
  by_cases c : i = x.toNat
  · rw [if_pos c, if_pos hi]; simp [c]
  · rw [if_neg c]
    exact ⟨.inr, fun h => h.resolve_left (fun e => c e.symm)⟩
/-- How many are still not marked. -/
def cntF (bs : List Bool) : Nat := ((List.range bs.length).filter fun i => !bs.getD i false).length
theorem cntF_set {bs : List Bool} {i : Nat} (hi : i < bs.length) (h : bs.getD i false = false) : cntF (bs.set i true) < cntF bs := by
  unfold cntF
  rw [List.length_set]
  have hsub : ∀ j ∈ List.range bs.length, (!(bs.set i true).getD j false) = true → (!bs.getD j false) = true := fun j hj hb => by
    simp only [List.getD_eq_getElem?_getD, List.getElem?_set] at hb ⊢
    by_cases c : i = j
    · rw [if_pos c, if_pos hi] at hb; simp at hb
    · rw [if_neg c] at hb; exact hb
  have h1 : ((List.range bs.length).filter fun j => !(bs.set i true).getD j false).length < ((List.range bs.length).filter fun j => !bs.getD j false).length := by
    have e : ((List.range bs.length).filter fun j => !(bs.set i true).getD j false) = (((List.range bs.length).filter fun j => !bs.getD j false).filter fun j => !(bs.set i true).getD j false) := by
      rw [List.filter_filter]
      refine List.filter_congr fun j hj => ?_
      cases hb : (!(bs.set i true).getD j false) with
      | false => simp
      | true => rw [hsub j hj hb]; rfl
    rw [e]
    have hmem : i ∈ (List.range bs.length).filter fun j => !bs.getD j false := List.mem_filter.2 ⟨List.mem_range.2 hi, by rw [h]; rfl⟩
    refine Nat.lt_of_le_of_ne (List.length_filter_le _ _) (fun e2 => ?_)
    have := List.length_filter_eq_length_iff.1 e2 i hmem
    simp [List.getElem?_set, hi] at this
  exact h1
/-- As it is read out of memory. -/
def cntW (g n : Nat) (w : World) : Nat := ((List.range n).filter fun i => match w.cell? ⟨g, i, none⟩ with | some (.bool b) => !b | _ => false).length
theorem cntW_eq {w : World} {g n c : Nat} {bs : List Bool} (h : OwnB 0 w (.slice (some ⟨g, 0, none⟩) n c) bs) (hn : bs.length = n) : cntW g n w = cntF bs := by
  unfold cntW cntF
  rw [hn]
  congr 1
  refine List.filter_congr fun i hi => ?_
  rw [OwnB.cell h hn (List.mem_range.1 hi)]
def flag : Value → Nat
  | .bool true => 1
  | _ => 0

/-- What is marked can be derived. -/
def SoundB (ds : List Nd) (l : List Int) (bs : List Bool) : Prop := bs.length = ds.length ∧ (∀ x ∈ l, knB bs x = true) ∧ ∀ x, IsT ds x → knB bs x = true → Der ds l x
theorem SoundB.set {ds : List Nd} {l : List Int} {bs : List Bool} (h : SoundB ds l bs) {i : Nat} (hi : i < ds.length) (hd : Der ds l (i : Int)) : SoundB ds l (bs.set i true) := by
  obtain ⟨h1, h2, h3⟩ := h
  have hib : i < bs.length := by omega
  refine ⟨by rw [List.length_set]; exact h1, fun x hx => (knB_set hib x).2 (.inr (h2 x hx)), fun x hx hb => ?_⟩
  rcases (knB_set hib x).1 hb with e | e
  · have : x = (i : Int) := by have := hx.1; omega
    rw [this]; exact hd
  · exact h3 x hx e
def ClosedB (ds : List Nd) (bs : List Bool) : Prop := ∀ t, IsT ds t → ∀ x ∈ nextL ds bs t, knB bs x = true
theorem closed_der {ds : List Nd} (hg : Good ds) {l : List Int} {bs : List Bool} (h : SoundB ds l bs) (hc : ClosedB ds bs) {t : Nat} (ht : t < ds.length) : bs.getD t false = true ↔ Der ds l (t : Int) := by
  have e : knB bs (t : Int) = bs.getD t false := by unfold knB; rw [Int.toNat_natCast]
  rw [← e]
  exact ⟨h.2.2 _ ⟨by omega, by omega⟩, fun hd => nextL_closed hg hc h.2.1 hd⟩

/-- What derived leaves. -/
def DerPost (w : World) (ds : List Nd) (l : List Int) (e : Ending) (w' : World) : Prop :=
  ∃ (g : Nat) (bs : List Bool), e = .returned (.slice (some ⟨g, 0, none⟩) ds.length ds.length) ∧ OwnB 0 w' (.slice (some ⟨g, 0, none⟩) ds.length ds.length) bs ∧ bs.length = ds.length ∧ (∀ t : Nat, t < ds.length → (bs.getD t false = true ↔ Der ds l (t : Int))) ∧ w.heap.size ≤ g ∧ Kept w w'

set_option maxHeartbeats 8000000 in
set_option maxRecDepth 100000 in
theorem derivedR_any {G : Nat → Prop} {w : World} {q : Value} {ds : List Nd} (h : ArR G w q ds) {v : Value} {l : List Int} (hd : RdI w v l) (hT : ∀ x ∈ l, IsT ds x) :
    Calls Tryd.prog 32 #[q, v] w (DerPost w ds l) := by
  have hfew := h.few
  have hg := h.good
  have hln := lenR h
  have HH := Shut.mk h
  have HGL := Shut.mk h.lt
  have HT := Shut.mk hT
  have hqf : ∃ a, q = .pointer (some a) := by
    obtain ⟨pb, mb, nv, e, _⟩ := ArG.nodes h
    exact ⟨_, e⟩
  obtain ⟨qa, rfl⟩ := hqf
  obtain ⟨la, lc, rfl, _, l2, _⟩ := hd.len
  have l63 : ((l.length : Nat) : Int) ≤ 9223372036854775807 := by unfold maxLen at l2; omega
  have d63 : ((ds.length : Nat) : Int) ≤ 9223372036854775807 := by omega
  clear h hT
  go_enter Tryd.func32, Tryd.ntmps32
  go_wp2_with (first
    | (go_at_call 23; refine hln.mono ?_; rintro e w1 ⟨rfl, rfl⟩)
    | (at_make; refine go_mkbool ds.length _ rfl rfl rfl (by omega) ?_; intro w5 o5 k5 _))
  have o50 : OwnB 0 w5 _ _ := Ownv.mono0 o5
  have hgs : w.heap.size < w5.heap.size := (Ownv.lt o5 (b := w.heap.size) rfl).1
  generalize hgg : w.heap.size = g at o50 hgs ⊢
  have HG := Shut.mk hgg
  clear hgg o5 hln
  go_loopw [17] (fun i wr => ∃ (k : Nat) (bs : List Bool), k ≤ l.length ∧ i = .int .i64 k ∧ bs.length = ds.length ∧ (∀ x ∈ l.take k, knB bs x = true) ∧ (∀ x, IsT ds x → knB bs x = true → Der ds l x) ∧ OwnB 0 wr (.slice (some ⟨g, 0, none⟩) ds.length ds.length) bs ∧ Kept w wr ∧ g < wr.heap.size) (fun i _ => l.length - (intOf i).toNat)
  case atStart => exact ⟨0, List.replicate ds.length false, Nat.zero_le _, rfl, by simp, by simp, (fun x hx hb => by unfold knB at hb; simp only [List.getD_eq_getElem?_getD, List.getElem?_replicate] at hb; split at hb <;> simp at hb), o50, k5, hgs⟩
  case round =>
    clear o50 k5 hgs
    obtain ⟨k, bs, hk0, rfl, hbl, hin, hso, ho, hk, hgs⟩ := hrel
    have HIN := Shut.mk hin
    have HSO := Shut.mk hso
    have HBL := Shut.mk hbl
    clear hin hso hbl
    by_cases hlt : k < l.length
    · obtain ⟨rb, ro, rc, hrv, _, _, hrb, hcl⟩ := (hd.kept hk).addr (by omega)
      simp only [Value.slice.injEq] at hrv
      obtain ⟨rfl, _, rfl⟩ := hrv
      have hcw := hcl k hlt
      clear hcl
      have hxT := HT.out _ (getD_mem hlt)
      have hx : l.getD k 0 = l[k] := by rw [List.getD_eq_getElem?_getD, List.getElem?_eq_getElem hlt]; rfl
      have HTK := Shut.mk (show l.take (k + 1) = l.take k ++ [l.getD k 0] by rw [List.take_succ_eq_append_getElem hlt, hx])
      have HM := Shut.mk (getD_mem (l := l) hlt)
      clear hx
      generalize l.getD k 0 = x at hcw hxT HTK HM
      obtain ⟨t, rfl, ht⟩ := isT_nat hxT
      have c1 := OwnB.cell ho HBL.out (j := t) ht
      have f1 := OwnB.frozen ho HBL.out t
      have hput := OwnB.set ho HBL.out t true
      have htI : (t : Int) < (ds.length : Int) := by omega
      have HLT := Shut.mk hlt
      generalize bs.getD t false = b0 at c1
      go_wp2
      go_roundw
      case rel =>
        have htb : t < bs.length := by rw [HBL.out]; exact ht
        refine ⟨k + 1, bs.set t true, HLT.out, rfl, by rw [List.length_set]; exact HBL.out, fun y hy => ?_, fun y hy hb => ?_, hput, hk.setCell (ad := ⟨g, t, none⟩) (by rw [HG.out]; exact Nat.le_refl _) _, by rw [size_setCell]; exact hgs⟩
        · rw [HTK.out] at hy
          rcases List.mem_append.1 hy with c | c
          · exact (knB_set htb y).2 (.inr (HIN.out y c))
          · rw [List.mem_singleton.1 c]; exact (knB_set htb _).2 (.inl (by simp))
        · rcases (knB_set htb y).1 hb with e | e
          · have : y = (t : Int) := by have := hy.1; omega
            rw [this]; exact .base HM.out
          · exact HSO.out y hy e
      case measure => simp [intOf]; omega
    · obtain rfl : k = l.length := by omega
      have hsd : SoundB ds l bs := ⟨HBL.out, by have := HIN.out; rwa [List.take_length] at this, HSO.out⟩
      have HSD := Shut.mk hsd
      clear hsd HIN HSO HBL hlt hk0
      go_wp2
      go_loopw [8] (fun ag wx => ∃ (b : Bool) (bs : List Bool), ag = .bool b ∧ SoundB ds l bs ∧ (b = false → ClosedB ds bs) ∧ OwnB 0 wx (.slice (some ⟨g, 0, none⟩) ds.length ds.length) bs ∧ Kept w wx ∧ g < wx.heap.size) (fun ag wx => 2 * cntW g ds.length wx + flag ag)
      case atStart => exact ⟨true, bs, rfl, HSD.out, (fun e => by cases e), ho, hk, hgs⟩
      case round =>
        clear ho hk hgs HSD
        obtain ⟨b, bs0, rfl, hsd0, hcl0, ho0, hk, hgs⟩ := hrel
        have HSD0 := Shut.mk hsd0
        have HCL0 := Shut.mk hcl0
        have HCW := Shut.mk (cntW_eq ho0 hsd0.1)
        clear hsd0 hcl0
        cases b with
        | false =>
          go_wp2
          go_ret
          exact ⟨g, bs0, rfl, ho0, HSD0.out.1, fun t ht => closed_der hg HSD0.out (HCL0.out (by first | rfl | trivial)) ht, by rw [HG.out]; exact Nat.le_refl _, hk⟩
        | true =>
          go_wp2
          obtain ⟨wq, rfl⟩ : ∃ wq : World, wq = wr := ⟨_, rfl⟩
          go_loopw [8, 28] (fun ag i wx => ∃ (k : Nat) (b : Bool) (bs : List Bool), k ≤ ds.length ∧ i = .int .i64 k ∧ ag = .bool b ∧ SoundB ds l bs ∧ (b = false → bs = bs0 ∧ ∀ t : Nat, t < k → ∀ x ∈ nextL ds bs0 (t : Int), knB bs0 x = true) ∧ (b = true → cntF bs < cntF bs0) ∧ OwnB 0 wx (.slice (some ⟨g, 0, none⟩) ds.length ds.length) bs ∧ Kept w wx ∧ g < wx.heap.size) (fun _ i _ => ds.length - (intOf i).toNat)
          case atStart => exact ⟨0, false, bs0, Nat.zero_le _, rfl, rfl, HSD0.out, fun _ => ⟨rfl, fun t ht => absurd ht (Nat.not_lt_zero _)⟩, (fun e => by cases e), ho0, hk, hgs⟩
          case round =>
            clear ho0 hk hgs
            obtain ⟨k, b, bs, hk0, rfl, rfl, hsd, hf, ht, ho, hk, hgs⟩ := hrel
            have HSD := Shut.mk hsd
            have HF := Shut.mk hf
            have HTT := Shut.mk ht
            clear hsd hf ht
            by_cases hlt : k < ds.length
            · have hnx := nextR_any (ArG.kept HH.out hk) ho HSD.out.1 hlt
              have hxs := nextL_isT hg (bs := bs) (t := (k : Int)) ⟨by omega, by omega⟩
              have hxd := nextL_sound hg HSD.out.2.2 (t := (k : Int)) ⟨by omega, by omega⟩
              generalize hnl : nextL ds bs (k : Int) = xs at hnx hxs hxd
              have HNL := Shut.mk hnl
              have HXS := Shut.mk hxs
              have HXD := Shut.mk hxd
              have HLT := Shut.mk hlt
              clear hnl hxs hxd
              go_wp2_with fail
              (with_reducible refine hnx.mono ?_)
              clear hnx
              rintro e w6 ⟨nv, rfl, hrn, hvn, k6⟩
              have hvg : Shut (∀ c, VB nv c → c ≠ g) := ⟨fun c hc e => (hvn c hc).elim (fun x => by have := HGL.out c x; rw [HG.out] at this; omega) (fun x => by omega)⟩
              obtain ⟨na, nc, rfl, _, nl2, _⟩ := hrn.len
              have n63 : ((xs.length : Nat) : Int) ≤ 9223372036854775807 := by unfold maxLen at nl2; omega
              have ho6 := Ownv.kept ho k6
              have hk6 := hk.trans k6
              have hg6 : g < w6.heap.size := Nat.lt_of_lt_of_le hgs k6.size
              clear ho hk hgs hvn k6
              have hag : ∃ ag, ag = Value.bool b := ⟨_, rfl⟩
              go_wp2
              obtain ⟨wp, rfl⟩ : ∃ wp : World, wp = w6 := ⟨_, rfl⟩
              go_loopw [8, 36] (fun ag i wx => ∃ (j : Nat) (b' : Bool) (bs' : List Bool), j ≤ xs.length ∧ i = .int .i64 j ∧ ag = .bool b' ∧ SoundB ds l bs' ∧ (b' = false → b = false ∧ bs' = bs ∧ ∀ i, i < j → knB bs (xs.getD i 0) = true) ∧ (b' = true → cntF bs' < cntF bs0) ∧ OwnB 0 wx (.slice (some ⟨g, 0, none⟩) ds.length ds.length) bs' ∧ Kept w wx ∧ g < wx.heap.size ∧ Turn (fun c => c = g) wp wx) (fun _ i _ => xs.length - (intOf i).toNat)
              case atStart => exact ⟨0, b, bs, Nat.zero_le _, rfl, rfl, HSD.out, fun e => ⟨e, rfl, fun i hi => absurd hi (Nat.not_lt_zero _)⟩, HTT.out, ho6, hk6, hg6, Turn.refl _ _⟩
              case round =>
                clear ho6 hk6 hg6
                obtain ⟨j, b', bs', hj0, rfl, rfl, hsd', hf', ht', ho', hk', hg', htn⟩ := hrel
                have HSD' := Shut.mk hsd'
                have HF' := Shut.mk hf'
                have HT' := Shut.mk ht'
                clear hsd' hf' ht'
                by_cases hjl : j < xs.length
                · have hrw : RdI wr (.slice na xs.length nc) xs := RdI.turn hrn htn (fun c hc => hvg.out c hc)
                  obtain ⟨rb, ro, rc, hrv, _, _, hrb, hcl⟩ := hrw.addr (by omega)
                  simp only [Value.slice.injEq] at hrv
                  obtain ⟨rfl, _, rfl⟩ := hrv
                  have hcw := hcl j hjl
                  clear hcl hrw
                  have hxT := HXS.out _ (getD_mem hjl)
                  have hxD := HXD.out _ (getD_mem hjl)
                  generalize hxe : xs.getD j 0 = x at hcw hxT hxD
                  have HX := Shut.mk hxe
                  clear hxe
                  obtain ⟨t, rfl, ht⟩ := isT_nat hxT
                  have c1 := OwnB.cell ho' HSD'.out.1 (j := t) ht
                  have f1 := OwnB.frozen ho' HSD'.out.1 t
                  have hput := OwnB.set ho' HSD'.out.1 t true
                  have htI : (t : Int) < (ds.length : Int) := by omega
                  have HJ := Shut.mk hjl
                  have hkb : knB bs' (t : Int) = bs'.getD t false := by unfold knB; rw [Int.toNat_natCast]
                  have HKB := Shut.mk hkb
                  have HXD2 := Shut.mk hxD
                  clear hkb hxD hxT
                  cases hb : bs'.getD t false with
                  | true =>
                    rw [hb] at c1
                    have HB := Shut.mk hb
                    clear hb
                    go_wp2
                    go_roundw
                    case rel =>
                      refine ⟨j + 1, b', bs', HJ.out, rfl, rfl, HSD'.out, fun e => ?_, HT'.out, ho', hk', hg', htn⟩
                      obtain ⟨e1, e2, e3⟩ := HF'.out e
                      refine ⟨e1, e2, fun i hi => ?_⟩
                      by_cases c : i < j
                      · exact e3 i c
                      · obtain rfl : i = j := by omega
                        rw [HX.out, ← e2, HKB.out, HB.out]
                    case measure => simp [intOf]; omega
                  | false =>
                    rw [hb] at c1
                    have HB := Shut.mk hb
                    clear hb
                    go_wp2
                    go_roundw
                    case rel =>
                      have hlt2 := cntF_set (bs := bs') (i := t) (by rw [HSD'.out.1]; exact ht) HB.out
                      refine ⟨j + 1, true, bs'.set t true, HJ.out, rfl, rfl, HSD'.out.set ht HXD2.out, (fun e => by cases e), fun _ => ?_, hput, hk'.setCell (ad := ⟨g, t, none⟩) (by rw [HG.out]; exact Nat.le_refl _) _, by rw [size_setCell]; exact hg', htn.trans (turn_setCell _ _ _) (fun c hc => .inl hc)⟩
                      cases hb' : b' with
                      | true => exact Nat.lt_trans hlt2 (HT'.out hb')
                      | false =>
                        obtain ⟨e1, e2, _⟩ := HF'.out hb'
                        obtain ⟨e3, _⟩ := HF.out e1
                        rw [e2, e3] at hlt2
                        rw [e2, e3]
                        exact hlt2
                    case measure => simp [intOf]; omega
                · obtain rfl : j = xs.length := by omega
                  go_wp2
                  go_roundw
                  case rel =>
                    refine ⟨k + 1, b', bs', HLT.out, rfl, rfl, HSD'.out, fun e => ?_, HT'.out, ho', hk', hg'⟩
                    obtain ⟨e1, e2, e3⟩ := HF'.out e
                    obtain ⟨e4, e5⟩ := HF.out e1
                    refine ⟨by rw [e2, e4], fun t ht x hx => ?_⟩
                    by_cases c : t < k
                    · exact e5 t c x hx
                    · obtain rfl : t = k := by omega
                      rw [← e4, HNL.out] at hx
                      obtain ⟨i, hi, rfl⟩ := List.getElem_of_mem hx
                      have := e3 i hi
                      rw [List.getD_eq_getElem?_getD, List.getElem?_eq_getElem hi] at this
                      rw [← e4]
                      exact this
                  case measure => simp [intOf]; omega
            · obtain rfl : k = ds.length := by omega
              go_wp2
              go_roundw
              case rel =>
                refine ⟨b, bs, rfl, HSD.out, fun e => ?_, ho, hk, hgs⟩
                obtain ⟨e1, e2⟩ := HF.out e
                rw [e1]
                intro t ht x hx
                obtain ⟨n, rfl, hn⟩ := isT_nat ht
                exact e2 n hn x hx
              case measure =>
                have h1 := cntW_eq ho HSD.out.1
                rw [h1, HCW.out]
                cases b with
                | false =>
                  obtain ⟨e1, _⟩ := HF.out (by first | rfl | trivial)
                  rw [e1]
                  simp [flag]
                | true =>
                  have := HTT.out (by first | rfl | trivial)
                  simp [flag]
                  omega
end Go.Proofs.YtangbnmgkcmhbaaDoor
end

section
/- The document's terms: Parts. -/
set_option linter.unusedSimpArgs false
set_option linter.unusedVariables false
namespace Go.Proofs.YtangbnmgkcmhbaaDoor
open Go.RowKit Go.Maps

/-! ## what the marks say -/
structure Mark (ds : List Nd) (t : Nat) (i : Int) (bs : List Bool) : Prop where
  len : bs.length = t + 1
  sub : ∀ x : Nat, bs.getD x false = true → Reach ds t x
  top : bs.getD t false = true
  done : ∀ u : Nat, i < u → u ≤ t → bs.getD u false = true → ∀ y ∈ (ds.getD u nd0).l, bs.getD y.toNat false = true
structure Mark2 (ds : List Nd) (t q k : Nat) (bs : List Bool) : Prop where
  mark : Mark ds t q bs
  at' : bs.getD q false = true
  own : ∀ j, j < k → bs.getD ((ds.getD q nd0).l.getD j 0).toNat false = true
theorem getD_set (bs : List Bool) (i j : Nat) : (bs.set i true).getD j false = if j = i ∧ i < bs.length then true else bs.getD j false := by
  simp only [List.getD_eq_getElem?_getD, List.getElem?_set]
  by_cases h : i = j
  · subst h
    by_cases h2 : i < bs.length
    · simp [h2]
    · simp [h2]
  · rw [if_neg h, if_neg (fun e => h e.1.symm)]
theorem set_mono {bs : List Bool} {i j : Nat} (h : bs.getD j false = true) : (bs.set i true).getD j false = true := by
  rw [getD_set]; split <;> trivial
theorem Mark.start {ds : List Nd} {t : Nat} (ht : t < ds.length) : Mark ds t t ((List.replicate (t + 1) false).set t true) := by
  refine ⟨by simp, fun x hx => ?_, by rw [getD_set]; simp, fun u hu ht => by omega⟩
  rw [getD_set] at hx
  split at hx
  · rename_i h; rw [h.1]; exact .refl (by omega) (by omega)
  · rw [List.getD_eq_getElem?_getD] at hx
    by_cases h : x < t + 1
    · rw [List.getElem?_replicate, if_pos h] at hx; cases hx
    · rw [List.getElem?_replicate, if_neg h] at hx; cases hx
theorem Mark.skip {ds : List Nd} {t q : Nat} {bs : List Bool} (h : Mark ds t q bs) (hq : bs.getD q false = false) : Mark ds t ((q : Int) - 1) bs :=
  ⟨h.len, h.sub, h.top, fun u hu ht hb => by
    by_cases c : u = q
    · rw [c, hq] at hb; cases hb
    · exact h.done u (by omega) ht hb⟩
theorem Mark.go {ds : List Nd} {t q : Nat} {bs : List Bool} (h : Mark ds t q bs) (hq : bs.getD q false = true) : Mark2 ds t q 0 bs := ⟨h, hq, fun j hj => absurd hj (Nat.not_lt_zero _)⟩
theorem Mark2.step {ds : List Nd} {t q k : Nat} {bs : List Bool} (h : Mark2 ds t q k bs) (hg : Good ds) (htl : t < ds.length) (hqt : q ≤ t) (hk : k < (ds.getD q nd0).l.length) : Mark2 ds t q (k + 1) (bs.set ((ds.getD q nd0).l.getD k 0).toNat true) := by
  have hmem : (ds.getD q nd0).l.getD k 0 ∈ (ds.getD q nd0).l := mem_getD hk
  have hb := hg.lesser (i := q) (by omega) _ hmem
  refine ⟨⟨by simp [h.mark.len], fun x hx => ?_, set_mono h.mark.top, fun u hu ht hb2 y hy => ?_⟩, set_mono h.at', fun j hj => ?_⟩
  · rw [getD_set] at hx
    split at hx
    · rename_i c
      rw [c.1]
      have := Reach.step (h.mark.sub q h.at') (y := (ds.getD q nd0).l.getD k 0) (by rw [Int.toNat_natCast]; exact hmem)
      have e : (((ds.getD q nd0).l.getD k 0).toNat : Int) = (ds.getD q nd0).l.getD k 0 := by omega
      rw [e]; exact this
    · exact h.mark.sub x hx
  · rw [getD_set] at hb2
    split at hb2
    · rename_i c; omega
    · exact set_mono (h.mark.done u hu ht hb2 y hy)
  · by_cases c : j = k
    · subst c
      rw [getD_set, if_pos ⟨rfl, by rw [h.mark.len]; omega⟩]
    · exact set_mono (h.own j (by omega))
theorem Mark2.fin {ds : List Nd} {t q : Nat} {bs : List Bool} (h : Mark2 ds t q (ds.getD q nd0).l.length bs) : Mark ds t ((q : Int) - 1) bs :=
  ⟨h.mark.len, h.mark.sub, h.mark.top, fun u hu ht hb y hy => by
    by_cases c : u = q
    · subst c
      obtain ⟨j, hj, e⟩ := List.mem_iff_getElem.1 hy
      have := h.own j hj
      rwa [List.getD_eq_getElem?_getD (l := (ds.getD u nd0).l), List.getElem?_eq_getElem hj, Option.getD_some, e] at this
    · exact h.mark.done u (by omega) ht hb y hy⟩
/-- The marked ones below k. -/
def pick (bs : List Bool) (k : Nat) : List Int := ((List.range k).filter fun x => bs.getD x false).map fun x : Nat => (x : Int)
theorem pick_succ (bs : List Bool) (k : Nat) : pick bs (k + 1) = pick bs k ++ (if bs.getD k false = true then [(k : Int)] else []) := by
  unfold pick
  rw [List.range_succ, List.filter_append, List.map_append]
  congr 1
  by_cases h : bs.getD k false = true
  · rw [if_pos h, List.filter_cons, if_pos h]; rfl
  · rw [if_neg h, List.filter_cons, if_neg h]; rfl
theorem pick_len (bs : List Bool) (k : Nat) : (pick bs k).length ≤ k := by
  unfold pick
  rw [List.length_map]
  exact Nat.le_trans (List.length_filter_le _ _) (by simp)
theorem Mark.parts {ds : List Nd} (hg : Good ds) {t : Nat} {bs : List Bool} (h : Mark ds t (-1) bs) : Parts ds t (pick bs bs.length) := by
  have hall : ∀ x : Int, Reach ds t x → bs.getD x.toNat false = true := by
    intro x hx
    induction hx with
    | refl _ _ => rw [Int.toNat_natCast]; exact h.top
    | step h1 h2 ih =>
      have := h1.bound hg
      exact h.done _ (by omega) (by omega) ih _ h2
  refine ⟨?_, fun x => ?_⟩
  · unfold pick
    have : (List.range bs.length).Nodup := List.nodup_range
    exact List.pairwise_map.2 ((List.Pairwise.filter _ this).imp fun h => by omega)
  · unfold pick
    rw [List.mem_map]
    constructor
    · rintro ⟨y, hy, rfl⟩
      exact h.sub y (List.mem_filter.1 hy).2
    · intro hx
      have hb := hx.bound hg
      refine ⟨x.toNat, List.mem_filter.2 ⟨List.mem_range.2 (by rw [h.len]; omega), hall x hx⟩, by omega⟩

/-! ## Parts -/
def PartsRPost (w : World) (ds : List Nd) (t : Int) (e : Ending) (w' : World) : Prop := ∃ (v : Value) (zs : List Int), e = .returned v ∧ RdI w' v zs ∧ Parts ds t zs ∧ zs.length ≤ ds.length ∧ Kept w w'
set_option maxHeartbeats 8000000 in
set_option maxRecDepth 100000 in
theorem partsR_any {F : Nat → Prop} {w : World} {p : Value} {ds : List Nd} (h : ArR F w p ds) {t : Int} (ht64 : I64 t) :
    Calls Tryd.prog 33 #[p, .int .i64 t] w (PartsRPost w ds t) := by
  have HH := Shut.mk h
  have hfew := h.few
  obtain ⟨pb, mb, nv, rfl, q0, q1, hns⟩ := ArG.nodes h
  by_cases hin : ¬ (0 ≤ t ∧ t < ds.length)
  · have hpn : Parts ds t [] := ⟨by simp, fun x => ⟨(fun hx => by cases hx), fun hx => by have := hx.bound h.good; omega⟩⟩
    obtain ⟨na, ncap, rfl, n1, n2, n3⟩ := hns.len
    clear h
    by_cases t0 : t < 0
    · go_enter Tryd.func33, Tryd.ntmps33
      go_wp2
      go_ret
      exact ⟨_, [], rfl, RdI.nil _, hpn, Nat.zero_le _, Kept.refl _⟩
    · have t1 : (ds.length : Int) ≤ t := by omega
      clear hin
      go_enter Tryd.func33, Tryd.ntmps33
      go_wp2
      go_ret
      exact ⟨_, [], rfl, RdI.nil _, hpn, Nat.zero_le _, Kept.refl _⟩
  obtain ⟨k0, rfl⟩ := Int.eq_ofNat_of_zero_le (show 0 ≤ t by omega)
  have htl : k0 < ds.length := by omega
  have htl' : (k0 : Int) < (ds.length : Int) := by omega
  have t00 : (0 : Int) ≤ (k0 : Int) := by omega
  clear hin
  obtain ⟨nb, noff, ncap, lvs, rfl, _, _, hnb, hnc, hnl⟩ := hns.addr (by omega)
  have HNC := Shut.mk hnc
  clear hnc h
  go_enter Tryd.func33, Tryd.ntmps33
  go_wp2_with (at_make; refine go_mkbool (k0 + 1) _ rfl rfl (by omega) (by omega) ?_; intro w1 o1 k1 _; have c1 := o1.frozen (List.length_replicate ..) k0; have c2 := o1.cell (List.length_replicate ..) (show k0 < k0 + 1 by omega))
  have o2 := OwnB.set o1 (List.length_replicate ..) k0 true
  have hm2 := Mark.start htl
  have k2 : Kept w (w1.setCell ⟨w.heap.size, k0, none⟩ (.bool true)) := k1.setCell (Nat.le_refl _) _
  generalize w1.setCell ⟨w.heap.size, k0, none⟩ (.bool true) = w2 at o2 k2 ⊢
  clear o1 k1 c1 c2
  go_loopw [6] (fun i wr => ∃ (m : Int) (bs : List Bool), i = .int .i64 m ∧ -1 ≤ m ∧ m ≤ (k0 : Int) ∧ Mark ds k0 m bs ∧ OwnB w.heap.size wr (.slice (some ⟨w.heap.size, 0, none⟩) (k0 + 1) (k0 + 1)) bs ∧ Kept w wr) (fun i _ => (intOf i + 1).toNat)
  case atStart => exact ⟨k0, _, rfl, by omega, Int.le_refl _, hm2, o2, k2⟩
  case round =>
    clear hm2 o2 k2
    obtain ⟨m, bs, rfl, hm0, hm1, hmk, ho, hk⟩ := hrel
    have HM := Shut.mk hmk
    have hbl : Shut (bs.length = k0 + 1) := ⟨hmk.len⟩
    clear hmk
    by_cases hneg : 0 ≤ m
    · obtain ⟨q, rfl⟩ := Int.eq_ofNat_of_zero_le hneg
      have hqk : q ≤ k0 := by omega
      have hqd : (q : Int) < (ds.length : Int) := by omega
      have c1 := ho.cell hbl.out (show q < k0 + 1 by omega)
      have hq1 : (q : Int) < (k0 : Int) + 1 := by omega
      cases hbq : bs.getD q false with
      | false =>
        rw [hbq] at c1
        have HBQ := Shut.mk hbq
        clear hbq
        go_wp2
        go_roundw
        case rel => exact ⟨(q : Int) - 1, bs, rfl, by omega, by omega, HM.out.skip HBQ.out, ho, hk⟩
        case measure => simp [intOf]; try omega
      | true =>
        rw [hbq] at c1
        have HBQ := Shut.mk hbq
        clear hbq
        have hmk2 := HM.out.go HBQ.out
        have z := hk.cell (p := ⟨pb, 0, none⟩) (World.block_lt_of_cell? _ _ q0) |>.trans q0
        obtain ⟨y0, y1, y2, y3⟩ := HNC.out q (by omega)
        have z3 := hk.cell (p := ⟨nb, noff + q * 4 + 3, none⟩) hnb |>.trans y3
        have hlr := hnl q (by omega)
        have hless := HH.out.good.lesser (i := q) (by omega)
        have hlen64 := (HH.out.good.may' (i := q) (by omega)).len64
        obtain ⟨la, lc, hlv, l1, l2, l3⟩ := hlr.len
        rw [hlv] at z3 hlr
        have HST : Shut (∀ k bs, k < (ds.getD q nd0).l.length → Mark2 ds k0 q k bs → Mark2 ds k0 q (k + 1) (bs.set ((ds.getD q nd0).l.getD k 0).toNat true)) := ⟨fun k bs hk h => h.step HH.out.good htl hqk hk⟩
        have HFI : Shut (∀ bs, Mark2 ds k0 q (ds.getD q nd0).l.length bs → Mark ds k0 ((q : Int) - 1) bs) := ⟨fun bs h => h.fin⟩
        clear hlv y0 y1 y2 y3
        generalize (ds.getD q nd0).l = l at hlr z3 hless hlen64 HST HFI
        have l63 : ((l.length : Nat) : Int) ≤ 9223372036854775807 := by omega
        go_wp2
        obtain ⟨wq, rfl⟩ : ∃ wq : World, wq = wr := ⟨_, rfl⟩
        go_loopw [48] (fun i wx => ∃ (k : Nat) (bs : List Bool), k ≤ l.length ∧ i = .int .i64 k ∧ Mark2 ds k0 q k bs ∧ OwnB w.heap.size wx (.slice (some ⟨w.heap.size, 0, none⟩) (k0 + 1) (k0 + 1)) bs ∧ Kept w wx) (fun i _ => l.length - (intOf i).toNat)
        case atStart => exact ⟨0, bs, Nat.zero_le _, rfl, hmk2, ho, hk⟩
        case round =>
          clear hmk2 ho hk HM hbl c1 HBQ z z3
          obtain ⟨k, bs, hkl, rfl, hmk2, ho, hk⟩ := hrel
          have HM := Shut.mk hmk2
          have hbl : Shut (bs.length = k0 + 1) := ⟨hmk2.mark.len⟩
          clear hmk2
          by_cases hlt : k < l.length
          · have hless' := hless (l.getD k 0) (mem_getD hlt)
            have hM2 := HST.out k bs hlt HM.out
            obtain ⟨rb, ro, rc, hrv, _, _, hrb, hcell⟩ := hlr.addr (by omega)
            simp only [Value.slice.injEq] at hrv
            obtain ⟨rfl, hdrop, rfl⟩ := hrv
            clear hdrop
            have hcw : wr.cell? ⟨rb, ro + k, none⟩ = some (.int .i64 (l.getD k 0)) := hk.cell (p := ⟨rb, ro + k, none⟩) hrb |>.trans (hcell k hlt)
            clear hcell
            generalize l.getD k 0 = x at hcw hless' hM2
            obtain ⟨y, rfl⟩ := Int.eq_ofNat_of_zero_le hless'.1
            rw [Int.toNat_natCast] at hM2
            have hyk : y < k0 + 1 := by omega
            have hy1 : (y : Int) < (k0 : Int) + 1 := by omega
            have hf := ho.frozen hbl.out y
            have hc := ho.cell hbl.out hyk
            go_wp2
            go_roundw
            case rel => exact ⟨k + 1, bs.set y true, hlt, rfl, hM2, OwnB.set ho hbl.out y true, hk.setCell (Nat.le_refl _) _⟩
            case measure => simp [intOf]; omega
          · obtain rfl : k = l.length := by omega
            go_wp2
            go_roundw
            case rel => exact ⟨(q : Int) - 1, bs, rfl, by omega, by omega, HFI.out bs HM.out, ho, hk⟩
            case measure => simp [intOf]; try omega
    · obtain rfl : m = -1 := by omega
      have hparts := HM.out.parts HH.out.good
      have HP := Shut.mk hparts
      have hkk : (((k0 + 1 : Nat)) : Int) ≤ 200000 := by omega
      clear hparts
      go_wp2
      go_loopw [9, 58] (fun ov i wx => ∃ (k : Nat), k ≤ k0 + 1 ∧ i = .int .i64 k ∧ OwnI w.heap.size wx ov (pick bs k) ∧ OwnB w.heap.size wx (.slice (some ⟨w.heap.size, 0, none⟩) (k0 + 1) (k0 + 1)) bs ∧ Kept w wx) (fun _ i _ => k0 + 1 - (intOf i).toNat)
      case atStart => exact ⟨0, Nat.zero_le _, rfl, OwnI.nil _ _, ho, hk⟩
      case round =>
        clear ho hk
        obtain ⟨k, hkl, rfl, hoi, ho, hk⟩ := hrel
        by_cases hlt : k < k0 + 1
        · have hc := ho.cell hbl.out hlt
          have hps := pick_succ bs k
          have hpl := pick_len bs k
          have HPS := Shut.mk hps
          clear hps
          have hlt' : (k : Int) < (k0 : Int) + 1 := by omega
          cases hb : bs.getD k false with
          | true =>
            rw [hb] at hc
            have HB := Shut.mk hb
            clear hb
            generalize pick bs k = zs at hoi hpl HPS
            have ha := fun W kk => Ownv.kept (w' := W) ho kk
            go_wp2_with (at_builtin; refine go_appi w.heap.size _ zs rfl (Ownv.kept hoi ((Kept.refl _).alloc _)) _ [(k : Int)] rfl (OwnI.rd (OwnI.lit1 _ k)) (by simp; omega) (Nat.le_trans hk.size ((Kept.refl _).alloc _).size) ?_; intro v6 w6 o6 t6 l6)
            have kk := (Kept.refl wr).alloc (.cells #[.int .i64 (k : Int)] 3)
            have hoa := Ownv.kept ho kk
            have hot := Ownv.kept hoi kk
            go_roundw
            case rel =>
              exact ⟨k + 1, by omega, rfl, by rw [HPS.out, if_pos HB.out]; exact o6, Ownv.turn hoa t6 (fun b h1 h2 => Ownv.apart hot hoa (by decide) h2 h1), Turn.keptOf (hk.trans kk) t6 (fun b hb => (Ownv.lt hoi hb).2)⟩
            case measure => simp [intOf]; omega
          | false =>
            rw [hb] at hc
            have HB := Shut.mk hb
            clear hb
            go_wp2
            go_roundw
            case rel => exact ⟨k + 1, by omega, rfl, by rw [HPS.out, if_neg (by rw [HB.out]; decide), List.append_nil]; exact hoi, ho, hk⟩
            case measure => simp [intOf]; omega
        · obtain rfl : k = k0 + 1 := by omega
          go_wp2
          go_ret
          have hpl := pick_len bs (k0 + 1)
          refine ⟨_, pick bs (k0 + 1), rfl, hoi.rd, ?_, by omega, hk⟩
          have := HP.out
          rwa [hbl.out] at this
end Go.Proofs.YtangbnmgkcmhbaaDoor
end

section
/- Walks: the document's answer of layer 5: Derives, Known. -/
set_option linter.unusedSimpArgs false
set_option linter.unusedVariables false
namespace Go.Proofs.YtangbnmgkcmhbaaDoor
open Go.RowKit Go.Maps

set_option maxHeartbeats 4000000 in
set_option maxRecDepth 100000 in
theorem derivesR_bad {G : Nat → Prop} {w : World} {q : Value} {ds : List Nd} (h : ArR G w q ds) {v : Value} {l : List Int} (hd : RdI w v l) (hll : l.length ≤ 1000000) (goal : Int) (hT : termsB ds (goal :: l) = false) :
    Calls Tryd.prog 14 #[q, v, .int .i64 goal] w fun e w' => e = .returned (.tuple #[.bool false, .int .i64 1]) ∧ Kept w w' := by
  have hqf : ∃ a, q = .pointer (some a) := by
    obtain ⟨pb, mb, nv, e, _⟩ := ArG.nodes h
    exact ⟨_, e⟩
  obtain ⟨qa, rfl⟩ := hqf
  have kA : Kept w (w.alloc (.cells #[.int .i64 goal] 3)) := (Kept.refl w).alloc _
  have HH := Shut.mk h
  have hdA := hd.kept kA
  have hsz := kA.size
  obtain ⟨la, lc, rfl, _, _, _⟩ := hd.len
  clear h
  go_enter Tryd.func14, Tryd.ntmps14
  go_wp2_with (first
    | (at_builtin; refine go_appi w.heap.size _ [goal] rfl (OwnI.lit1 w goal) _ l rfl hdA (by simp; omega) hsz ?_; intro v6 w6 o6 t6 l6; have k6 : Kept w w6 := Turn.keptOf kA t6 (fun b hb => (Ownv.lt (OwnI.lit1 w goal) hb).2); have hb := badR_any (ArG.kept HH.out k6) (OwnI.rd o6); rw [show ([goal] ++ l : List Int) = goal :: l from rfl, hT] at hb)
    | (go_at_call 31; refine hb.mono ?_; rintro e w7 ⟨rfl, rfl⟩))
  go_ret2
  exact ⟨rfl, k6⟩
set_option maxHeartbeats 4000000 in
set_option maxRecDepth 100000 in
theorem derivesR_any {G : Nat → Prop} {w : World} {q : Value} {ds : List Nd} (h : ArR G w q ds) {v : Value} {l : List Int} (hd : RdI w v l) (hll : l.length ≤ 1000000) (goal : Int) (hT : termsB ds (goal :: l) = true) :
    Calls Tryd.prog 14 #[q, v, .int .i64 goal] w fun e w' => e = .returned (.tuple #[.bool (derB ds l goal), .int .i64 0]) ∧ Kept w w' := by
  have hqf : ∃ a, q = .pointer (some a) := by
    obtain ⟨pb, mb, nv, e, _⟩ := ArG.nodes h
    exact ⟨_, e⟩
  obtain ⟨qa, rfl⟩ := hqf
  have kA : Kept w (w.alloc (.cells #[.int .i64 goal] 3)) := (Kept.refl w).alloc _
  have HH := Shut.mk h
  have HD := Shut.mk hd
  have hdA := hd.kept kA
  have hsz := kA.size
  have hgo : IsT ds goal := termsB_all hT goal List.mem_cons_self
  have HL := Shut.mk (fun x (hx : x ∈ l) => termsB_all hT x (List.mem_cons_of_mem _ hx))
  obtain ⟨la, lc, rfl, _, _, _⟩ := hd.len
  obtain ⟨t, rfl, ht⟩ := isT_nat hgo
  have htI : (t : Int) < (ds.length : Int) := by omega
  clear h hgo hd
  go_enter Tryd.func14, Tryd.ntmps14
  go_wp2_with (first
    | (at_builtin; refine go_appi w.heap.size _ [(t : Int)] rfl (OwnI.lit1 w (t : Int)) _ l rfl hdA (by simp; omega) hsz ?_; intro v6 w6 o6 t6 l6; have k6 : Kept w w6 := Turn.keptOf kA t6 (fun b hb => (Ownv.lt (OwnI.lit1 w (t : Int)) hb).2); have hb := badR_any (ArG.kept HH.out k6) (OwnI.rd o6); rw [show ([(t : Int)] ++ l : List Int) = (t : Int) :: l from rfl, hT] at hb; have hdr := derivedR_any (ArG.kept HH.out k6) (HD.out.kept k6) HL.out)
    | (go_at_call 31; refine hb.mono ?_; rintro e w7 ⟨rfl, rfl⟩)
    | (go_at_call 32; (with_reducible refine hdr.mono ?_); rintro e w8 ⟨g, bs, rfl, o8, b8, hbs, hg8, k8⟩; have c8 := OwnB.cell o8 b8 (j := t) ht; have HBS := Shut.mk (hbs t ht); generalize hbt : bs.getD t false = bt at c8; have HBT := Shut.mk hbt; clear hbt hbs))
  go_ret2
  have e1 : derB ds l (t : Int) = bt := by
    have h1 := @derB_true ds l (t : Int)
    have h2 := HBS.out
    rw [HBT.out] at h2
    cases ha : derB ds l (t : Int) <;> cases hb : bt <;> simp_all
  rw [e1]
  exact ⟨rfl, k6.trans k8⟩

theorem reach_inn {ds : List Nd} (hg : Good ds) {l : List Int} (hl : ∀ x ∈ l, IsT ds x) (t : Int) : Inn ds l t ↔ ∃ x ∈ l, Reach ds x t := by
  constructor
  · intro h
    induction h with
    | base h1 => exact ⟨_, h1, .refl (hl _ h1).1 (hl _ h1).2⟩
    | part _ h2 ih =>
      obtain ⟨x, hx, hr⟩ := ih
      exact ⟨x, hx, .step hr h2⟩
  · rintro ⟨x, hx, hr⟩
    induction hr with
    | refl _ _ => exact .base hx
    | step _ h2 ih => exact .part ih h2

theorem knownR_bad {G : Nat → Prop} {w : World} {q : Value} {ds : List Nd} (h : ArR G w q ds) {v : Value} {l : List Int} (hd : RdI w v l) (hT : termsB ds l = false) :
    Calls Tryd.prog 12 #[q, v] w fun e w' => e = .returned (.tuple #[.slice none 0 0, .int .i64 1]) ∧ w = w' := by
  have hb := badR_any h hd
  rw [hT] at hb
  obtain ⟨la, lc, rfl, _, _, _⟩ := hd.len
  have hqf : ∃ a, q = .pointer (some a) := by
    obtain ⟨pb, mb, nv, e, _⟩ := ArG.nodes h
    exact ⟨_, e⟩
  obtain ⟨qa, rfl⟩ := hqf
  clear h
  go_enter Tryd.func12, Tryd.ntmps12
  go_wp2_with (go_at_call 31; refine hb.mono ?_; rintro e w7 ⟨rfl, rfl⟩)
  go_ret2
  exact ⟨rfl, rfl⟩

set_option maxHeartbeats 8000000 in
set_option maxRecDepth 100000 in
theorem knownR_any {G : Nat → Prop} {w : World} {q : Value} {ds : List Nd} (h : ArR G w q ds) {v : Value} {l : List Int} (hd : RdI w v l) (hT : termsB ds l = true) (hll : l.length ≤ 1000) (hds : ds.length ≤ 1000) :
    Calls Tryd.prog 12 #[q, v] w (KnownPost w ds l) := by
  have hb := badR_any h hd
  rw [hT] at hb
  have hg := h.good
  have HT := Shut.mk (termsB_all hT)
  have hdr := derivedR_any h hd (termsB_all hT)
  have HH := Shut.mk h
  have HD := Shut.mk hd
  obtain ⟨la, lc, rfl, _, _, _⟩ := hd.len
  have hqf : ∃ a, q = .pointer (some a) := by
    obtain ⟨pb, mb, nv, e, _⟩ := ArG.nodes h
    exact ⟨_, e⟩
  obtain ⟨qa, rfl⟩ := hqf
  have l63 : ((l.length : Nat) : Int) ≤ 9223372036854775807 := by omega
  clear h hT hd
  go_enter Tryd.func12, Tryd.ntmps12
  go_wp2_with (first
    | (go_at_call 31; refine hb.mono ?_; rintro e w7 ⟨rfl, rfl⟩)
    | (go_at_call 32; (with_reducible refine hdr.mono ?_); rintro e w2 ⟨g, bs, rfl, o2, b2, hbs, hg2, k2⟩))
  have HBS := Shut.mk hbs
  have HO2 := Shut.mk o2
  have HB2 := Shut.mk b2
  have HK2 := Shut.mk k2
  have hsz2 : w.heap.size ≤ w2.heap.size := k2.size
  clear hbs o2 b2 hb hdr k2
  obtain ⟨wq, rfl⟩ : ∃ wq : World, wq = w2 := ⟨_, rfl⟩
  go_loopw [7, 21] (fun pv i wr => ∃ (k : Nat) (zs : List Int), k ≤ l.length ∧ i = .int .i64 k ∧ OwnI wq.heap.size wr pv zs ∧ (∀ x, x ∈ zs ↔ ∃ t ∈ l.take k, Reach ds t x) ∧ zs.length ≤ k * ds.length ∧ Kept wq wr) (fun _ i _ => l.length - (intOf i).toNat)
  case atStart => exact ⟨0, [], Nat.zero_le _, rfl, OwnI.nil _ _, fun x => by simp, by simp, Kept.refl _⟩
  case round =>
    obtain ⟨k, zs, hk0, rfl, ho, hzs, hzl, hk⟩ := hrel
    have HZ := Shut.mk hzs
    have HZL := Shut.mk hzl
    clear hzs hzl
    have hk2 := HK2.out.trans hk
    by_cases hlt : k < l.length
    · obtain ⟨rb, ro, rc, hrv, _, _, hrb, hcl⟩ := (HD.out.kept hk2).addr (by omega)
      simp only [Value.slice.injEq] at hrv
      obtain ⟨rfl, _, rfl⟩ := hrv
      have hcw := hcl k hlt
      clear hcl
      have hxT := HT.out _ (getD_mem hlt)
      have hx : l.getD k 0 = l[k] := by rw [List.getD_eq_getElem?_getD, List.getElem?_eq_getElem hlt]; rfl
      have HTK := Shut.mk (show l.take (k + 1) = l.take k ++ [l.getD k 0] by rw [List.take_succ_eq_append_getElem hlt, hx])
      clear hx
      generalize l.getD k 0 = x at hcw hxT HTK
      have hpr := partsR_any (ArG.kept HH.out hk2) (t := x) ⟨by have := hxT.1; omega, by have := hxT.2; omega⟩
      have hzl2 : zs.length ≤ 1000000 := by
        have := HZL.out
        have : k * ds.length ≤ 1000 * 1000 := Nat.mul_le_mul (by omega) (by omega)
        omega
      have hksz := hk.size
      have HLT := Shut.mk hlt
      clear hxT
      go_wp2_with (first
        | (go_at_call 33; (with_reducible refine hpr.mono ?_); rintro e w3 ⟨pv3, ys, rfl, r3, hys, hyl, k3⟩; have ho3 := Ownv.kept ho k3; have hs3 := Nat.le_trans hksz k3.size)
        | (at_builtin; refine go_appi wq.heap.size _ zs rfl ho3 _ ys rfl r3 (by omega) hs3 ?_; intro v6 w6 o6 t6 l6))
      go_roundw
      case rel =>
        refine ⟨k + 1, zs ++ ys, HLT.out, rfl, o6, fun y => ?_, ?_, Turn.keptOf (hk.trans k3) t6 (fun b hb => (Ownv.lt ho3 hb).2)⟩
        · rw [List.mem_append, HZ.out, HTK.out, hys.2]
          constructor
          · rintro (⟨t, ht, hr⟩ | hr)
            · exact ⟨t, List.mem_append_left _ ht, hr⟩
            · exact ⟨x, List.mem_append_right _ (List.mem_singleton.2 rfl), hr⟩
          · rintro ⟨t, ht, hr⟩
            rcases List.mem_append.1 ht with c | c
            · exact .inl ⟨t, c, hr⟩
            · rw [List.mem_singleton.1 c] at hr; exact .inr hr
        · rw [List.length_append, Nat.succ_mul]
          have := HZL.out
          omega
      case measure => simp [intOf]; omega
    · obtain rfl : k = l.length := by omega
      have hzl2 : zs.length ≤ 1000000 := by
        have := HZL.out
        have : l.length * ds.length ≤ 1000 * 1000 := Nat.mul_le_mul (by omega) (by omega)
        omega
      have hri := rising_any (OwnI.rd ho) (by omega)
      clear hlt hk0
      go_wp2_with (go_at_call 34; refine hri.mono ?_; rintro e w3 ⟨u3, us, rfl, r3, hsort, hmem, k3⟩; obtain ⟨ua, uc, rfl, _, u2, _⟩ := r3.len; have u63 : ((us.length : Nat) : Int) ≤ 9223372036854775807 := (by unfold maxLen at u2; omega))
      have HSO := Shut.mk hsort
      have HME : Shut (∀ x, x ∈ us ↔ Inn ds l x) := ⟨fun x => by rw [hmem, HZ.out, List.take_length, reach_inn hg HT.out]⟩
      have hk3 := hk.trans k3
      have huT : Shut (∀ x ∈ us, IsT ds x) := ⟨fun x hx => ((HME.out x).1 hx).isT hg HT.out⟩
      have hul : us.length ≤ ds.length := by
        have hnd : us.Nodup := List.Pairwise.imp (fun h => by omega) HSO.out
        exact nodup_le ds.length us hnd (fun x hx => huT.out x hx)
      clear hsort hmem ho hri hk k3 hk2
      obtain ⟨wp, rfl⟩ : ∃ wp : World, wp = w3 := ⟨_, rfl⟩
      go_loopw [10, 34] (fun ov i wr => ∃ (k : Nat), k ≤ us.length ∧ i = .int .i64 k ∧ OwnI wp.heap.size wr ov ((us.take k).filter (knB bs)) ∧ Kept wp wr) (fun _ i _ => us.length - (intOf i).toNat)
      case atStart => exact ⟨0, Nat.zero_le _, rfl, OwnI.nil _ _, Kept.refl _⟩
      case round =>
        obtain ⟨k, hk0, rfl, ho, hk⟩ := hrel
        by_cases hlt : k < us.length
        · obtain ⟨rb, ro, rc, hrv, _, _, hrb, hcl⟩ := (r3.kept hk).addr (by omega)
          simp only [Value.slice.injEq] at hrv
          obtain ⟨rfl, _, rfl⟩ := hrv
          have hcw := hcl k hlt
          clear hcl
          have hxT := huT.out _ (getD_mem hlt)
          have hx : us.getD k 0 = us[k] := by rw [List.getD_eq_getElem?_getD, List.getElem?_eq_getElem hlt]; rfl
          have HTK := Shut.mk (show us.take (k + 1) = us.take k ++ [us.getD k 0] by rw [List.take_succ_eq_append_getElem hlt, hx])
          clear hx
          generalize us.getD k 0 = x at hcw hxT HTK
          obtain ⟨t, rfl, ht⟩ := isT_nat hxT
          have htI : (t : Int) < (ds.length : Int) := by omega
          have c1 := OwnB.cell (Ownv.kept HO2.out (hk3.trans hk)) HB2.out (j := t) ht
          have hkb : knB bs (t : Int) = bs.getD t false := by unfold knB; rw [Int.toNat_natCast]
          have HKB := Shut.mk hkb
          have HLT := Shut.mk hlt
          have hfl : ((us.take k).filter (knB bs)).length ≤ 1000 := Nat.le_trans (List.length_filter_le _ _) (by rw [List.length_take]; omega)
          generalize hzz : (us.take k).filter (knB bs) = zz at ho hfl
          have HZZ := Shut.mk hzz
          clear hkb hzz
          cases hb : bs.getD t false with
          | true =>
            rw [hb] at c1
            have HB := Shut.mk hb
            clear hb
            have kA : Kept wr (wr.alloc (.cells #[.int .i64 (t : Int)] 3)) := (Kept.refl wr).alloc _
            have hoA := Ownv.kept ho kA
            have hsA := Nat.le_trans hk.size kA.size
            go_wp2_with (at_builtin; refine go_appi wp.heap.size _ zz rfl hoA _ [(t : Int)] rfl (OwnI.rd (lit1 wr (t : Int))) (by simp; omega) hsA ?_; intro v6 w6 o6 t6 l6)
            go_roundw
            case rel =>
              refine ⟨k + 1, HLT.out, rfl, ?_, Turn.keptOf (hk.trans kA) t6 (fun b hb => (Ownv.lt hoA hb).2)⟩
              rw [HTK.out, List.filter_append, HZZ.out, List.filter_cons, if_pos (by rw [HKB.out, HB.out])]
              exact o6
            case measure => simp [intOf]; omega
          | false =>
            rw [hb] at c1
            have HB := Shut.mk hb
            clear hb
            go_wp2
            go_roundw
            case rel =>
              refine ⟨k + 1, HLT.out, rfl, ?_, hk⟩
              rw [HTK.out, List.filter_append, HZZ.out, List.filter_cons, if_neg (by rw [HKB.out, HB.out]; decide)]
              simpa using ho
            case measure => simp [intOf]; omega
        · obtain rfl : k = us.length := by omega
          rw [List.take_length] at ho
          generalize hff : us.filter (knB bs) = ff at ho
          have HFF := Shut.mk hff
          clear hff
          go_wp2
          go_ret2
          refine ⟨_, ff, rfl, Ownv.mono ho (Nat.le_trans hsz2 hk3.size), ⟨?_, fun t => ?_⟩, ?_, HK2.out.trans (hk3.trans hk)⟩
          · rw [← HFF.out]; exact List.Pairwise.filter _ HSO.out
          · rw [← HFF.out, List.mem_filter, HME.out]
            constructor
            · rintro ⟨a, b⟩
              obtain ⟨n, rfl, hn⟩ := isT_nat (a.isT hg HT.out)
              refine ⟨a, (HBS.out n hn).1 ?_⟩
              unfold knB at b
              rwa [Int.toNat_natCast] at b
            · rintro ⟨a, b⟩
              obtain ⟨n, rfl, hn⟩ := isT_nat (a.isT hg HT.out)
              refine ⟨a, ?_⟩
              unfold knB
              rw [Int.toNat_natCast]
              exact (HBS.out n hn).2 b
          · rw [← HFF.out]; exact Nat.le_trans (List.length_filter_le _ _) hul
end Go.Proofs.YtangbnmgkcmhbaaDoor
end

section
/- The walk of DeduceKnows. -/
set_option linter.unusedSimpArgs false
set_option linter.unusedVariables false
namespace Go.Proofs.YtangbnmgkcmhbaaDoor
open Go.RowKit Go.Maps

theorem termsB_cons {ds : List Nd} {goal : Int} {l : List Int} : termsB ds (goal :: l) = (decide (IsT ds goal) && termsB ds l) := rfl

set_option maxHeartbeats 8000000 in
set_option maxRecDepth 100000 in
theorem knows_walk {w : World} {v u : Value} {ls : List Nd} {l : List Int} (hv : RdNs w v ls) (hok : ∀ d ∈ ls, NdOk d) (hl : RdI w u l) (_hl64 : ∀ x ∈ l, I64 x) {goal : Int} (hg64 : I64 goal) (ht : TabsD w) :
    Calls Tryd.prog 3 #[v, u, .int .i64 goal] w fun e w' => e = .returned (.bool true) ∧ Kept w w' := by
  obtain ⟨na, ncap, rfl, n1, n2, _⟩ := hv.len
  obtain ⟨la, lc, rfl, l1, l2, _⟩ := hl.len
  have l63 : ((l.length : Nat) : Int) ≤ 9223372036854775807 := by unfold maxLen at l2; omega
  have n63 : ((ls.length : Nat) : Int) ≤ 9223372036854775807 := by unfold maxLen at n2; omega
  have HV := Shut.mk hv
  have HL := Shut.mk hl
  have HT := Shut.mk ht
  have HOK := Shut.mk hok
  clear hv hl ht hok n1 n2 l1 l2 hg64
  go_enter Tryd.func3, Tryd.ntmps3
  go_wp2_with fail
  (with_reducible refine (live5_any HT.out).mono ?_)
  rintro e w1 ⟨rfl, k1⟩
  have kb : Kept w1 (w1.alloc (.cells #[.slice la l.length lc] 23)) := (Kept.refl w1).alloc _
  have hfew := few5_any ((HV.out.kept k1).kept kb) (cap := 1) (rowL1 w1 la l.length lc l63) (by simp)
  simp only [List.length_cons, List.length_nil, Nat.zero_add, Nat.reduceAdd] at hfew
  have HK1 := Shut.mk (k1.trans kb)
  clear k1 kb
  go_wp2_with fail
  (with_reducible refine hfew.mono ?_)
  clear hfew
  rintro e w2 ⟨b, rfl, hfew, k2⟩
  have HK2 := Shut.mk (HK1.out.trans k2)
  clear k2
  cases b with
  | false =>
    go_wp2
    go_ret
    exact ⟨rfl, HK2.out⟩
  | true =>
  have HF := Shut.mk (hfew rfl)
  have hl20 : l.length ≤ 20 := HF.out.2.2 0 (by simp)
  have hls := HF.out.1
  clear hfew
  have h2 := two_any (HV.out.kept HK2.out) HOK.out (HT.out.kept HK2.out).tabs
  go_wp2_with fail
  (with_reducible refine h2.mono ?_)
  clear h2
  rintro e w3 ⟨F, G, aa, q, rfl, ha, hb, _, hF, hG, k3⟩
  have hdl := mkAll_len ls
  generalize mkAll ls = ds at ha hb hdl
  have HK3 := Shut.mk (HK2.out.trans k3)
  have HA := Shut.mk ha
  have HB := Shut.mk hb
  clear ha hb hF hG k3
  have hlx := HL.out.kept HK3.out
  have HTX : Shut (∀ W, Kept w3 W → RdI W (.slice la l.length lc) l) := ⟨fun W k => hlx.kept k⟩
  by_cases hT : termsB ds l = true
  · have hkn := known_any HA.out hlx hT (by omega)
    have HTL := Shut.mk hT
    clear hT
    go_wp2_with fail
    (with_reducible refine hkn.mono ?_)
    clear hkn
    rintro e w4 ⟨ux, us, rfl, ox, hkx, huL, k4⟩
    have hkr := knownR_any (ArG.kept HB.out k4) (HTX.out _ k4) HTL.out (by omega) (by omega)
    have HKX := Shut.mk hkx
    clear hkx
    go_wp2_with fail
    (with_reducible refine hkr.mono ?_)
    clear hkr
    rintro e w5 ⟨uy, ys, rfl, oy, hky, hyL, k5⟩
    have HEQ := Shut.mk (HKX.out.unique hky)
    have hrx := (OwnI.rd ox).kept k5
    have hry := OwnI.rd oy
    have k35 := k4.trans k5
    clear hky ox oy k4 k5
    by_cases hgo : IsT ds goal
    · have hd1 := derives_any (ArG.kept HA.out k35) (HTX.out _ k35) goal hgo HTL.out (by omega)
      have hT2 : termsB ds (goal :: l) = true := by rw [termsB_cons, decide_eq_true hgo, HTL.out]; rfl
      have hd2 := fun W (kW : Kept w5 W) => derivesR_any (ArG.kept HB.out (k35.trans kW)) (HTX.out _ (k35.trans kW)) (by omega) goal hT2
      clear hgo hT2
      generalize derB ds l goal = bb at hd1 hd2
      go_wp2_with fail
      (with_reducible refine hd1.mono ?_)
      rintro e w6 ⟨rfl, k6⟩
      have hd3 := hd2 w6 k6
      clear hd1 hd2
      go_wp2_with fail
      (with_reducible refine hd3.mono ?_)
      rintro e w7 ⟨rfl, k7⟩
      have hsi := sameInts_any (hrx.kept (k6.trans k7)) (hry.kept (k6.trans k7))
      rw [decide_eq_true HEQ.out] at hsi
      clear hd3
      go_wp2_with (go_at_call 15; (with_reducible refine hsi.mono ?_); rintro e w8 ⟨rfl, k8⟩)
      go_ret
      exact ⟨by simp, HK3.out.trans (((k35.trans k6).trans k7).trans k8)⟩
    · have hd1 := derives_off (ArG.kept HA.out k35) (HTX.out _ k35) goal hgo
      have hT2 : termsB ds (goal :: l) = false := by rw [termsB_cons, decide_eq_false hgo]; rfl
      have hd2 := fun W (kW : Kept w5 W) => derivesR_bad (ArG.kept HB.out (k35.trans kW)) (HTX.out _ (k35.trans kW)) (by omega) goal hT2
      clear hgo hT2
      go_wp2_with fail
      (with_reducible refine hd1.mono ?_)
      rintro e w6 ⟨rfl, k6⟩
      have hd3 := hd2 w6 k6
      clear hd1 hd2
      go_wp2_with fail
      (with_reducible refine hd3.mono ?_)
      rintro e w7 ⟨rfl, k7⟩
      have hsi := sameInts_any (hrx.kept (k6.trans k7)) (hry.kept (k6.trans k7))
      rw [decide_eq_true HEQ.out] at hsi
      clear hd3
      go_wp2_with (go_at_call 15; (with_reducible refine hsi.mono ?_); rintro e w8 ⟨rfl, k8⟩)
      go_ret
      exact ⟨rfl, HK3.out.trans (((k35.trans k6).trans k7).trans k8)⟩
  · have hT' : termsB ds l = false := by simpa using hT
    have hkn := known_bad HA.out hlx hT'
    have hkr := knownR_bad HB.out hlx hT'
    have hT2 : termsB ds (goal :: l) = false := by rw [termsB_cons, hT', Bool.and_false]
    have hd1 : Calls Tryd.prog 13 #[.pointer (some aa), .slice la l.length lc, .int .i64 goal] w3 fun e w' => e = .returned (.tuple #[.bool false, .int .i64 1]) ∧ Kept w3 w' := by
      by_cases hgo : IsT ds goal
      · exact derives_bad HA.out hlx goal hgo hT'
      · exact derives_off HA.out hlx goal hgo
    have hd2 := fun W (kW : Kept w3 W) => derivesR_bad (ArG.kept HB.out kW) (HTX.out _ kW) (by omega) goal hT2
    clear hT hT' hT2
    go_wp2_with (first
      | (go_at_call 11; refine hkn.mono ?_; rintro e w4 ⟨rfl, rfl⟩)
      | (go_at_call 12; refine hkr.mono ?_; rintro e w5 ⟨rfl, rfl⟩)
      | (go_at_call 13; (with_reducible refine hd1.mono ?_); rintro e w6 ⟨rfl, k6⟩; have hd3 := hd2 _ k6)
      | (go_at_call 14; (with_reducible refine hd3.mono ?_); rintro e w7 ⟨rfl, k7⟩; have hsi := sameInts_any (RdI.nil w7) (RdI.nil w7); rw [decide_eq_true rfl] at hsi)
      | (go_at_call 15; (with_reducible refine hsi.mono ?_); rintro e w8 ⟨rfl, k8⟩))
    go_ret
    exact ⟨rfl, HK3.out.trans ((k6.trans k7).trans k8)⟩
end Go.Proofs.YtangbnmgkcmhbaaDoor
end

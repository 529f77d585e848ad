/- An arena within a call: what stays; Make, List, Text, Node, Len, New of package term, said so; package crypto: made, terms. -/
import Derived.Test.YtihagkeljhgomaaDoorTermG
import Derived.Test.YtihagkeljhgomaaDoorTermMn
import Derived.Test.YtihagkeljhgomaaDoorCrS
import Derived.Deep.RegionLaw
set_option linter.unusedSimpArgs false
set_option linter.unusedVariables false
namespace Go.Proofs.YtihagkeljhgomaaDoor
open Go.RowKit Go.Maps

/-- Only blocks that are not of S have turned. -/
def Keep (S : Nat → Prop) (w w' : World) : Prop := Turn (fun b => ¬ S b) w w'
theorem Keep.refl (S : Nat → Prop) (w : World) : Keep S w w := Turn.refl _ _
theorem Keep.trans {S : Nat → Prop} {a b c : World} (h : Keep S a b) (k : Keep S b c) : Keep S a c := Turn.trans h k (fun x hx => .inl hx)
theorem Kept.keep {w w' : World} (h : Kept w w') (S : Nat → Prop) : Keep S w w' := h.turn _
theorem Keep.kept {S : Nat → Prop} {a b c : World} (h : Keep S a b) (k : Kept b c) : Keep S a c := Turn.kept h k
theorem Keep.size {S : Nat → Prop} {a b : World} (h : Keep S a b) : a.heap.size ≤ b.heap.size := Turn.size h
theorem Keep.blk {S : Nat → Prop} {a b : World} (h : Keep S a b) {g : Nat} {e : TypeId} {xs : List Value} (k : Blk a g e xs) (hs : S g) : Blk b g e xs := Blk.turn k h (fun c => c hs)
theorem Keep.cell {S : Nat → Prop} {a b : World} (h : Keep S a b) {p : Addr} {v : Value} (k : a.cell? p = some v) (hs : S p.block) : b.cell? p = some v :=
  (World.cell?_of_block (Turn.block h p.block (World.block_lt_of_cell? _ _ k) (fun c => c hs))).trans k
theorem Keep.owni {S : Nat → Prop} {a b : World} (h : Keep S a b) {B : Nat} {v : Value} {zs : List Int} (k : OwnI B a v zs) (hs : ∀ b, Blks v b → S b) : OwnI B b v zs := Ownv.turn k h (fun b hb c => c (hs b hb))
theorem Keep.of {S : Nat → Prop} {w0 w w' : World} (h0 : Kept w0 w) (h : Keep S w w') (hb : ∀ b, b < w0.heap.size → S b) : Kept w0 w' :=
  Turn.keptOf h0 h (fun b hn => by
    by_cases c : b < w0.heap.size
    · exact absurd (hb b c) hn
    · omega)

/-- Since w0 nothing of it has turned; p is an arena with the terms ds, apart from S; w0 has the tables. -/
structure At (w0 : World) (S : Nat → Prop) (w : World) (p : Value) (ds : List Nd) : Prop where
  ar : ∃ F, Ar F w p ds ∧ ∀ b, F b → ¬ S b
  old : ∀ b, S b → b < w.heap.size
  base : ∀ b, b < w0.heap.size → S b
  kept : Kept w0 w
  tab : Tabs w0

theorem At.tabs {w0 : World} {S : Nat → Prop} {w : World} {p : Value} {ds : List Nd} (h : At w0 S w p ds) : Tabs w := h.tab.kept h.kept
theorem At.good {w0 : World} {S : Nat → Prop} {w : World} {p : Value} {ds : List Nd} (h : At w0 S w p ds) : Good ds := by
  obtain ⟨F, h1, _⟩ := h.ar
  exact h1.good
theorem At.few {w0 : World} {S : Nat → Prop} {w : World} {p : Value} {ds : List Nd} (h : At w0 S w p ds) : ds.length ≤ 100000 := by
  obtain ⟨F, h1, _⟩ := h.ar
  exact h1.few
theorem At.step {w0 : World} {S : Nat → Prop} {w w' : World} {p : Value} {ds : List Nd} (h : At w0 S w p ds) (k : Kept w w') : At w0 S w' p ds := by
  obtain ⟨F, h1, h2⟩ := h.ar
  exact ⟨⟨F, ArG.kept h1 k, h2⟩, fun b hb => Nat.lt_of_lt_of_le (h.old b hb) k.size, h.base, h.kept.trans k, h.tab⟩
/-- Other blocks that are to stay: old ones of S, or ones that the arena cannot have. -/
theorem At.more {w0 : World} {S T : Nat → Prop} {w w' : World} {p : Value} {ds : List Nd} (h : At w0 S w p ds) (k : Kept w w') (hT : ∀ b, T b → (S b ∨ w.heap.size ≤ b) ∧ b < w'.heap.size) (hb : ∀ b, b < w0.heap.size → T b) : At w0 T w' p ds := by
  obtain ⟨F, h1, h2⟩ := h.ar
  refine ⟨⟨F, ArG.kept h1 k, fun b hF hTb => ?_⟩, fun b hTb => (hT b hTb).2, hb, h.kept.trans k, h.tab⟩
  rcases (hT b hTb).1 with c | c
  · exact h2 b hF c
  · exact absurd (h1.lt b hF) (by omega)
/-- What turns blocks that are to stay, and no others that were there. -/
theorem At.turn {w0 : World} {S G : Nat → Prop} {w w' : World} {p : Value} {ds : List Nd} (h : At w0 S w p ds) (k : Turn G w w') (hG : ∀ b, G b → S b ∧ w0.heap.size ≤ b) : At w0 S w' p ds := by
  obtain ⟨F, h1, h2⟩ := h.ar
  exact ⟨⟨F, ArG.turn h1 k (fun b hF hg => h2 b hF (hG b hg).1), h2⟩, fun b hb => Nat.lt_of_lt_of_le (h.old b hb) k.size, h.base, Turn.keptOf h.kept k (fun b hb => (hG b hb).2), h.tab⟩

/-- What a call answers that makes a term. -/
def MkPost (w0 : World) (S : Nat → Prop) (w : World) (p : Value) (r : List Nd × Int × Int) (e : Ending) (w' : World) : Prop :=
  e = .returned (.tuple #[.int .i64 r.2.1, .int .i64 r.2.2]) ∧ At w0 S w' p r.1 ∧ Keep S w w'
theorem MkPost.after {w0 : World} {S : Nat → Prop} {w w1 : World} {p : Value} {r : List Nd × Int × Int} {e : Ending} {w' : World} (h : MkPost w0 S w1 p r e w') (k : Kept w w1) : MkPost w0 S w p r e w' :=
  ⟨h.1, h.2.1, (k.keep S).trans h.2.2⟩

theorem post_of {w0 : World} {S F F' : Nat → Prop} {w w' : World} {p : Value} {ds es : List Nd} (h : At w0 S w p ds) (hF : ∀ b, F b → ¬ S b) (r1 : Ar F' w' p es) (r2 : Turn F w w') (r3 : ∀ b, F' b → F b ∨ w.heap.size ≤ b) :
    At w0 S w' p es ∧ Keep S w w' := by
  have hk : Keep S w w' := r2.mono fun b hb => hF b hb
  refine ⟨⟨⟨F', r1, fun b hb hs => ?_⟩, fun b hb => Nat.lt_of_lt_of_le (h.old b hb) r2.size, h.base, hk.of h.kept h.base, h.tab⟩, hk⟩
  rcases r3 b hb with c | c
  · exact hF b c hs
  · exact absurd (h.old b hs) (by omega)

theorem makeA {w0 : World} {S : Nat → Prop} {w : World} {p : Value} {ds : List Nd} (h : At w0 S w p ds) {v : Value} {d : Nd} (hd : RdN w v d) (hok : NdOk d) :
    Calls Tryd.prog 29 #[p, v] w (MkPost w0 S w p (mk ds d)) := by
  obtain ⟨F, h1, h2⟩ := h.ar
  refine (make_any h1 h.tabs hd hok).mono ?_
  rintro e w' ⟨F', rfl, r1, r2, r3⟩
  exact ⟨rfl, post_of h h2 r1 r2 r3⟩
theorem listA {w0 : World} {S : Nat → Prop} {w : World} {p : Value} {ds : List Nd} (h : At w0 S w p ds) {v : Value} {l : List Int} (hd : RdI w v l) (hok : ∀ x ∈ l, I64 x) :
    Calls Tryd.prog 34 #[p, v] w (MkPost w0 S w p (mk ds ⟨3, 0, [], l⟩)) := by
  obtain ⟨F, h1, h2⟩ := h.ar
  refine (list_any h1 h.tabs hd hok).mono ?_
  rintro e w' ⟨F', rfl, r1, r2, r3⟩
  exact ⟨rfl, post_of h h2 r1 r2 r3⟩
theorem textA {w0 : World} {S : Nat → Prop} {w : World} {p : Value} {ds : List Nd} (h : At w0 S w p ds) (s : List UInt8) (hl : s.length ≤ maxLen) :
    Calls Tryd.prog 33 #[p, .string (strB s)] w (MkPost w0 S w p (mk ds ⟨2, 0, s, []⟩)) := by
  obtain ⟨F, h1, h2⟩ := h.ar
  refine (mtext_any h1 h.tabs s hl).mono ?_
  rintro e w' ⟨F', rfl, r1, r2, r3⟩
  exact ⟨rfl, post_of h h2 r1 r2 r3⟩
theorem nodeA {w0 : World} {S : Nat → Prop} {w : World} {p : Value} {ds : List Nd} (h : At w0 S w p ds) (t : Int) :
    Calls Tryd.prog 40 #[p, .int .i64 t] w fun e w' => ∃ v, e = .returned (.tuple #[v, .int .i64 (ndE ds t)]) ∧ RdN w' v (ndAt ds t) ∧ Kept w w' := by
  obtain ⟨F, h1, h2⟩ := h.ar
  exact node_any h1 t
theorem lenA {w0 : World} {S : Nat → Prop} {w : World} {p : Value} {ds : List Nd} (h : At w0 S w p ds) :
    Calls Tryd.prog 11 #[p] w fun e w' => e = .returned (.int .i64 ds.length) ∧ w = w' := by
  obtain ⟨F, h1, h2⟩ := h.ar
  exact arg_len h1
theorem newA {w0 w : World} (k : Kept w0 w) (ht : Tabs w0) {S : Nat → Prop} (hS : ∀ b, S b → b < w.heap.size) (hb : ∀ b, b < w0.heap.size → S b) :
    Calls Tryd.prog 26 #[] w fun e w' => e = .returned (.pointer (some ⟨w.heap.size + 1, 0, none⟩)) ∧ At w0 S w' (.pointer (some ⟨w.heap.size + 1, 0, none⟩)) [] ∧ Kept w w' := by
  refine (new_any w).mono ?_
  rintro e w' ⟨F, p, rfl, h1, h2, h3, rfl⟩
  exact ⟨rfl, ⟨⟨F, h1, fun b hb hs => absurd (hS b hs) (by have := h3 b hb; omega)⟩, fun b hs => Nat.lt_of_lt_of_le (hS b hs) h2.size, hb, k.trans h2, ht⟩, h2⟩

theorem ndE_eq {ds : List Nd} {t : Int} : ndE ds t = if IsT ds t then 0 else 4 := rfl
theorem ndAt_i64 {ds : List Nd} {t : Int} : True := trivial

/-! ## made -/
set_option maxHeartbeats 4000000 in
set_option maxRecDepth 100000 in
theorem madeA {w0 : World} {S : Nat → Prop} {w : World} {p : Value} {ds : List Nd} (h : At w0 S w p ds) {v : Value} {op : Int} {l : List Int} (hd : RdI w v l) (hop : I64 op) (hok : ∀ x ∈ l, I64 x) :
    Calls Tryd.prog 30 #[p, .int .i64 op, v] w (MkPost w0 S w p (made ds op l)) := by
  obtain ⟨la, lc, rfl, l1, l2, l3⟩ := hd.len
  have hmk := makeA h (v := .agg #[.int .i64 op, .int .i64 0, .string ⟨#[]⟩, .slice la l.length lc]) (d := ⟨op, 0, [], l⟩) ⟨_, rfl, hd⟩ ⟨hop, i64_lit (by simp), by simp, hok⟩
  unfold made
  generalize mk ds ⟨op, 0, [], l⟩ = m at hmk ⊢
  go_enter Tryd.func30, Tryd.ntmps30
  go_wp2_with fail
  refine hmk.mono ?_
  rintro e w' ⟨rfl, r1, r2⟩
  go_wp2
  go_ret2
  exact ⟨rfl, r1, r2⟩

/-! ## terms -/
theorem terms_take {ds : List Nd} {l : List Int} (h : ∀ j, j < l.length → IsT ds (l.getD j 0)) : termsB ds l = true :=
  terms_of fun x hx => by
    obtain ⟨j, hj, rfl⟩ := List.getElem_of_mem hx
    have := h j hj
    rwa [List.getD_eq_getElem?_getD, List.getElem?_eq_getElem hj] at this
theorem terms_not {ds : List Nd} {l : List Int} {j : Nat} (hj : j < l.length) (h : ¬ IsT ds (l.getD j 0)) : termsB ds l = false := by
  unfold termsB
  rw [List.all_eq_false]
  refine ⟨l.getD j 0, ?_, by simpa using h⟩
  rw [List.getD_eq_getElem?_getD, List.getElem?_eq_getElem hj]
  exact List.getElem_mem hj

set_option maxHeartbeats 4000000 in
set_option maxRecDepth 100000 in
theorem termsA {w0 : World} {S : Nat → Prop} {w : World} {p : Value} {ds : List Nd} (h : At w0 S w p ds) {v : Value} {l : List Int} (hd : RdI w v l) :
    Calls Tryd.prog 32 #[p, v] w fun e w' => e = .returned (.bool (termsB ds l)) ∧ Kept w w' := by
  obtain ⟨la, lc, rfl, l1, l2, l3⟩ := hd.len
  have l63 : ((l.length : Nat) : Int) ≤ 9223372036854775807 := by unfold maxLen at l2; omega
  go_enter Tryd.func32, Tryd.ntmps32
  go_wp2
  go_loopw [11] (fun i wr => ∃ k : Nat, k ≤ l.length ∧ i = .int .i64 k ∧ (∀ j, j < k → IsT ds (l.getD j 0)) ∧ Kept w wr) (fun i _ => l.length - (intOf i).toNat)
  case atStart => exact ⟨0, Nat.zero_le _, rfl, fun j hj => absurd hj (Nat.not_lt_zero _), Kept.refl _⟩
  case round =>
    obtain ⟨k, hk0, rfl, hall, hk⟩ := hrel
    have HALL := Shut.mk hall
    clear hall
    by_cases hlt : k < l.length
    · obtain ⟨rb, ro, rc, hrv, _, _, hrb, hcl⟩ := hd.addr (by omega)
      simp only [Value.slice.injEq] at hrv
      obtain ⟨rfl, _, rfl⟩ := hrv
      have x1 := hk.cell (p := ⟨rb, ro + k, none⟩) hrb |>.trans (hcl k hlt)
      clear hcl
      generalize hx : l.getD k 0 = x at x1
      have HX := Shut.mk hx
      clear hx
      have hn := nodeA (h.step hk) x
      by_cases hT : IsT ds x
      · have hE : ndE ds x = 0 := by rw [ndE_eq, if_pos hT]
        rw [hE] at hn
        go_wp2_with fail
        refine hn.mono ?_
        rintro e w2 ⟨v2, rfl, ⟨lv2, rfl, hrd⟩, k2⟩
        obtain ⟨xa, xc, rfl, _, _, _⟩ := hrd.len
        generalize ndAt ds x = dx at hrd ⊢
        clear hrd
        have HT := Shut.mk hT
        clear hT hE
        go_wp2
        go_roundw
        case rel => exact ⟨k + 1, hlt, rfl, fun j hj => by
          by_cases c : j < k
          · exact HALL.out j c
          · obtain rfl : j = k := by omega
            rw [HX.out]; exact HT.out, (hk.trans k2).alloc _⟩
        case measure => simp [intOf]; omega
      · have hE : ndE ds x = 4 := by rw [ndE_eq, if_neg hT]
        rw [hE] at hn
        have HF := Shut.mk (terms_not hlt (by rw [HX.out]; exact hT))
        clear hT hE
        go_wp2_with fail
        refine hn.mono ?_
        rintro e w2 ⟨v2, rfl, ⟨lv2, rfl, hrd⟩, k2⟩
        obtain ⟨xa, xc, rfl, _, _, _⟩ := hrd.len
        generalize ndAt ds x = dx at hrd ⊢
        clear hrd
        go_wp2
        go_ret
        exact ⟨by rw [HF.out]; rfl, (hk.trans k2).alloc _⟩
    · obtain rfl : k = l.length := by omega
      have HT := Shut.mk (terms_take HALL.out)
      go_wp2
      go_ret
      exact ⟨by rw [HT.out]; rfl, hk⟩
end Go.Proofs.YtihagkeljhgomaaDoor

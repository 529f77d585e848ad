/- Texts of one proof, put together: RtF, RtG, RsS, HhF, RtH, RtI, MthF, MthU, MthV, RtJ, RtK, RtL, RtO, RtN, MthDs, RsP. -/
import Derived.Test.YtnmaiokhndbicaaGreatDoorMg02
import Derived.Test.YtnmaiokhndbicaaGreatDoorShelf
section
/- What Check answers, and whether a tree may be: the same (plain). -/
set_option linter.unusedSimpArgs false
set_option linter.unusedVariables false
namespace Go.Proofs.YtnmaiokhndbicaaGreatDoor
open Rt

theorem zeroB_iff {d : TN} : zeroB d = true ↔ d = tn0 := by
  unfold zeroB
  obtain ⟨a1, a2, a3, a4, a5, a6⟩ := d
  simp only [Bool.and_eq_true, beq_iff_eq, tn0, TN.mk.injEq]
  constructor
  · rintro ⟨⟨⟨⟨⟨h1, h2⟩, h3⟩, h4⟩, h5⟩, h6⟩
    exact ⟨h1, h2, h3, h4, h5, List.eq_nil_of_length_eq_zero (Nat.eq_of_beq_eq_true h6)⟩
  · rintro ⟨h1, h2, h3, h4, h5, h6⟩
    exact ⟨⟨⟨⟨⟨h1, h2⟩, h3⟩, h4⟩, h5⟩, by rw [h6]; rfl⟩
theorem leafB_iff {d : TN} : leafB d = true ↔ d.kd = 1 ∧ d.un = [] := by
  unfold leafB
  rw [Bool.and_eq_true, beq_iff_eq]
  exact ⟨fun h => ⟨h.1, List.eq_nil_of_length_eq_zero (Nat.eq_of_beq_eq_true h.2)⟩, fun h => ⟨h.1, by rw [h.2]; rfl⟩⟩
theorem unB_iff {t : List TN} {x : Nat} {us : List Int} {last : Int} : unB t x last us = true ↔ us.Pairwise (· < ·) ∧ (∀ i ∈ us, last < i) ∧ ∀ i ∈ us, i < (Mth.hi x : Int) ∧ lk t i.toNat = true ∧ coverB t x i.toNat = true := by
  induction us generalizing last with
  | nil => exact ⟨fun _ => ⟨List.Pairwise.nil, ⟨fun i hi => absurd hi (List.not_mem_nil), fun i hi => absurd hi (List.not_mem_nil)⟩⟩, fun _ => rfl⟩
  | cons a us ih =>
    show (!(decide (a ≤ last) || decide ((Mth.hi x : Int) ≤ a) || !lk t a.toNat) && coverB t x a.toNat && unB t x a us) = true ↔ _
    rw [Bool.and_eq_true, Bool.and_eq_true, Bool.not_eq_true', Bool.or_eq_false_iff, Bool.or_eq_false_iff, decide_eq_false_iff_not, decide_eq_false_iff_not, Bool.not_eq_false', ih, List.pairwise_cons]
    constructor
    · rintro ⟨⟨⟨⟨h1, h2⟩, h3⟩, h4⟩, h5, h6, h7⟩
      refine ⟨⟨h6, h5⟩, fun i hi => ?_, fun i hi => ?_⟩
      · rcases List.mem_cons.1 hi with rfl | hi
        · omega
        · have := h6 i hi; omega
      · rcases List.mem_cons.1 hi with rfl | hi
        · exact ⟨by omega, h3, h4⟩
        · exact h7 i hi
    · rintro ⟨⟨h1, h2⟩, h3, h4⟩
      have ha := h4 a List.mem_cons_self
      have hl := h3 a List.mem_cons_self
      exact ⟨⟨⟨⟨by omega, by omega⟩, ha.2.1⟩, ha.2.2⟩, h2, h1, fun i hi => h4 i (List.mem_cons_of_mem _ hi)⟩
theorem covZ_false {t : List TN} {x i z : Nat} : covZ t x i z = false ↔ ((nd t z).kd = 2 → z ≠ x → Mth.underB (2 * i) z = true → Mth.underB z x = true → (i : Int) ∈ (nd t z).un) := by
  unfold covZ
  rw [← Bool.not_eq_true, Bool.and_eq_true, Bool.and_eq_true, Bool.and_eq_true, Bool.and_eq_true, beq_iff_eq, decide_eq_true_iff, Bool.not_eq_true', decide_eq_false_iff_not]
  constructor
  · intro h h1 h2 h3 h4
    by_cases hm : (i : Int) ∈ (nd t z).un
    · exact hm
    · exact absurd ⟨⟨⟨⟨h1, h2⟩, h3⟩, h4⟩, hm⟩ h
  · rintro h ⟨⟨⟨⟨h1, h2⟩, h3⟩, h4⟩, h5⟩
    exact h5 (h h1 h2 h3 h4)
theorem nodeB_iff {t : List TN} {n x : Nat} (hn : n ∈ Mth.fulls) (hlen : t.length = 2 * n - 1) (hx : x < 2 * n - 1) : nodeB t x = true ↔
    ((nd t x).kd = 0 → nd t x = tn0) ∧ ((nd t x).kd ≠ 0 → x % 2 = 0 → (nd t x).kd = 1 ∧ (nd t x).un = []) ∧
    ((nd t x).kd ≠ 0 → x % 2 = 1 → (nd t x).kd = 2 ∧ (nd t x).id = 0 ∧ (nd t x).sig = 0 ∧ (nd t x).un.Pairwise (· < ·) ∧
      ∀ i ∈ (nd t x).un, ∃ j : Nat, i = j ∧ Mth.lo x ≤ j ∧ j < Mth.hi x ∧ lk t j = true ∧ ∀ z, z < 2 * n - 1 → (nd t z).kd = 2 → z ≠ x → Mth.hasB z j = true → Mth.underB z x = true → i ∈ (nd t z).un) := by
  have hb := fulls_bd hn
  have hhi := hi_le hn hx
  by_cases h0 : (nd t x).kd = 0
  · have hq : ((nd t x).kd == 0) = true := by rw [beq_iff_eq]; exact h0
    have e : nodeB t x = zeroB (nd t x) := by unfold nodeB; rw [hq]; rfl
    rw [e, zeroB_iff]
    exact ⟨fun h => ⟨fun _ => h, fun h1 => absurd h0 h1, fun h1 => absurd h0 h1⟩, fun h => h.1 h0⟩
  · have hq : ((nd t x).kd == 0) = false := by rw [beq_eq_false_iff_ne]; exact h0
    by_cases h1 : x % 2 = 0
    · have e : nodeB t x = leafB (nd t x) := by unfold nodeB; rw [hq, h1]; rfl
      rw [e, leafB_iff]
      exact ⟨fun h => ⟨fun h2 => absurd h2 h0, fun _ _ => h, fun _ h2 => by omega⟩, fun h => h.2.1 h0 h1⟩
    · have hbx : Nat.beq (x % 2) 0 = false := by rw [show x % 2 = 1 by omega]; rfl
      by_cases hg : (nd t x).kd = 2 ∧ (nd t x).id = 0 ∧ (nd t x).sig = 0
      · have e : nodeB t x = unB t x ((Mth.lo x : Int) - 1) (nd t x).un := by
          unfold nodeB
          rw [hq, hbx, show ((nd t x).kd != 2 || (nd t x).id != 0 || (nd t x).sig != 0) = false by rw [hg.1, hg.2.1, hg.2.2]; rfl]
          rfl
        rw [e, unB_iff]
        constructor
        · rintro ⟨a, b, c⟩
          refine ⟨fun h => absurd h h0, fun _ h => absurd h h1, fun _ _ => ⟨hg.1, hg.2.1, hg.2.2, a, fun i hi => ?_⟩⟩
          obtain ⟨c1, c2, c3⟩ := c i hi
          have := b i hi
          refine ⟨i.toNat, by omega, by omega, by omega, c2, fun z hz h2 h3 h4 h5 => ?_⟩
          have h6 := covZ_false.1 (show covZ t x i.toNat z = false by
            have := List.all_eq_true.1 c3 z (List.mem_range.2 (by rw [hlen]; exact hz))
            simpa using this) h2 h3 (by rw [Mth.under_leaf hn (by omega) hz]; exact h4) h5
          rwa [show ((i.toNat : Nat) : Int) = i by omega] at h6
        · rintro ⟨_, _, h⟩
          obtain ⟨_, _, _, a, b⟩ := h h0 (by omega)
          refine ⟨a, fun i hi => ?_, fun i hi => ?_⟩
          · obtain ⟨j, rfl, b1, _⟩ := b i hi; omega
          · obtain ⟨j, rfl, b1, b2, b3, b4⟩ := b i hi
            refine ⟨by omega, by rw [Int.toNat_natCast]; exact b3, coverB_true fun z hz => covZ_false.2 fun h2 h3 h4 h5 => ?_⟩
            rw [Int.toNat_natCast] at h4 ⊢
            exact b4 z (by omega) h2 h3 (by rw [← Mth.under_leaf hn (by omega) (by omega)]; exact h4) h5
      · have e : nodeB t x = false := by
          unfold nodeB
          rw [hq, hbx]
          have : ((nd t x).kd != 2 || (nd t x).id != 0 || (nd t x).sig != 0) = true := by
            cases e : ((nd t x).kd != 2 || (nd t x).id != 0 || (nd t x).sig != 0) with
            | true => rfl
            | false =>
              rw [Bool.or_eq_false_iff, Bool.or_eq_false_iff] at e
              exact absurd ⟨by simpa using e.1.1, by simpa using e.1.2, by simpa using e.2⟩ hg
          rw [this]; rfl
        rw [e]
        constructor
        · intro h; cases h
        · rintro ⟨_, _, h⟩
          obtain ⟨a, b, c, _⟩ := h h0 (by omega)
          exact absurd ⟨a, b, c⟩ hg
theorem chkB_may {t : List TN} : chkB t = true ↔ May t (lvs t.length) := by
  unfold chkB
  rw [Bool.and_eq_true, Bool.and_eq_true, Bool.and_eq_true, Bool.not_eq_true', Bool.or_eq_true, Bool.not_eq_true', decide_eq_false_iff_not, someB_true, someB_true, List.all_eq_true]
  have hsp := lvs_spec t.length
  generalize lvs t.length = n at hsp
  constructor
  · rintro ⟨⟨⟨h0, i, h1, h2, h3⟩, h4⟩, h5⟩
    have hne : n ≠ 0 := fun e => by rw [e] at h0; cases h0
    obtain ⟨hn, hlen⟩ : n ∈ Mth.fulls ∧ t.length = 2 * n - 1 := by
      rcases hsp with ⟨a, b⟩ | ⟨a, _⟩
      · exact ⟨a, b.symm⟩
      · exact absurd a hne
    have hnd := fun x (hx : x < 2 * n - 1) => (nodeB_iff hn hlen hx).1 (h5 x (List.mem_range.2 (by rw [hlen]; exact hx)))
    refine ⟨⟨hn, hlen, fun x hx h => (hnd x hx).1 h, fun x hx h1 h2 => (hnd x hx).2.1 h1 h2, fun x hx h1 h2 => (hnd x hx).2.2 h1 h2⟩, ⟨i, h2, h3⟩, ?_⟩
    rcases h4 with h4 | ⟨k, h6, h7, h8⟩
    · exact .inl (by omega)
    · exact .inr ⟨k, h6, h7, h8⟩
  · rintro ⟨m, ⟨i, h1, h2⟩, h3⟩
    have hb := fulls_bd m.hn
    refine ⟨⟨⟨?_, i, Nat.zero_le _, h1, h2⟩, ?_⟩, fun x hx => ?_⟩
    · cases e : Nat.beq n 0 with
      | false => rfl
      | true => have := Nat.eq_of_beq_eq_true e; omega
    · rcases h3 with h3 | ⟨k, h4, h5, h6⟩
      · exact .inl (by omega)
      · exact .inr ⟨k, h4, h5, h6⟩
    · have hx2 : x < 2 * n - 1 := by rw [← m.len]; exact List.mem_range.1 hx
      exact (nodeB_iff m.hn m.len hx2).2 ⟨m.blank x hx2, m.leaf x hx2, m.par x hx2⟩
theorem may_n {t : List TN} {n : Nat} (m : MayN t n) : lvs t.length = n := by rw [m.len]; exact lvs_of m.hn
end Go.Proofs.YtnmaiokhndbicaaGreatDoor
end

section
/- Walks of the document's answer: Copy. -/
set_option linter.unusedSimpArgs false
set_option linter.unusedVariables false
namespace Go.Proofs.YtnmaiokhndbicaaGreatDoor
open Go.RowKit
open Rt

/-- v is a slice of nodes of the call's own; so are their Unmerged, each for itself. -/
structure OwnT (B : Nat) (w : World) (v : Value) (ds : List TN) (lvs : List Value) : Prop where
  row : Ownv B 29 6 w v ds.length (tflat ds lvs)
  len : lvs.length = ds.length
  un : ∀ i, i < ds.length → OwnI B w (lvs.getD i undef) (nd ds i).un
  apart : ∀ i j, i < ds.length → j < ds.length → i ≠ j → ∀ b, Blks (lvs.getD i undef) b → ¬ Blks (lvs.getD j undef) b
theorem OwnT.rd {B : Nat} {w : World} {v : Value} {ds : List TN} {lvs : List Value} (h : OwnT B w v ds lvs) : RdTs w v ds :=
  ⟨lvs, h.len, Ownv.rdv h.row, fun i hi => OwnI.rd (h.un i hi)⟩
theorem OwnT.kept {B : Nat} {w w' : World} {v : Value} {ds : List TN} {lvs : List Value} (h : OwnT B w v ds lvs) (k : Kept w w') : OwnT B w' v ds lvs :=
  ⟨Ownv.kept h.row k, h.len, fun i hi => Ownv.kept (h.un i hi) k, h.apart⟩
theorem OwnT.nil (B : Nat) (w : World) : OwnT B w (.slice none 0 0) [] [] := ⟨World.ownsRow_nil w B _ 6, rfl, fun i hi => absurd hi (Nat.not_lt_zero _), fun i j hi _ _ => absurd hi (Nat.not_lt_zero _)⟩
theorem Tryz.infoTN : (Tryz.prog.info? 29).map (fun i => (i.zero, i.size, i.bytes)) = some (some (.agg #[.int .i64 0, .int .i64 0, .int .i64 0, .int .i64 0, .int .i64 0, .slice none 0 0]), 6, 64) := by kernel_rfl
theorem getD_snoc1 {l : List Value} {v : Value} {i : Nat} (h : i < l.length) : (l ++ [v]).getD i undef = l.getD i undef := by
  rw [List.getD_eq_getElem?_getD, List.getD_eq_getElem?_getD, List.getElem?_append_left h]
theorem getD_snoc2 {l : List Value} {v : Value} : (l ++ [v]).getD l.length undef = v := by
  rw [List.getD_eq_getElem?_getD, List.getElem?_append_right (Nat.le_refl _), Nat.sub_self]; rfl
theorem nd_snoc1 {l : List TN} {v : TN} {i : Nat} (h : i < l.length) : nd (l ++ [v]) i = nd l i := by
  unfold nd
  rw [List.getD_eq_getElem?_getD, List.getD_eq_getElem?_getD, List.getElem?_append_left h]
theorem nd_snoc2 {l : List TN} {v : TN} : nd (l ++ [v]) l.length = v := by
  unfold nd
  rw [List.getD_eq_getElem?_getD, List.getElem?_append_right (Nat.le_refl _), Nat.sub_self]; rfl
theorem RdvBlk {w : World} {g : Nat} {e : TypeId} {size n : Nat} {xs : List Value} (h : Blk w g e xs) (hl : xs.length = n * size) (hm : n ≤ maxLen) : Rdv size w (.slice (some ⟨g, 0, none⟩) n n) n xs := by
  refine ⟨_, n, rfl, hl, Nat.le_refl _, hm, (fun h => by cases h), fun ad had j u hj => ?_⟩
  cases had
  rw [Addr.add_lit, Nat.zero_add, Blk.cell h, hj]
theorem ones6 (d : TN) (la : Option Addr) (ln lc : Nat) : ∀ u ∈ tnCells d (.slice la ln lc), u.oneCell' = true := by
  intro u hu
  simp only [tnCells, List.mem_cons, List.not_mem_nil, or_false] at hu
  rcases hu with rfl | rfl | rfl | rfl | rfl | rfl <;> rfl
/-- append of a node to nodes of the call's own. -/
theorem go_appt {w : World} {ops : Array Oper} {rest : List Oper} {a : Act} {Q : Exit → Act → World → Prop} {d : Option Tmp} {ty : TypeId} {ps : String} {af : Array Edge} {s x : Operand}
    (B : Nat) (v : Value) (ds : List TN) (lvs : List Value) (hs : a.eval s = v) (ho : OwnT B w v ds lvs) (g : Nat) (d1 : TN) (la : Option Addr) (ln lc : Nat) (hx : a.eval x = .slice (some ⟨g, 0, none⟩) 1 1)
    (hg : Blk w g 29 (tnCells d1 (.slice la ln lc))) (hlv : OwnI B w (.slice la ln lc) d1.un) (hap : ∀ i, i < ds.length → ∀ b, Blks (.slice la ln lc) b → ¬ Blks (lvs.getD i undef) b)
    (hl : ds.length + 1 ≤ 1000000) (hB : B ≤ w.heap.size)
    (hK : ∀ v' w', OwnT B w' v' (ds ++ [d1]) (lvs ++ [.slice la ln lc]) → Turn (Blks v) w w' → (∀ b, Blks v' b → Blks v b ∨ w.heap.size ≤ b) → wpList Tryz.prog ops Q rest (a.put d v') w') :
    wpList Tryz.prog ops Q (⟨d, .call { callee := .builtin .append, args := #[s, x], argTypes := #[22, 22] }, ty, ps, af, none⟩ :: rest) a w := by
  obtain ⟨i0, hi, hz0, hz1, hz2⟩ := info_parts Tryz.infoTN
  refine go_app_at B 29 6 64 i0 (.agg #[.int .i64 0, .int .i64 0, .int .i64 0, .int .i64 0, .int .i64 0, .slice none 0 0]) Tryz.underlying22 hi hz0 hz1 hz2 rfl (by decide) v ds.length (tflat ds lvs) hs ho.row _ 1 (tnCells d1 (.slice la ln lc)) hx (RdvBlk hg rfl (by unfold maxLen; decide)) (ones6 d1 la ln lc) (by unfold maxLen; omega) (by omega) hB ?_
  intro v' w' ho' ht hloc
  refine hK v' w' ⟨?_, by simp [ho.len], fun i hi' => ?_, fun i j hi' hj' hij => ?_⟩ ht hloc
  · rw [List.length_append, tflat_snoc ds lvs ho.len]
    exact ho'
  · rw [List.length_append, List.length_singleton] at hi'
    by_cases c : i < ds.length
    · rw [getD_snoc1 (by rw [ho.len]; exact c), nd_snoc1 c]
      exact Ownv.turn (ho.un i c) ht fun b hb hv => Ownv.apart (ho.un i c) ho.row (by decide) hb hv
    · obtain rfl : i = ds.length := by omega
      have e := getD_snoc2 (l := lvs) (v := .slice la ln lc)
      rw [ho.len] at e
      rw [e, nd_snoc2]
      exact Ownv.turn hlv ht fun b hb hv => Ownv.apart hlv ho.row (by decide) hb hv
  · rw [List.length_append, List.length_singleton] at hi' hj'
    have e := getD_snoc2 (l := lvs) (v := .slice la ln lc)
    rw [ho.len] at e
    by_cases c : i < ds.length
    · rw [getD_snoc1 (by rw [ho.len]; exact c)]
      by_cases c2 : j < ds.length
      · rw [getD_snoc1 (by rw [ho.len]; exact c2)]
        exact ho.apart i j c c2 hij
      · obtain rfl : j = ds.length := by omega
        rw [e]
        exact fun b h1 h2 => hap i c b h2 h1
    · obtain rfl : i = ds.length := by omega
      rw [e, getD_snoc1 (by rw [ho.len]; omega)]
      exact fun b h1 h2 => hap j (by omega) b h1 h2
/-- What Copy leaves. -/
def CopyPost (w : World) (ds : List TN) (e : Ending) (w' : World) : Prop := ∃ v lvs, e = .returned v ∧ OwnT w.heap.size w' v ds lvs ∧ Kept w w'
theorem take_snocT {t : List TN} {k : Nat} (h : k < t.length) : t.take (k + 1) = t.take k ++ [nd t k] := by
  rw [List.take_succ_eq_append_getElem h, nd_get h]
theorem OwnT.lt {B : Nat} {w : World} {v : Value} {ds : List TN} {lvs : List Value} (h : OwnT B w v ds lvs) {b : Nat} (hb : Blks v b) : b < w.heap.size ∧ B ≤ b := Ownv.lt h.row hb
theorem copy_step {w wr w5 w6 : World} {v : Value} {ds : List TN} {lvs : List Value} {d : TN} {za ua : Option Addr} {zl zcc ul uc : Nat} (hkw : Kept w wr) (ho : OwnT w.heap.size wr v ds lvs) (ka : Kept wr w5) (k6 : Kept w5 w6)
    (b6 : Blk w6 wr.heap.size 29 [.int .i64 d.kd, .int .i64 d.id, .int .i64 d.enc, .int .i64 d.sig, .int .i64 d.hash, .slice za zl zcc]) (o6 : OwnI wr.heap.size w6 (.slice ua ul uc) d.un) :
    Kept wr ((w6.setCell ⟨wr.heap.size, 5, none⟩ (.slice ua ul uc)).alloc (.cells #[.int .i64 d.kd, .int .i64 d.id, .int .i64 d.enc, .int .i64 d.sig, .int .i64 d.hash, .slice ua ul uc] 29)) ∧
    OwnT w.heap.size ((w6.setCell ⟨wr.heap.size, 5, none⟩ (.slice ua ul uc)).alloc (.cells #[.int .i64 d.kd, .int .i64 d.id, .int .i64 d.enc, .int .i64 d.sig, .int .i64 d.hash, .slice ua ul uc] 29)) v ds lvs ∧
    OwnI w.heap.size ((w6.setCell ⟨wr.heap.size, 5, none⟩ (.slice ua ul uc)).alloc (.cells #[.int .i64 d.kd, .int .i64 d.id, .int .i64 d.enc, .int .i64 d.sig, .int .i64 d.hash, .slice ua ul uc] 29)) (.slice ua ul uc) d.un ∧
    Blk ((w6.setCell ⟨wr.heap.size, 5, none⟩ (.slice ua ul uc)).alloc (.cells #[.int .i64 d.kd, .int .i64 d.id, .int .i64 d.enc, .int .i64 d.sig, .int .i64 d.hash, .slice ua ul uc] 29)) w6.heap.size 29 (tnCells d (.slice ua ul uc)) ∧
    ∀ i, i < ds.length → ∀ b, Blks (.slice ua ul uc) b → ¬ Blks (lvs.getD i undef) b := by
  have k1 : Kept wr (w6.setCell ⟨wr.heap.size, 5, none⟩ (.slice ua ul uc)) := (ka.trans k6).setCell (Nat.le_refl _) _
  have k2 := k1.alloc (.cells #[.int .i64 d.kd, .int .i64 d.id, .int .i64 d.enc, .int .i64 d.sig, .int .i64 d.hash, .slice ua ul uc] 29)
  refine ⟨k2, ho.kept k2, ?_, ?_, fun i hi b h1 h2 => ?_⟩
  · refine Ownv.kept (Ownv.setCell (Ownv.mono o6 hkw.size) ?_ _) ((Kept.refl _).alloc _)
    exact fun hb => Ownv.notBlk o6 b6 (by decide) hb
  · have := Blk.new (w6.setCell ⟨wr.heap.size, 5, none⟩ (.slice ua ul uc)) (tnCells d (.slice ua ul uc)) 29
    rw [size_setCell] at this
    exact this
  · have := (Ownv.lt o6 h1).2
    have := (Ownv.lt (ho.un i hi) h2).1
    omega
set_option maxHeartbeats 8000000 in
set_option maxRecDepth 100000 in
theorem rcopy_any {w : World} {tv : Value} {t : List TN} (ht : RdTs w tv t) (hl : t.length ≤ 600) (hun : ∀ d ∈ t, d.un.length ≤ 1000) :
    Calls Tryz.prog 10 #[tv] w (CopyPost w t) := by
  obtain ⟨ta, tc, rfl, t1, t2, t3⟩ := ht.len
  have t63 : ((t.length : Nat) : Int) ≤ 9223372036854775807 := by omega
  have HUn := Shut.mk hun
  clear hun
  go_enter Tryz.func10, Tryz.ntmps10
  go_wp2
  go_loopw [3, 8] (fun o c wr => ∃ k : Nat, k ≤ t.length ∧ c = .int .i64 k ∧ (∃ v lvs, v = o ∧ OwnT w.heap.size wr v (t.take k) lvs) ∧ Kept w wr) (fun _ c _ => t.length - (intOf c).toNat)
  case atStart => exact ⟨0, Nat.zero_le _, rfl, ⟨_, [], rfl, by rw [List.take_zero]; exact OwnT.nil _ _⟩, Kept.refl _⟩
  case round =>
    obtain ⟨k, hk, rfl, ⟨v, lvs, rfl, ho⟩, hkw⟩ := hrel
    by_cases hlt : k < t.length
    · obtain ⟨zb, zo, zc, za, zcc, hzv, hzat, hzun⟩ := ht.at (k := k) hlt
      simp only [Value.slice.injEq] at hzv
      obtain ⟨rfl, -, rfl⟩ := hzv
      obtain ⟨g0, g1, g2, g3, g4, g5⟩ := hzat wr hkw
      have hmem : nd t k ∈ t := by rw [nd_get hlt]; exact List.getElem_mem hlt
      have hu9 := HUn.out _ hmem
      have k0 : (0 : Int) ≤ (k : Int) := by omega
      have k1 : (k : Int) < (t.length : Int) := by omega
      have hkl : ((t.take k).length) = k := by rw [List.length_take]; omega
      have HKL := Shut.mk hkl
      have HT := Shut.mk (take_snocT hlt)
      clear hzat hmem hkl
      generalize nd t k = d at g0 g1 g2 g3 g4 g5 hzun hu9 HT
      have ka : Kept wr (wr.alloc (.cells #[.int .i64 d.kd, .int .i64 d.id, .int .i64 d.enc, .int .i64 d.sig, .int .i64 d.hash, .slice za d.un.length zcc] 29)) := (Kept.refl wr).alloc _
      have bX : Blk (wr.alloc (.cells #[.int .i64 d.kd, .int .i64 d.id, .int .i64 d.enc, .int .i64 d.sig, .int .i64 d.hash, .slice za d.un.length zcc] 29)) wr.heap.size 29 [.int .i64 d.kd, .int .i64 d.id, .int .i64 d.enc, .int .i64 d.sig, .int .i64 d.hash, .slice za d.un.length zcc] := Blk.new _ _ _
      have hzu := (hzun.kept hkw).kept ka
      have hsw : w.heap.size ≤ wr.heap.size := hkw.size
      go_wp2_with (first
        | (at_builtin; refine go_appi wr.heap.size (.slice none 0 0) [] rfl (OwnI.nil _ _) _ d.un rfl hzu (by simp; omega) ka.size ?_; intro v6 w6 o6 t6 l6; have k6 : Kept (wr.alloc (.cells #[.int .i64 d.kd, .int .i64 d.id, .int .i64 d.enc, .int .i64 d.sig, .int .i64 d.hash, .slice za d.un.length zcc] 29)) w6 := Turn.keptOf (Kept.refl _) t6 (fun b hb => by cases hb); replace o6 : OwnI wr.heap.size w6 v6 d.un := o6; obtain ⟨ua, uc, rfl, _, _, _⟩ := (OwnI.rd o6).len; have b6 := bX.kept k6; have f5 := b6.frozen 5; have c5 := b6.cell 5; have c0 := b6.cell 0; have c1 := b6.cell 1; have c2 := b6.cell 2; have c3 := b6.cell 3; have c4 := b6.cell 4; simp only [List.getElem?_cons_zero, List.getElem?_cons_succ] at c0 c1 c2 c3 c4 c5; obtain ⟨kX, hX, oX, gX, pX⟩ := copy_step hkw ho ka k6 b6 o6)
        | (at_builtin; refine go_appt w.heap.size v (t.take k) lvs rfl hX w6.heap.size d ua d.un.length uc rfl gX oX pX (by rw [HKL.out]; omega) (Nat.le_trans hsw kX.size) ?_; intro v8 w8 o8 t8 l8))
      go_roundw
      case rel => exact ⟨k + 1, hlt, by go_num, ⟨v8, _, rfl, by rw [HT.out]; exact o8⟩, Turn.keptOf (hkw.trans kX) t8 (fun b hb => (OwnT.lt hX hb).2)⟩
      case measure => simp [intOf]; omega
    · have e : t.take k = t := by rw [show k = t.length by omega]; exact List.take_length
      have HE := Shut.mk e
      have k9 : ¬ (k : Int) < (t.length : Int) := by omega
      clear e
      go_wp2
      go_ret
      exact ⟨v, lvs, rfl, by rw [HE.out] at ho; exact ho, hkw⟩
end Go.Proofs.YtnmaiokhndbicaaGreatDoor
end

section
/- The resolution of a node, and who holds which node's key, plainly. Nothing here names a program. -/
set_option linter.unusedSimpArgs false
set_option linter.unusedVariables false
namespace Go.Proofs.YtnmaiokhndbicaaGreatDoor
namespace Rt
open Mth

/-- A node, and its leaves that are not merged. -/
def ownL (t : List TN) (x : Nat) : List Int := (x : Int) :: (nd t x).un.map fun i => 2 * i
def resN (t : List TN) : Nat → Nat → List Int
  | 0, x => bif (nd t x).kd != 0 then ownL t x else []
  | k + 1, x => bif (nd t x).kd != 0 then ownL t x else resN t k (left x) ++ resN t k (right x)
def res (t : List TN) (x : Nat) : List Int := resN t (lvl x) x
theorem res_there {t : List TN} {x : Nat} (h : (nd t x).kd ≠ 0) : res t x = ownL t x := by
  unfold res
  have hb : ((nd t x).kd != 0) = true := by rw [bne_iff_ne]; exact h
  cases lvl x with
  | zero => unfold resN; rw [hb]; rfl
  | succ k => unfold resN; rw [hb]; rfl
theorem res_leaf {t : List TN} {x : Nat} (h : (nd t x).kd = 0) (hl : lvl x = 0) : res t x = [] := by
  unfold res
  rw [hl]
  have hb : ((nd t x).kd != 0) = false := by rw [h]; rfl
  unfold resN; rw [hb]; rfl
theorem kids_lvl {x : Nat} (hx : x < 511) (hl : 0 < lvl x) : lvl (left x) + 1 = lvl x ∧ lvl (right x) + 1 = lvl x ∧ left x < x ∧ x < right x := by
  have hall : (List.range 511).all (fun x => Nat.beq (lvl x) 0 || (Nat.beq (lvl (left x) + 1) (lvl x) && Nat.beq (lvl (right x) + 1) (lvl x) && Nat.blt (left x) x && Nat.blt x (right x))) = true := by decide +kernel
  have h := List.all_eq_true.1 hall x (List.mem_range.2 hx)
  rw [Bool.or_eq_true, Bool.and_eq_true, Bool.and_eq_true, Bool.and_eq_true] at h
  rcases h with h | ⟨⟨⟨h1, h2⟩, h3⟩, h4⟩
  · have := Nat.eq_of_beq_eq_true h; omega
  · exact ⟨Nat.eq_of_beq_eq_true h1, Nat.eq_of_beq_eq_true h2, Nat.le_of_ble_eq_true h3, Nat.le_of_ble_eq_true h4⟩
theorem kids_in {n x : Nat} (hn : n ∈ fulls) (hx : x < 2 * n - 1) (hl : 0 < lvl x) : left x < 2 * n - 1 ∧ right x < 2 * n - 1 := by
  have h := allB_at (p := fun n x => Nat.beq (lvl x) 0 || Nat.blt (right x) (2 * n - 1)) (by decide +kernel) hn hx
  rw [Bool.or_eq_true] at h
  have hb := fulls_le hn
  rcases h with h | h
  · have := Nat.eq_of_beq_eq_true h; omega
  · have h2 : right x < 2 * n - 1 := Nat.le_of_ble_eq_true h
    have := (kids_lvl (x := x) (by omega) hl).2.2
    omega
theorem res_kids {t : List TN} {x : Nat} (h : (nd t x).kd = 0) (hx : x < 511) (hl : 0 < lvl x) : res t x = res t (left x) ++ res t (right x) := by
  obtain ⟨h1, h2, _⟩ := kids_lvl hx hl
  unfold res
  have hb : ((nd t x).kd != 0) = false := by rw [h]; rfl
  rw [show lvl (left x) = lvl x - 1 by omega, show lvl (right x) = lvl x - 1 by omega]
  obtain ⟨k, hk⟩ : ∃ k, lvl x = k + 1 := ⟨lvl x - 1, by omega⟩
  rw [hk]
  unfold resN
  rw [hb]
  cases k <;> rfl

/-- The member i has the key of the node x. -/
def holdB (t : List TN) (i x : Nat) : Bool := lk t i && ((nd t x).kd != 0) && hasB x i && !decide ((i : Int) ∈ (nd t x).un)
def holdI (t : List TN) (i : Nat) (y : Int) : Bool := holdB t i y.toNat
theorem holdB_iff {t : List TN} {i x : Nat} : holdB t i x = true ↔ lk t i = true ∧ (nd t x).kd ≠ 0 ∧ hasB x i = true ∧ (i : Int) ∉ (nd t x).un := by
  unfold holdB
  rw [Bool.and_eq_true, Bool.and_eq_true, Bool.and_eq_true, bne_iff_ne, Bool.not_eq_true', decide_eq_false_iff_not]
  exact ⟨fun ⟨⟨⟨a, b⟩, c⟩, d⟩ => ⟨a, b, c, d⟩, fun ⟨a, b, c, d⟩ => ⟨⟨⟨a, b⟩, c⟩, d⟩⟩

/-- What lies in a resolution: nodes that are there, under the node. -/
structure InRes (t : List TN) (n x : Nat) (y : Int) (z : Nat) : Prop where
  is : y = (z : Int)
  lt : z < 2 * n - 1
  there : (nd t z).kd ≠ 0
  lo' : lo x ≤ lo z
  hi' : Mth.hi z ≤ Mth.hi x
  lv : lvl z ≤ lvl x
theorem InRes.under {t : List TN} {n x z : Nat} {y : Int} (h : InRes t n x y z) : underB z x = true := by
  unfold underB
  rw [Bool.and_eq_true, Bool.and_eq_true]
  exact ⟨⟨Nat.ble_eq_true_of_le h.lo', Nat.ble_eq_true_of_le h.hi'⟩, Nat.ble_eq_true_of_le h.lv⟩
/-- The leaves of a Parent that are not merged. -/
theorem un_leaf {t : List TN} {n x : Nat} (m : MayN t n) (hx : x < 2 * n - 1) {i : Int} (hi : i ∈ (nd t x).un) : x % 2 = 1 ∧ ∃ j : Nat, i = j ∧ hasB x j = true ∧ lk t j = true ∧ 2 * j < 2 * n - 1 ∧ (nd t x).un.Pairwise (· < ·) := by
  have h0 : (nd t x).kd ≠ 0 := fun h => by
    rw [m.blank x hx h] at hi; cases hi
  have ho : x % 2 = 1 := by
    cases Nat.mod_two_eq_zero_or_one x with
    | inl h => rw [(m.leaf x hx h0 h).2] at hi; cases hi
    | inr h => exact h
  obtain ⟨_, _, _, hp, hu⟩ := m.par x hx h0 ho
  obtain ⟨j, rfl, h1, h2, h3, _⟩ := hu i hi
  refine ⟨ho, j, rfl, hasB_iff.2 ⟨h1, h2⟩, h3, ?_, hp⟩
  cases Nat.lt_or_ge (2 * j) (2 * n - 1) with
  | inl h => exact h
  | inr h =>
    unfold lk at h3
    rw [nd_out (by rw [m.len]; omega)] at h3
    cases h3
theorem lk_there {t : List TN} {j : Nat} (h : lk t j = true) : (nd t (2 * j)).kd ≠ 0 := by
  have := of_decide_eq_true h
  omega
theorem res_in {t : List TN} {n : Nat} (m : MayN t n) : ∀ (k x : Nat), lvl x = k → x < 2 * n - 1 → ∀ y ∈ res t x, ∃ z, InRes t n x y z := by
  have hb := fulls_le m.hn
  intro k
  induction k with
  | zero =>
    intro x hk hx y hy
    by_cases h0 : (nd t x).kd = 0
    · rw [res_leaf h0 hk] at hy; cases hy
    · rw [res_there h0] at hy
      rcases List.mem_cons.1 hy with rfl | hy
      · exact ⟨x, rfl, hx, h0, Nat.le_refl _, Nat.le_refl _, Nat.le_refl _⟩
      · obtain ⟨i, hi, rfl⟩ := List.mem_map.1 hy
        have := (un_leaf m hx hi).1
        have := (even_node (x := x) (by omega)).1.2 hk
        omega
  | succ k ih =>
    intro x hk hx y hy
    by_cases h0 : (nd t x).kd = 0
    · rw [res_kids h0 (by omega) (by omega)] at hy
      obtain ⟨c1, c2, c3, c4⟩ := kids_lvl (x := x) (by omega) (by omega)
      obtain ⟨d1, d2⟩ := kids_in m.hn hx (by omega)
      obtain ⟨e1, e2, e3, _⟩ := kids_leaves (x := x) (by omega) (by omega)
      have f1 := (even_node (x := left x) (by omega)).2.2
      have f2 := (even_node (x := right x) (by omega)).2.2
      rcases List.mem_append.1 hy with hy | hy
      · obtain ⟨z, q⟩ := ih (left x) (by omega) d1 y hy
        have := q.lo'; have := q.hi'; have := q.lv
        exact ⟨z, q.is, q.lt, q.there, by omega, by omega, by omega⟩
      · obtain ⟨z, q⟩ := ih (right x) (by omega) d2 y hy
        have := q.lo'; have := q.hi'; have := q.lv
        exact ⟨z, q.is, q.lt, q.there, by omega, by omega, by omega⟩
    · rw [res_there h0] at hy
      rcases List.mem_cons.1 hy with rfl | hy
      · exact ⟨x, rfl, hx, h0, Nat.le_refl _, Nat.le_refl _, Nat.le_refl _⟩
      · obtain ⟨i, hi, rfl⟩ := List.mem_map.1 hy
        obtain ⟨_, j, rfl, h1, h2, h3, _⟩ := un_leaf m hx hi
        obtain ⟨g1, g2⟩ := (even_node (x := 2 * j) (by omega)).2.1 (by omega)
        have g3 := (even_node (x := 2 * j) (by omega)).1.1 (by omega)
        obtain ⟨k1, k2⟩ := hasB_iff.1 h1
        exact ⟨2 * j, by omega, h3, lk_there h2, by omega, by omega, by omega⟩
theorem res_at {t : List TN} {n x : Nat} (m : MayN t n) (hx : x < 2 * n - 1) {y : Int} (hy : y ∈ res t x) : ∃ z, InRes t n x y z := res_in m _ x rfl hx y hy
theorem own_nodup {t : List TN} {n x : Nat} (m : MayN t n) (hx : x < 2 * n - 1) : (ownL t x).Nodup := by
  unfold ownL
  refine List.nodup_cons.2 ⟨fun h => ?_, ?_⟩
  · obtain ⟨i, hi, he⟩ := List.mem_map.1 h
    have := (un_leaf m hx hi).1
    omega
  · by_cases hu : (nd t x).un = []
    · rw [hu]; exact List.Pairwise.nil
    · obtain ⟨i, hi⟩ := List.exists_mem_of_ne_nil _ hu
      obtain ⟨_, _, _, _, _, _, hp⟩ := un_leaf m hx hi
      exact List.pairwise_map.2 (hp.imp fun {a b} h => by omega)
theorem res_nodup {t : List TN} {n : Nat} (m : MayN t n) : ∀ (k x : Nat), lvl x = k → x < 2 * n - 1 → (res t x).Nodup := by
  have hb := fulls_le m.hn
  intro k
  induction k with
  | zero =>
    intro x hk hx
    by_cases h0 : (nd t x).kd = 0
    · rw [res_leaf h0 hk]; exact List.Pairwise.nil
    · rw [res_there h0]; exact own_nodup m hx
  | succ k ih =>
    intro x hk hx
    by_cases h0 : (nd t x).kd = 0
    · rw [res_kids h0 (by omega) (by omega)]
      obtain ⟨c1, c2, c3, c4⟩ := kids_lvl (x := x) (by omega) (by omega)
      obtain ⟨d1, d2⟩ := kids_in m.hn hx (by omega)
      obtain ⟨e1, e2, e3, _⟩ := kids_leaves (x := x) (by omega) (by omega)
      refine List.nodup_append.2 ⟨ih _ (by omega) d1, ih _ (by omega) d2, fun a ha b hb he => ?_⟩
      obtain ⟨z, q⟩ := res_at m d1 ha
      obtain ⟨v, r⟩ := res_at m d2 hb
      have hq := q.lt
      have := (even_node (x := z) (by omega)).2.2
      have hz : z = v := by have := q.is; have := r.is; omega
      subst hz
      have := q.hi'; have := r.lo'
      omega
    · rw [res_there h0]; exact own_nodup m hx
theorem res_nd {t : List TN} {n x : Nat} (m : MayN t n) (hx : x < 2 * n - 1) : (res t x).Nodup := res_nodup m _ x rfl hx
theorem leaf_hold {t : List TN} {n i j : Nat} (m : MayN t n) (hi : lk t i = true) (hj : lk t j = true) (hj2 : 2 * j < 2 * n - 1) : holdB t i (2 * j) = decide (i = j) := by
  have hb := fulls_le m.hn
  have hu := (m.leaf (2 * j) hj2 (lk_there hj) (by omega)).2
  rw [Bool.eq_iff_iff, holdB_iff, decide_eq_true_iff, hu, hasB_leaf (by omega), decide_eq_true_iff]
  exact ⟨fun h => h.2.2.1, fun h => ⟨hi, lk_there hj, h, List.not_mem_nil⟩⟩
theorem count_map {t : List TN} {n i : Nat} (m : MayN t n) (hi : lk t i = true) : ∀ (us : List Int), us.Pairwise (· < ·) → (∀ u ∈ us, ∃ j : Nat, u = j ∧ lk t j = true ∧ 2 * j < 2 * n - 1) →
    (us.map fun i => 2 * i).countP (holdI t i) = if (i : Int) ∈ us then 1 else 0
  | [], _, _ => by simp
  | u :: us, hp, hu => by
    obtain ⟨j, hj, h1, h2⟩ := hu u List.mem_cons_self
    obtain ⟨p1, p2⟩ := List.pairwise_cons.1 hp
    have ih := count_map m hi us p2 fun v hv => hu v (List.mem_cons_of_mem _ hv)
    rw [List.map_cons, List.countP_cons, ih]
    have hh : holdI t i (2 * u) = decide (i = j) := by
      unfold holdI
      rw [show (2 * u).toNat = 2 * j by omega]
      exact leaf_hold m hi h1 h2
    rw [hh]
    by_cases e : i = j
    · subst e
      have hni : (i : Int) ∉ us := fun h => by have := p1 _ h; omega
      rw [if_neg hni, decide_eq_true rfl, if_pos (show (i : Int) ∈ u :: us by rw [hj]; exact List.mem_cons_self)]
      rfl
    · rw [decide_eq_false e]
      by_cases hm : (i : Int) ∈ us
      · rw [if_pos hm, if_pos (List.mem_cons_of_mem _ hm)]; rfl
      · have hn : ¬ (i : Int) ∈ u :: us := fun h => by
          rcases List.mem_cons.1 h with h | h
          · omega
          · exact hm h
        rw [if_neg hm, if_neg hn]
        rfl
theorem own_once {t : List TN} {n i x : Nat} (m : MayN t n) (hi : lk t i = true) (hx : x < 2 * n - 1) (h0 : (nd t x).kd ≠ 0) : (ownL t x).countP (holdI t i) = if hasB x i = true then 1 else 0 := by
  have hx' : holdI t i (x : Int) = (hasB x i && !decide ((i : Int) ∈ (nd t x).un)) := by
    unfold holdI
    rw [Int.toNat_natCast, Bool.eq_iff_iff, holdB_iff, Bool.and_eq_true, Bool.not_eq_true', decide_eq_false_iff_not]
    exact ⟨fun h => ⟨h.2.2.1, h.2.2.2⟩, fun h => ⟨hi, h0, h.1, h.2⟩⟩
  unfold ownL
  rw [List.countP_cons, hx']
  by_cases hu : (nd t x).un = []
  · rw [hu]
    cases hasB x i <;> rfl
  · obtain ⟨v, hv⟩ := List.exists_mem_of_ne_nil _ hu
    obtain ⟨_, _, _, _, _, _, hp⟩ := un_leaf m hx hv
    rw [count_map m hi _ hp fun u h => by
      obtain ⟨_, j, h1, _, h3, h4, _⟩ := un_leaf m hx h
      exact ⟨j, h1, h3, h4⟩]
    by_cases hm : (i : Int) ∈ (nd t x).un
    · obtain ⟨_, j, h1, h2, _⟩ := un_leaf m hx hm
      obtain rfl : i = j := by omega
      rw [if_pos hm, h2, decide_eq_true hm]; rfl
    · rw [if_neg hm, decide_eq_false hm]
      cases hasB x i <;> rfl
/-- Each member under a node holds just one of its resolution. -/
theorem res_once' {t : List TN} {n i : Nat} (m : MayN t n) (hi : lk t i = true) : ∀ (k x : Nat), lvl x = k → x < 2 * n - 1 → (res t x).countP (holdI t i) = if hasB x i = true then 1 else 0 := by
  have hb := fulls_le m.hn
  intro k
  induction k with
  | zero =>
    intro x hk hx
    by_cases h0 : (nd t x).kd = 0
    · rw [res_leaf h0 hk]
      have hev := (even_node (x := x) (by omega)).1.2 hk
      have : hasB x i = false := by
        cases e : hasB x i with
        | false => rfl
        | true =>
          have := (hasB_even (by omega) hev).1 e
          rw [this] at h0
          exact absurd h0 (lk_there hi)
      rw [this]; rfl
    · rw [res_there h0]; exact own_once m hi hx h0
  | succ k ih =>
    intro x hk hx
    by_cases h0 : (nd t x).kd = 0
    · rw [res_kids h0 (by omega) (by omega)]
      obtain ⟨c1, c2, c3, c4⟩ := kids_lvl (x := x) (by omega) (by omega)
      obtain ⟨d1, d2⟩ := kids_in m.hn hx (by omega)
      obtain ⟨e1, e2, e3, _⟩ := kids_leaves (x := x) (by omega) (by omega)
      rw [List.countP_append, ih _ (by omega) d1, ih _ (by omega) d2]
      have f1 := (even_node (x := left x) (by omega)).2.2
      have f2 := (even_node (x := right x) (by omega)).2.2
      by_cases a : hasB (left x) i = true
      · have a' := hasB_iff.1 a
        rw [if_pos a, if_neg (fun h => by have := hasB_iff.1 h; omega), if_pos (hasB_iff.2 (by omega))]
      · by_cases b : hasB (right x) i = true
        · have b' := hasB_iff.1 b
          rw [if_neg a, if_pos b, if_pos (hasB_iff.2 (by omega))]
        · rw [if_neg a, if_neg b, if_neg (fun h => by
            have h := hasB_iff.1 h
            cases Nat.lt_or_ge i (Mth.hi (left x)) with
            | inl c => exact a (hasB_iff.2 (by omega))
            | inr c => exact b (hasB_iff.2 (by omega)))]
    · rw [res_there h0]; exact own_once m hi hx h0
theorem res_once {t : List TN} {n i x : Nat} (m : MayN t n) (hi : lk t i = true) (hx : x < 2 * n - 1) : (res t x).countP (holdI t i) = if hasB x i = true then 1 else 0 := res_once' m hi _ x rfl hx
/-- No resolution has more nodes than the tree. -/
theorem res_len {t : List TN} {n x : Nat} (m : MayN t n) (hx : x < 2 * n - 1) : (res t x).length ≤ 511 := by
  have hb := fulls_le m.hn
  have hn := (List.nodup_iff_pairwise_ne.1 (res_nd m hx))
  have hs : (res t x) ⊆ (List.range 511).map (fun z : Nat => (z : Int)) := fun y hy => by
    obtain ⟨z, q⟩ := res_at m hx hy
    have := q.lt
    exact List.mem_map.2 ⟨z, List.mem_range.2 (by omega), q.is.symm⟩
  have := (res_nd m hx).length_le_of_subset hs
  simpa using this
/-- The first of a resolution that the member holds. -/
def mineF (t : List TN) (i : Nat) : List Int → Int
  | [] => 0
  | y :: l => bif holdI t i y then y else mineF t i l
theorem mine_in {t : List TN} {i : Nat} : ∀ {l : List Int}, l.any (holdI t i) = true → mineF t i l ∈ l
  | [], h => by cases h
  | y :: l, h => by
    unfold mineF
    cases e : holdI t i y with
    | true => exact List.mem_cons_self
    | false =>
      rw [List.any_cons, e] at h
      exact List.mem_cons_of_mem _ (mine_in h)
theorem any_count {p : Int → Bool} {l : List Int} : l.any p = true ↔ 0 < l.countP p := by
  rw [List.any_eq_true, List.countP_pos_iff]
end Rt
end Go.Proofs.YtnmaiokhndbicaaGreatDoor
end

section
/- The statements' helpers of layer 9: few. -/
set_option linter.unusedSimpArgs false
set_option linter.unusedVariables false
namespace Go.Proofs.YtnmaiokhndbicaaGreatDoor
open Go.RowKit
open Rt

def FewH (t : List TN) : Prop := t.length ≤ 70 ∧ ∀ i, i < t.length → (nd t i).un.length ≤ 40
def FewPostH (w : World) (n : Nat) (tts : List (List TN)) (e : Ending) (w' : World) : Prop := (∃ r : Bool, e = .returned (.bool r) ∧ (r = true ↔ ∀ i, i < n → FewH (tts.getD i []))) ∧ Kept w w'
set_option maxHeartbeats 4000000 in
set_option maxRecDepth 100000 in
theorem few09_any {b : Nat} {w : World} {vs : List Value} {tts : List (List TN)} (hb : Blk w b 22 vs) (hn : vs.length ≤ 5) (h : ∀ i, i < vs.length → RdTs w (vs.getD i undef) (tts.getD i [])) :
    Calls Tryz.prog 5 #[.slice (some ⟨b, 0, none⟩) vs.length vs.length] w (FewPostH w vs.length tts) := by
  have n63 : (vs.length : Int) ≤ 5 := by omega
  have HH := Lib.hid h
  clear h
  go_enter Tryz.func5, Tryz.ntmps5
  go_wp2
  go_loopw [9] (fun c wr => ∃ k : Nat, k ≤ vs.length ∧ c = .int .i64 k ∧ (∀ i, i < k → FewH (tts.getD i [])) ∧ Kept w wr) (fun c _ => vs.length - (intOf c).toNat)
  case atStart => exact ⟨0, Nat.zero_le _, rfl, fun i hi => absurd hi (Nat.not_lt_zero _), Kept.refl _⟩
  case round =>
    obtain ⟨k, hk, rfl, hall, hkw⟩ := hrel
    have HAll := Shut.mk hall
    clear hall
    by_cases hlt : k < vs.length
    · have ht := (HH.out k hlt).kept hkw
      have c0 := (hb.kept hkw).cell k
      rw [List.getElem?_eq_getElem hlt] at c0
      have hv : vs.getD k undef = vs[k] := by rw [List.getD_eq_getElem?_getD, List.getElem?_eq_getElem hlt]; rfl
      rw [hv] at ht
      generalize vs[k] = tv at ht c0
      have HT := Shut.mk (rfl : tts.getD k [] = tts.getD k [])
      generalize hg : tts.getD k [] = t at ht
      have HG := Shut.mk hg
      obtain ⟨ta, tc, rfl, t1, t2, t3⟩ := ht.len
      have t63 : ((t.length : Nat) : Int) ≤ 9223372036854775807 := by unfold maxLen at t2; omega
      have k0 : (0 : Int) ≤ (k : Int) := by omega
      have k1 : (k : Int) < (vs.length : Int) := by omega
      clear hg hv
      by_cases h140 : t.length ≤ 70
      · have hd : decide ((70 : Int) < (t.length : Int)) = false := decide_eq_false (by omega)
        have hd2 : ¬ (70 : Int) < (t.length : Int) := by omega
        go_wp2
        go_loopw [18] (fun c w2 => ∃ j : Nat, j ≤ t.length ∧ c = .int .i64 j ∧ (∀ i, i < j → (nd t i).un.length ≤ 40) ∧ Kept wr w2) (fun c _ => t.length - (intOf c).toNat)
        case atStart => exact ⟨0, Nat.zero_le _, rfl, fun i hi => absurd hi (Nat.not_lt_zero _), Kept.refl _⟩
        case round =>
          obtain ⟨j, hj, rfl, hal2, hk2⟩ := hrel
          have HA2 := Shut.mk hal2
          clear hal2
          rename_i w2 _
          by_cases hjl : j < t.length
          · obtain ⟨zb, zo, zc, za, zcc, hzv, hzat, hzun⟩ := ht.at (k := j) hjl
            simp only [Value.slice.injEq] at hzv
            obtain ⟨rfl, -, rfl⟩ := hzv
            obtain ⟨g0, g1, g2, g3, g4, g5⟩ := hzat _ hk2
            have j0 : (0 : Int) ≤ (j : Int) := by omega
            have j1 : (j : Int) < (t.length : Int) := by omega
            obtain ⟨la, lc, hlv, u1, u2, u3⟩ := hzun.len
            have u63 : ((nd t j).un.length : Int) ≤ 9223372036854775807 := by unfold maxLen at u2; omega
            by_cases h70 : (nd t j).un.length ≤ 40
            · have hd3 : ¬ (40 : Int) < ((nd t j).un.length : Int) := by omega
              have H70 := Shut.mk h70
              clear hzat h70
              go_wp2
              go_roundw
              case rel => exact ⟨j + 1, hjl, by go_num, fun i hi => by
                by_cases c : i = j
                · rw [c]; exact H70.out
                · exact HA2.out i (by omega), hk2.alloc _⟩
              case measure => simp [intOf]; omega
            · have hd3 : (40 : Int) < ((nd t j).un.length : Int) := by omega
              have H70 := Shut.mk h70
              clear hzat h70
              go_wp2
              go_ret
              exact ⟨⟨false, rfl, by
                constructor
                · intro h; cases h
                · intro h
                  have := h k hlt
                  rw [HG.out] at this
                  exact absurd (this.2 j hjl) H70.out⟩, (hkw.trans hk2).alloc _⟩
          · have hjn : ¬ (j : Int) < (t.length : Int) := by omega
            have hje : j = t.length := by omega
            have HJe := Shut.mk hje
            clear hje
            go_wp2
            go_roundw
            case rel => exact ⟨k + 1, hlt, by go_num, fun i hi => by
              by_cases c : i = k
              · rw [c, HG.out]; exact ⟨h140, fun q hq => HA2.out q (by rw [HJe.out]; exact hq)⟩
              · exact HAll.out i (by omega), hkw.trans hk2⟩
            case measure => simp [intOf]; omega
      · have hd : decide ((70 : Int) < (t.length : Int)) = true := decide_eq_true (by omega)
        have hd2 : (70 : Int) < (t.length : Int) := by omega
        go_wp2
        go_ret
        exact ⟨⟨false, rfl, by
          constructor
          · intro h; cases h
          · intro h
            have := h k hlt
            rw [HG.out] at this
            exact absurd this.1 h140⟩, hkw⟩
    · have hkn : ¬ (k : Int) < (vs.length : Int) := by omega
      have hke : k = vs.length := by omega
      have HKe := Shut.mk hke
      clear hke
      go_wp2
      go_ret
      exact ⟨⟨true, rfl, fun _ i hi => HAll.out i (by rw [HKe.out]; exact hi), fun _ => rfl⟩, hkw⟩
end Go.Proofs.YtnmaiokhndbicaaGreatDoor
end

section
/- Nodes of the call's own: one is written; walks of the document's answer: there, Members, New. -/
set_option linter.unusedSimpArgs false
set_option linter.unusedVariables false
namespace Go.Proofs.YtnmaiokhndbicaaGreatDoor
open Go.RowKit
open Rt

theorem Ownv.addr0 {B : Nat} {e : TypeId} {size n : Nat} {w : World} {v : Value} {xs : List Value} (h : Ownv B e size w v n xs) (hp : 0 < xs.length) : ∃ g cap, v = .slice (some ⟨g, 0, none⟩) n cap ∧ B ≤ g ∧ g < w.heap.size ∧ n ≤ cap ∧ cap ≤ maxLen := by
  rcases h.2 with ⟨rfl, hx⟩ | ⟨g, cap, cur, rfl, hb, hg, hn, hm, hs, ht⟩
  · have := h.1
    rw [hx, Nat.zero_mul] at this
    omega
  · exact ⟨g, cap, rfl, hb, (Array.getElem?_eq_some_iff.1 hg).1, hn, hm⟩
theorem Ownv.put {B : Nat} {e : TypeId} {size n g cap : Nat} {w : World} {xs : List Value} (h : Ownv B e size w (.slice (some ⟨g, 0, none⟩) n cap) n xs) {i : Nat} (hi : i < n * size) (v : Value) :
    Ownv B e size (w.setCell ⟨g, i, none⟩ v) (.slice (some ⟨g, 0, none⟩) n cap) n (xs.set i v) := by
  refine ⟨by rw [List.length_set]; exact h.1, ?_⟩
  rcases h.2 with ⟨hv, _⟩ | ⟨g', cap', cur, hv, hb, hg, hn, hm, hs, ht⟩
  · cases hv
  · simp only [Value.slice.injEq, Option.some.injEq, Addr.mk.injEq] at hv
    obtain ⟨⟨rfl, _, _⟩, _, rfl⟩ := hv
    refine .inr ⟨g, cap, cur.setIfInBounds i v, rfl, hb, ?_, hn, hm, by simpa using hs, ?_⟩
    · simp [World.setCell, Array.getElem?_modify, hg]
    · rw [← ht]
      simp [List.take_set]
theorem Ownv.free {B : Nat} {e : TypeId} {size n g cap : Nat} {w : World} {xs : List Value} (h : Ownv B e size w (.slice (some ⟨g, 0, none⟩) n cap) n xs) (i : Nat) : w.frozen? ⟨g, i, none⟩ = false := by
  rcases h.2 with ⟨hv, _⟩ | ⟨g', cap', cur, hv, hb, hg, hn, hm, hs, ht⟩
  · cases hv
  · simp only [Value.slice.injEq, Option.some.injEq, Addr.mk.injEq] at hv
    obtain ⟨⟨rfl, _, _⟩, _, rfl⟩ := hv
    simp [World.frozen?, hg]
theorem Ownv.cell0 {B : Nat} {e : TypeId} {size n g cap : Nat} {w : World} {xs : List Value} (h : Ownv B e size w (.slice (some ⟨g, 0, none⟩) n cap) n xs) (i : Nat) {u : Value} (hu : xs[i]? = some u) : w.cell? ⟨g, i, none⟩ = some u := by
  obtain ⟨a, c, hv, h1, h2, h3, h4, h5⟩ := Ownv.rdv h
  simp only [Value.slice.injEq] at hv
  obtain ⟨rfl, _, rfl⟩ := hv
  have := h5 _ rfl i u hu
  rwa [Addr.add_lit, Nat.zero_add] at this
/-- Six cells of one node. -/
def put6 (w : World) (g o : Nat) (d : TN) (lv : Value) : World :=
  (((((w.setCell ⟨g, o, none⟩ (.int .i64 d.kd)).setCell ⟨g, o + 1, none⟩ (.int .i64 d.id)).setCell ⟨g, o + 2, none⟩ (.int .i64 d.enc)).setCell ⟨g, o + 3, none⟩ (.int .i64 d.sig)).setCell ⟨g, o + 4, none⟩ (.int .i64 d.hash)).setCell ⟨g, o + 5, none⟩ lv
theorem put6_turn (w : World) (g o : Nat) (d : TN) (lv : Value) : Turn (fun b => b = g) w (put6 w g o d lv) := by
  have h := fun (w : World) (i : Nat) (v : Value) => turn_setCell w ⟨g, i, none⟩ v
  exact Turn.trans (Turn.trans (Turn.trans (Turn.trans (Turn.trans (h _ _ _) (h _ _ _) (fun x e => .inl e)) (h _ _ _) (fun x e => .inl e)) (h _ _ _) (fun x e => .inl e)) (h _ _ _) (fun x e => .inl e)) (h _ _ _) (fun x e => .inl e)
theorem nd_set {ds : List TN} {x y : Nat} {d : TN} (hx : x < ds.length) : nd (ds.set x d) y = if y = x then d else nd ds y := by
  unfold nd
  rw [List.getD_eq_getElem?_getD, List.getElem?_set]
  by_cases e : x = y
  · rw [if_pos e, if_pos hx, if_pos e.symm]; rfl
  · rw [if_neg e, if_neg (Ne.symm e), List.getD_eq_getElem?_getD]
theorem lv_set {lvs : List Value} {x y : Nat} {v : Value} (hx : x < lvs.length) : (lvs.set x v).getD y undef = if y = x then v else lvs.getD y undef := by
  rw [List.getD_eq_getElem?_getD, List.getElem?_set]
  by_cases e : x = y
  · rw [if_pos e, if_pos hx, if_pos e.symm]; rfl
  · rw [if_neg e, if_neg (Ne.symm e), List.getD_eq_getElem?_getD]
theorem tflat_set {ds : List TN} {lvs : List Value} (hl : lvs.length = ds.length) {x : Nat} (hx : x < ds.length) (d : TN) (lv : Value) :
    ((((((tflat ds lvs).set (x * 6) (.int .i64 d.kd)).set (x * 6 + 1) (.int .i64 d.id)).set (x * 6 + 2) (.int .i64 d.enc)).set (x * 6 + 3) (.int .i64 d.sig)).set (x * 6 + 4) (.int .i64 d.hash)).set (x * 6 + 5) lv = tflat (ds.set x d) (lvs.set x lv) := by
  refine List.ext_getElem? fun q => ?_
  by_cases hq : q < ds.length * 6
  · have e : q = q / 6 * 6 + q % 6 := by omega
    have h6 : q % 6 < 6 := by omega
    have hi : q / 6 < ds.length := by omega
    generalize q / 6 = i at e hi
    generalize q % 6 = j at e h6
    subst e
    rw [tflat_at (ds.set x d) (lvs.set x lv) i j (by simpa using hi) h6, nd_set hx, lv_set (by omega)]
    simp only [List.getElem?_set, List.length_set, tflat_length]
    by_cases c : i = x
    · subst c
      rw [if_pos rfl, if_pos rfl]
      have : j = 0 ∨ j = 1 ∨ j = 2 ∨ j = 3 ∨ j = 4 ∨ j = 5 := by omega
      rcases this with rfl | rfl | rfl | rfl | rfl | rfl <;> simp [tnCells] <;> omega
    · rw [if_neg c, if_neg c, if_neg (by omega), if_neg (by omega), if_neg (by omega), if_neg (by omega), if_neg (by omega), if_neg (by omega)]
      exact tflat_at ds lvs i j hi h6
  · rw [List.getElem?_eq_none (by simp [tflat_length]; omega), List.getElem?_eq_none (by rw [tflat_length]; simp; omega)]
/-- One node of the call's own is written. -/
theorem OwnT.put {B g cap : Nat} {w : World} {ds : List TN} {lvs : List Value} (h : OwnT B w (.slice (some ⟨g, 0, none⟩) ds.length cap) ds lvs) {x : Nat} (hx : x < ds.length) (d : TN) (lv : Value) (hlv : OwnI B w lv d.un)
    (hap : ∀ i, i < ds.length → i ≠ x → ∀ b, Blks lv b → ¬ Blks (lvs.getD i undef) b) : OwnT B (put6 w g (x * 6) d lv) (.slice (some ⟨g, 0, none⟩) ds.length cap) (ds.set x d) (lvs.set x lv) := by
  have ht := put6_turn w g (x * 6) d lv
  have hrow := (((((h.row.put (i := x * 6) (by omega) (.int .i64 d.kd)).put (i := x * 6 + 1) (by omega) (.int .i64 d.id)).put (i := x * 6 + 2) (by omega) (.int .i64 d.enc)).put (i := x * 6 + 3) (by omega) (.int .i64 d.sig)).put (i := x * 6 + 4) (by omega) (.int .i64 d.hash)).put (i := x * 6 + 5) (by omega) lv
  rw [tflat_set h.len hx] at hrow
  have hint : ∀ {v : Value} {zs : List Int}, OwnI B w v zs → OwnI B (put6 w g (x * 6) d lv) v zs := fun ho => Ownv.turn ho ht fun b hb e => by
    subst e
    exact Ownv.apart ho h.row (by decide) hb rfl
  refine ⟨by rw [List.length_set]; exact hrow, by simp [h.len], fun i hi => ?_, fun i j hi hj hij => ?_⟩
  · rw [List.length_set] at hi
    rw [nd_set hx, lv_set (by rw [h.len]; exact hx)]
    by_cases c : i = x
    · rw [if_pos c, if_pos c]; exact hint hlv
    · rw [if_neg c, if_neg c]; exact hint (h.un i hi)
  · rw [List.length_set] at hi hj
    rw [lv_set (by rw [h.len]; exact hx), lv_set (by rw [h.len]; exact hx)]
    by_cases c : i = x
    · rw [if_pos c, if_neg (by omega)]
      exact hap j hj (by omega)
    · rw [if_neg c]
      by_cases c2 : j = x
      · rw [if_pos c2]
        exact fun b h1 h2 => hap i hi c b h2 h1
      · rw [if_neg c2]; exact h.apart i j hi hj hij
/-- Nodes that lie in a row g of the call's own; their Unmerged are read whatever is written into that row. -/
structure RowT (B g cap : Nat) (w : World) (ds : List TN) (lvs : List Value) : Prop where
  row : Ownv B 29 6 w (.slice (some ⟨g, 0, none⟩) ds.length cap) ds.length (tflat ds lvs)
  len : lvs.length = ds.length
  un : ∀ i, i < ds.length → ∀ W, Turn (fun b => b = g) w W → RdI W (lvs.getD i undef) (nd ds i).un
theorem OwnT.rowT {B g cap : Nat} {w : World} {ds : List TN} {lvs : List Value} (h : OwnT B w (.slice (some ⟨g, 0, none⟩) ds.length cap) ds lvs) : RowT B g cap w ds lvs :=
  ⟨h.row, h.len, fun i hi W t => OwnI.rd (Ownv.turn (h.un i hi) t fun b hb e => by
    subst e
    exact Ownv.apart (h.un i hi) h.row (by decide) hb rfl)⟩
theorem RowT.rd {B g cap : Nat} {w : World} {ds : List TN} {lvs : List Value} (h : RowT B g cap w ds lvs) : RdTs w (.slice (some ⟨g, 0, none⟩) ds.length cap) ds :=
  ⟨lvs, h.len, Ownv.rdv h.row, fun i hi => h.un i hi w (Turn.refl _ _)⟩
theorem RowT.kept {B g cap : Nat} {w w' : World} {ds : List TN} {lvs : List Value} (h : RowT B g cap w ds lvs) (k : Kept w w') : RowT B g cap w' ds lvs :=
  ⟨Ownv.kept h.row k, h.len, fun i hi W t => h.un i hi W (Turn.trans (k.turn _) t fun b e => .inl e)⟩
theorem RowT.lt {B g cap : Nat} {w : World} {ds : List TN} {lvs : List Value} (h : RowT B g cap w ds lvs) : g < w.heap.size ∧ B ≤ g := Ownv.lt h.row rfl
theorem RowT.put {B g cap : Nat} {w : World} {ds : List TN} {lvs : List Value} (h : RowT B g cap w ds lvs) {x : Nat} (hx : x < ds.length) (d : TN) (lv : Value) (hlv : ∀ W, Turn (fun b => b = g) w W → RdI W lv d.un) :
    RowT B g cap (put6 w g (x * 6) d lv) (ds.set x d) (lvs.set x lv) := by
  have ht := put6_turn w g (x * 6) d lv
  have hrow := (((((h.row.put (i := x * 6) (by omega) (.int .i64 d.kd)).put (i := x * 6 + 1) (by omega) (.int .i64 d.id)).put (i := x * 6 + 2) (by omega) (.int .i64 d.enc)).put (i := x * 6 + 3) (by omega) (.int .i64 d.sig)).put (i := x * 6 + 4) (by omega) (.int .i64 d.hash)).put (i := x * 6 + 5) (by omega) lv
  rw [tflat_set h.len hx] at hrow
  refine ⟨by rw [List.length_set]; exact hrow, by simp [h.len], fun i hi W t => ?_⟩
  rw [List.length_set] at hi
  have t2 : Turn (fun b => b = g) w W := Turn.trans ht t fun b e => .inl e
  rw [nd_set hx, lv_set (by rw [h.len]; exact hx)]
  by_cases c : i = x
  · rw [if_pos c, if_pos c]; exact hlv W t2
  · rw [if_neg c, if_neg c]; exact h.un i hi W t2
theorem RdI.empty {w w' : World} {v : Value} (h : RdI w v []) : RdI w' v [] := by
  obtain ⟨a, cap, rfl, h1, h2, h3, h4, _⟩ := h
  exact ⟨a, cap, rfl, h1, h2, h3, h4, fun ad _ j u hj => by simp at hj⟩
theorem RowT.cells {B g cap : Nat} {w : World} {us : List TN} {lvs : List Value} (h : RowT B g cap w us lvs) {x : Nat} (hx : x < us.length) :
    ∃ lv, TnAt w g (x * 6) (nd us x) lv ∧ ∀ q, w.frozen? ⟨g, q, none⟩ = false := by
  have hat := fun j hj => (tflat_at us lvs x j hx hj)
  refine ⟨lvs.getD x undef, ⟨?_, ?_, ?_, ?_, ?_, ?_⟩, fun q => Ownv.free h.row q⟩
  · exact Ownv.cell0 h.row (x * 6) ((hat 0 (by omega)).trans rfl)
  · exact Ownv.cell0 h.row (x * 6 + 1) ((hat 1 (by omega)).trans rfl)
  · exact Ownv.cell0 h.row (x * 6 + 2) ((hat 2 (by omega)).trans rfl)
  · exact Ownv.cell0 h.row (x * 6 + 3) ((hat 3 (by omega)).trans rfl)
  · exact Ownv.cell0 h.row (x * 6 + 4) ((hat 4 (by omega)).trans rfl)
  · exact Ownv.cell0 h.row (x * 6 + 5) ((hat 5 (by omega)).trans rfl)
end Go.Proofs.YtnmaiokhndbicaaGreatDoor
end

section
/- Walks of the document's answer: there, New. -/
set_option linter.unusedSimpArgs false
set_option linter.unusedVariables false
namespace Go.Proofs.YtnmaiokhndbicaaGreatDoor
open Go.RowKit
open Rt

/-! ## there, Members, New -/
def thI (t : List TN) (i : Int) : Int := bif chkB t then (bif decide (i < 0) || decide ((lvs t.length : Int) ≤ i) || !lk t i.toNat then 4 else 0) else 1
/-- What a call leaves that answers a tree, or an error: the tree is new. -/
def TreePost (w : World) (ts : List TN) (er : Int) (e : Ending) (w' : World) : Prop := ∃ v, e = .returned (.tuple #[v, .int .i64 er]) ∧ RdTs w' v ts ∧ (∀ b, Blks v b → w.heap.size ≤ b) ∧ Kept w w'
end Go.Proofs.YtnmaiokhndbicaaGreatDoor
end

section
/- Walks: climb, Path, Copath. -/
set_option linter.unusedSimpArgs false
set_option linter.unusedVariables false
namespace Go.Proofs.YtnmaiokhndbicaaGreatDoor
open Go.RowKit

/-- What 't' says of x and of each node above it, i of them. -/
def cl (t : Nat → Nat) (x i : Nat) : List Int := (List.range i).map fun j => ((t (Mth.itr j x) : Nat) : Int)
theorem cl_len (t : Nat → Nat) (x i : Nat) : (cl t x i).length = i := by simp [cl]
theorem cl_succ (t : Nat → Nat) (x i : Nat) : cl t x (i + 1) = cl t x i ++ [((t (Mth.itr i x) : Nat) : Int)] := by
  unfold cl
  rw [List.range_succ, List.map_append]; rfl
def slen : Value → Nat
  | .slice _ n _ => n
  | _ => 0
def ClimbPost (w : World) (l : List Int) (e : Ending) (w' : World) : Prop := ∃ v, e = .returned v ∧ RdI w' v l ∧ Kept w w'
theorem lvl_top {n : Nat} (hn : n ∈ Mth.fulls) : Mth.lvl (n - 1) ≤ 8 := by
  have : ∀ m ∈ Mth.fulls, Mth.lvl (m - 1) ≤ 8 := by decide +kernel
  exact this n hn
set_option maxHeartbeats 1000000 in
theorem climb_any (t : Nat → Nat) (g : Nat) (eg : ∀ args w, (callFunc g args).run Tryz.prog w = .ok (.enter g args) w)
    (hG : ∀ (y : Nat) (W : World), y < 511 → TabsM W → Calls Tryz.prog g #[.int .i64 (y : Int)] W fun e w' => e = .returned (.int .i64 (t y : Nat)) ∧ Kept W w')
    (x n : Nat) (hn : n ∈ Mth.fulls) (hx : x < 2 * n - 1) (w : World) (ht : TabsM w) :
    Calls Tryz.prog 132 #[.int .i64 x, .int .i64 n, .func (.func g) #[] #[]] w (ClimbPost w (cl t x (Mth.lvl (n - 1) - Mth.lvl x))) := by
  have hp := Mth.path_of hn hx
  have hbd := fulls_bd hn
  have hl8 := lvl_top hn
  have HR := Lib.hid (fun W => root_any (n : Int) W (by omega) (by omega))
  have HG := Lib.hid hG
  clear hG
  have hlast := hp.last
  have hL8 : Mth.lvl (n - 1) - Mth.lvl x ≤ 8 := by omega
  have hat := hp.at'
  generalize Mth.lvl (n - 1) - Mth.lvl x = L at hlast hat hL8 ⊢
  have HLast := Shut.mk hlast
  have HAt := Shut.mk hat
  have HL := Shut.mk hL8
  clear hlast hat hp hL8
  have hn1 : (1 : Int) ≤ (n : Int) := by omega
  have hn2 : (n : Int) ≤ 256 := by omega
  go_enter Tryz.func132, Tryz.ntmps132
  go_wp2
  go_loopw [0, 7] (fun y l wr => ∃ i : Nat, i ≤ L ∧ y = .int .i64 (Mth.itr i x : Nat) ∧ (∃ v, v = l ∧ OwnI w.heap.size wr v (cl t x i) ∧ slen v = i) ∧ Kept w wr) (fun _ l _ => L - slen l)
  case atStart => exact ⟨0, Nat.zero_le _, rfl, ⟨_, rfl, OwnI.nil _ _, rfl⟩, Kept.refl _⟩
  case round =>
    obtain ⟨i, hi, rfl, ⟨v, rfl, ho, hs⟩, hk⟩ := hrel
    have HS := Shut.mk hs
    clear hs
    by_cases hlt : i < L
    · obtain ⟨_, _, a3, a4, _⟩ := HAt.out i hlt
      have hm : Mth.itr i x < 511 := by omega
      have HSucc := Shut.mk (Mth.itr_succ i x)
      have HCl := Shut.mk (cl_succ t x i)
      have HTy := Lib.hid (fun W k => HG.out (Mth.itr i x) W hm (ht.kept (Kept.trans hk k)))
      have HPy := Lib.hid (fun W (k : Kept w W) => parent_any (Mth.itr i x) hm W (ht.kept k))
      have hne : ((Mth.itr i x : Int) != (n : Int) - 1) = true := by simp; omega
      generalize Mth.itr i x = y at HSucc HCl HTy HPy hne
      generalize t y = ty at HCl HTy
      clear a3 a4 hm
      go_wp2_with (go_at_call 101; refine (HR.out _).mono ?_; rintro e w' ⟨rfl, rfl⟩)
      refine (HTy.out _ (Kept.refl _)).mono ?_
      rintro e w2 ⟨rfl, hk2⟩
      have hsz := (hk.trans hk2).size
      have hk2a := (hk.trans hk2).alloc (.cells #[.int .i64 (ty : Int)] 3)
      have o2 := Ownv.kept (Ownv.kept ho hk2) ((Kept.refl w2).alloc (.cells #[.int .i64 (ty : Int)] 3))
      have hlen : (cl t x i).length + 1 ≤ 10000000000 := by rw [cl_len]; have := HL.out; omega
      go_wp2_with (at_builtin; refine go_appi w.heap.size v (cl t x i) rfl o2 _ [(ty : Int)] rfl (OwnI.rd (OwnI.lit1 w2 _)) hlen (by simp; omega) ?_; intro v6 w6 o6 t6 l6; have k6 : Kept w w6 := Turn.keptOf hk2a t6 (fun b hb => (Ownv.lt o2 hb).2))
      refine (HPy.out _ k6).mono ?_
      rintro e w7 ⟨rfl, hk7⟩
      go_wp2
      go_roundw
      case rel => exact ⟨i + 1, hlt, by rw [HSucc.out], ⟨v6, rfl, by rw [HCl.out]; exact Ownv.kept o6 hk7, by
        obtain ⟨a6, c6, rfl, _⟩ := (OwnI.rd o6).len
        show (cl t x i ++ [(ty : Int)]).length = i + 1
        rw [List.length_append, cl_len]; rfl⟩, k6.trans hk7⟩
      case measure =>
        obtain ⟨a6, c6, rfl, _⟩ := (OwnI.rd o6).len
        have := HS.out
        show L - (cl t x i ++ [(ty : Int)]).length < L - slen v
        rw [List.length_append, cl_len, this]
        simp
        omega
    · have e : i = L := by omega
      have hlst := HLast.out
      rw [← e] at hlst
      have hne : ((Mth.itr i x : Int) != (n : Int) - 1) = false := by simp; omega
      have HE := Shut.mk e
      clear e hlst hlt
      generalize Mth.itr i x = y at hne
      go_wp2_with (go_at_call 101; refine (HR.out _).mono ?_; rintro e w' ⟨rfl, rfl⟩)
      go_ret
      exact ⟨_, rfl, by rw [← HE.out]; exact OwnI.rd ho, hk⟩
def ints (l : List Nat) : List Int := l.map fun y : Nat => (y : Int)
theorem ints_len (l : List Nat) : (ints l).length = l.length := by simp [ints]
theorem ints_get {l : List Nat} {i : Nat} (h : i < l.length) : (ints l).getD i 0 = ((l.getD i 0 : Nat) : Int) := by
  rw [List.getD_eq_getElem?_getD, List.getD_eq_getElem?_getD, List.getElem?_eq_getElem (by rw [ints_len]; exact h), List.getElem?_eq_getElem h]
  simp [ints]
theorem cl_of (t : Nat → Nat) (x L : Nat) (l : List Nat) (hl : l.length = L) (h : ∀ i, i < L → l.getD i 0 = t (Mth.itr i x)) : cl t x L = ints l := by
  refine List.ext_getElem (by simp [cl, ints, hl]) fun i h1 h2 => ?_
  have hi : i < L := by simpa [cl] using h1
  have := h i hi
  rw [List.getD_eq_getElem?_getD, List.getElem?_eq_getElem (by omega), Option.getD_some] at this
  simp only [cl, ints, List.getElem_map, List.getElem_range, this]
theorem cl_path {x n : Nat} (hn : n ∈ Mth.fulls) (hx : x < 2 * n - 1) : cl Mth.par x (Mth.lvl (n - 1) - Mth.lvl x) = ints (Mth.path x n) := by
  have hp := Mth.path_of hn hx
  exact cl_of _ _ _ _ hp.len fun i hi => ((hp.at' i hi).1).trans (Mth.itr_succ i x)
theorem cl_copath {x n : Nat} (hn : n ∈ Mth.fulls) (hx : x < 2 * n - 1) : cl Mth.sib x (Mth.lvl (n - 1) - Mth.lvl x) = ints (Mth.copath x n) := by
  have hp := Mth.path_of hn hx
  exact cl_of _ _ _ _ hp.clen fun i hi => (hp.at' i hi).2.1
/-- What a call leaves that answers numbers, or an error. -/
def ListPost (w : World) (b : Bool) (l : List Int) (e : Ending) (w' : World) : Prop := ∃ v, e = .returned (.tuple #[v, .int .i64 (er b)]) ∧ RdI w' v (bif b then l else []) ∧ Kept w w'
theorem Path1_any (b c : Nat) (x n : Nat) (hn : n ∈ Mth.fulls) (hx : x < 2 * n - 1) (w : World) (hb : w.cell? ⟨b, 0, none⟩ = some (.int .i64 x)) (hc : w.cell? ⟨c, 0, none⟩ = some (.int .i64 n)) (ht : TabsM w) :
    Calls Tryz.prog 131 #[.pointer (some ⟨b, 0, none⟩), .pointer (some ⟨c, 0, none⟩)] w (ClimbPost w (ints (Mth.path x n))) := by
  have HC := Lib.hid (climb_any Mth.par 74 (enters_of Tryz.func74 (by kernel_rfl) rfl) (fun y W h t => parent_any y h W t) x n hn hx w ht)
  rw [cl_path hn hx] at HC
  go_enter Tryz.func131, Tryz.ntmps131
  go_wp2_with fail
  refine HC.out.mono ?_
  rintro e w' ⟨v, rfl, hr, hk⟩
  go_wp2
  go_ret
  exact ⟨_, rfl, hr, hk⟩
theorem Path_any (x n : Int) (w : World) (hx : I64 x) (hn : I64 n) (ht : TabsM w) : Calls Tryz.prog 116 #[.int .i64 x, .int .i64 n] w (ListPost w (inB x n) (ints (Mth.path x.toNat n.toNat))) := by
  have HA := Lib.hid (fun w => within_any x n w hx hn)
  have hk0 : Kept w ((w.alloc (.cells #[.int .i64 x] 3)).alloc (.cells #[.int .i64 n] 3)) := ((Kept.refl w).alloc _).alloc _
  have ht1 := ht.kept hk0
  cases hi : inB x n with
  | false =>
    rw [hi] at HA
    clear hi
    go_enter Tryz.func116, Tryz.ntmps116
    go_wp2_with (first | (go_at_call 100; refine (HA.out _).mono ?_; rintro e w' ⟨rfl, rfl⟩) | (go_at_call 130; refine (told_noL _ _).mono ?_; rintro e w' ⟨rfl, rfl⟩))
    go_ret2
    exact ⟨_, rfl, RdI.nil _, hk0⟩
  | true =>
    obtain ⟨m, k, hm, hkk, hkf, h4, h5⟩ := in_nat hi
    subst hm hkk
    have hb : ((w.alloc (.cells #[.int .i64 (m : Int)] 3)).alloc (.cells #[.int .i64 (k : Int)] 3)).cell? ⟨w.heap.size, 0, none⟩ = some (.int .i64 m) := by
      rw [Below.cell (p := ⟨w.heap.size, 0, none⟩) ((Kept.refl _).alloc _) (by simp)]; exact cell_box _ _ _
    have hc : ((w.alloc (.cells #[.int .i64 (m : Int)] 3)).alloc (.cells #[.int .i64 (k : Int)] 3)).cell? ⟨w.heap.size + 1, 0, none⟩ = some (.int .i64 k) := by
      have := cell_box (w.alloc (.cells #[.int .i64 (m : Int)] 3)) (.int .i64 (k : Int)) 3
      rwa [alloc_size] at this
    have HT := Lib.hid (told_yesL (P := fun v w' => RdI w' v (ints (Mth.path m k)) ∧ Kept _ w') (enters_of Tryz.func131 (by kernel_rfl) rfl) (Path1_any w.heap.size (w.heap.size + 1) m k hkf h4 _ hb hc ht1))
    rw [hi] at HA
    clear hi hb hc
    go_enter Tryz.func116, Tryz.ntmps116
    go_wp2_with (first | (go_at_call 100; refine (HA.out _).mono ?_; rintro e w' ⟨rfl, rfl⟩) | (go_at_call 130; refine HT.out.mono ?_; rintro e w' ⟨v, rfl, hr, hk⟩))
    go_ret2
    exact ⟨_, rfl, hr, hk0.trans hk⟩
end Go.Proofs.YtnmaiokhndbicaaGreatDoor
end

section
/- Walks of the document's answer: Parent, Sibling, Path, Copath. -/
set_option linter.unusedSimpArgs false
set_option linter.unusedVariables false
namespace Go.Proofs.YtnmaiokhndbicaaGreatDoor
open Go.RowKit

theorem kid_par {x p : Nat} (hp : p < 511) (hl : 0 < Mth.lvl p) : (Mth.left p = x → Mth.par x = p) ∧ (Mth.right p = x → Mth.par x = p) := by
  obtain ⟨_, _, _, _, _, _, h1, h2, _, _⟩ := Mth.kids_leaves hp hl
  exact ⟨fun e => by rw [← e]; exact h1, fun e => by rw [← e]; exact h2⟩
theorem par_root {n : Nat} (hn : n ∈ Mth.fulls) : Mth.par (n - 1) = 2 * n - 1 := by
  have : ∀ m ∈ Mth.fulls, Mth.par (m - 1) = 2 * m - 1 := by decide +kernel
  exact this n hn
theorem kidB_pos {p : Nat} (hp : p < 511) (hl : 0 < Mth.lvl p) : kidB (p : Int) = true := by rw [kidB_nat hp, decide_eq_true hl]
theorem kidB_neg {p : Nat} (hp : p < 511) (hl : ¬ 0 < Mth.lvl p) : kidB (p : Int) = false := by rw [kidB_nat hp, decide_eq_false hl]
theorem upB_nat {m k : Nat} (hk : k ∈ Mth.fulls) (h : m < 2 * k - 1) : upB (m : Int) (k : Int) = decide (m ≠ k - 1) := by
  have := (fulls_bd hk).1
  unfold upB
  rw [nat_in hk h, Bool.true_and]
  by_cases e : m = k - 1
  · rw [decide_eq_false (by simpa using e)]; simp; omega
  · rw [decide_eq_true e]; simp; omega
end Go.Proofs.YtnmaiokhndbicaaGreatDoor
end

section
/- Walks of the document's answer: Sibling, Path, Copath. -/
set_option linter.unusedSimpArgs false
set_option linter.unusedVariables false
namespace Go.Proofs.YtnmaiokhndbicaaGreatDoor
open Go.RowKit

theorem er_true : er true = 0 := rfl
theorem er_false : er false = 1 := rfl
/-- What a call leaves that answers numbers of its own, or an error. -/
def OwnPost (w : World) (b : Bool) (l : List Int) (e : Ending) (w' : World) : Prop := ∃ v, e = .returned (.tuple #[v, .int .i64 (er b)]) ∧ OwnI w.heap.size w' v (bif b then l else []) ∧ Kept w w'
end Go.Proofs.YtnmaiokhndbicaaGreatDoor
end

section
/- Walks of the document's answer: blank. -/
set_option linter.unusedSimpArgs false
set_option linter.unusedVariables false
namespace Go.Proofs.YtnmaiokhndbicaaGreatDoor
open Go.RowKit
open Rt

theorem path_mem {n i x : Nat} (hn : n ∈ Mth.fulls) (hi : i < n) (hx : x < 2 * n - 1) : x ∈ Mth.path (2 * i) n ↔ (Mth.hasB x i = true ∧ x ≠ 2 * i) := by
  have hb := fulls_bd hn
  have hi2 : 2 * i < 2 * n - 1 := by omega
  have hp := Mth.path_of hn hi2
  have hl0 : Mth.lvl (2 * i) = 0 := (Mth.top_at hn hi2).leaf (by omega) |>.1
  have hpl : (Mth.path (2 * i) n).length = _ := hp.len
  constructor
  · intro h
    obtain ⟨c, hc, hg⟩ := List.getElem_of_mem h
    have h1 := (hp.at' c (by omega)).1
    have h1 : (Mth.path (2 * i) n).getD c 0 = Mth.itr (c + 1) (2 * i) := h1
    rw [List.getD_eq_getElem?_getD, List.getElem?_eq_getElem hc, hg] at h1
    have h1 : x = Mth.itr (c + 1) (2 * i) := h1
    have hlv : Mth.lvl x = c + 1 := by
      have h5 := (hp.at' c (by omega)).2.2
      have st := Mth.step_at hn h5.1 h5.2.1
      rw [h1, Mth.itr_succ, st.up]
      omega
    have hup : ∀ k, k ≤ Mth.lvl (n - 1) - Mth.lvl (2 * i) → Mth.hasB (Mth.itr k (2 * i)) i = true := by
      intro k
      induction k with
      | zero => intro _; rw [show Mth.itr 0 (2 * i) = 2 * i from rfl, hasB_leaf (by omega)]; exact decide_eq_true rfl
      | succ k ih =>
        intro hk
        have h5 := (hp.at' k (by omega)).2.2
        have st := Mth.step_at hn h5.1 h5.2.1
        obtain ⟨a, b⟩ := Mth.hasB_iff.1 (ih (by omega))
        rw [Mth.itr_succ]
        exact Mth.hasB_iff.2 ⟨by rw [st.lo']; omega, by rw [st.hi']; omega⟩
    refine ⟨by rw [h1]; exact hup _ (by omega), fun e => ?_⟩
    rw [e, hl0] at hlv; omega
  · rintro ⟨h1, h2⟩
    have hit := itr_node (by omega : x < 511) h1
    have hle := (Mth.top_at hn hx).le
    have hl : Mth.lvl x ≠ 0 := fun e => by
      have := (even_node (by omega : x < 511)).1.2 e
      have := (hasB_even (by omega : x < 511) this).1 h1
      exact h2 this
    have h3 := (hp.at' (Mth.lvl x - 1) (by omega)).1
    have h3 : (Mth.path (2 * i) n).getD (Mth.lvl x - 1) 0 = Mth.itr (Mth.lvl x - 1 + 1) (2 * i) := h3
    rw [show Mth.lvl x - 1 + 1 = Mth.lvl x by omega, hit] at h3
    rw [← h3, List.getD_eq_getElem?_getD, List.getElem?_eq_getElem (by omega)]
    exact List.getElem_mem _
theorem takeN_snoc {l : List Nat} {c : Nat} (h : c < l.length) : l.take (c + 1) = l.take c ++ [l.getD c 0] := by
  rw [List.take_succ_eq_append_getElem h, List.getD_eq_getElem?_getD, List.getElem?_eq_getElem h]; rfl
/-- What blank leaves: all above a leaf are blank. -/
def BlankPost (B g cap : Nat) (w : World) (ds : List TN) (i : Nat) (e : Ending) (w' : World) : Prop :=
  e = .returned (.tuple #[]) ∧ ∃ us lvs, RowT B g cap w' us lvs ∧ us.length = ds.length ∧ (∀ x, x < ds.length → nd us x = if Mth.hasB x i = true ∧ x ≠ 2 * i then tn0 else nd ds x) ∧ Turn (fun b => b = g) w w'
end Go.Proofs.YtnmaiokhndbicaaGreatDoor
end

section
/- Walks of the document's answer: Update, Remove. -/
set_option linter.unusedSimpArgs false
set_option linter.unusedVariables false
namespace Go.Proofs.YtnmaiokhndbicaaGreatDoor
open Go.RowKit
open Rt

theorem may_un {t : List TN} {n : Nat} (m : MayN t n) : ∀ d ∈ t, d.un.length ≤ 1000 := by
  intro d hd
  obtain ⟨x, hx, hg⟩ := List.getElem_of_mem hd
  have hxn : x < 2 * n - 1 := by rw [← m.len]; exact hx
  have hb := fulls_bd m.hn
  have e : nd t x = d := by rw [nd_get hx, hg]
  by_cases h0 : (nd t x).kd = 0
  · have := m.blank x hxn h0
    rw [← e, this]; simp [tn0]
  · by_cases h1 : x % 2 = 0
    · have := (m.leaf x hxn h0 h1).2
      rw [← e, this]; simp
    · obtain ⟨_, _, _, hp, hu⟩ := m.par x hxn h0 (by omega)
      rw [e] at hp hu
      have hnd : (d.un.map Int.toNat).Nodup := by
        rw [List.Nodup, List.pairwise_map]
        refine List.Pairwise.imp_of_mem (fun {a b} ha hb' hab h => ?_) hp
        obtain ⟨j, rfl, _⟩ := hu a ha
        obtain ⟨k, rfl, _⟩ := hu b hb'
        rw [Int.toNat_natCast, Int.toNat_natCast] at h
        omega
      have hsub : ∀ k ∈ d.un.map Int.toNat, k ∈ List.range 256 := by
        intro k hk
        obtain ⟨a, ha, rfl⟩ := List.mem_map.1 hk
        obtain ⟨j, rfl, _, h2, _⟩ := hu a ha
        have := hi_le m.hn hxn
        rw [Int.toNat_natCast]
        exact List.mem_range.2 (by omega)
      have := List.Nodup.length_le_of_subset hnd hsub
      simp at this
      omega
theorem updT_eq {t us : List TN} {n i : Nat} {l : TN} (hlen : t.length = 2 * n - 1) (hul : us.length = t.length) (hi : i < n) (hn : n ∈ Mth.fulls)
    (h : ∀ x, x < t.length → nd us x = if Mth.hasB x i = true ∧ x ≠ 2 * i then tn0 else nd (t.set (2 * i) l) x) : us = tab t.length (updG t i l) := by
  refine tn_ext (by rw [tab_len]; exact hul) fun x hx => ?_
  rw [hul] at hx
  rw [h x hx, tab_nd hx]
  have hb := fulls_bd hn
  unfold updG blkG
  rw [nd_set (by omega)]
  by_cases c : x = 2 * i
  · rw [if_neg (fun q => q.2 c), if_pos c, if_pos c]
  · rw [if_neg c]
    cases hh : Mth.hasB x i with
    | true => rw [if_pos ⟨rfl, c⟩, if_neg c]; rfl
    | false => rw [if_neg (fun q => by cases q.1), if_neg c]; rfl
/-- What Update answers. -/
def updE (t : List TN) (i : Int) (l : TN) : Int := bif leafB l then thI t i else 1
def updT (t : List TN) (i : Int) (l : TN) : List TN := bif leafB l && decide (thI t i = 0) then tab t.length (updG t i.toNat l) else []
theorem thI_ok {t : List TN} {i : Int} (h : thI t i = 0) : ∃ (n j : Nat), i = j ∧ j < n ∧ May t n ∧ lk t j = true := by
  unfold thI at h
  cases hc : chkB t with
  | false => rw [hc] at h; cases h
  | true =>
    rw [hc] at h
    have hm := chkB_may.1 hc
    cases hq : (decide (i < 0) || decide ((lvs t.length : Int) ≤ i) || !lk t i.toNat) with
    | true => rw [hq] at h; cases h
    | false =>
      rw [Bool.or_eq_false_iff, Bool.or_eq_false_iff] at hq
      have h1 := of_decide_eq_false hq.1.1
      have h2 := of_decide_eq_false hq.1.2
      exact ⟨lvs t.length, i.toNat, by omega, by omega, hm, by simpa using hq.2⟩
theorem thI_cases (t : List TN) (i : Int) : thI t i = 0 ∨ thI t i = 1 ∨ thI t i = 4 := by
  unfold thI
  cases chkB t with
  | false => exact .inr (.inl rfl)
  | true =>
    cases (decide (i < 0) || decide ((lvs t.length : Int) ≤ i) || !lk t i.toNat) with
    | true => exact .inr (.inr rfl)
    | false => exact .inl rfl
end Go.Proofs.YtnmaiokhndbicaaGreatDoor
end

section
/- Walks of the document's answer: Remove. -/
set_option linter.unusedSimpArgs false
set_option linter.unusedVariables false
namespace Go.Proofs.YtnmaiokhndbicaaGreatDoor
open Go.RowKit
open Rt

theorem tflat_take (us : List TN) (ls : List Value) (k : Nat) : tflat (us.take k) (ls.take k) = (tflat us ls).take (k * 6) := by
  induction us generalizing ls k with
  | nil => simp [tflat]
  | cons d us ih =>
    cases k with
    | zero => simp [tflat]
    | succ k =>
      rw [List.take_succ_cons]
      show tnCells d ((ls.take (k + 1)).headD undef) ++ tflat (us.take k) (ls.take (k + 1)).tail = (tnCells d (ls.headD undef) ++ tflat us ls.tail).take ((k + 1) * 6)
      have e : (tnCells d (ls.headD undef)).length = 6 := rfl
      have h6 : (tnCells d (ls.headD undef)).take ((k + 1) * 6) = tnCells d (ls.headD undef) := List.take_of_length_le (by rw [e]; omega)
      rw [List.take_append, e, h6, show (k + 1) * 6 - 6 = k * 6 by omega]
      cases ls with
      | nil => rw [← ih]; simp
      | cons v ls => rw [← ih]; simp
theorem RowT.take {B g cap : Nat} {w : World} {us : List TN} {ls : List Value} (h : RowT B g cap w us ls) {k : Nat} (hk : k ≤ us.length) : RowT B g cap w (us.take k) (ls.take k) := by
  have hkl : (us.take k).length = k := by rw [List.length_take]; omega
  refine ⟨?_, by rw [List.length_take, hkl, h.len]; omega, fun i hi W t => ?_⟩
  · rw [hkl, tflat_take]
    obtain ⟨h1, h2⟩ := h.row
    refine ⟨by rw [List.length_take, h1]; omega, ?_⟩
    rcases h2 with ⟨e, _⟩ | ⟨g', cap', cur, hv, hb, hg, hn, hm, hs, ht⟩
    · cases e
    · simp only [Value.slice.injEq, Option.some.injEq, Addr.mk.injEq] at hv
      obtain ⟨⟨rfl, _, _⟩, _, rfl⟩ := hv
      exact .inr ⟨g, cap, cur, rfl, hb, hg, by omega, hm, hs, by rw [← ht, List.take_take, Nat.min_eq_left (by omega)]⟩
  · rw [hkl] at hi
    have := h.un i (by omega) W t
    unfold nd at this ⊢
    rw [List.getD_eq_getElem?_getD, List.getElem?_take, if_pos hi, ← List.getD_eq_getElem?_getD]
    rw [List.getD_eq_getElem?_getD (l := us.take k), List.getElem?_take, if_pos hi, ← List.getD_eq_getElem?_getD]
    exact this
def truncF : Nat → List TN → Nat → List TN
  | 0, u, _ => u
  | f + 1, u, n => bif decide (1 < n) && !someB u (n / 2) n then truncF f (u.take (2 * (n / 2) - 1)) (n / 2) else u
def blkT (t : List TN) (i : Nat) : List TN := tab t.length (updG t i tn0)
def remE (t : List TN) (i : Int) : Int := bif decide (thI t i = 0) then errI (someB (blkT t i.toNat) 0 (lvs t.length)) else thI t i
def remT (t : List TN) (i : Int) : List TN := bif decide (thI t i = 0) && someB (blkT t i.toNat) 0 (lvs t.length) then truncF 9 (blkT t i.toNat) (lvs t.length) else []
theorem half_fulls {n : Nat} (hn : n ∈ Mth.fulls) (h : 1 < n) : n / 2 ∈ Mth.fulls ∧ n = 2 * (n / 2) := by
  have : ∀ m ∈ Mth.fulls, 1 < m → m / 2 ∈ Mth.fulls ∧ m = 2 * (m / 2) := by decide +kernel
  exact this n hn h
end Go.Proofs.YtnmaiokhndbicaaGreatDoor
end

section
/- append of zero elements: append(s, make([]T, m)...). -/
set_option linter.unusedSimpArgs false
set_option linter.unusedVariables false
namespace Go.Proofs.YtnmaiokhndbicaaGreatDoor
open Go.RowKit
open Rt

theorem wrapNat {m : Nat} (h : (m : Int) ≤ 9223372036854775807) : IntKind.i64.wrap (m : Int) = m := IntWalk.i64_in _ ⟨by omega, h⟩
section
variable {P : Program} (w : World)
theorem run_append_make_room (t tx ty e : TypeId) (ik : IntKind) (i : TypeInfo) (z : Value) (ht : P.underlying t = some (.slice e)) (htx : P.underlying tx = some (.int ik)) (hi : P.info? e = some i) (hz : i.zero = some z)
    (g sLen sCap : Nat) (cur : Array Value) (hg : w.heap[g]? = some (.cells cur e (0, 0)))
    (m : Nat) (hm : 0 < m * i.size) (hm2 : (m : Int) * i.bytes ≤ 281474976710656) (hm3 : (m : Int) ≤ 9223372036854775807) (hzs : z.cells.size = i.size) (h1 : ∀ u ∈ (Builtin.zeroCells z.cells m).toList, u.oneCell' = true)
    (hroom : sLen + m ≤ sCap) (hfit : sLen * i.size + m * i.size ≤ cur.size) :
    (Builtin.append_ #[t, tx] ty #[.slice (some ⟨g, 0, none⟩) sLen sCap, .int .i64 m]).run P w =
      .ok (.slice (some ⟨g, 0, none⟩) (sLen + m) sCap) (w.setRow g (cur.toList.take (sLen * i.size) ++ (Builtin.zeroCells z.cells m).toList ++ cur.toList.drop (sLen * i.size + m * i.size)).toArray) := by
  have hl : (Builtin.zeroCells z.cells m).toList.length = m * i.size := by rw [Array.length_toList, size_zeroCells, hzs]
  have hst := run_storeCells_at P g (sLen * i.size) e (Builtin.zeroCells z.cells m).toList 0 cur w hg (by simp only [Nat.add_zero, hl]; exact hfit) h1
  simp only [Nat.add_zero, hl] at hst
  have hw : IntKind.i64.wrap (m : Int) = m := wrapNat hm3
  have h0 : ¬ ((m : Int) < 0) := by omega
  have h48 : ¬ (281474976710656 < (m : Int) * i.bytes) := by omega
  have hne : ¬ (m * i.size = 0) := by omega
  have hne2 : ¬ (m = 0 ∨ i.size = 0) := by rintro (h | h) <;> simp [h] at hm
  simp [Builtin.append_, run_underlying ht, run_underlying htx, sizeOf, typeInfo, zeroValue, hi, hz, hw, h0, h48, hne, hne2, hroom, Addr.add_lit, hst, asInt, asIntOf]
theorem run_append_make_grow (t tx ty e : TypeId) (ik : IntKind) (i : TypeInfo) (z : Value) (ht : P.underlying t = some (.slice e)) (htx : P.underlying tx = some (.int ik)) (hi : P.info? e = some i) (hz : i.zero = some z)
    (b : Addr) (sLen sCap : Nat) (olds : List Value) (hlo : olds.length = sLen * i.size) (holds : ∀ j v, olds[j]? = some v → w.cell? (b.add j) = some v)
    (m : Nat) (hm : 0 < m * i.size) (hm2 : (m : Int) * i.bytes ≤ 281474976710656) (hm3 : (m : Int) ≤ 9223372036854775807)
    (hg : sCap < sLen + m) (h63 : ((sLen + m : Nat) : Int) ≤ 9223372036854775807) (hfit : Builtin.nextslicecap (sLen + m) sCap * i.bytes ≤ 281474976710656) :
    (Builtin.append_ #[t, tx] ty #[.slice (some b) sLen sCap, .int .i64 m]).run P w =
      .ok (.slice (some ⟨w.heap.size, 0, none⟩) (sLen + m) (grownCap w (sLen + m) sCap e))
        (w.drew.alloc (.cells (olds.toArray ++ Builtin.zeroCells z.cells m ++ Builtin.zeroCells z.cells (grownCap w (sLen + m) sCap e - (sLen + m))) e)) := by
  have hn : ¬ (sLen + m ≤ sCap) := by omega
  have h63' : ¬ (9223372036854775807 < ((sLen : Int) + (m : Int))) := by omega
  have h48' : ¬ (281474976710656 < Builtin.nextslicecap (sLen + m) sCap * i.bytes) := by omega
  have hfo := run_firstCells_some (P := P) w.drew i.size sLen b sLen sCap olds hlo (by simpa using holds)
  have hw : IntKind.i64.wrap (m : Int) = m := wrapNat hm3
  have h0 : ¬ ((m : Int) < 0) := by omega
  have h48 : ¬ (281474976710656 < (m : Int) * i.bytes) := by omega
  have hne : ¬ (m * i.size = 0) := by omega
  have hne2 : ¬ (m = 0 ∨ i.size = 0) := by rintro (h | h) <;> simp [h] at hm
  simp [Builtin.append_, run_underlying ht, run_underlying htx, sizeOf, typeInfo, zeroValue, hi, hz, hw, h0, h48, hne, hne2, hn, h63', h48', Question.forced, hfo, newRow, grownCap, asInt, asIntOf]
theorem run_append_make_own (base : Nat) (t tx ty e : TypeId) (ik : IntKind) (i : TypeInfo) (z : Value) (size bytes : Nat) (ht : P.underlying t = some (.slice e)) (htx : P.underlying tx = some (.int ik)) (hi : P.info? e = some i) (hz : i.zero = some z)
    (hsize : i.size = size) (hby : i.bytes = bytes) (hzs : z.cells.size = size) (hsz : 0 < size) (h1 : ∀ m, ∀ u ∈ (Builtin.zeroCells z.cells m).toList, u.oneCell' = true)
    (v : Value) (n : Nat) (xs : List Value) (hown : w.ownsRow base e size v n xs) (hn0 : 0 < n) (m : Nat) (hm0 : 0 < m)
    (h63 : n + m ≤ maxLen) (hbytes : (n + m) * bytes ≤ 140737488355328) (hbase : base ≤ w.heap.size) :
    ∃ v' w', (Builtin.append_ #[t, tx] ty #[v, .int .i64 m]).run P w = .ok v' w' ∧ w'.ownsRow base e size v' (n + m) (xs ++ (Builtin.zeroCells z.cells m).toList) ∧ w.grownBy w' v.ownBlock ∧
      (v'.ownBlock = v.ownBlock ∨ v'.ownBlock = some w.heap.size) := by
  subst hsize
  subst hby
  have hsmall : n + m ≤ 9223372036854775807 := by simp only [maxLen] at h63; omega
  have hl : (Builtin.zeroCells z.cells m).toList.length = m * i.size := by rw [Array.length_toList, size_zeroCells, hzs]
  have hlen : (xs ++ (Builtin.zeroCells z.cells m).toList).length = (n + m) * i.size := by rw [List.length_append, hown.1, hl, Nat.add_mul]
  have hm : 0 < m * i.size := Nat.mul_pos hm0 hsz
  have hm3 : (m : Int) ≤ 9223372036854775807 := by omega
  have hm2 : (m : Int) * i.bytes ≤ 281474976710656 := by
    have : m * i.bytes ≤ (n + m) * i.bytes := Nat.mul_le_mul_right _ (by omega)
    have : ((m * i.bytes : Nat) : Int) ≤ 281474976710656 := by omega
    rwa [Int.natCast_mul] at this
  rcases hown.2 with ⟨rfl, rfl⟩ | ⟨g, cap, cur, rfl, hbg, hg, hnc, hcm, hcs, htake⟩
  · omega
  · by_cases hroom : n + m ≤ cap
    · have hfit : n * i.size + m * i.size ≤ cur.size := by rw [hcs, ← Nat.add_mul]; exact Nat.mul_le_mul_right _ hroom
      have hr := run_append_make_room (P := P) w t tx ty e ik i z ht htx hi hz g n cap cur hg m hm hm2 hm3 hzs (h1 m) hroom hfit
      refine ⟨_, _, hr, ⟨hlen, .inr ⟨g, cap, _, rfl, hbg, setRow_heap w g cur _ e _ hg, hroom, hcm, ?_, ?_⟩⟩, ⟨rfl, rfl, rfl, by simp, fun k _ hk => setRow_other w g k _ (fun e => hk (by simp [Value.ownBlock, e]))⟩, Or.inl rfl⟩
      · simp only [List.size_toArray, List.length_append, List.length_take, List.length_drop, Array.length_toList, size_zeroCells, hzs]
        omega
      · rw [htake, ← hlen]
        exact List.take_left
    · have holds : ∀ j u, xs[j]? = some u → w.cell? ((⟨g, 0, none⟩ : Addr).add j) = some u := hown.cells (g := g) rfl
      have hr := run_append_make_grow (P := P) w t tx ty e ik i z ht htx hi hz ⟨g, 0, none⟩ n cap xs hown.1 holds m hm hm2 hm3 (by omega) (by omega) (growslice_fits (by omega) hbytes)
      have hge := grownCap_ge w (n + m) cap e
      have hcm2 : grownCap w (n + m) cap e ≤ maxLen := grownCap_le_maxLen w (n + m) cap e h63
      refine ⟨_, _, hr, ⟨hlen, .inr ⟨w.heap.size, _, _, rfl, hbase, Go.heap_alloc_new w.drew _, hge, hcm2, ?_, ?_⟩⟩, ⟨rfl, rfl, rfl, by simp, fun k hk _ => Go.heap_alloc_old w.drew _ hk⟩, Or.inr rfl⟩
      · simp only [Array.size_append, List.size_toArray, size_zeroCells, hzs, hown.1, ← Nat.add_mul]
        congr 1
        omega
      · simp only [Array.toList_append, List.append_assoc]
        rw [← List.append_assoc, ← hlen]
        exact List.take_left
end
theorem go_app_make {P : Program} {w : World} {ops : Array Oper} {rest : List Oper} {a : Act} {Q : Exit → Act → World → Prop} {d : Option Tmp} {ty : TypeId} {ps : String} {af : Array Edge}
    {s x : Operand} {t tx : TypeId} (B : Nat) (e : TypeId) (size bytes : Nat) (ik : IntKind) (i : TypeInfo) (z : Value) (ht : P.underlying t = some (.slice e)) (htx : P.underlying tx = some (.int ik)) (hi : P.info? e = some i) (hz : i.zero = some z)
    (hsize : i.size = size) (hby : i.bytes = bytes) (hzs : z.cells.size = size) (hsz : 0 < size) (h1 : ∀ m, ∀ u ∈ (Builtin.zeroCells z.cells m).toList, u.oneCell' = true)
    (v : Value) (n : Nat) (xs : List Value) (hs : a.eval s = v) (ho : Ownv B e size w v n xs) (hn0 : 0 < n)
    (m : Nat) (hm0 : 0 < m) (hx : a.eval x = .int .i64 m)
    (h63 : n + m ≤ maxLen) (hbytes : (n + m) * bytes ≤ 140737488355328) (hB : B ≤ w.heap.size)
    (hK : ∀ v' w', Ownv B e size w' v' (n + m) (xs ++ (Builtin.zeroCells z.cells m).toList) → Turn (Blks v) w w' → (∀ b, Blks v' b → Blks v b ∨ w.heap.size ≤ b) → wpList P ops Q rest (a.put d v') w') :
    wpList P ops Q (⟨d, .call { callee := .builtin .append, args := #[s, x], argTypes := #[t, tx] }, ty, ps, af, none⟩ :: rest) a w := by
  refine wpList_plain rfl fun K hKK => ?_
  obtain ⟨v', w', hr, h2, h3, h5⟩ := run_append_make_own (P := P) w B t tx ty e ik i z size bytes ht htx hi hz hsize hby hzs hsz h1 v n xs ho hn0 m hm0 h63 hbytes hB
  unfold Oper.wp execOp
  simp only [resolve, invoke, builtin, Sem.run_bind, Sem.run_pure, Result.andThen_ok, List.map_toArray, List.map_cons, List.map_nil, hs, hx, hr]
  refine hKK _ _ (hK v' w' h2 ((Grown.turn h3).mono fun b hb => hb.symm) (fun b hb => ?_))
  rcases h5 with h | h
  · exact .inl (h.symm.trans hb)
  · rw [Blks, h] at hb
    simp only [Option.some.injEq] at hb
    exact .inr (by omega)
end Go.Proofs.YtnmaiokhndbicaaGreatDoor
end

section
/- Walks of the document's answer: Members. -/
set_option linter.unusedSimpArgs false
set_option linter.unusedVariables false
namespace Go.Proofs.YtnmaiokhndbicaaGreatDoor
open Go.RowKit
open Rt

/-- The numbers of the first k leaves that are there. -/
def memK (t : List TN) (k : Nat) : List Int := ints ((List.range k).filter (lk t))
theorem memK_succ (t : List TN) (k : Nat) : memK t (k + 1) = memK t k ++ (bif lk t k then [(k : Int)] else []) := by
  unfold memK ints
  rw [List.range_succ, List.filter_append, List.map_append]
  cases h : lk t k <;> simp [h]
theorem memK_len (t : List TN) (k : Nat) : (memK t k).length ≤ k := by
  unfold memK
  rw [ints_len]
  have := List.length_filter_le (lk t) (List.range k)
  rwa [List.length_range] at this
def memL (t : List TN) : List Int := bif chkB t then memK t (lvs t.length) else []
/-- What Members leaves. -/
def MemPost (w : World) (l : List Int) (e : Ending) (w' : World) : Prop := ∃ v, e = .returned v ∧ OwnI w.heap.size w' v l ∧ Kept w w'
end Go.Proofs.YtnmaiokhndbicaaGreatDoor
end

section
/- Walks: Size. -/
set_option linter.unusedSimpArgs false
set_option linter.unusedVariables false
namespace Go.Proofs.YtnmaiokhndbicaaGreatDoor
open Go.RowKit
theorem size_num {n : Nat} (h1 : 1 ≤ n) (h2 : n ≤ 256) : wrap64 (2 ^ Lib.bitLen (n - 1)) = (Mth.size n : Nat) ∧ Lib.bitLen (n - 1) ≤ 8 := by
  have h : (List.range 257).all (fun n => Nat.beq n 0 || ((wrap64 (2 ^ Lib.bitLen (n - 1)) == ((Mth.size n : Nat) : Int)) && Nat.ble (Lib.bitLen (n - 1)) 8)) = true := by decide +kernel
  have := List.all_eq_true.1 h n (List.mem_range.2 (by omega))
  rw [Bool.or_eq_true, Bool.and_eq_true] at this
  rcases this with e | ⟨e1, e2⟩
  · have := Nat.eq_of_beq_eq_true e; omega
  · exact ⟨eq_of_beq e1, Nat.le_of_ble_eq_true e2⟩
theorem Size1_any (b : Nat) (n : Nat) (h1 : 1 ≤ n) (h2 : n ≤ 256) (w : World) (hc : w.cell? ⟨b, 0, none⟩ = some (.int .i64 n)) :
    Calls Tryz.prog 134 #[.pointer (some ⟨b, 0, none⟩)] w fun e w' => e = .returned (.int .i64 (Mth.size n : Nat)) ∧ Kept w w' := by
  obtain ⟨m1, m2⟩ := size_num h1 h2
  have hq := Tryz.bits_Len ((n : Int) - 1) w (by omega) (by omega)
  rw [show ((n : Int) - 1).toNat = n - 1 by omega] at hq
  generalize Lib.bitLen (n - 1) = l at hq m1 m2
  have HN := Shut.mk m1
  have HQ := Lib.hid hq
  clear hq m1
  have hn0 : (1 : Int) ≤ (n : Int) := by omega
  have hn1 : (n : Int) ≤ 256 := by omega
  have hl0 : (0 : Int) ≤ (l : Int) := by omega
  have hl1 : (l : Int) ≤ 8 := by omega
  go_enter Tryz.func134, Tryz.ntmps134
  go_wp2_with (go_at_call 135; refine HQ.out.mono ?_; rintro e w' ⟨rfl, rfl⟩)
  go_ret
  exact ⟨by rw [← HN.out]; rfl, Kept.refl _⟩
theorem Size_any (n : Int) (w : World) (hx : I64 n) : Calls Tryz.prog 120 #[.int .i64 n] w fun e w' => e = .returned (.tuple #[.int .i64 (pk (szB n) (Mth.size n.toNat : Nat)), .int .i64 (er (szB n))]) ∧ Kept w w' := by
  have hk0 : Kept w (w.alloc (.cells #[.int .i64 n] 3)) := (Kept.refl w).alloc _
  obtain ⟨hl, hu⟩ := hx
  by_cases h0 : 0 < n
  · have hd0 : decide (0 < n) = true := decide_eq_true h0
    by_cases h1 : n ≤ 256
    · have hd1 : decide (n ≤ 256) = true := decide_eq_true h1
      have HB := Shut.mk (show szB n = true by unfold szB; rw [hd0, hd1]; rfl)
      obtain ⟨m, rfl⟩ : ∃ m : Nat, n = m := ⟨n.toNat, by omega⟩
      have HT := Lib.hid (told_val (g := 134) (enters_of Tryz.func134 (by kernel_rfl) rfl) (Size1_any w.heap.size m (by omega) (by omega) (w.alloc (.cells #[.int .i64 m] 3)) (cell_box _ _ _)))
      go_enter Tryz.func120, Tryz.ntmps120
      go_wp2_with (go_at_call 71; refine HT.out.mono ?_; rintro e w' ⟨rfl, hk⟩)
      go_ret2
      exact ⟨by rw [HB.out]; rfl, hk0.trans hk⟩
    · have hd1 : decide (n ≤ 256) = false := decide_eq_false h1
      have HB := Shut.mk (show szB n = false by unfold szB; rw [hd1, Bool.and_false])
      go_enter Tryz.func120, Tryz.ntmps120
      go_wp2_with (go_at_call 71; refine (told_no _ _).mono ?_; rintro e w' ⟨rfl, rfl⟩)
      go_ret2
      exact ⟨by rw [HB.out]; rfl, hk0⟩
  · have hd0 : decide (0 < n) = false := decide_eq_false h0
    have HB := Shut.mk (show szB n = false by unfold szB; rw [hd0, Bool.false_and])
    go_enter Tryz.func120, Tryz.ntmps120
    go_wp2_with (go_at_call 71; refine (told_no _ _).mono ?_; rintro e w' ⟨rfl, rfl⟩)
    go_ret2
    exact ⟨by rw [HB.out]; rfl, hk0⟩
end Go.Proofs.YtnmaiokhndbicaaGreatDoor
end

section
/- What Resolution, Path, Holds, Mine answer (plain). -/
set_option linter.unusedSimpArgs false
set_option linter.unusedVariables false
namespace Go.Proofs.YtnmaiokhndbicaaGreatDoor
open Go.RowKit
open Rt

/-- The tree may be, and x is a node of it. -/
def okN (t : List TN) (x : Int) : Bool := chkB t && (decide (0 ≤ x) && decide (x < (t.length : Int)))
/-- The tree may be, and i is a leaf's number of it. -/
def okL (t : List TN) (i : Int) : Bool := chkB t && (decide (0 ≤ i) && decide (i < (((t.length + 1) / 2 : Nat) : Int)))
theorem chk_mayN {t : List TN} (h : chkB t = true) : MayN t ((t.length + 1) / 2) := by
  have m := (chkB_may.1 h).mn
  have hb := fulls_bd m.hn
  have hl := m.len
  rw [show (t.length + 1) / 2 = lvs t.length by omega]
  exact m
theorem okN_iff {t : List TN} {x : Int} : okN t x = true ↔ chkB t = true ∧ 0 ≤ x ∧ x < (t.length : Int) := by
  unfold okN
  rw [Bool.and_eq_true, Bool.and_eq_true, decide_eq_true_iff, decide_eq_true_iff]
theorem okL_iff {t : List TN} {x : Int} : okL t x = true ↔ chkB t = true ∧ 0 ≤ x ∧ x < (((t.length + 1) / 2 : Nat) : Int) := by
  unfold okL
  rw [Bool.and_eq_true, Bool.and_eq_true, decide_eq_true_iff, decide_eq_true_iff]
theorem not_true {b : Bool} (h : ¬ b = true) : b = false := by cases b with
  | false => rfl
  | true => exact absurd rfl h
theorem okN_nat {t : List TN} {x : Int} (h : okN t x = true) : ∃ k : Nat, x = (k : Int) ∧ k < t.length := by
  obtain ⟨_, h1, h2⟩ := okN_iff.1 h
  exact ⟨x.toNat, by omega, by omega⟩
theorem okL_nat {t : List TN} {i : Int} (h : okL t i = true) : ∃ k : Nat, i = (k : Int) ∧ k < (t.length + 1) / 2 := by
  obtain ⟨_, h1, h2⟩ := okL_iff.1 h
  exact ⟨i.toNat, by omega, by omega⟩
theorem okL_two {t : List TN} {i : Int} (h0 : 0 ≤ i) : okL t i = okN t (2 * i) := by
  rw [Bool.eq_iff_iff, okL_iff, okN_iff]
  constructor
  · rintro ⟨h, _, h2⟩
    have m := chk_mayN h
    have hb := fulls_bd m.hn
    have hl := m.len
    exact ⟨h, by omega, by omega⟩
  · rintro ⟨h, _, h2⟩
    have m := chk_mayN h
    have hb := fulls_bd m.hn
    have hl := m.len
    exact ⟨h, h0, by omega⟩
theorem okL_le {t : List TN} {i : Int} (h : okL t i = true) : i ≤ 255 := by
  obtain ⟨h, _, h2⟩ := okL_iff.1 h
  have hb := fulls_bd (chk_mayN h).hn
  omega

/-- What of a list is kept: the first k, by p. -/
def selL (p : Nat → Bool) (a : Nat → Int) : Nat → List Int
  | 0 => []
  | k + 1 => bif p k then selL p a k ++ [a k] else selL p a k
theorem selL_yes {p : Nat → Bool} {a : Nat → Int} {k : Nat} (h : p k = true) : selL p a (k + 1) = selL p a k ++ [a k] := by
  show (bif p k then selL p a k ++ [a k] else selL p a k) = _
  rw [h]; rfl
theorem selL_no {p : Nat → Bool} {a : Nat → Int} {k : Nat} (h : p k = false) : selL p a (k + 1) = selL p a k := by
  show (bif p k then selL p a k ++ [a k] else selL p a k) = _
  rw [h]; rfl
theorem selL_len (p : Nat → Bool) (a : Nat → Int) (k : Nat) : (selL p a k).length ≤ k := by
  induction k with
  | zero => exact Nat.le_refl _
  | succ k ih =>
    cases h : p k with
    | true => rw [selL_yes h]; simp; omega
    | false => rw [selL_no h]; omega
def pthP (t : List TN) (i n k : Nat) : Bool := decide (0 < (res t ((Mth.copath (2 * i) n).getD k 0)).length)
/-- The nodes above a leaf that are told, and the children beside them. -/
def pthN (t : List TN) (i n : Nat) : List Int := selL (pthP t i n) (fun k => (((Mth.path (2 * i) n).getD k 0 : Nat) : Int)) (Mth.path (2 * i) n).length
def pthO (t : List TN) (i n : Nat) : List Int := selL (pthP t i n) (fun k => (((Mth.copath (2 * i) n).getD k 0 : Nat) : Int)) (Mth.path (2 * i) n).length
/-- What a call leaves that answers two lists, or an error. -/
def TwoPost (w : World) (b : Bool) (l m : List Int) (e : Ending) (w' : World) : Prop := ∃ u v, e = .returned (.tuple #[u, v, .int .i64 (er b)]) ∧ RdI w' u (bif b then l else []) ∧ RdI w' v (bif b then m else []) ∧ Kept w w'
theorem blks_none {b n c : Nat} : ¬ Blks (.slice none n c) b := fun h => by cases h
/-- What holds of the path of a leaf. -/
structure PathT (n i : Nat) : Prop where
  plen : (Mth.path (2 * i) n).length ≤ 8
  clen : (Mth.copath (2 * i) n).length = (Mth.path (2 * i) n).length
  cin : ∀ k, k < (Mth.path (2 * i) n).length → (Mth.copath (2 * i) n).getD k 0 < 2 * n - 1
theorem pathT_of {n i : Nat} (hn : n ∈ Mth.fulls) (hi : i < n) : PathT n i := by
  have hb := fulls_bd hn
  have hp := Mth.path_of hn (show 2 * i < 2 * n - 1 by omega)
  have h8 := lvl_top hn
  refine ⟨by have := hp.len; unfold Mth.path; omega, by have := hp.len; have := hp.clen; unfold Mth.path Mth.copath; omega, fun k hk => ?_⟩
  have hl : (Mth.pathF 9 (2 * i) n).length = (Mth.path (2 * i) n).length := rfl
  have h1 := hp.at' k (by have := hp.len; omega)
  obtain ⟨a1, a2, a3, a4, _⟩ := h1
  have st := Mth.step_at hn a3 a4
  have : (Mth.copath (2 * i) n).getD k 0 = Mth.sib (Mth.itr k (2 * i)) := a2
  rw [this]
  exact st.inS
/-- The first of a resolution that i holds. -/
def mineB (t : List TN) (i x : Nat) : Bool := (res t x).any (holdI t i)
end Go.Proofs.YtnmaiokhndbicaaGreatDoor
end

/- Texts of one proof, put together: PcA, PcB, PcC, PcD, DedO, PcE, LaidD, TermBR, SameI, RefD, RefX, RefM, RefN. -/
import Derived.Test.YtangbnmgkcmhbaaDoorMg02
import Derived.Test.YtangbnmgkcmhbaaDoorMg04
import Derived.Lib.MinMax
import Derived.Lib.Builder
import Derived.Test.YtangbnmgkcmhbaaDoorShelf
import Derived.Test.YtangbnmgkcmhbaaDoorMg01
import Derived.BigQuiet
import Derived.Deep.QuietTactic
import Derived.IntWalk
import Derived.Lib.ItoaLen
section
/- Pieces in memory; keep. -/
set_option linter.unusedSimpArgs false
set_option linter.unusedVariables false
namespace Go.Proofs.YtangbnmgkcmhbaaDoor
open Go.RowKit Go.Maps

def pcCells (p : Pc) (lv : Value) : List Value := [.string (strB p.w), lv, .int .i64 p.size]
def pflat : List Pc → List Value → List Value
  | [], _ => []
  | d :: ds, lvs => pcCells d (lvs.headD undef) ++ pflat ds lvs.tail
theorem pflat_length (ds : List Pc) (lvs : List Value) : (pflat ds lvs).length = ds.length * 3 := by
  induction ds generalizing lvs with
  | nil => rfl
  | cons d ds ih => simp [pflat, pcCells, ih]; omega
theorem pflat_at (ds : List Pc) (lvs : List Value) (i j : Nat) (hi : i < ds.length) (hj : j < 3) : (pflat ds lvs)[i * 3 + j]? = (pcCells (ds.getD i pc0) (lvs.getD i undef))[j]? := by
  induction ds generalizing lvs i with
  | nil => simp at hi
  | cons d ds ih =>
    cases i with
    | zero =>
      simp only [pflat, Nat.zero_mul, Nat.zero_add]
      rw [List.getElem?_append_left (by simp [pcCells]; omega)]
      cases lvs <;> rfl
    | succ i =>
      simp only [pflat]
      rw [List.getElem?_append_right (by simp [pcCells]; omega)]
      have e : (i + 1) * 3 + j - (pcCells d (lvs.headD undef)).length = i * 3 + j := by simp [pcCells]; omega
      rw [e, ih lvs.tail i (by simpa using hi)]
      cases lvs <;> simp
theorem pflat_snoc (ds : List Pc) (lvs : List Value) (h : lvs.length = ds.length) (d : Pc) (lv : Value) : pflat (ds ++ [d]) (lvs ++ [lv]) = pflat ds lvs ++ pcCells d lv := by
  induction ds generalizing lvs with
  | nil =>
    cases lvs with
    | nil => simp [pflat]
    | cons => simp at h
  | cons e ds ih =>
    cases lvs with
    | nil => simp at h
    | cons v lvs => simp [pflat, ih lvs (by simpa using h)]

def PIdx {H : Type} (ps : List Pc) (D : DataW H) : Prop :=
  (∀ i, i < ps.length → Maps.has D (.string (pkey (ps.getD i pc0))) = true ∧ D.atKey (.string (pkey (ps.getD i pc0))) (.lit (.int .i64 0)) = .lit (.int .i64 i)) ∧
  ∀ s, Maps.has D (.string s) = true → ∃ i, i < ps.length ∧ pkey (ps.getD i pc0) = s
theorem PIdx.snoc {H : Type} {ps : List Pc} {D : DataW H} (h : PIdx ps D) (hm : Maps.IsMap D) {d : Pc} (hne : Maps.has D (.string (pkey d)) = false) :
    PIdx (ps ++ [d]) (D.put (.string (pkey d)) (.lit (.int .i64 ps.length))) := by
  have hk : WideAt.IsKeyLit (.string (pkey d)) := by first | trivial | exact (by decide) | simp [WideAt.IsKeyLit]
  have hno : ∀ i, i < ps.length → pkey (ps.getD i pc0) ≠ pkey d := fun i hi e => by
    have := (h.1 i hi).1
    rw [e, hne] at this
    cases this
  refine ⟨fun i hi => ?_, fun s hs => ?_⟩
  · rw [List.length_append, List.length_singleton] at hi
    rw [getD_pc]
    by_cases c : i < ps.length
    · rw [if_pos c]
      obtain ⟨h1, h2⟩ := h.1 i c
      have hn : (Lit.string (pkey (ps.getD i pc0))) ≠ Lit.string (pkey d) := fun e => hno i c (by injection e)
      exact ⟨by rw [has_put_other hn]; exact h1, by rw [atKey_put_other hn]; exact h2⟩
    · obtain rfl : i = ps.length := by omega
      rw [if_neg c, if_pos rfl]
      exact ⟨has_put_same hm hk _, atKey_put_same hm hk _ _⟩
  · by_cases c : s = pkey d
    · exact ⟨ps.length, by simp, by rw [getD_pc, if_neg (by omega), if_pos rfl, c]⟩
    · rw [has_put_other (fun e => c (by injection e))] at hs
      obtain ⟨i, hi, he⟩ := h.2 s hs
      exact ⟨i, by rw [List.length_append]; omega, by rw [getD_pc, if_pos hi, he]⟩

/-- v has the parts l; it is nil if there are none. -/
def OwnL (w : World) (v : Value) (l : List Int) : Prop := OwnI 0 w v l ∧ (l = [] → v = .slice none 0 0)
/-- p keeps the pieces ps; its memory is in F. -/
structure PcG (F : Nat → Prop) (w : World) (p : Value) (ps : List Pc) : Prop where
  ok : PsOk ps
  rep : ∃ (pb mb n : Nat) (av : Value) (lvs : List Value) (D : DataW Unit), p = .pointer (some ⟨pb, 0, none⟩) ∧ Blk w pb 96 [av, .map (some mb)] ∧
    Ownv 0 102 3 w av ps.length (pflat ps lvs) ∧ lvs.length = ps.length ∧ (∀ i, i < ps.length → OwnL w (lvs.getD i undef) (ps.getD i pc0).l) ∧
    w.ownsMap Tryd.prog 9 (plainElem Tryd.prog 3) mb n D ∧ n ≤ ps.length ∧ PIdx ps D ∧
    F pb ∧ F mb ∧ (∀ b, Blks av b → F b) ∧ ∀ i, i < ps.length → ∀ b, Blks (lvs.getD i undef) b → F b
  lt : ∀ b, F b → b < w.heap.size
theorem PcG.same {F : Nat → Prop} {w w' : World} {p : Value} {ps : List Pc} (h : PcG F w p ps) (k : Same F w w') (hl : w.heap.size ≤ w'.heap.size) : PcG F w' p ps := by
  refine ⟨h.ok, ?_, fun b hb => Nat.lt_of_lt_of_le (h.lt b hb) hl⟩
  obtain ⟨pb, mb, n, nv, lvs, D, h1, h2, h3, h4, h5, h6, h7, h8, h9, h10, h11, h12⟩ := h.rep
  exact ⟨pb, mb, n, nv, lvs, D, h1, h2.same (k.mono fun b e => by rw [e]; exact h9), h3.same (k.mono h11), h4, fun i hi => ⟨Ownv.same (h5 i hi).1 (k.mono (h12 i hi)), (h5 i hi).2⟩, ownsMap_same h6 (k.mono fun b e => by rw [e]; exact h10), h7, h8, h9, h10, h11, h12⟩
theorem PcG.turn {F G : Nat → Prop} {w w' : World} {p : Value} {ps : List Pc} (h : PcG F w p ps) (k : Turn G w w') (hd : ∀ b, F b → ¬ G b) : PcG F w' p ps := h.same (k.same h.lt hd) k.size
theorem PcG.kept {F : Nat → Prop} {w w' : World} {p : Value} {ps : List Pc} (h : PcG F w p ps) (k : Kept w w') : PcG F w' p ps := h.same (k.same h.lt) k.size

/-- What one piece's cells are. -/
theorem PcG.at {F : Nat → Prop} {w : World} {p : Value} {ps : List Pc} (h : PcG F w p ps) {i : Nat} (hi : i < ps.length) :
    ∃ (pb ab cap : Nat) (lv : Value), p = .pointer (some ⟨pb, 0, none⟩) ∧ pb < w.heap.size ∧ ab < w.heap.size ∧ w.cell? ⟨pb, 0, none⟩ = some (.slice (some ⟨ab, 0, none⟩) ps.length cap) ∧
      w.cell? ⟨ab, i * 3, none⟩ = some (.string (strB (ps.getD i pc0).w)) ∧ w.cell? ⟨ab, i * 3 + 1, none⟩ = some lv ∧ w.cell? ⟨ab, i * 3 + 2, none⟩ = some (.int .i64 (ps.getD i pc0).size) ∧
      RdI w lv (ps.getD i pc0).l := by
  obtain ⟨pb, mb, n, nv, lvs, D, rfl, h2, h3, h4, h5, h6, h7, h8, h9, h10, h11, h12⟩ := h.rep
  obtain ⟨g, cap, rfl, g1, g2, g3, g4, g5, g6⟩ := Ownv.row h3 (by omega)
  have hat : ∀ j u, j < 3 → (pcCells (ps.getD i pc0) (lvs.getD i undef))[j]? = some u → w.cell? ⟨g, i * 3 + j, none⟩ = some u := by
    intro j u hj hu
    have := g5 (i * 3 + j) (by omega)
    rw [List.getD_eq_getElem?_getD, pflat_at ps lvs i j hi hj, hu] at this
    exact this
  exact ⟨pb, g, cap, lvs.getD i undef, rfl, h2.lt, g4, h2.cell 0, hat 0 _ (by omega) rfl, hat 1 _ (by omega) rfl, hat 2 _ (by omega) rfl, (h5 i hi).1.rd⟩

/-- What a new piece makes of it. -/
theorem pc_grow {F : Nat → Prop} {w w4 w6 w7 : World} {pb mb n : Nat} {nv nv' lv : Value} {lvs : List Value} {D : DataW Unit} {ps : List Pc} {d : Pc}
    (hok : PsOk ps) (hd : PcOk ps d) (hne : Maps.has D (.string (pkey d)) = false)
    (h2 : Blk w pb 96 [nv, .map (some mb)]) (h3 : Ownv 0 102 3 w nv ps.length (pflat ps lvs)) (h4 : lvs.length = ps.length) (h5 : ∀ i, i < ps.length → OwnL w (lvs.getD i undef) (ps.getD i pc0).l)
    (h6 : w.ownsMap Tryd.prog 9 (plainElem Tryd.prog 3) mb n D) (h7 : n ≤ ps.length) (h8 : PIdx ps D) (h9 : F pb) (h10 : F mb) (h11 : ∀ b, Blks nv b → F b) (h12 : ∀ i, i < ps.length → ∀ b, Blks (lvs.getD i undef) b → F b)
    (hlt : ∀ b, F b → b < w.heap.size) (hl : OwnL w lv d.l) (kw4 : Kept w w4) (t6 : Turn (fun b => Blks nv b ∨ b = pb) w4 w6) (g6 : Blk w6 pb 96 [nv', .map (some mb)])
    (o6 : Ownv 0 102 3 w6 nv' (ps.length + 1) (pflat ps lvs ++ pcCells d lv)) (hnv : ∀ b, Blks nv' b → Blks nv b ∨ w.heap.size ≤ b)
    (own7 : w7.ownsMap Tryd.prog 9 (plainElem Tryd.prog 3) mb (n + 1) (D.put (.string (pkey d)) (.lit (.int .i64 ps.length)))) (m6 : w6.ownsMap Tryd.prog 9 (plainElem Tryd.prog 3) mb n D) (t7 : Turn (fun b => b = mb) w6 w7) :
    ∃ F' : Nat → Prop, PcG F' w7 (.pointer (some ⟨pb, 0, none⟩)) (ps ++ [d]) ∧ Turn F w w7 ∧ ∀ b, F' b → F b ∨ Blks lv b ∨ w.heap.size ≤ b := by
  have hn4 := h3.kept kw4
  have hg4 := h2.kept kw4
  have hrow : ∀ {v : Value} {l : List Int}, OwnI 0 w v l → OwnI 0 w7 v l := fun {v l} x => by
    have x4 : OwnI 0 w4 _ _ := Ownv.kept x kw4
    have x6 : OwnI 0 w6 _ _ := x4.turn t6 (fun b hb hc => hc.elim (Ownv.apart x4 hn4 (by decide) hb) (fun e => Ownv.notBlk x4 hg4 (by decide) (e ▸ hb)))
    exact x6.turn t7 (fun b hb hc => ownsMap_notBlk m6 x6 (hc ▸ hb))
  have hrowL : ∀ {v : Value} {l : List Int}, OwnL w v l → OwnL w7 v l := fun {v l} x => ⟨hrow x.1, x.2⟩
  have hs : w.heap.size ≤ w7.heap.size := Nat.le_trans (Nat.le_trans kw4.size t6.size) t7.size
  refine ⟨fun b => F b ∨ (Blks lv b ∧ b < w7.heap.size) ∨ (w.heap.size ≤ b ∧ b < w7.heap.size), ⟨hok.snoc hd, ⟨pb, mb, n + 1, nv', lvs ++ [lv], _, rfl, g6.turn t7 (ownsMap_notBlk' m6 g6), ?_, ?_, ?_, own7, ?_, h8.snoc m6.isMap hne, .inl h9, .inl h10, ?_, ?_⟩, ?_⟩, ?_, ?_⟩
  · rw [pflat_snoc ps lvs h4, List.length_append, List.length_singleton]
    exact o6.turn t7 (fun b hb hc => ownsMap_notBlk m6 o6 (hc ▸ hb))
  · simp [h4]
  · intro i hi
    rw [List.length_append, List.length_singleton] at hi
    rw [getD_pc, getD_snoc_v, h4]
    by_cases c : i < ps.length
    · rw [if_pos c, if_pos c]
      exact hrowL (h5 i c)
    · obtain rfl : i = ps.length := by omega
      rw [if_neg c, if_neg c, if_pos rfl, if_pos rfl]
      exact hrowL hl
  · rw [List.length_append]; simp; exact h7
  · intro b hb
    rcases hnv b hb with c | c
    · exact .inl (h11 b c)
    · exact .inr (.inr ⟨c, Nat.lt_of_lt_of_le (o6.lt hb).1 t7.size⟩)
  · intro i hi b hb
    rw [List.length_append, List.length_singleton] at hi
    rw [getD_snoc_v, h4] at hb
    by_cases c : i < ps.length
    · rw [if_pos c] at hb
      exact .inl (h12 i c b hb)
    · obtain rfl : i = ps.length := by omega
      rw [if_neg c, if_pos rfl] at hb
      exact .inr (.inl ⟨hb, Nat.lt_of_lt_of_le (Ownv.lt hl.1 hb).1 hs⟩)
  · intro b hb
    rcases hb with hb | hb | hb
    · exact Nat.lt_of_lt_of_le (hlt b hb) hs
    · exact hb.2
    · exact hb.2
  · exact (((kw4.turn F).trans t6 (fun x hx => .inl (hx.elim (h11 x) (fun e => e ▸ h9)))).trans t7 (fun x hx => .inl (hx ▸ h10)))
  · intro b hb
    rcases hb with hb | hb | hb
    · exact .inl hb
    · exact .inr (.inl hb.1)
    · exact .inr (.inr hb.1)

theorem Tryd.infoPiece : (Tryd.prog.info? 102).map (fun i => (i.zero, i.size, i.bytes)) = some (some (.agg #[.string ⟨#[]⟩, .slice none 0 0, .int .i64 0]), 3, 48) := by kernel_rfl
theorem pkey_len {p : Pc} (h1 : p.w.length ≤ 1000) (h2 : p.l.length ≤ 1000) (h3 : ∀ x ∈ p.l, I64 x) : (pkey p).length ≤ 23000 := by
  unfold pkey
  have := partsKey_len p.l h3
  split
  · simp; omega
  · omega
/-- What keep leaves. -/
def KeepPost (F : Nat → Prop) (w : World) (p : Value) (ps : List Pc) (lv : Value) (t : List UInt8) (e : Ending) (w' : World) : Prop :=
  ∃ (F' : Nat → Prop) (ps' : List Pc) (n : Nat), e = .returned (.int .i64 n) ∧ PcG F' w' p ps' ∧ PExt ps ps' ∧ ps'.length ≤ ps.length + 1 ∧ n < ps'.length ∧ tx ps' (n : Int) = t ∧ Turn F w w' ∧ ∀ b, F' b → F b ∨ Blks lv b ∨ w.heap.size ≤ b

set_option maxRecDepth 100000 in
set_option maxHeartbeats 4000000 in
theorem pkeep_old {F : Nat → Prop} {w : World} {p : Value} {ps : List Pc} (h : PcG F w p ps) {d : Pc} (hd : PcOk ps d) {lv : Value} (hl : OwnL w lv d.l) (hfew : ps.length ≤ 1000000000) {i : Nat} (hi : i < ps.length) (hk : pkey (ps.getD i pc0) = pkey d) :
    Calls Tryd.prog 87 #[p, .string (strB (pkey d)), .agg #[.string (strB d.w), lv, .int .i64 d.size]] w (KeepPost F w p ps lv (txOf (txs ps) d)) := by
  have HH := Shut.mk h
  have hpk := pkey_len hd.few.1 hd.few.2 (fun x hx => by have := hd.parts x hx; exact ⟨by have := this.1; omega, by have := this.2; omega⟩)
  have hpt := h.ok.parts hi
  have hof := h.ok i hi
  have hin := pkey_inj (fun x hx => (hpt x hx).1) (fun x hx => (hd.parts x hx).1) hof.shape hd.shape hk
  have HT : Shut (tx ps (i : Int) = txOf (txs ps) d) := ⟨by
    rw [tx_at h.ok hi]
    unfold txOf
    rw [hin.1, hin.2]⟩
  obtain ⟨pb, mb, n, nv, lvs, D, rfl, h2, h3, h4, h5, h6, h7, h8, h9, h10, h11, h12⟩ := h.rep
  obtain ⟨x1, x2⟩ := h8.1 i hi
  rw [hk] at x1 x2
  have hkey : keyOf Tryd.prog 9 (.string (strB (pkey d))) = some (.string (pkey d)) := WideMaps.keyOf_string_mk Tryd.underlying9 (by rw [strB_size]; unfold maxLen; omega)
  have hlaw : Keyed Tryd.prog 9 := string_keyed Tryd.underlying9
  have HKEY := Shut.mk hkey
  clear hkey h hk hin hpt hof
  generalize hKY : Value.string (strB (pkey d)) = KY at HKEY
  have k0 : Kept w (w.alloc (.cells #[.string (strB d.w), lv, .int .i64 d.size] 102)) := (Kept.refl w).alloc _
  have m2 := ownsMap_kept h6 k0
  have q0 := (h2.kept k0).cell 0
  have q1 := (h2.kept k0).cell 1
  simp only [List.getElem?_cons_succ, List.getElem?_cons_zero] at q0 q1
  obtain ⟨na, ncap, rfl, n1, n2, n3, n4, n5⟩ := h3.rdv
  generalize strB d.w = X at k0 m2 q0 q1
  generalize d.size = Z at k0 m2 q0 q1
  have HD := Shut.mk hd
  clear hd
  go_enter Tryd.func87, Tryd.ntmps87
  go_wp2_with (at_lookup; refine wpList_lookup_own_ok_int _ rfl _ _ 67 rfl 9 3 .i64 hlaw Tryd.underlying67 Tryd.underlying3 (zeroInt _) mb n D rfl m2 _ _ rfl HKEY.out ?_; intro c hat hwc; rw [x1]; rw [x2] at hat)
  simp only [DataW.lit.injEq, Lit.int.injEq, true_and] at hat
  go_ret
  exact ⟨F, ps, i, by rw [← hat]; rfl, HH.out.kept k0, PExt.refl ps, Nat.le_succ _, hi, HT.out, k0.turn F, fun b hb => .inl hb⟩

set_option maxRecDepth 100000 in
set_option maxHeartbeats 8000000 in
theorem pkeep_new {F : Nat → Prop} {w : World} {p : Value} {ps : List Pc} (h : PcG F w p ps) {d : Pc} (hd : PcOk ps d) {lv : Value} (hl : OwnL w lv d.l) (hfew : ps.length ≤ 1000000000) (hk : ∀ i, i < ps.length → pkey (ps.getD i pc0) ≠ pkey d) :
    Calls Tryd.prog 87 #[p, .string (strB (pkey d)), .agg #[.string (strB d.w), lv, .int .i64 d.size]] w (KeepPost F w p ps lv (txOf (txs ps) d)) := by
  obtain ⟨la, lcap, rfl, _, _, _⟩ := hl.1.rd.len
  generalize hll : d.l.length = ll at hl ⊢
  have HH := Shut.mk h
  have hpk := pkey_len hd.few.1 hd.few.2 (fun x hx => by have := hd.parts x hx; exact ⟨by have := this.1; omega, by have := this.2; omega⟩)
  obtain ⟨pb, mb, n, nv, lvs, D, rfl, h2, h3, h4, h5, h6, h7, h8, h9, h10, h11, h12⟩ := h.rep
  have x1 : Maps.has D (.string (pkey d)) = false := by
    cases hh : Maps.has D (.string (pkey d)) with
    | false => rfl
    | true =>
      obtain ⟨i, hi, he⟩ := h8.2 _ hh
      exact absurd he (hk i hi)
  have hkey : keyOf Tryd.prog 9 (.string (strB (pkey d))) = some (.string (pkey d)) := WideMaps.keyOf_string_mk Tryd.underlying9 (by rw [strB_size]; unfold maxLen; omega)
  have hlaw : Keyed Tryd.prog 9 := string_keyed Tryd.underlying9
  have HKEY := Shut.mk hkey
  have X1 := Shut.mk x1
  have HLT := Shut.mk h.lt
  clear hkey h hk
  generalize hKY : Value.string (strB (pkey d)) = KY at HKEY
  have HL0 := Shut.mk hl
  have hh2 := h2
  have hh3 := h3
  have hh6 := h6
  obtain ⟨na, ncap, rfl, n1, n2, n3, n4, n5⟩ := h3.rdv
  have hpc : pcCells d (.slice la ll lcap) = [.string (strB d.w), (.slice la ll lcap), .int .i64 d.size] := rfl
  have HPC := Shut.mk hpc
  clear hpc
  generalize strB d.w = X at HPC
  generalize hZ : d.size = Z at HPC
  have HD := Shut.mk hd
  clear hd hZ
  have kw4 : Kept w (w.alloc (.cells #[.string X, (.slice la ll lcap), .int .i64 Z] 102)) := (Kept.refl w).alloc _
  have b4 := Blk.new w [.string X, (.slice la ll lcap), .int .i64 Z] 102
  have m2 := ownsMap_kept h6 kw4
  have hpq : pb ≠ w.heap.size := Nat.ne_of_lt h2.lt
  have hmq : mb ≠ w.heap.size := Nat.ne_of_lt h6.lt
  have hmn : ∀ W : World, (binOp .eql 67 (.map (some mb)) (.map none)).run Tryd.prog W = .ok (.bool false) W := fun W => run_eql_map_nil W 67 _ _ (some mb) Tryd.underlying67
  have q0 := (h2.kept kw4).cell 0
  have q1 := (h2.kept kw4).cell 1
  have qf := (h2.kept kw4).frozen 0
  simp only [List.getElem?_cons_succ, List.getElem?_cons_zero] at q0 q1
  go_enter Tryd.func87, Tryd.ntmps87
  go_wp2_with (first | (at_lookup; refine wpList_lookup_own_ok_int _ rfl _ _ 67 rfl 9 3 .i64 hlaw Tryd.underlying67 Tryd.underlying3 (zeroInt _) mb n D rfl m2 _ _ rfl HKEY.out ?_; intro c hat hwc; rw [x1]) | fail)
  generalize w.alloc (.cells #[.string X, (.slice la ll lcap), .int .i64 Z] 102) = w4 at b4 kw4 q0 q1 qf m2 ⊢
  have c40 := b4.cell 0
  have c41 := b4.cell 1
  have c42 := b4.cell 2
  simp only [List.getElem?_cons_succ, List.getElem?_cons_zero] at c40 c41 c42
  have hn4 := h3.kept kw4
  obtain ⟨i0, hi, hz0, hz1, hz2⟩ := info_parts Tryd.infoPiece
  have hgb : Blk w4 pb 96 [.slice na ps.length ncap, .map (some mb)] := h2.kept kw4
  have hnb : ¬ Blks (.slice na ps.length ncap) pb := Ownv.notBlk hn4 hgb (by decide)
  have hnq : ¬ Blks (.slice na ps.length ncap) w.heap.size := fun hb => Nat.lt_irrefl _ (h3.lt hb).1
  have gb := hgb.lt
  have hcz : ∀ ob, (w4.alloc ob).cell? ⟨pb, 0, none⟩ = some (.slice na ps.length ncap) := fun ob => (hgb.kept ((Kept.refl w4).alloc ob)).cell 0
  have hfz : ∀ ob, (w4.alloc ob).frozen? ⟨pb, 0, none⟩ = false := fun ob => by
    have := (hgb.kept ((Kept.refl w4).alloc ob)).frozen 0
    exact this
  have hnb' : some pb ≠ (Value.slice na ps.length ncap).ownBlock := fun e => hnb e.symm
  have hnq' : some w.heap.size ≠ (Value.slice na ps.length ncap).ownBlock := fun e => hnq e.symm
  have qb := b4.lt
  go_region_law
    ((refine step_append_lies _ (by rfl) _ _ _ (by rfl) 0 102 i0 _ 3 48 Tryd.underlying94 hi hz0 hz1 hz2 rfl (by omega) (.slice na ps.length ncap) ps.length (pflat ps lvs) (by rfl) ((hn4.alloc _).drew)
        ⟨w4.heap.size, 0, none⟩ 1 1 [.string X, (.slice la ll lcap), .int .i64 Z] (by rfl) (by rfl) (World.news_of_block (cs := #[.string X, (.slice la ll lcap), .int .i64 Z]) (t := 102) (fr := (0, 0)) (heap_alloc_new w4 _)) (by simp [Value.oneCell'])
        (by omega) (by unfold maxLen; omega) (by omega) (by omega) (w4.heap.size + 1) (by simp) ?_; intro gg cap w5 hown5 hgrow hat hlt; have hfz5 : w5.frozen? ⟨pb, 0, none⟩ = false := (hgrow.frozen_far ⟨pb, 0, none⟩ (by simp; omega) hnb').trans (hfz _); have hcz5 : w5.cell? ⟨pb, 0, none⟩ = some (.slice na ps.length ncap) := (hgrow.cell_far ⟨pb, 0, none⟩ (by simp; omega) hnb').trans (hcz _);
      have t5 : Turn (Blks (.slice na ps.length ncap)) w4 w5 := ((((Kept.refl w4).alloc (.cells #[.string X, (.slice la ll lcap), .int .i64 Z] 102)).drew).turn _).trans ((Grown.turn hgrow).mono fun b hb => hb.symm) (fun x hx => .inl hx)))
  all_goals
    have o6 : Ownv 0 102 3 (w5.setCell ⟨pb, 0, none⟩ (.slice (some ⟨gg, 0, none⟩) (ps.length + 1) cap)) (.slice (some ⟨gg, 0, none⟩) (ps.length + 1) cap) (ps.length + 1) (pflat ps lvs ++ [.string X, (.slice la ll lcap), .int .i64 Z]) :=
      Ownv.setCell hown5 (Ownv.notBlk hown5 (hgb.turn t5 hnb) (by decide)) _
    have g6 : Blk (w5.setCell ⟨pb, 0, none⟩ (.slice (some ⟨gg, 0, none⟩) (ps.length + 1) cap)) pb 96 [.slice (some ⟨gg, 0, none⟩) (ps.length + 1) cap, .map (some mb)] := (hgb.turn t5 hnb).set 0 _
    have t6 : Turn (fun b => Blks (.slice na ps.length ncap) b ∨ b = pb) w4 (w5.setCell ⟨pb, 0, none⟩ (.slice (some ⟨gg, 0, none⟩) (ps.length + 1) cap)) :=
      (t5.mono fun b hb => .inl hb).trans (turn_setCell w5 _ _) (fun x hx => .inl (.inr hx))
    have m6 := ownsMap_turn (ownsMap_kept h6 kw4) t6 (fun hb => hb.elim (ownsMap_notBlk (ownsMap_kept h6 kw4) hn4) (fun e => ownsMap_notBlk' (ownsMap_kept h6 kw4) hgb e.symm))
    generalize w5.setCell ⟨pb, 0, none⟩ (.slice (some ⟨gg, 0, none⟩) (ps.length + 1) cap) = w6 at o6 g6 t6 m6 ⊢
    have z1 := g6.cell 1
    simp only [List.getElem?_cons_succ, List.getElem?_cons_zero] at z1
    go_wp2_with (at_mapUpdate; refine wpList_mapUpdate_own _ rfl _ _ _ 67 rfl 9 3 hlaw Tryd.underlying67 (plainElem Tryd.prog 3) mb n D rfl m6 (by unfold maxLen; omega) _ _ (.string (pkey d)) rfl rfl HKEY.out (.lit (.int .i64 ps.length)) [] (plainElem_int Tryd.underlying3 (WalkArith.wf_i64 (by omega))) ?_; intro w7 own7 hg7)
    go_ret
    obtain ⟨F', r1, r2, r3⟩ := pc_grow HH.out.ok HD.out X1.out h2 h3 h4 h5 h6 h7 h8 h9 h10 h11 h12 HLT.out HL0.out kw4 t6 g6 (by rw [HPC.out]; exact o6) (fun b hb => by
      obtain rfl : gg = b := by simpa [Blks, Value.ownBlock] using hb
      rcases hat with c | c
      · exact .inl c
      · have := kw4.size
        exact .inr (by omega)) own7 m6 ((Grown.turn hg7).mono fun b hb => by simpa using hb)
    exact ⟨F', _, ps.length, rfl, r1, PExt.snoc ps d, by simp, by simp, tx_new ps d, r2, r3⟩
theorem keepP_any {F : Nat → Prop} {w : World} {p : Value} {ps : List Pc} (h : PcG F w p ps) {d : Pc} (hd : PcOk ps d) {lv : Value} (hl : OwnL w lv d.l) (hfew : ps.length ≤ 1000000000) :
    Calls Tryd.prog 87 #[p, .string (strB (pkey d)), .agg #[.string (strB d.w), lv, .int .i64 d.size]] w (KeepPost F w p ps lv (txOf (txs ps) d)) := by
  by_cases c : ∃ i, i < ps.length ∧ pkey (ps.getD i pc0) = pkey d
  · obtain ⟨i, hi, he⟩ := c
    exact pkeep_old h hd hl hfew hi he
  · exact pkeep_new h hd hl hfew (fun i hi e => c ⟨i, hi, e⟩)
end Go.Proofs.YtangbnmgkcmhbaaDoor
end

section
/- Pieces: word, chain. -/
set_option linter.unusedSimpArgs false
set_option linter.unusedVariables false
namespace Go.Proofs.YtangbnmgkcmhbaaDoor
open Go.RowKit Go.Maps

/-- A piece that says t is answered; at most k are new. -/
def PPost (F : Nat → Prop) (w : World) (p : Value) (ps : List Pc) (t : List UInt8) (k : Nat) (e : Ending) (w' : World) : Prop :=
  ∃ (F' : Nat → Prop) (ps' : List Pc) (n : Nat), e = .returned (.int .i64 n) ∧ PcG F' w' p ps' ∧ PExt ps ps' ∧ ps'.length ≤ ps.length + k ∧ n < ps'.length ∧ tx ps' (n : Int) = t ∧ Turn F w w' ∧ ∀ b, F' b → F b ∨ w.heap.size ≤ b

theorem strB_cat2 (a b : List UInt8) : strB (a ++ b) = strB a ++ strB b := by
  unfold strB
  apply ByteArray.ext
  simp
set_option maxRecDepth 100000 in
set_option maxHeartbeats 4000000 in
theorem word_any {F : Nat → Prop} {w : World} {p : Value} {ps : List Pc} (h : PcG F w p ps) (s : List UInt8) (hs : s ≠ []) (hl : s.length ≤ 1000) (hfew : ps.length ≤ 1000000000) :
    Calls Tryd.prog 75 #[p, .string (strB s)] w (PPost F w p ps s 1) := by
  have hd : PcOk ps ⟨s, [], s.length⟩ := ⟨.inl ⟨rfl, hs⟩, fun x hx => (List.not_mem_nil hx).elim, (cap31_eq (by omega)).symm, ⟨hl, by simp⟩⟩
  have hk := keepP_any h hd (lv := .slice none 0 0) ⟨OwnI.nil _ _, fun _ => rfl⟩ hfew
  have e1 : strB (pkey ⟨s, [], s.length⟩) = (⟨#[39]⟩ : ByteArray) ++ strB s := by
    have : pkey ⟨s, [], s.length⟩ = 39 :: s := rfl
    rw [this]
    exact strB_cat2 [39] s
  rw [e1] at hk
  have e2 := strB_size s
  have ht : txOf (txs ps) ⟨s, [], s.length⟩ = s := rfl
  rw [ht] at hk
  simp only at hk
  clear ht e1 hd hs
  rw [← e2] at hk hl
  generalize strB s = S at hk hl ⊢
  go_enter Tryd.func75, Tryd.ntmps75
  go_wp2_with (go_at_call 87; (with_reducible refine hk.mono ?_); rintro e w' ⟨F', ps', n, rfl, r1, r2, r3, r4, r5, r6, r7⟩)
  go_ret
  exact ⟨F', ps', n, rfl, r1, r2, r3, r4, r5, r6, fun b hb => (r7 b hb).elim .inl (fun c => c.elim (fun d => by cases d) .inr)⟩

/-- The same; it keeps the slice of its pieces. -/
def ChPost (F : Nat → Prop) (w : World) (p : Value) (ps : List Pc) (lv : Value) (t : List UInt8) (e : Ending) (w' : World) : Prop :=
  ∃ (F' : Nat → Prop) (ps' : List Pc) (n : Nat), e = .returned (.int .i64 n) ∧ PcG F' w' p ps' ∧ PExt ps ps' ∧ ps'.length ≤ ps.length + 1 ∧ n < ps'.length ∧ tx ps' (n : Int) = t ∧ Turn F w w' ∧ ∀ b, F' b → F b ∨ Blks lv b ∨ w.heap.size ≤ b
theorem cap31_add' (a b : Nat) : min (cap31 a + cap31 b) 2147483648 = cap31 (a + b) := by
  rw [← cap31_add]
  split <;> omega
set_option maxRecDepth 100000 in
set_option maxHeartbeats 4000000 in
theorem chain_any {F : Nat → Prop} {w : World} (hT : Tabs w) {p : Value} {ps : List Pc} (h : PcG F w p ps) {v : Value} {l : List Int} (hv : OwnI 0 w v l) (hne : l ≠ []) (hll : l.length ≤ 1000) (hp : ∀ x ∈ l, IsP ps.length x) (hfew : ps.length ≤ 1000000000) :
    Calls Tryd.prog 88 #[p, v] w (ChPost F w p ps v (cat (txs ps) l)) := by
  have HH := Shut.mk h
  have HV := Shut.mk hv
  have hTb := Lib.tabBelow_of_tabIs hT.pow
  have hr := hv.rd
  obtain ⟨la, lc, rfl, l1, l2, l3⟩ := hr.len
  have HP := Shut.mk hp
  have HNE := Shut.mk hne
  clear h hv hp hne
  have hL : l.length = l.length := rfl
  have l63 : ((l.length : Nat) : Int) ≤ 9223372036854775807 := by omega
  go_enter Tryd.func88, Tryd.ntmps88
  go_wp2
  go_loopw [5, 6, 11] (fun b s i wr => ∃ k : Nat, k ≤ l.length ∧ i = .int .i64 k ∧ s = .int .i64 (cap31 (cat (txs ps) (l.take k)).length) ∧ OwnU w.heap.size wr b (partsKey (l.take k)) ∧ Kept w wr) (fun _ _ i _ => l.length - (intOf i).toNat)
  case atStart => exact ⟨0, Nat.zero_le _, rfl, rfl, Own.nil _ _ _, Kept.refl _⟩
  case round =>
    obtain ⟨k, hk0, rfl, rfl, hown, hkept⟩ := hrel
    by_cases hlt : k < l.length
    · have hlt' : k < l.length := by omega
      obtain ⟨rb, ro, rc, hrv, _, _, hrb, hcell⟩ := hr.addr (by omega)
      simp only [Value.slice.injEq] at hrv
      obtain ⟨rfl, _, rfl⟩ := hrv
      have hcw : wr.cell? ⟨rb, ro + k, none⟩ = some (.int .i64 (l.getD k 0)) := hkept.cell (p := ⟨rb, ro + k, none⟩) hrb |>.trans (hcell k hlt')
      clear hcell
      have hxp := HP.out _ (getD_mem hlt')
      have hstep : partsKey (l.take (k + 1)) = partsKey (l.take k) ++ (Lib.itoa (l.getD k 0) ++ [44]) := by
        rw [List.take_succ_eq_append_getElem hlt', partsKey_snoc, List.getD_eq_getElem?_getD, List.getElem?_eq_getElem hlt']; rfl
      have hcat : cat (txs ps) (l.take (k + 1)) = cat (txs ps) (l.take k) ++ tx ps (l.getD k 0) := by
        have hx : l.getD k 0 = l[k] := by rw [List.getD_eq_getElem?_getD, List.getElem?_eq_getElem hlt']; rfl
        rw [List.take_succ_eq_append_getElem hlt', cat_snoc, hx]
        rfl
      have hpl : (partsKey (l.take k)).length ≤ 22 * k := by
        have := partsKey_len (l.take k) (fun x hx => by have := HP.out x (List.mem_of_mem_take hx); exact ⟨by have := this.1; omega, by have := this.2; omega⟩)
        rw [List.length_take] at this
        omega
      have HS := Shut.mk hstep
      have HC := Shut.mk hcat
      clear hstep hcat
      generalize l.getD k 0 = x at hcw hxp HS HC
      obtain ⟨x0, x1⟩ := hxp
      obtain ⟨n, rfl⟩ := Int.eq_ofNat_of_zero_le x0
      have hn : n < ps.length := by omega
      obtain ⟨pb, ab, cap, lv, rfl, g1, g2, g3, g4, g5, g6, g7⟩ := HH.out.at hn
      have hsz := HH.out.ok.size hn
      rw [hsz] at g6
      clear g4 g5 g7 hsz
      have HC2 : Shut (cap31 (cat (txs ps) (l.take (k + 1))).length = cap31 ((cat (txs ps) (l.take k)).length + (tx ps (n : Int)).length)) := ⟨by rw [HC.out, List.length_append]⟩
      generalize (cat (txs ps) (l.take k)).length = c1 at HC2
      generalize (tx ps (n : Int)).length = c2 at HC2 g6
      have hx64 : I64 (n : Int) := ⟨by omega, by omega⟩
      have hil := itoa_len hx64
      have hT1 := hTb.on hkept
      have hltI : (k : Int) < (l.length : Int) := by omega
      have kI : ((k : Nat) : Int) ≤ 9223372036854775807 := by omega
      have b1 := cap31_le c1
      have b2 := cap31_le c2
      have HA := Shut.mk (cap31_add' c1 c2)
      generalize cap31 c1 = d1 at b1 HA
      generalize cap31 c2 = d2 at b2 HA g6
      go_wp2_with fail
      refine (appendInt_any hown hkept.size (by omega) hx64 hT1).mono ?_
      rintro e w1 ⟨v1, rfl, ho1, hb1⟩
      have hk1 : Kept w w1 := Below.trans hkept hb1
      go_wp2_with (at_builtin; refine go_app1 w.heap.size v1 _ rfl w1 44 44 rfl rfl ho1 rfl (by simp; omega) hk1.size ?_; intro v2 w2 ho2 _ hb2 _; have hk2 : Kept w w2 := Below.trans hk1 hb2; have g3' := hk2.cell (p := ⟨pb, 0, none⟩) g1 |>.trans g3; have g6' := hk2.cell (p := ⟨ab, n * 3 + 2, none⟩) g2 |>.trans g6)
      go_roundw
      case rel =>
        refine ⟨k + 1, hlt, rfl, ?_, ?_, hk2⟩
        · rw [HC2.out, ← HA.out]
        · rw [HS.out]
          simpa using ho2
      case measure => simp [intOf]; omega
    · obtain rfl : k = l.length := by omega
      rw [List.take_length] at hown
      have hd : PcOk ps ⟨[], l, cap31 (cat (txs ps) l).length⟩ := ⟨.inr ⟨rfl, HNE.out⟩, HP.out, by unfold txOf; rw [if_neg HNE.out], by simp; omega⟩
      have hk := keepP_any (HH.out.kept hkept) hd (lv := .slice la l.length lc) ⟨Ownv.kept HV.out hkept, fun e => absurd e HNE.out⟩ hfew
      have e1 : pkey ⟨[], l, cap31 (cat (txs ps) l).length⟩ = partsKey l := by unfold pkey; rw [if_neg HNE.out]
      have e2 : txOf (txs ps) ⟨[], l, cap31 (cat (txs ps) l).length⟩ = cat (txs ps) l := by unfold txOf; rw [if_neg HNE.out]
      rw [e1, e2] at hk
      simp only at hk
      have e4 : strB [] = (⟨#[]⟩ : ByteArray) := rfl
      rw [e4] at hk
      have e3 : cat (txs ps) (l.take l.length) = cat (txs ps) l := by rw [List.take_length]
      rw [e3]
      generalize cap31 (cat (txs ps) l).length = Z at hk ⊢
      have hstr := strU hown
      clear e1 e2 e3 hd
      have HK := Shut.mk hkept
      go_wp2_with (go_at_call 87; (with_reducible refine hk.mono ?_); rintro e w' ⟨F', ps', n, rfl, r1, r2, r3, r4, r5, r6, r7⟩)
      go_ret
      exact ⟨F', ps', n, rfl, r1, r2, r3, r4, r5, Turn.trans (HK.out.turn F) r6 (fun b hb => .inl hb), fun b hb => (r7 b hb).elim .inl (fun c => c.elim (fun d => .inr (.inl d)) (fun d => .inr (.inr (Nat.le_trans HK.out.size d))))⟩
end Go.Proofs.YtangbnmgkcmhbaaDoor
end

section
/- Pieces: write. -/
set_option linter.unusedSimpArgs false
set_option linter.unusedVariables false
namespace Go.Proofs.YtangbnmgkcmhbaaDoor
open Go.RowKit Go.Maps

theorem Tryd.sizeBuilder : (Tryd.prog.info? 106).map (·.size) = some 2 := by kernel_rfl
set_option maxHeartbeats 1000000 in
set_option maxRecDepth 100000 in
theorem copyCheck_used (b : Nat) (w : World) (h0 : w.cell? ⟨b, 0, none⟩ = some (.pointer (some ⟨b, 0, none⟩))) :
    Calls Tryd.prog 77 #[.pointer (some ⟨b, 0, none⟩)] w fun e w' => e = .returned (.tuple #[]) ∧ w' = w := by
  obtain ⟨j, hj, _⟩ := Option.map_eq_some_iff.1 Tryd.sizeBuilder
  go_enter Tryd.func77, Tryd.ntmps77
  go_wp2
  rw [Lib.run_neq_ptr_same w _ Tryd.underlying103 hj]
  go_wp2
  go_end0
  exact ⟨rfl, rfl⟩

/-- b is a strings.Builder of the call's own (blocks from B on) that has the bytes bs, and has been used. -/
def SbU (B b : Nat) (bs : List UInt8) (w : World) : Prop :=
  B ≤ b ∧ ∃ bv, Blk w b 106 [.pointer (some ⟨b, 0, none⟩), bv] ∧ OwnU B w bv bs
theorem SbU.kept {B b : Nat} {bs : List UInt8} {w w' : World} (h : SbU B b bs w) (k : Kept w w') : SbU B b bs w' := by
  obtain ⟨h1, bv, h2, h3⟩ := h
  exact ⟨h1, bv, h2.kept k, Own.kept h3 k⟩

set_option maxHeartbeats 2000000 in
set_option maxRecDepth 100000 in
theorem sbstr_any {B b : Nat} {bs : List UInt8} {w : World} (h : SbU B b bs w) (hB : B ≤ w.heap.size) (hl : bs.length ≤ 1000000) (s : List UInt8) (hs : s.length ≤ 1000000) :
    Calls Tryd.prog 79 #[.pointer (some ⟨b, 0, none⟩), .string (strB s)] w fun e w' => e = .returned (.tuple #[.int .i64 s.length, .nilIface]) ∧ SbU B b (bs ++ s) w' ∧ Below B w w' := by
  obtain ⟨hBb, bv, hk, ho⟩ := h
  obtain ⟨i0, hi, hz0, hz1, hz2⟩ := info_parts Tryd.info5
  have e1 := strB_size s
  have hcs : Lib.strCells (strB s) = Lib.byteCells s := rfl
  generalize strB s = S at e1 hcs
  have c0 := hk.cell 0
  have c1 := hk.cell 1
  simp only [List.getElem?_cons_succ, List.getElem?_cons_zero] at c0 c1
  go_enter Tryd.func79, Tryd.ntmps79
  go_wp2_with (first
    | (go_at_call 77; refine (copyCheck_used b w c0).mono ?_; rintro e w1 ⟨rfl, rfl⟩)
    | (at_builtin; refine Lib.wpList_append_own_string _ rfl _ _ 104 9 rfl B 5 i0 Tryd.underlying104 Tryd.underlying9 hi hz0 hz1 hz2 bv (toI bs).length _ rfl ho S rfl (by rw [e1, toI_length]; unfold maxLen; omega) (by rw [e1, toI_length]; omega) hB ?_; intro v2 w2 ho2 hg2 _; refine Hid.out ?_))
  refine Lib.hid ?_
  have ht2 : Turn (Blks bv) w1 w2 := (Grown.turn hg2).mono fun b hb => hb.symm
  have ho3 : OwnU B w2 v2 (bs ++ s) := by
    unfold OwnU Own Ownv
    rw [toI_cells, toI_length, List.length_append]
    rw [hcs, toI_cells, e1, toI_length] at ho2
    simpa [Lib.byteCells] using ho2
  have hk2 : Blk w2 b 106 [.pointer (some ⟨b, 0, none⟩), bv] := hk.turn ht2 (Ownv.notBlk ho hk (by decide))
  have hb2 : Below B w1 w2 := Turn.below (Below.refl B w1) ht2 (fun x hx => (Ownv.lt ho hx).2) hB
  clear ho2 hg2
  obtain ⟨ao, cap, rfl, _, _, _⟩ := (Own.rd ho3).len
  have d1 := hk2.cell 1
  have f1 := hk2.frozen 1
  simp only [List.getElem?_cons_succ, List.getElem?_cons_zero] at d1
  have hfin : SbU B b (bs ++ s) (w2.setCell ⟨b, 1, none⟩ (.slice ao (toI (bs ++ s)).length cap)) := ⟨hBb, _, hk2.set 1 _, Ownv.setCell ho3 (Ownv.notBlk ho3 hk2 (by decide)) _⟩
  have hbel : Below B w1 (w2.setCell ⟨b, 1, none⟩ (.slice ao (toI (bs ++ s)).length cap)) := hb2.setCell (p := ⟨b, 1, none⟩) hBb _
  generalize (toI (bs ++ s)).length = len at hfin hbel d1 f1 ⊢
  clear ho3 hcs
  go_wp2
  go_ret2
  exact ⟨rfl, hfin, hbel⟩

/-- What one piece's cells are, and where they lie. -/
theorem PcG.at2 {F : Nat → Prop} {w : World} {p : Value} {ps : List Pc} (h : PcG F w p ps) {i : Nat} (hi : i < ps.length) :
    ∃ (pb ab cap : Nat) (lv : Value), p = .pointer (some ⟨pb, 0, none⟩) ∧ F pb ∧ F ab ∧ (∀ b, VB lv b → F b) ∧ w.cell? ⟨pb, 0, none⟩ = some (.slice (some ⟨ab, 0, none⟩) ps.length cap) ∧
      w.cell? ⟨ab, i * 3, none⟩ = some (.string (strB (ps.getD i pc0).w)) ∧ w.cell? ⟨ab, i * 3 + 1, none⟩ = some lv ∧ w.cell? ⟨ab, i * 3 + 2, none⟩ = some (.int .i64 (ps.getD i pc0).size) ∧
      RdI w lv (ps.getD i pc0).l := by
  obtain ⟨pb, mb, n, nv, lvs, D, rfl, h2, h3, h4, h5, h6, h7, h8, h9, h10, h11, h12⟩ := h.rep
  obtain ⟨g, cap, rfl, g1, g2, g3, g4, g5, g6⟩ := Ownv.row h3 (by omega)
  have hat : ∀ j u, j < 3 → (pcCells (ps.getD i pc0) (lvs.getD i undef))[j]? = some u → w.cell? ⟨g, i * 3 + j, none⟩ = some u := by
    intro j u hj hu
    have := g5 (i * 3 + j) (by omega)
    rw [List.getD_eq_getElem?_getD, pflat_at ps lvs i j hi hj, hu] at this
    exact this
  exact ⟨pb, g, cap, lvs.getD i undef, rfl, h9, h11 g rfl, fun b ⟨o, sp, n', c', _, hv⟩ => h12 i hi b (by rw [hv]; rfl), h2.cell 0, hat 0 _ (by omega) rfl, hat 1 _ (by omega) rfl, hat 2 _ (by omega) rfl, (h5 i hi).1.rd⟩
/-- What write leaves. -/
def WritePost (B b : Nat) (bs : List UInt8) (w : World) (e : Ending) (w' : World) : Prop := e = .returned (.tuple #[]) ∧ SbU B b bs w' ∧ Below B w w'
theorem cat_take_le (t : Txs) (l : List Int) (k : Nat) : (cat t (l.take k)).length ≤ (cat t l).length := by
  have : cat t l = cat t (l.take k) ++ cat t (l.drop k) := by rw [← cat_append, List.take_append_drop]
  rw [this, List.length_append]; omega
theorem PcG.below {F : Nat → Prop} {B : Nat} {w w' : World} {p : Value} {ps : List Pc} (h : PcG F w p ps) (hF : ∀ b, F b → b < B) (k : Below B w w') : PcG F w' p ps :=
  h.turn (Below.turn k) (fun b hb hc => by have := hF b hb; omega)
set_option maxHeartbeats 4000000 in
set_option maxRecDepth 100000 in
theorem write_any {F : Nat → Prop} {B : Nat} {p : Value} {ps : List Pc} (hF : ∀ b, F b → b < B) (hfew : ps.length ≤ 1000000000) : ∀ (N x : Nat), x < N → ∀ {w : World} {b : Nat} {bs : List UInt8}, PcG F w p ps → SbU B b bs w → B ≤ w.heap.size → x < ps.length → bs.length + (tx ps (x : Int)).length ≤ 1000000 →
    Calls Tryd.prog 54 #[p, .pointer (some ⟨b, 0, none⟩), .int .i64 x] w (WritePost B b (bs ++ tx ps (x : Int)) w) := by
  intro N
  induction N with
  | zero => intro x h; omega
  | succ N ih =>
    intro x hxN w b bs h sb hB hx hlen
    have HIH := Shut.mk (fun (y : Nat) (hy : y < N) => @ih y hy)
    clear ih
    have HH := Shut.mk h
    have htx := tx_at h.ok hx
    have hok := h.ok x hx
    have hpt := h.ok.parts hx
    obtain ⟨pb, ab, cap, lv, rfl, g1, g2, hvb, g3, g4, g5, g6, hr⟩ := h.at2 hx
    clear g6
    have hww : tx ps (x : Int) = (ps.getD x pc0).w ++ cat (txs ps) (ps.getD x pc0).l := by
      rw [htx]
      unfold txOf
      rcases hok.shape with ⟨a, _⟩ | ⟨a, c⟩
      · rw [if_pos a, a]; simp [cat]
      · rw [if_neg c, a]; rfl
    rw [hww] at hlen ⊢
    have hw1 := hok.few.1
    have hw2 := hok.few.2
    clear htx hok hww h
    generalize ps.getD x pc0 = d at g4 g5 hr hpt hlen hw1 hw2 ⊢
    obtain ⟨dw, dl, dsz⟩ := d
    simp only at g4 g5 hr hpt hlen hw1 hw2 ⊢
    obtain ⟨la, lc, rfl, l1, l2, l3⟩ := hr.len
    rw [List.length_append] at hlen
    have l63 : ((dl.length : Nat) : Int) ≤ 9223372036854775807 := by omega
    have hxI : (x : Int) < (ps.length : Int) := by omega
    have hst := sbstr_any sb hB (by omega) dw (by omega)
    have HR := Shut.mk hr
    have HPT := Shut.mk hpt
    have HVB := Shut.mk hvb
    clear hr hpt hvb
    go_enter Tryd.func54, Tryd.ntmps54
    go_wp2_with fail
    (with_reducible refine hst.mono ?_)
    clear hst
    rintro e w1 ⟨rfl, sb1, k1⟩
    have q3 : w1.cell? ⟨pb, 0, none⟩ = _ := (Below.cell k1 (p := ⟨pb, 0, none⟩) (hF _ g1)).trans g3
    have q5 : w1.cell? ⟨ab, x * 3 + 1, none⟩ = _ := (Below.cell k1 (p := ⟨ab, x * 3 + 1, none⟩) (hF _ g2)).trans g5
    clear g3 g4 g5
    go_wp2
    go_loopw [27] (fun i wr => ∃ k : Nat, k ≤ dl.length ∧ i = .int .i64 k ∧ SbU B b (bs ++ dw ++ cat (txs ps) (dl.take k)) wr ∧ Below B w wr) (fun i _ => dl.length - (intOf i).toNat)
    case atStart => exact ⟨0, Nat.zero_le _, rfl, by simpa [cat] using sb1, k1⟩
    case round =>
      obtain ⟨k, hk0, rfl, sbr, kr⟩ := hrel
      by_cases hlt : k < dl.length
      · have hrw : RdI wr (.slice la dl.length lc) dl := RdI.turn HR.out (Below.turn kr) (fun c hc hd => by have := hF c (HVB.out c hc); omega)
        obtain ⟨rb, ro, rc, hrv, _, _, hrb, hcl⟩ := hrw.addr (by omega)
        simp only [Value.slice.injEq] at hrv
        obtain ⟨rfl, _, rfl⟩ := hrv
        have hcw := hcl k hlt
        clear hcl
        have hyp := HPT.out _ (getD_mem hlt)
        have hcat : cat (txs ps) (dl.take (k + 1)) = cat (txs ps) (dl.take k) ++ tx ps (dl.getD k 0) := by
          have hx : dl.getD k 0 = dl[k] := by rw [List.getD_eq_getElem?_getD, List.getElem?_eq_getElem hlt]; rfl
          rw [List.take_succ_eq_append_getElem hlt, cat_snoc, hx]
          rfl
        have hle := cat_take_le (txs ps) dl (k + 1)
        rw [hcat, List.length_append] at hle
        have HC := Shut.mk hcat
        clear hcat
        generalize dl.getD k 0 = y at hcw hyp HC hle
        obtain ⟨y0, y1⟩ := hyp
        obtain ⟨n, rfl⟩ := Int.eq_ofNat_of_zero_le y0
        have hB2 : B ≤ wr.heap.size := Nat.le_trans hB kr.size
        have hrec := HIH.out n (by omega) (HH.out.below hF kr) sbr hB2 (by omega) (by simp only [List.length_append]; omega)
        have hltI : (k : Int) < (dl.length : Int) := by omega
        go_wp2_with fail
        (with_reducible refine hrec.mono ?_)
        clear hrec
        rintro e w2 ⟨rfl, sb2, k2⟩
        go_wp2
        go_roundw
        case rel => exact ⟨k + 1, hlt, rfl, by rw [HC.out, ← List.append_assoc]; exact sb2, Below.trans kr k2⟩
        case measure => simp [intOf]; omega
      · obtain rfl : k = dl.length := by omega
        rw [List.take_length, List.append_assoc] at sbr
        have HS := Shut.mk sbr
        clear sbr
        go_wp2
        go_end0
        exact ⟨rfl, HS.out, kr⟩
end Go.Proofs.YtangbnmgkcmhbaaDoor
end

section
/- Pieces: texts. -/
set_option linter.unusedSimpArgs false
set_option linter.unusedVariables false
namespace Go.Proofs.YtangbnmgkcmhbaaDoor
open Go.RowKit Go.Maps

/-- v is a slice of the call's own of the strings ts. -/
def strV (t : List UInt8) : Value := .string (strB t)
def OwnT (B : Nat) (w : World) (v : Value) (ts : List (List UInt8)) : Prop := Ownv B 9 1 w v ts.length (ts.map strV)
theorem OwnT.kept {B : Nat} {w w' : World} {v : Value} {ts : List (List UInt8)} (h : OwnT B w v ts) (k : Kept w w') : OwnT B w' v ts := Ownv.kept h k
theorem Tryd.infoStr : (Tryd.prog.info? 9).map (fun i => (i.zero, i.size, i.bytes)) = some (some (.string ⟨#[]⟩), 1, 16) := by kernel_rfl
theorem go_mkstrs {w : World} {ops : Array Oper} {rest : List Oper} {a : Act} {Q : Exit → Act → World → Prop} {d : Option Tmp} {ty : TypeId} {ps : String} {af : Array Edge} {l c : Operand}
    (n : Nat) (L : Int) (hl : a.eval l = .int .i64 L) (hc : a.eval c = .int .i64 L) (hL : L = (n : Int)) (h1 : n ≤ 1000000000)
    (hK : ∀ w', OwnT w.heap.size w' (.slice (some ⟨w.heap.size, 0, none⟩) n n) (List.replicate n []) → Kept w w' → w.heap.size < w'.heap.size → wpList Tryd.prog ops Q rest (a.put d (.slice (some ⟨w.heap.size, 0, none⟩) n n)) w') :
    wpList Tryd.prog ops Q (⟨d, .makeSlice 40 l c, ty, ps, af, none⟩ :: rest) a w := by
  obtain ⟨i0, hi, hz0, hz1, hz2⟩ := info_parts Tryd.infoStr
  refine wpList_make_full w rfl l c 40 rfl w.heap.size 9 i0 (.string ⟨#[]⟩) 1 Tryd.underlying40 hi hz0 hz1 .i64 .i64 L L n hl hc hL hL (by rw [hz2]; omega) (by unfold maxLen; omega) (Nat.le_refl _) ?_
  intro w' ho hg
  have hO : OwnT w.heap.size w' (.slice (some ⟨w.heap.size, 0, none⟩) n n) (List.replicate n []) := by
    unfold OwnT Ownv
    rw [List.length_replicate]
    have e : (madeCells (Value.string ⟨#[]⟩).cells (n * 1)).toList = (List.replicate n ([] : List UInt8)).map strV := by
      rw [List.map_replicate]
      refine List.ext_getElem? fun q => ?_
      by_cases hq : q < n
      · simp [madeCells, Value.cells, hq, List.getElem?_replicate, strV, strB, Nat.mod_one]
      · rw [List.getElem?_eq_none (by simp [madeCells]; omega), List.getElem?_eq_none (by simp; omega)]
    rw [← e]
    exact ho
  have hk : Kept w w' := (Below.refl w.heap.size w).grown hg (Nat.le_refl _) fun k hk => by cases hk
  refine hK w' hO hk ?_
  rcases hO.2 with ⟨hh, _⟩ | ⟨g, cap, cur, hv, _, hgg, _⟩
  · cases hh
  · simp only [Value.slice.injEq, Option.some.injEq, Addr.mk.injEq] at hv
    obtain ⟨⟨rfl, _⟩, _, rfl⟩ := hv
    exact (Array.getElem?_eq_some_iff.1 hgg).1

/-- The first k of them, and nothing. -/
def partT (ts : List (List UInt8)) (k : Nat) : List (List UInt8) := ts.take k ++ List.replicate (ts.length - k) []
theorem partT_len (ts : List (List UInt8)) (k : Nat) (h : k ≤ ts.length) : (partT ts k).length = ts.length := by
  unfold partT
  rw [List.length_append, List.length_take, List.length_replicate]; omega
theorem partT_set (ts : List (List UInt8)) (k : Nat) (h : k < ts.length) : (partT ts k).set k (ts.getD k []) = partT ts (k + 1) := by
  unfold partT
  have e : ts.length - k = (ts.length - (k + 1)) + 1 := by omega
  rw [e, List.replicate_succ, List.set_append_right _ _ (by rw [List.length_take]; omega), List.length_take, Nat.min_eq_left (by omega), Nat.sub_self, List.set_cons_zero, List.take_succ_eq_append_getElem h, List.append_assoc]
  rw [List.getD_eq_getElem?_getD, List.getElem?_eq_getElem h]
  rfl
theorem partT_all (ts : List (List UInt8)) : partT ts ts.length = ts := by simp [partT]
theorem partT_put {B : Nat} {w : World} {g n cap k : Nat} {ts : List (List UInt8)} (hn : n = ts.length) (h : OwnT B w (.slice (some ⟨g, 0, none⟩) n cap) (partT ts k)) (hk : k < ts.length) :
    OwnT B (w.setCell ⟨g, k, none⟩ (.string (strB (ts.getD k [])))) (.slice (some ⟨g, 0, none⟩) n cap) (partT ts (k + 1)) := by
  subst hn
  have hl := partT_len ts k (Nat.le_of_lt hk)
  have h' : Ownv B 9 1 w (.slice (some ⟨g, 0, none⟩) ts.length cap) ts.length ((partT ts k).map strV) := by
    have := h
    unfold OwnT at this
    rw [hl] at this
    exact this
  have := Ownv.put h' k (by omega) (strV (ts.getD k []))
  unfold OwnT
  rw [← partT_set ts k hk, List.length_set, hl, List.map_set]
  exact this

theorem cat_tx_le {ps : List Pc} {l : List Int} {x : Int} (h : x ∈ l) : (tx ps x).length ≤ (cat (txs ps) l).length := by
  induction l with
  | nil => cases h
  | cons y l ih =>
    rw [cat_cons, List.length_append]
    rcases List.mem_cons.1 h with rfl | h
    · show (tx ps x).length ≤ (tx ps x).length + _; omega
    · have := ih h; omega
/-- What texts leaves. -/
def TextsPost (w : World) (ts : List (List UInt8)) (e : Ending) (w' : World) : Prop := ∃ u, e = .returned (.tuple #[u, .int .i64 0]) ∧ OwnT w.heap.size w' u ts ∧ Kept w w'
theorem Sbd {B b : Nat} {w : World} (h : Lib.BuilderAt 106 5 B b (.pointer (some ⟨b, 0, none⟩)) [] w) : SbU B b [] w := by
  obtain ⟨h1, v, h2, h3, h4⟩ := h
  exact ⟨h1, v, h2, h3⟩
theorem SbU.lib {B b : Nat} {bs : List UInt8} {w : World} (h : SbU B b bs w) : Lib.IsBuilder 106 5 B b (Lib.byteCells bs) w := by
  obtain ⟨h1, bv, h2, h3⟩ := h
  refine .inr ⟨h1, bv, h2, ?_, fun e => Ownv.notBlk h3 h2 (by decide) e⟩
  unfold OwnU Own Ownv at h3
  rw [toI_cells, toI_length] at h3
  simpa [Lib.byteCells] using h3

set_option maxHeartbeats 8000000 in
set_option maxRecDepth 100000 in
theorem texts_any {F : Nat → Prop} {w : World} {p : Value} {ps : List Pc} (h : PcG F w p ps) {v : Value} {l : List Int} (hd : RdI w v l) (hp : ∀ x ∈ l, IsP ps.length x) (hll : l.length ≤ 1000000) (ht : (cat (txs ps) l).length ≤ 1000000) (hfew : ps.length ≤ 1000000000) :
    Calls Tryd.prog 38 #[p, v] w (TextsPost w (l.map (tx ps))) := by
  have HH := Shut.mk h
  obtain ⟨la, lc, rfl, l1, l2, l3⟩ := hd.len
  have l63 : ((l.length : Nat) : Int) ≤ 9223372036854775807 := by omega
  have HP := Shut.mk hp
  have HD := Shut.mk hd
  have HLT := Shut.mk h.lt
  clear h hp hd
  go_enter Tryd.func38, Tryd.ntmps38
  go_wp2
  go_loopw [6, 15] (fun s i wr => ∃ k : Nat, k ≤ l.length ∧ i = .int .i64 k ∧ s = .int .i64 (cat (txs ps) (l.take k)).length ∧ w = wr) (fun _ i _ => l.length - (intOf i).toNat)
  case atStart => exact ⟨0, Nat.zero_le _, rfl, rfl, rfl⟩
  case round =>
    obtain ⟨k, hk0, rfl, rfl, rfl⟩ := hrel
    by_cases hlt : k < l.length
    · obtain ⟨rb, ro, rc, hrv, _, _, hrb, hcl⟩ := HD.out.addr (by omega)
      simp only [Value.slice.injEq] at hrv
      obtain ⟨rfl, _, rfl⟩ := hrv
      have hcw := hcl k hlt
      clear hcl
      have hyp := HP.out _ (getD_mem hlt)
      have hcat : (cat (txs ps) (l.take (k + 1))).length = (cat (txs ps) (l.take k)).length + (tx ps (l.getD k 0)).length := by
        have hx : l.getD k 0 = l[k] := by rw [List.getD_eq_getElem?_getD, List.getElem?_eq_getElem hlt]; rfl
        rw [List.take_succ_eq_append_getElem hlt, cat_snoc, hx, List.length_append]
        rfl
      have hle := cat_take_le (txs ps) l (k + 1)
      rw [hcat] at hle
      have HC := Shut.mk hcat
      clear hcat
      generalize l.getD k 0 = y at hcw hyp HC hle
      obtain ⟨y0, y1⟩ := hyp
      obtain ⟨n, rfl⟩ := Int.eq_ofNat_of_zero_le y0
      have hn : n < ps.length := by omega
      obtain ⟨pb, ab, cap, lv, rfl, g1, g2, hvb, g3, g4, g5, g6, hr⟩ := HH.out.at2 hn
      rw [HH.out.ok.size hn, cap31_eq (by omega)] at g6
      clear g4 g5 hr hvb
      generalize (cat (txs ps) (l.take k)).length = c1 at HC hle
      generalize (tx ps (n : Int)).length = c2 at HC hle g6
      have hltI : (k : Int) < (l.length : Int) := by omega
      have hsm : decide ((c1 : Int) + (c2 : Int) > 2147483647) = false := decide_eq_false (by omega)
      have hsm2 : decide ((2147483647 : Int) < (c1 : Int) + (c2 : Int)) = false := decide_eq_false (by omega)
      go_wp2
      go_roundw
      case rel => exact ⟨k + 1, hlt, rfl, by rw [HC.out]; rfl, by first | rfl | trivial⟩
      case measure => simp [intOf]; omega
    · obtain rfl : k = l.length := by omega
      go_wp2_with (at_make; refine go_mkstrs l.length _ rfl rfl rfl (by omega) ?_; intro w1 o1 k1 s1)
      have hrep : List.replicate l.length ([] : List UInt8) = partT (l.map (tx ps)) 0 := by simp [partT]
      rw [hrep] at o1
      clear hrep
      go_loopw [37] (fun i wr => ∃ k : Nat, k ≤ l.length ∧ i = .int .i64 k ∧ OwnT w.heap.size wr (.slice (some ⟨w.heap.size, 0, none⟩) l.length l.length) (partT (l.map (tx ps)) k) ∧ Kept w wr ∧ w.heap.size < wr.heap.size) (fun i _ => l.length - (intOf i).toNat)
      case atStart => exact ⟨0, Nat.zero_le _, rfl, o1, k1, s1⟩
      case round =>
        obtain ⟨k, hk0, rfl, ho, hk, hs⟩ := hrel
        by_cases hlt : k < l.length
        · obtain ⟨rb, ro, rc, hrv, _, _, hrb, hcl⟩ := HD.out.addr (by omega)
          simp only [Value.slice.injEq] at hrv
          obtain ⟨rfl, _, rfl⟩ := hrv
          have hcw : wr.cell? ⟨rb, ro + k, none⟩ = some (.int .i64 (l.getD k 0)) := hk.cell (p := ⟨rb, ro + k, none⟩) hrb |>.trans (hcl k hlt)
          clear hcl
          have hyp := HP.out _ (getD_mem hlt)
          have hle : (tx ps (l.getD k 0)).length ≤ 1000000 := Nat.le_trans (cat_tx_le (getD_mem hlt)) ht
          have hmap : (l.map (tx ps)).getD k [] = tx ps (l.getD k 0) := by
            have hx : l.getD k 0 = l[k] := by rw [List.getD_eq_getElem?_getD, List.getElem?_eq_getElem hlt]; rfl
            rw [List.getD_eq_getElem?_getD, List.getElem?_map, List.getElem?_eq_getElem hlt, hx]
            rfl
          have HM := Shut.mk hmap
          clear hmap
          generalize l.getD k 0 = y at hcw hyp HM hle
          obtain ⟨y0, y1⟩ := hyp
          obtain ⟨n, rfl⟩ := Int.eq_ofNat_of_zero_le y0
          have hn : n < ps.length := by omega
          have hltI : (k : Int) < (l.length : Int) := by omega
          have HHr := Shut.mk (HH.out.kept hk)
          have hFr : ∀ b, F b → b < wr.heap.size := fun b hb => Nat.lt_of_lt_of_le (HLT.out b hb) hk.size
          have kA : Kept wr (wr.alloc (.cells #[.pointer none, .slice none 0 0] 106)) := (Kept.refl wr).alloc _
          obtain ⟨pb, ab, cap, lv, rfl, g1, g2, hvb, g3, g4, g5, g6, hr⟩ := (HHr.out.kept kA).at2 hn
          rw [HHr.out.ok.size hn, cap31_eq (by omega)] at g6
          clear g4 g5 hr hvb
          have hgrow := Tryd.Builder_Grow_fresh wr.heap.size wr.heap.size (tx ps (n : Int)).length (wr.alloc (.cells #[.pointer none, .slice none 0 0] 106)) (Nat.le_refl _) (heap_alloc_new wr _) (by rw [alloc_size]; omega) (by omega)
          have HTX : Shut ((tx ps (n : Int)).length = (tx ps (n : Int)).length) := ⟨rfl⟩
          go_wp2_with fail
          (with_reducible refine hgrow.mono ?_)
          clear hgrow
          rintro e w2 ⟨rfl, hbd, k2⟩
          have k2' : Kept wr w2 := Below.trans kA k2
          have hwri := write_any hFr hfew (n + 1) n (Nat.lt_succ_self n) (HHr.out.kept k2') (Sbd hbd) k2'.size hn (by simpa using hle)
          rw [List.nil_append] at hwri
          clear g3 g6
          go_wp2_with fail
          (with_reducible refine hwri.mono ?_)
          clear hwri
          rintro e w3 ⟨rfl, sb3, k3⟩
          have k3' : Kept wr w3 := Below.trans k2' k3
          have hst := Tryd.Builder_String_any wr.heap.size wr.heap.size (tx ps (n : Int)) w3 sb3.lib k3'.size
          go_wp2_with (go_at_call 55; (with_reducible refine hst.mono ?_); rintro e w4 ⟨rfl, k4⟩; have k4' : Kept wr w4 := Below.trans k3' k4; have o4 := ho.kept k4'; have ofr : w4.frozen? ⟨w.heap.size, k, none⟩ = false := (by obtain ⟨gg, cc, hvv, _, _, _, _, _, hff⟩ := Ownv.row o4 (by rw [partT_len _ _ (by rw [List.length_map]; exact hk0), List.length_map]; omega); simp only [Value.slice.injEq, Option.some.injEq, Addr.mk.injEq] at hvv; rw [hvv.1.1]; exact hff k); have oc : ∃ u, w4.cell? ⟨w.heap.size, k, none⟩ = some u := (by obtain ⟨gg, cc, hvv, _, _, _, _, hcc, _⟩ := Ownv.row o4 (by rw [partT_len _ _ (by rw [List.length_map]; exact hk0), List.length_map]; omega); simp only [Value.slice.injEq, Option.some.injEq, Addr.mk.injEq] at hvv; rw [hvv.1.1]; exact ⟨_, hcc k (by rw [partT_len _ _ (by rw [List.length_map]; exact hk0), List.length_map]; omega)⟩); obtain ⟨ou, oc⟩ := oc)
          go_roundw
          case rel =>
            have hput := partT_put (k := k) (ts := l.map (tx ps)) (by simp) o4 (by simpa using hlt)
            rw [HM.out] at hput
            exact ⟨k + 1, hlt, rfl, hput, (hk.trans k4').setCell (ad := ⟨w.heap.size, k, none⟩) (Nat.le_refl _) _, by rw [size_setCell]; exact Nat.lt_of_lt_of_le hs k4'.size⟩
          case measure => simp [intOf]; omega
        · obtain rfl : k = l.length := by omega
          have e : partT (l.map (tx ps)) l.length = l.map (tx ps) := by
            have := partT_all (l.map (tx ps))
            rwa [List.length_map] at this
          rw [e] at ho
          go_wp2
          go_ret2
          exact ⟨_, rfl, ho, hk⟩
end Go.Proofs.YtangbnmgkcmhbaaDoor
end

section
/- terms, can, opens, look. -/
set_option linter.unusedSimpArgs false
set_option linter.unusedVariables false
namespace Go.Proofs.YtangbnmgkcmhbaaDoor
open Go.RowKit Go.Maps

theorem termsB_take {ds : List Nd} {l : List Int} (h : ∀ j, j < l.length → IsT ds (l.getD j 0)) : termsB ds l = true :=
  terms_of fun x hx => by
    obtain ⟨j, hj, rfl⟩ := List.getElem_of_mem hx
    have := h j hj
    rwa [List.getD_eq_getElem?_getD, List.getElem?_eq_getElem hj] at this
theorem termsB_not {ds : List Nd} {l : List Int} {j : Nat} (hj : j < l.length) (h : ¬ IsT ds (l.getD j 0)) : termsB ds l = false := by
  unfold termsB
  rw [List.all_eq_false]
  exact ⟨l.getD j 0, getD_mem hj, by simpa using h⟩
theorem termsB_all {ds : List Nd} {l : List Int} (h : termsB ds l = true) : ∀ x ∈ l, IsT ds x := fun x hx => by
  unfold termsB at h
  have := List.all_eq_true.1 h x hx
  simpa using this

set_option maxHeartbeats 4000000 in
set_option maxRecDepth 100000 in
theorem termsD {F : Nat → Prop} {w : World} {p : Value} {ds : List Nd} (h : Ar F w p ds) {v : Value} {l : List Int} (hd : RdI w v l) :
    Calls Tryd.prog 35 #[p, v] w fun e w' => e = .returned (.bool (termsB ds l)) ∧ w = w' := by
  obtain ⟨la, lc, rfl, l1, l2, l3⟩ := hd.len
  have l63 : ((l.length : Nat) : Int) ≤ 9223372036854775807 := by unfold maxLen at l2; omega
  go_enter Tryd.func35, Tryd.ntmps35
  go_wp2
  go_loop [9] (fun i => ∃ k : Nat, (k ≤ l.length ∧ ∀ j, j < k → IsT ds (l.getD j 0)) ∧ i = .int .i64 k) (fun i => l.length - (intOf i).toNat)
  case atStart => exact ⟨0, ⟨Nat.zero_le _, fun j hj => absurd hj (Nat.not_lt_zero _)⟩, rfl⟩
  case round =>
    obtain ⟨k, ⟨hk0, hall⟩, rfl⟩ := hrel
    have HALL := Shut.mk hall
    clear hall
    by_cases hlt : k < l.length
    · obtain ⟨rb, ro, rfl, hx⟩ := hd.at hlt
      have x1 := hx w (Kept.refl w)
      clear hx
      generalize hx : l.getD k 0 = x at x1
      have HX := Shut.mk hx
      clear hx
      by_cases hT : 0 ≤ x ∧ x < (ds.length : Int)
      · have t0 := hT.1
        have t1 := hT.2
        have b0 : decide (x < 0) = false := decide_eq_false (by omega)
        have b1 : decide (x ≥ (ds.length : Int)) = false := decide_eq_false (by omega)
        have b2 : decide ((ds.length : Int) ≤ x) = false := decide_eq_false (by omega)
        have HT := Shut.mk hT
        clear hT
        go_wp2_with (go_at_call 47; refine (arg_len h).mono ?_; rintro e w' ⟨rfl, rfl⟩)
        go_round
        case rel => exact ⟨k + 1, ⟨hlt, fun j hj => by
          by_cases c : j < k
          · exact HALL.out j c
          · obtain rfl : j = k := by omega
            rw [HX.out]; exact HT.out⟩, rfl⟩
        case measure => simp [intOf]; omega
      · have HF := Shut.mk (termsB_not hlt (by rw [HX.out]; exact hT))
        by_cases t0 : x < 0
        · clear hT
          go_wp2_with (go_at_call 47; refine (arg_len h).mono ?_; rintro e w' ⟨rfl, rfl⟩)
          go_ret
          exact ⟨by rw [HF.out]; rfl, rfl⟩
        · have t1 : (ds.length : Int) ≤ x := by omega
          have b0 : decide (x < 0) = false := decide_eq_false t0
          have b1 : decide (x ≥ (ds.length : Int)) = true := decide_eq_true t1
          have b2 : decide ((ds.length : Int) ≤ x) = true := decide_eq_true t1
          clear hT
          go_wp2_with (go_at_call 47; refine (arg_len h).mono ?_; rintro e w' ⟨rfl, rfl⟩)
          go_ret
          exact ⟨by rw [HF.out]; rfl, rfl⟩
    · obtain rfl : k = l.length := by omega
      have HT := Shut.mk (termsB_take HALL.out)
      go_wp2
      go_ret
      exact ⟨by rw [HT.out]; rfl, rfl⟩

/-- What can be derived, by the truth values. -/
def knB (kn : List Bool) (t : Int) : Bool := kn.getD t.toNat false
set_option maxHeartbeats 4000000 in
set_option maxRecDepth 100000 in
theorem can_any {V : Nat → Prop} {w : World} {vp : Value} {ds : List Nd} {kn : List Bool} (h : IsVw V w vp ds kn) {v : Value} {l : List Int} (hd : RdI w v l) (hT : ∀ x ∈ l, IsT ds x) :
    Calls Tryd.prog 30 #[vp, v] w fun e w' => e = .returned (.bool (l.all (knB kn))) ∧ w = w' := by
  obtain ⟨la, lc, rfl, l1, l2, l3⟩ := hd.len
  have l63 : ((l.length : Nat) : Int) ≤ 9223372036854775807 := by unfold maxLen at l2; omega
  obtain ⟨vb, nv, kv, rfl, r0, r1, r2, r3⟩ := h.read
  have HT := Shut.mk hT
  have hkl := h.len
  clear hT
  obtain ⟨ka, kc, hkv, _, _, _⟩ := (Ownv.rdv r3)
  subst hkv
  go_enter Tryd.func30, Tryd.ntmps30
  go_wp2
  go_loop [9] (fun i => ∃ k : Nat, (k ≤ l.length ∧ ∀ j, j < k → knB kn (l.getD j 0) = true) ∧ i = .int .i64 k) (fun i => l.length - (intOf i).toNat)
  case atStart => exact ⟨0, ⟨Nat.zero_le _, fun j hj => absurd hj (Nat.not_lt_zero _)⟩, rfl⟩
  case round =>
    obtain ⟨k, ⟨hk0, hall⟩, rfl⟩ := hrel
    have HALL := Shut.mk hall
    clear hall
    by_cases hlt : k < l.length
    · obtain ⟨rb, ro, rfl, hx⟩ := hd.at hlt
      have x1 := hx w (Kept.refl w)
      have hxT := HT.out _ (getD_mem hlt)
      clear hx
      obtain ⟨t, ht, htl⟩ := isT_nat hxT
      rw [ht] at x1
      obtain ⟨g, cap, hg, g1, g2, g3, g4, g5, g6⟩ := r3.row (by omega)
      simp only [Value.slice.injEq] at hg
      obtain ⟨rfl, _, rfl⟩ := hg
      have c1 := g5 t (by omega)
      have htk : (t : Int) < (kn.length : Int) := by omega
      have hbt : knB kn (l.getD k 0) = kn.getD t false := by unfold knB; rw [ht, Int.toNat_natCast]
      have HBT := Shut.mk hbt
      clear g5 g6 hbt ht hxT
      cases hb : kn.getD t false with
      | true =>
        rw [hb] at c1
        have HB := Shut.mk hb
        clear hb
        go_wp2
        go_round
        case rel => exact ⟨k + 1, ⟨hlt, fun j hj => by
          by_cases c : j < k
          · exact HALL.out j c
          · obtain rfl : j = k := by omega
            rw [HBT.out, HB.out]⟩, rfl⟩
        case measure => simp [intOf]; omega
      | false =>
        rw [hb] at c1
        have HF : Shut (l.all (knB kn) = false) := ⟨by
          rw [List.all_eq_false]
          exact ⟨l.getD k 0, getD_mem hlt, by rw [HBT.out, hb]; simp⟩⟩
        clear hb
        go_wp2
        go_ret
        exact ⟨by rw [HF.out]; rfl, rfl⟩
    · obtain rfl : k = l.length := by omega
      have HF : Shut (l.all (knB kn) = true) := ⟨by
        rw [List.all_eq_true]
        intro x hx
        obtain ⟨j, hj, rfl⟩ := List.getElem_of_mem hx
        have := HALL.out j hj
        rwa [List.getD_eq_getElem?_getD, List.getElem?_eq_getElem hj] at this⟩
      go_wp2
      go_ret
      exact ⟨by rw [HF.out]; rfl, rfl⟩
end Go.Proofs.YtangbnmgkcmhbaaDoor
end

section
/- Maps from numbers to numbers; the writer of patterns in memory; number. -/
set_option linter.unusedSimpArgs false
set_option linter.unusedVariables false
namespace Go.Proofs.YtangbnmgkcmhbaaDoor
open Go.RowKit Go.Maps

/-- Block mb is a map: of the numbers ks, each once, it says f. -/
def IntMap (w : World) (mb : Nat) (ks : List Int) (f : Int → Int) : Prop :=
  ∃ (D : DataW Unit) (n : Nat), w.ownsMap Tryd.prog 3 (plainElem Tryd.prog 3) mb n D ∧ n ≤ ks.length ∧ Maps.size D = ks.length ∧ (∀ x, Maps.has D (.int .i64 x) = true ↔ x ∈ ks) ∧ ∀ x ∈ ks, D.atKey (.int .i64 x) (.lit (.int .i64 0)) = .lit (.int .i64 (f x))
theorem IntMap.made (w : World) (f : Int → Int) : IntMap (w.alloc (.map #[] 0)) w.heap.size [] f :=
  ⟨.map [], 0, World.ownsMap_made w _ _ _, Nat.le_refl _, rfl, fun x => by simp [Maps.has], fun x hx => by cases hx⟩
theorem IntMap.turn {w w' : World} {mb : Nat} {ks : List Int} {f : Int → Int} {F : Nat → Prop} (h : IntMap w mb ks f) (t : Turn F w w') (hn : ¬ F mb) : IntMap w' mb ks f := by
  obtain ⟨D, n, h1, r⟩ := h
  exact ⟨D, n, ownsMap_turn h1 t hn, r⟩
theorem IntMap.kept {w w' : World} {mb : Nat} {ks : List Int} {f : Int → Int} (h : IntMap w mb ks f) (k : Kept w w') : IntMap w' mb ks f := h.turn (k.turn (fun _ => False)) (fun x => x)
theorem IntMap.lt {w : World} {mb : Nat} {ks : List Int} {f : Int → Int} (h : IntMap w mb ks f) : mb < w.heap.size := by
  obtain ⟨D, n, h1, r⟩ := h
  exact h1.lt
theorem IntMap.say {w : World} {mb : Nat} {ks : List Int} {f g : Int → Int} (h : IntMap w mb ks f) (e : ∀ x ∈ ks, f x = g x) : IntMap w mb ks g := by
  obtain ⟨D, n, h1, h2, h3, h4, h5⟩ := h
  exact ⟨D, n, h1, h2, h3, h4, fun x hx => by rw [h5 x hx, e x hx]⟩

theorem go_im_put {w : World} {ops : Array Oper} {rest : List Oper} {o : Oper} {a : Act} {Q : Exit → Act → World → Prop} (hg : o.guard = none) (m x v : Operand) (hop : o.op = Op.mapUpdate 97 m x v)
    (mb : Nat) (ks : List Int) (f : Int → Int) (hm : a.eval m = .map (some mb)) (h : IntMap w mb ks f) (hl : ks.length ≤ 1000000) (z : Int) (hz : I64 z) (hn : z ∉ ks) (hx : a.eval x = .int .i64 z) (u : Int) (hu : I64 u) (hv : a.eval v = .int .i64 u)
    (hK : ∀ w', (∀ g : Int → Int, (∀ y ∈ ks, g y = f y) → g z = u → IntMap w' mb (ks ++ [z]) g) → Turn (fun b => b = mb) w w' → wpList Tryd.prog ops Q rest (a.put o.dst undef) w') : wpList Tryd.prog ops Q (o :: rest) a w := by
  obtain ⟨D, n, h1, h2, h3, h4, h5⟩ := h
  refine wpList_mapUpdate_own w hg m x v 97 hop 3 3 (int_keyed Tryd.underlying3) Tryd.underlying97 (plainElem Tryd.prog 3) mb n D hm h1 (by unfold maxLen; omega) _ _ (.int .i64 z) hx hv (keyInt hz) (.lit (.int .i64 u)) [] (plainElem_int Tryd.underlying3 (WalkArith.wf_i64 hu)) ?_
  intro w' o' g'
  have hk := isKeyInt hz
  have hh : Maps.has D (.int .i64 z) = false := by
    cases hc : Maps.has D (.int .i64 z) with
    | false => rfl
    | true => exact absurd ((h4 z).1 hc) hn
  refine hK w' (fun g hg1 hg2 => ⟨_, _, o', by simp; omega, ?_, fun y => ?_, fun y hy => ?_⟩) ((Grown.turn g').mono fun b hb => by simpa using hb)
  · rw [size_put (h1.tidy (int_keyed Tryd.underlying3)), hh, h3]; simp
  · by_cases c : y = z
    · subst c
      rw [has_put_same h1.isMap hk]; simp
    · rw [has_put_other (fun e => c (by injection e)), h4 y]
      simp [c]
  · by_cases c : y = z
    · subst c
      rw [atKey_put_same h1.isMap hk, hg2]
    · have hy' : y ∈ ks := (List.mem_append.1 hy).resolve_right (fun e => c (List.mem_singleton.1 e))
      rw [atKey_put_other (fun e => c (by injection e)), h5 y hy', hg1 y hy']

theorem go_im_look {w : World} {ops : Array Oper} {rest : List Oper} {o : Oper} {a : Act} {Q : Exit → Act → World → Prop} (hg : o.guard = none) (m x : Operand) (hop : o.op = Op.lookup 97 m x true)
    (mb : Nat) (ks : List Int) (f : Int → Int) (hm : a.eval m = .map (some mb)) (h : IntMap w mb ks f) (z : Int) (hz : I64 z) (hx : a.eval x = .int .i64 z) (b : Bool) (hb : b = true ↔ z ∈ ks)
    (hK : ∀ c, (b = true → c = f z) → wpList Tryd.prog ops Q rest (a.put o.dst (.tuple #[.int .i64 c, .bool b])) w) : wpList Tryd.prog ops Q (o :: rest) a w := by
  obtain ⟨D, n, h1, h2, h3, h4, h5⟩ := h
  have e : Maps.has D (.int .i64 z) = b := by
    cases hc : Maps.has D (.int .i64 z) with
    | true => exact (hb.2 ((h4 z).1 hc)).symm
    | false =>
      cases b with
      | false => rfl
      | true =>
        have := (h4 z).2 (hb.1 rfl)
        rw [hc] at this; cases this
  refine wpList_lookup_own_ok_int w hg m x 97 hop 3 3 .i64 (int_keyed Tryd.underlying3) Tryd.underlying97 Tryd.underlying3 (zeroInt _) mb n D hm h1 _ (.int .i64 z) hx (keyInt hz) ?_
  intro c hat hwc
  rw [e]
  refine hK c fun hbt => ?_
  have := h5 z (hb.1 hbt)
  rw [hat] at this
  simpa using this
theorem go_im_len {w : World} {ops : Array Oper} {rest : List Oper} {o : Oper} {a : Act} {Q : Exit → Act → World → Prop} (hg : o.guard = none) (m : Operand) (hop : o.op = Op.call { callee := Callee.builtin Builtin.len, args := #[m], argTypes := #[97] })
    (mb : Nat) (ks : List Int) (f : Int → Int) (hm : a.eval m = .map (some mb)) (h : IntMap w mb ks f) (hK : wpList Tryd.prog ops Q rest (a.put o.dst (.int .i64 ks.length)) w) : wpList Tryd.prog ops Q (o :: rest) a w := by
  obtain ⟨D, n, h1, h2, h3, h4, h5⟩ := h
  refine wpList_len_own w hg m 97 hop 3 3 Tryd.underlying97 (plainElem Tryd.prog 3) mb n D hm h1 ?_
  rw [h3]
  exact hK

theorem itoaD_any (n : Int) (hn : I64 n) (w : World) (ht : Lib.TabIs Tryd.prog w "internal/strconv.uint64pow10" .u64 Lib.pow10Tab) :
    Calls Tryd.prog 93 #[.int .i64 n] w fun e w' => e = .returned (.string (strB (Lib.itoa n))) ∧ Kept w w' :=
  (Tryd.strconv_Itoa n hn.1 hn.2 w ht).mono fun e w' ⟨a, k, os, c⟩ => ⟨a, by rw [c]; exact Lib.below_grow w.heap.size w (Nat.le_refl _) k os⟩

/-- The tables: those of term, and the names. -/
structure TabsD (w : World) : Prop where
  tabs : Tabs w
  names : ∀ o : Nat, o < 13 → o ≠ 0 → o ≠ 2 → w.cell? ⟨1, o, none⟩ = some (.string (strB (pName o)))
theorem TabsD.kept {w w' : World} (h : TabsD w) (k : Kept w w') : TabsD w' :=
  ⟨h.tabs.kept k, fun o ho h0 h2 => by
    have h1 := h.names o ho h0 h2
    exact (Below.cell k (p := ⟨1, o, none⟩) (World.block_lt_of_cell? _ _ h1)).trans h1⟩

/-- What the written ones' patterns are. -/
def Written (ds : List Nd) (kn : List Bool) (a : List Int) (ps : List Pc) (ws : List Int) (x : Int → Int) : Prop :=
  ws.Nodup ∧ ∀ t ∈ ws, IsT ds t ∧ IsP ps.length (x t) ∧ pat ds (knB kn) a t = (tx ps (x t), a)
theorem Written.ext {ds : List Nd} (hg : Good ds) {kn : List Bool} {a a' : List Int} {ps ps' : List Pc} {ws : List Int} {x : Int → Int} (h : Written ds kn a ps ws x) (ha : ExtN a a') (hp : PExt ps ps') : Written ds kn a' ps' ws x :=
  ⟨h.1, fun t ht => by
    obtain ⟨h1, h2, h3⟩ := h.2 t ht
    refine ⟨h1, h2.mono hp.len, ?_⟩
    have := pat_again hg (knB kn) h1 (a := a) (c := a') (by rw [h3]; exact ha)
    rw [this, h3, tx_ext' hp h2]⟩

/-- wp writes the patterns of the terms ds, of which the known ones can be derived, into the pieces ps: those of a have numbers, those of ws are written. -/
structure WrG (V P W : Nat → Prop) (w0 w : World) (wp pp : Value) (ds : List Nd) (kn : List Bool) (ps : List Pc) (a ws : List Int) : Prop where
  own : ∃ (wb nb mb : Nat) (vp : Value) (x : Int → Int), wp = .pointer (some ⟨wb, 0, none⟩) ∧ Blk w wb 99 [vp, pp, .map (some nb), .map (some mb)] ∧ IsVw V w vp ds kn ∧
    IntMap w nb a (fun t => (numAt a t : Int)) ∧ IntMap w mb ws x ∧ Written ds kn a ps ws x ∧ nb ≠ mb ∧ W wb ∧ W nb ∧ W mb
  pcs : PcG P w pp ps
  ltW : ∀ b, W b → b < w.heap.size
  vp : ∀ b, V b → ¬ P b
  vw : ∀ b, V b → ¬ W b
  pw : ∀ b, P b → ¬ W b
  basP : ∀ b, P b → w0.heap.size ≤ b
  basW : ∀ b, W b → w0.heap.size ≤ b
  kept : Kept w0 w
  good : Good ds
  few : ds.length ≤ 100000
  tabs : TabsD w0
  nums : Nums ds a
theorem WrG.keep {V P W : Nat → Prop} {w0 w w' : World} {wp pp : Value} {ds : List Nd} {kn : List Bool} {ps : List Pc} {a ws : List Int} (h : WrG V P W w0 w wp pp ds kn ps a ws) (k : Kept w w') : WrG V P W w0 w' wp pp ds kn ps a ws := by
  obtain ⟨wb, nb, mb, vp, x, h1, h2, h3, h4, h5, h6, h7⟩ := h.own
  exact ⟨⟨wb, nb, mb, vp, x, h1, h2.kept k, h3.kept k, h4.kept k, h5.kept k, h6, h7⟩, h.pcs.kept k, fun b hb => Nat.lt_of_lt_of_le (h.ltW b hb) k.size, h.vp, h.vw, h.pw, h.basP, h.basW, h.kept.trans k, h.good, h.few, h.tabs, h.nums⟩
theorem WrG.tab {V P W : Nat → Prop} {w0 w : World} {wp pp : Value} {ds : List Nd} {kn : List Bool} {ps : List Pc} {a ws : List Int} (h : WrG V P W w0 w wp pp ds kn ps a ws) : TabsD w := h.tabs.kept h.kept
/-- The pieces became more. -/
theorem WrG.more {V P P' W : Nat → Prop} {w0 w w' : World} {wp pp : Value} {ds : List Nd} {kn : List Bool} {ps ps' : List Pc} {a ws : List Int} (h : WrG V P W w0 w wp pp ds kn ps a ws) (hp : PcG P' w' pp ps') (he : PExt ps ps') (t : Turn P w w') (hs : ∀ b, P' b → P b ∨ w.heap.size ≤ b) : WrG V P' W w0 w' wp pp ds kn ps' a ws := by
  obtain ⟨wb, nb, mb, vp, x, h1, h2, h3, h4, h5, h6, h7, h8, h9, h10⟩ := h.own
  have hn : ∀ b, W b → ¬ P b := fun b hb hp => h.pw b hp hb
  exact ⟨⟨wb, nb, mb, vp, x, h1, h2.turn t (hn _ h8), h3.turn t h.vp, h4.turn t (hn _ h9), h5.turn t (hn _ h10), h6.ext h.good (ExtN.refl _) he, h7, h8, h9, h10⟩, hp,
    fun b hb => Nat.lt_of_lt_of_le (h.ltW b hb) t.size, fun b hv hb => (hs b hb).elim (h.vp b hv) (fun c => by have := h3.lt b hv; omega), h.vw, fun b hb hw => (hs b hb).elim (fun c => h.pw b c hw) (fun c => by have := h.ltW b hw; omega),
    fun b hb => (hs b hb).elim (h.basP b) (fun c => Nat.le_trans h.kept.size c), h.basW, Turn.keptOf h.kept t h.basP, h.good, h.few, h.tabs, h.nums⟩
end Go.Proofs.YtangbnmgkcmhbaaDoor
end

section
/- The names that deduce lists. -/
set_option linter.unusedSimpArgs false
set_option linter.unusedVariables false
namespace Go.Proofs.YtangbnmgkcmhbaaDoor
open Go.RowKit Go.ChangeShapes Go.WideShapes

def nTab : List (List UInt8) := [[], [97, 116, 111, 109], [], [108, 105, 115, 116], [104, 97, 115, 104], [109, 105, 120], [107, 101, 121], [112, 117, 98], [115, 101, 97, 108], [101, 110, 99], [115, 105, 103], [109, 97, 99], [98, 108, 105, 110, 100]]
theorem names_data : (Rows.laid_cassock_deduce_names : DataW Unit) = .agg (nTab.map fun x => .lit (.string x)) := rfl
theorem nTab_name {o : Nat} (ho : o < 13) (h0 : o ≠ 0) (h2 : o ≠ 2) : nTab.getD o [] = pName (o : Int) := by
  have : o = 1 ∨ o = 3 ∨ o = 4 ∨ o = 5 ∨ o = 6 ∨ o = 7 ∨ o = 8 ∨ o = 9 ∨ o = 10 ∨ o = 11 ∨ o = 12 := by omega
  rcases this with rfl | rfl | rfl | rfl | rfl | rfl | rfl | rfl | rfl | rfl | rfl <;> rfl
theorem Tryd.namesCells : Tryd.prog.cellsOf 143 = 13 := by kernel_rfl
theorem names_cells {W : World} (h : Lib.VarReads Tryd.prog W "cassock/deduce.names" Rows.laid_cassock_deduce_names) :
    ∀ o : Nat, o < 13 → W.cell? ⟨1, o, none⟩ = some (.string (strB (nTab.getD o []))) := by
  obtain ⟨g, t, cs, fuel, p, h1, h2, h3, h4⟩ := h
  have hg : Tryd.prog.globalNamed "cassock/deduce.names" = some 1 := by kernel_rfl
  have hty : (Tryd.prog.globals[(1 : Nat)]?).map (·.type) = some 143 := by kernel_rfl
  obtain rfl := Option.some.inj (hg.symm.trans h1)
  obtain rfl := Option.some.inj (hty.symm.trans h2)
  have hcell : ∀ i v, cs.toList[i]? = some v → W.cell? ⟨1, i, none⟩ = some v := fun i v hv => by
    rw [World.var?_cell hg h3 i]; simpa using hv
  rw [names_data] at h4
  cases fuel with
  | zero => simp [DataW.trod] at h4
  | succ fuel =>
    simp only [DataW.trod, Tryd.underlying143, Tryd.strCells, Tryd.namesCells] at h4
    split at h4
    · obtain ⟨xs, hm, hx⟩ := Option.map_eq_some_iff.1 h4
      have hxs : xs.map (·.1) = nTab.map fun x => (.lit (.string x) : DataW Unit) := by
        have := congrArg Prod.fst hx
        simpa using this
      intro o ho
      obtain ⟨b, hb, hf⟩ := Lib.mapM_at hm o o (by simp [ho])
      have hd : b.1 = .lit (.string (nTab.getD o [])) := by
        have h5 : (xs.map (·.1))[o]? = some b.1 := by simp [hb]
        rw [hxs, List.getElem?_map] at h5
        have hk : nTab[o]? = some (nTab.getD o []) := by
          rw [List.getD_eq_getElem?_getD, List.getElem?_eq_getElem (by simpa [nTab] using ho)]; rfl
        rw [hk] at h5
        simp only [Option.map_some, Option.some.injEq] at h5
        exact h5.symm
      obtain ⟨s, c0, r0, _⟩ := DataW.trod_string Tryd.underlying9 hf
      rw [r0] at hd
      simp only [DataW.lit.injEq, Lit.string.injEq] at hd
      have hs : s = strB (nTab.getD o []) := by
        cases s with
        | mk data => unfold strB; rw [← hd]
      subst hs
      refine hcell _ _ ?_
      have := congrArg (·[0]?) c0
      simpa [List.getElem?_take, List.getElem?_drop] using this
    · cases h4
theorem tabsD_of_laid {W : World} (h : laidMetH Tryd.prog laidAll W) : TabsD W := by
  have h' : laidMet Tryd.prog laidAll W := h
  refine ⟨tabs_of_laid h, fun o ho h0 h2 => ?_⟩
  rw [names_cells (Lib.laidMet.reads h' (by simp [laidAll, Rows.deduceMoreRow])) o ho, nTab_name ho h0 h2]
end Go.Proofs.YtangbnmgkcmhbaaDoor
end

section
/- The document's arena: what it is, New, Len. -/
set_option linter.unusedSimpArgs false
set_option linter.unusedVariables false
namespace Go.Proofs.YtangbnmgkcmhbaaDoor
open Go.RowKit Go.Maps

def ArR (F : Nat → Prop) (w : World) (p : Value) (ds : List Nd) : Prop := ArG 69 keyR F w p ds

theorem newR_any (w : World) : Calls Tryd.prog 25 #[] w fun e w' => ∃ (F : Nat → Prop) (p : Value), e = .returned p ∧ ArR F w' p [] ∧ Kept w w' ∧ (∀ b, F b → w.heap.size ≤ b) ∧ p = .pointer (some ⟨w.heap.size + 1, 0, none⟩) := by
  have hmm := @run_makeMap Tryd.prog
  go_enter Tryd.func25, Tryd.ntmps25
  go_wp2
  go_ret
  exact ⟨fun b => b = w.heap.size ∨ b = w.heap.size + 1, .pointer (some ⟨w.heap.size + 1, 0, none⟩), rfl, arg_new w, ((Kept.refl w).alloc _).alloc _, fun b hb => (by omega), rfl⟩
theorem lenR {F : Nat → Prop} {w : World} {p : Value} {ds : List Nd} (h : ArR F w p ds) :
    Calls Tryd.prog 23 #[p] w fun e w' => e = .returned (.int .i64 ds.length) ∧ w = w' := by
  obtain ⟨pb, mb, nv, rfl, c0, c1, hr⟩ := ArG.nodes h
  obtain ⟨a, cap, rfl, _, _, _⟩ := hr.len
  go_enter Tryd.func23, Tryd.ntmps23
  go_wp2
  go_ret
  exact ⟨rfl, rfl⟩
end Go.Proofs.YtangbnmgkcmhbaaDoor
end

section
/- Walks: comparing lists of numbers. -/
set_option linter.unusedSimpArgs false
set_option linter.unusedVariables false
namespace Go.Proofs.YtangbnmgkcmhbaaDoor
open Go.RowKit Go.Maps

theorem getD_ext {a b : List Int} (hl : a.length = b.length) (h : ∀ i, i < a.length → a.getD i 0 = b.getD i 0) : a = b := by
  refine List.ext_getElem hl fun i h1 h2 => ?_
  have := h i h1
  rwa [List.getD_eq_getElem?_getD, List.getElem?_eq_getElem h1, List.getD_eq_getElem?_getD, List.getElem?_eq_getElem h2] at this

set_option maxHeartbeats 4000000 in
set_option maxRecDepth 100000 in
theorem sameInts_any {w : World} {u v : Value} {a b : List Int} (ha : RdI w u a) (hb : RdI w v b) :
    Calls Tryd.prog 15 #[u, v] w fun e w' => e = .returned (.bool (decide (a = b))) ∧ Kept w w' := by
  obtain ⟨aa, ac, rfl, a1, a2, a3⟩ := ha.len
  obtain ⟨ba, bc, rfl, b1, b2, b3⟩ := hb.len
  have a63 : ((a.length : Nat) : Int) ≤ 9223372036854775807 := by unfold maxLen at a2; omega
  by_cases hl : a.length = b.length
  · have hd : ((a.length : Int) != (b.length : Int)) = false := by simp [hl]
    have HL := Shut.mk hl
    rw [← hl] at hb b1 hd ⊢
    clear hl
    go_enter Tryd.func15, Tryd.ntmps15
    go_wp2
    go_loopw [13] (fun i wr => ∃ k : Nat, k ≤ a.length ∧ i = .int .i64 k ∧ (∀ j, j < k → a.getD j 0 = b.getD j 0) ∧ Kept w wr) (fun i _ => a.length - (intOf i).toNat)
    case atStart => exact ⟨0, Nat.zero_le _, rfl, fun j hj => absurd hj (Nat.not_lt_zero _), Kept.refl _⟩
    case round =>
      obtain ⟨k, hk0, rfl, hsame, hk⟩ := hrel
      have HS := Shut.mk hsame
      clear hsame
      by_cases hlt : k < a.length
      · obtain ⟨rb, ro, rc, hrv, _, _, hrb, hcl⟩ := ha.addr (by omega)
        simp only [Value.slice.injEq] at hrv
        obtain ⟨rfl, _, rfl⟩ := hrv
        have hcb := hb
        rw [show (Value.slice ba a.length bc) = Value.slice ba b.length bc by rw [HL.out]] at hcb
        obtain ⟨sb, so, sc, hsv, _, _, hsb, hcl2⟩ := hcb.addr (by have := HL.out; omega)
        simp only [Value.slice.injEq] at hsv
        obtain ⟨rfl, _, rfl⟩ := hsv
        have x1 := hk.cell (p := ⟨rb, ro + k, none⟩) hrb |>.trans (hcl k hlt)
        have x2 := hk.cell (p := ⟨sb, so + k, none⟩) hsb |>.trans (hcl2 k (by have := HL.out; omega))
        clear hcl hcl2 hcb
        have k0 : (0 : Int) ≤ (k : Int) := by omega
        have k1 : (k : Int) < (a.length : Int) := by omega
        generalize hx : a.getD k 0 = x at x1
        generalize hy : b.getD k 0 = y at x2
        have HX := Shut.mk hx
        have HY := Shut.mk hy
        clear hx hy
        by_cases hxy : x = y
        · subst hxy
          go_wp2
          go_quiet (fail)
          go_wp2
          go_roundw
          case rel => exact ⟨k + 1, hlt, rfl, fun j hj => by
            by_cases c : j < k
            · exact HS.out j c
            · obtain rfl : j = k := by omega
              rw [HX.out, HY.out], hk.drewN _⟩
          case measure => simp [intOf]; omega
        · have hd2 : (x != y) = true := by simpa using hxy
          have hne : ¬ a = b := fun e => hxy (by rw [← HX.out, ← HY.out, e])
          have HN := Shut.mk hne
          clear hne hxy
          go_wp2
          go_quiet (fail)
          go_wp2
          go_ret
          exact ⟨by rw [decide_eq_false HN.out]; rfl, hk.drewN _⟩
      · obtain rfl : k = a.length := by omega
        have he := getD_ext HL.out HS.out
        have HE := Shut.mk he
        clear he
        go_wp2
        go_ret
        exact ⟨by rw [decide_eq_true HE.out]; rfl, hk⟩
  · have hd : ((a.length : Int) != (b.length : Int)) = true := by simp; omega
    have hne : ¬ a = b := fun e => hl (by rw [e])
    have HN := Shut.mk hne
    clear hne hl
    go_enter Tryd.func15, Tryd.ntmps15
    go_wp2
    go_ret
    exact ⟨by rw [decide_eq_false HN.out]; rfl, Kept.refl _⟩
end Go.Proofs.YtangbnmgkcmhbaaDoor
end

section
/- The document's terms: Digits. -/
set_option linter.unusedSimpArgs false
set_option linter.unusedVariables false
namespace Go.Proofs.YtangbnmgkcmhbaaDoor
open Go.RowKit Go.Maps

def digs : ByteArray := ⟨#[48, 49, 50, 51, 52, 53, 54, 55, 56, 57]⟩
theorem strB_app (a b : List UInt8) : strB a ++ strB b = strB (a ++ b) := by
  unfold strB
  apply ByteArray.ext
  simp
theorem digs_at (k : Nat) (h : k < 10) : digs.extract k (k + 1) = strB [UInt8.ofNat (48 + k)] := by
  have : k = 0 ∨ k = 1 ∨ k = 2 ∨ k = 3 ∨ k = 4 ∨ k = 5 ∨ k = 6 ∨ k = 7 ∨ k = 8 ∨ k = 9 := by omega
  rcases this with rfl | rfl | rfl | rfl | rfl | rfl | rfl | rfl | rfl | rfl <;> rfl

theorem dd_len (n : Nat) (h : n ≤ 9223372036854775807) : (Lib.decDigits n).length ≤ 21 := by
  have := Lib.itoa_length_le (n : Int) (by omega) (by omega)
  rwa [itoa_of_nonneg (by omega), Int.toNat_natCast] at this

set_option maxHeartbeats 1000000 in
set_option maxRecDepth 20000 in
theorem digits_any (n : Nat) (hn : (n : Int) ≤ 9223372036854775807) (w : World) :
    Calls Tryd.prog 68 #[.int .i64 n] w fun e w' => e = .returned (.string (strB (Lib.decDigits n))) ∧ ∃ m, w' = w.drewN m := by
  induction n using Nat.strongRecOn generalizing w with
  | ind n ih =>
    by_cases h : n < 10
    · have HE := Shut.mk (Lib.decDigits_one h)
      have HD := Shut.mk (digs_at n h)
      have h1 : (n : Int) < 10 := by omega
      have h0 : (0 : Int) ≤ (n : Int) := by omega
      go_enter Tryd.func68, Tryd.ntmps68
      go_wp2
      go_ret
      exact ⟨by rw [HE.out, ← HD.out]; rfl, 0, rfl⟩
    · have hq : (((n / 10 : Nat) : Int)) ≤ 9223372036854775807 := by omega
      have e0 : (((n / 10 : Nat)) : Int) = (n : Int) / 10 := by omega
      have hih := fun W => ih (n / 10) (by omega) hq W
      rw [e0] at hih
      clear e0
      have hs := dd_step h
      have hlen := dd_len (n / 10) (by omega)
      have HS := Shut.mk hs
      have HD := Shut.mk (digs_at (n % 10) (by omega))
      have h0 : ¬ (n : Int) < 0 := by omega
      have h1 : ¬ (n : Int) < 10 := by omega
      have hsz : ¬ 9223372036854775807 < (strB (Lib.decDigits (n / 10))).size + (min (n % 10 + 1) 10 - n % 10) := by rw [strB_size]; omega
      clear hs ih
      go_enter Tryd.func68, Tryd.ntmps68
      go_wp2
      go_quiet ((go_at_call 68; exact Calls.quiet_of (hih _)))
      go_wp2
      go_ret
      refine ⟨?_, _, rfl⟩
      show Ending.returned (Value.string (strB (Lib.decDigits (n / 10)) ++ digs.extract (n % 10) (n % 10 + 1))) = _
      rw [HS.out, HD.out, strB_app]

theorem itoaR (n : Int) (h0 : 0 ≤ n) (hn : n ≤ 9223372036854775807) (w : World) :
    Calls Tryd.prog 68 #[.int .i64 n] w fun e w' => e = .returned (.string (strB (Lib.itoa n))) ∧ ∃ m, w' = w.drewN m := by
  obtain ⟨k, rfl⟩ := Int.eq_ofNat_of_zero_le h0
  rw [itoa_of_nonneg h0, Int.toNat_natCast]
  exact digits_any k hn w
end Go.Proofs.YtangbnmgkcmhbaaDoor
end

section
/- The document's terms: text. -/
set_option linter.unusedSimpArgs false
set_option linter.unusedVariables false
namespace Go.Proofs.YtangbnmgkcmhbaaDoor
open Go.RowKit Go.Maps

theorem partsKeyR_len (l : List Int) (h : ∀ x ∈ l, I64 x) : (partsKeyR l).length ≤ 22 * l.length := by
  induction l with
  | nil => simp [partsKeyR]
  | cons x l ih =>
    rw [partsKeyR_cons]
    have := ih fun y hy => h y (List.mem_cons_of_mem _ hy)
    have := itoa_len (h x List.mem_cons_self)
    simp
    omega
theorem drewKept (w : World) (n : Nat) : Kept w (w.drewN n) := (Kept.refl w).drewN n

set_option maxRecDepth 100000 in
set_option maxHeartbeats 4000000 in
theorem textR_any {w : World} {v : Value} {d : Nd} (hd : RdN w v d) (hop : 0 ≤ d.op) (hn : 0 ≤ d.n) (hok : NdOk d) (hs : d.s.length ≤ 200) (hl : d.l.length ≤ 64) (hpos : ∀ x ∈ d.l, 0 ≤ x) :
    Calls Tryd.prog 46 #[v] w fun e w' => e = .returned (.string (strB (keyR d))) ∧ Kept w w' := by
  obtain ⟨lv, rfl, hr⟩ := hd
  obtain ⟨op, n, s, l⟩ := d
  simp only at hr hop hs hl hn hpos ⊢
  have ho64 := hok.op
  have hn64 := hok.n
  have hll := hok.l
  simp only at ho64 hn64 hll
  obtain ⟨la, lc, rfl, l1, l2, l3⟩ := hr.len
  have h1 := fun W => itoaR op hop ho64.2 W
  have h2 := fun W => itoaR n hn hn64.2 W
  have h3 := fun W => itoaR (s.length : Int) (by omega) (by omega) W
  have g1 := itoa_len ho64
  have g2 := itoa_len hn64
  have g3 := itoa_len (i := (s.length : Int)) ⟨by omega, by omega⟩
  have e1 := strB_size (Lib.itoa op)
  have e2 := strB_size (Lib.itoa n)
  have e3 := strB_size (Lib.itoa (s.length : Int))
  have e4 := strB_size s
  have HK : Shut (strB (keyR ⟨op, n, s, []⟩) = strB (Lib.itoa op) ++ ⟨#[32]⟩ ++ strB (Lib.itoa n) ++ ⟨#[32]⟩ ++ strB (Lib.itoa (s.length : Int)) ++ ⟨#[32]⟩ ++ strB s) := ⟨by
    have e : (⟨#[32]⟩ : ByteArray) = strB [32] := rfl
    rw [e]
    simp only [strB_app]
    congr 1
    simp [keyR, partsKeyR]⟩
  generalize strB (Lib.itoa op) = A at *
  generalize strB (Lib.itoa n) = B at *
  generalize strB (Lib.itoa (s.length : Int)) = C at *
  generalize hS : strB s = S at *
  have HS := Shut.mk hS
  clear hS
  have f1 : A.size ≤ 21 := by omega
  have f2 : B.size ≤ 21 := by omega
  have f3 : C.size ≤ 21 := by omega
  have f4 : S.size ≤ 200 := by omega
  have F4 := Shut.mk e4
  clear e1 e2 e3 g1 g2 g3
  go_enter Tryd.func46, Tryd.ntmps46
  go_wp2
  refine wp_region_quiet_lit (by kernel_rfl) (by kernel_rfl) ?_
  repeat (go_big_quiet_step (fail))
  go_big_quiet_step ((go_at_call 68; exact Calls.quiet_of (h1 _)))
  repeat (go_big_quiet_step (fail))
  go_big_quiet_step ((go_at_call 68; exact Calls.quiet_of (h2 _)))
  repeat (go_big_quiet_step (fail))
  go_big_quiet_step ((go_at_call 68; exact Calls.quiet_of (h3 _)))
  repeat (go_big_quiet_step (fail))
  refine wpQuiet_nil ?_
  intro _ hw'
  obtain ⟨nq, hw''⟩ := hw'
  subst hw''
  rw [← HK.out]
  have k0 : Kept w ((w.alloc (.cells #[.int .i64 op, .int .i64 n, .string S, .slice la l.length lc] 51)).drewN nq) := ((Kept.refl w).alloc _).drewN _
  have hk0 : (keyR ⟨op, n, s, []⟩).length ≤ 300 := by
    have := congrArg ByteArray.size HK.out
    rw [strB_size] at this
    simp only [ByteArray.size_append] at this
    have e : (⟨#[32]⟩ : ByteArray).size = 1 := rfl
    omega
  have HE : Shut (keyR ⟨op, n, s, l⟩ = keyR ⟨op, n, s, []⟩ ++ partsKeyR l) := ⟨by simp [keyR, partsKeyR]⟩
  generalize keyR ⟨op, n, s, []⟩ = K0 at HK HE hk0
  clear h1 h2 h3 HK
  have l63 : ((l.length : Nat) : Int) ≤ 9223372036854775807 := by omega
  go_wp2
  go_loopw [3, 27] (fun b i wr => ∃ k : Nat, k ≤ l.length ∧ i = .int .i64 k ∧ b = .string (strB (K0 ++ partsKeyR (l.take k))) ∧ Kept w wr) (fun _ i _ => l.length - (intOf i).toNat)
  case atStart => exact ⟨0, Nat.zero_le _, rfl, by simp [partsKeyR], k0⟩
  case round =>
    obtain ⟨k, hk1, rfl, rfl, hkept⟩ := hrel
    by_cases hlt : k < l.length
    · obtain ⟨rb, ro, rc, hrv, _, _, hrb, hcell⟩ := hr.addr (by omega)
      simp only [Value.slice.injEq] at hrv
      obtain ⟨rfl, hdrop, rfl⟩ := hrv
      clear hdrop
      have hcw : wr.cell? ⟨rb, ro + k, none⟩ = some (.int .i64 (l.getD k 0)) := hkept.cell (p := ⟨rb, ro + k, none⟩) hrb |>.trans (hcell k hlt)
      clear hcell
      have hmem : l.getD k 0 ∈ l := by rw [List.getD_eq_getElem?_getD, List.getElem?_eq_getElem hlt]; exact List.getElem_mem _
      have hx64 : I64 (l.getD k 0) := hll _ hmem
      have hx0 := hpos _ hmem
      have hstep : partsKeyR (l.take (k + 1)) = partsKeyR (l.take k) ++ 32 :: Lib.itoa (l.getD k 0) := by
        rw [List.take_succ_eq_append_getElem hlt, partsKeyR_snoc, List.getD_eq_getElem?_getD, List.getElem?_eq_getElem hlt]; rfl
      have hpl : (partsKeyR (l.take k)).length ≤ 22 * k := by
        have := partsKeyR_len (l.take k) (fun x hx => hll x (List.mem_of_mem_take hx))
        rw [List.length_take] at this
        omega
      have HS2 := Shut.mk hstep
      clear hstep hmem
      generalize l.getD k 0 = x at hcw hx64 HS2 hx0
      have hil := itoa_len hx64
      have hd := itoaR x hx0 hx64.2 wr
      have HJ : Shut (strB (K0 ++ partsKeyR (l.take (k + 1))) = strB (K0 ++ partsKeyR (l.take k)) ++ ((⟨#[32]⟩ : ByteArray) ++ strB (Lib.itoa x))) := ⟨by
        have e : (⟨#[32]⟩ : ByteArray) = strB [32] := rfl
        rw [e, strB_app, strB_app, HS2.out]
        simp⟩
      have e1 : (strB (Lib.itoa x)).size ≤ 21 := by rw [strB_size]; exact hil
      have e2 : (strB (K0 ++ partsKeyR (l.take k))).size ≤ 3000 := by rw [strB_size]; simp; omega
      generalize strB (Lib.itoa x) = X at hd HJ e1
      generalize strB (K0 ++ partsKeyR (l.take k)) = Z at HJ e2
      go_wp2_with fail
      refine hd.mono ?_
      rintro e w1 ⟨rfl, m, rfl⟩
      go_wp2
      go_roundw
      case rel => exact ⟨k + 1, hlt, rfl, by rw [HJ.out], hkept.drewN _⟩
      case measure => simp [intOf]; omega
    · obtain rfl : k = l.length := by omega
      go_wp2
      go_ret
      exact ⟨by rw [List.take_length, ← HE.out]; rfl, hkept⟩
end Go.Proofs.YtangbnmgkcmhbaaDoor
end

section
/- The document's terms: which nodes may be. -/
set_option linter.unusedSimpArgs false
set_option linter.unusedVariables false
namespace Go.Proofs.YtangbnmgkcmhbaaDoor
open Go.RowKit Go.Maps

/-- How many parts a node has by its op; below 0: any, or there is no such op. -/
def arR (op : Int) : Int := if op = 3 ∨ op < 1 ∨ 12 < op then -1 else kMost op
theorem arR_no {op : Int} (h : op = 3 ∨ op < 1 ∨ 12 < op) : arR op = -1 := by unfold arR; rw [if_pos h]
theorem ne_beq {a b : Int} (h : a ≠ b) : (a == b) = false := by simpa using h

set_option maxRecDepth 100000 in
set_option maxHeartbeats 4000000 in
theorem arity_any (op : Int) (w : World) : Calls Tryd.prog 67 #[.int .i64 op] w fun e w' => e = .returned (.int .i64 (arR op)) ∧ w = w' := by
  by_cases h : op = 3 ∨ op < 1 ∨ 12 < op
  · rw [arR_no h]
    have c1 := ne_beq (show op ≠ 1 by omega)
    have c2 := ne_beq (show op ≠ 2 by omega)
    have c4 := ne_beq (show op ≠ 4 by omega)
    have c5 := ne_beq (show op ≠ 5 by omega)
    have c6 := ne_beq (show op ≠ 6 by omega)
    have c7 := ne_beq (show op ≠ 7 by omega)
    have c8 := ne_beq (show op ≠ 8 by omega)
    have c9 := ne_beq (show op ≠ 9 by omega)
    have c10 := ne_beq (show op ≠ 10 by omega)
    have c11 := ne_beq (show op ≠ 11 by omega)
    have c12 := ne_beq (show op ≠ 12 by omega)
    clear h
    go_enter Tryd.func67, Tryd.ntmps67
    go_wp2
    go_ret
    exact ⟨rfl, rfl⟩
  · have hc : op = 1 ∨ op = 2 ∨ op = 4 ∨ op = 5 ∨ op = 6 ∨ op = 7 ∨ op = 8 ∨ op = 9 ∨ op = 10 ∨ op = 11 ∨ op = 12 := by omega
    clear h
    rcases hc with rfl | rfl | rfl | rfl | rfl | rfl | rfl | rfl | rfl | rfl | rfl
    all_goals
      go_enter Tryd.func67, Tryd.ntmps67
      go_wp2
      go_ret
      exact ⟨rfl, rfl⟩

set_option maxRecDepth 100000 in
set_option maxHeartbeats 4000000 in
/-- The first tests of May: whether it comes to the parts. -/
theorem mayR_bad {w : World} {p v : Value} {d : Nd} (hd : RdN w v d) (hb : ¬ (1 ≤ d.op ∧ d.op ≤ 12 ∧ 0 ≤ d.n ∧ (d.n = 0 ∨ d.op = 1) ∧ d.s.length ≤ 200 ∧ (d.s = [] ∨ d.op = 2) ∧ kLeast d.op ≤ d.l.length ∧ (d.l.length : Int) ≤ kMost d.op)) :
    Calls Tryd.prog 45 #[p, v] w fun e w' => e = .returned (.bool false) ∧ Kept w w' := by
  obtain ⟨lv, rfl, hr⟩ := hd
  obtain ⟨op, n, s, l⟩ := d
  simp only at hr hb ⊢
  obtain ⟨la, lc, rfl, l1, l2, l3⟩ := hr.len
  have l63 : ((l.length : Nat) : Int) ≤ 9223372036854775807 := by unfold maxLen at l2; omega
  have e1 := strB_size s
  have e2 := strB_list s
  generalize strB s = S at e1 e2
  by_cases ho : op < 1 ∨ 12 < op
  · have HK := Shut.mk (arR_no (op := op) (by omega))
    have c3 := bne_int (show op ≠ 3 by omega)
    clear hb ho
    go_enter Tryd.func45, Tryd.ntmps45
    go_wp2_with (go_at_call 67; refine (arity_any _ _).mono ?_; rintro e w' ⟨rfl, rfl⟩; rw [HK.out])
    go_ret
    exact ⟨rfl, (Kept.refl w).alloc _⟩
  -- which op, and how many parts
  have hop : (op = 3 ∧ arR op = -1 ∧ kLeast op = 0 ∧ kMost op = 64) ∨ (op ≠ 3 ∧ 0 ≤ arR op ∧ arR op ≤ 4 ∧ kLeast op = arR op ∧ kMost op = arR op) := by
    have hc : op = 1 ∨ op = 2 ∨ op = 3 ∨ op = 4 ∨ op = 5 ∨ op = 6 ∨ op = 7 ∨ op = 8 ∨ op = 9 ∨ op = 10 ∨ op = 11 ∨ op = 12 := by omega
    rcases hc with rfl | rfl | rfl | rfl | rfl | rfl | rfl | rfl | rfl | rfl | rfl | rfl <;> decide
  have hlen : (op = 3 ∧ arR op = -1 ∧ ((l.length : Nat) : Int) ≤ 64 ∧ kLeast op ≤ l.length ∧ (l.length : Int) ≤ kMost op) ∨ (op = 3 ∧ arR op = -1 ∧ 64 < ((l.length : Nat) : Int)) ∨ (op ≠ 3 ∧ 0 ≤ arR op ∧ (l.length : Int) = arR op ∧ ((l.length : Nat) : Int) ≤ 64 ∧ kLeast op ≤ l.length ∧ (l.length : Int) ≤ kMost op) ∨ (op ≠ 3 ∧ 0 ≤ arR op ∧ (l.length : Int) ≠ arR op) := by omega
  generalize hK : arR op = k at hop hlen
  have HK := Shut.mk hK
  clear hK hop
  have hpre : ∀ (Q : Prop), (op = 3 → k = -1 → ((l.length : Nat) : Int) ≤ 64 → Q) → (((op != 3) = true) → 0 ≤ k → ((l.length : Int) != k) = false → ((l.length : Nat) : Int) ≤ 64 → Q) → (kLeast op ≤ l.length ∧ (l.length : Int) ≤ kMost op → Q) → True := fun _ _ _ _ => trivial
  clear hpre
  rcases hlen with ⟨rfl, rfl, q1, q2, q3⟩ | ⟨rfl, rfl, q1⟩ | ⟨q0, q1, q2, q3, q4, q5⟩ | ⟨q0, q1, q2⟩
  · have hb2 : ¬ (n = 0 ∧ s = []) := fun h => hb ⟨by omega, by omega, by omega, .inl h.1, by rw [h.2]; simp, .inl h.2, q2, q3⟩
    clear q2 q3
    by_cases hn : n = 0
    · subst hn
      have hs : s.isEmpty = false := by simpa using fun e => hb2 ⟨rfl, e⟩
      clear hb hb2
      go_enter Tryd.func45, Tryd.ntmps45
      go_wp2_with (go_at_call 67; refine (arity_any _ _).mono ?_; rintro e w' ⟨rfl, rfl⟩; rw [HK.out])
      go_ret
      exact ⟨rfl, (Kept.refl w).alloc _⟩
    · have c1 := bne_int hn
      clear hb hb2 hn
      go_enter Tryd.func45, Tryd.ntmps45
      go_wp2_with (go_at_call 67; refine (arity_any _ _).mono ?_; rintro e w' ⟨rfl, rfl⟩; rw [HK.out])
      go_ret
      exact ⟨rfl, (Kept.refl w).alloc _⟩
  · clear hb
    go_enter Tryd.func45, Tryd.ntmps45
    go_wp2_with (go_at_call 67; refine (arity_any _ _).mono ?_; rintro e w' ⟨rfl, rfl⟩; rw [HK.out])
    go_ret
    exact ⟨rfl, (Kept.refl w).alloc _⟩
  · have c3 := bne_int q0
    have c4 := beq_int q2
    clear q2
    by_cases o1 : op = 1
    · subst o1
      have hb2 : ¬ (0 ≤ n ∧ s = []) := fun h => hb ⟨by omega, by omega, h.1, .inr rfl, by rw [h.2]; simp, .inl h.2, q4, q5⟩
      clear hb q4 q5 q0
      by_cases hs : s = []
      · subst hs
        have hn : n < 0 := by
          apply Classical.byContradiction
          intro c
          exact hb2 ⟨by omega, rfl⟩
        clear hb2
        go_enter Tryd.func45, Tryd.ntmps45
        go_wp2_with (go_at_call 67; refine (arity_any _ _).mono ?_; rintro e w' ⟨rfl, rfl⟩; rw [HK.out])
        go_ret
        exact ⟨rfl, (Kept.refl w).alloc _⟩
      · have hs2 : s.isEmpty = false := by simpa using hs
        clear hb2 hs
        go_enter Tryd.func45, Tryd.ntmps45
        go_wp2_with (go_at_call 67; refine (arity_any _ _).mono ?_; rintro e w' ⟨rfl, rfl⟩; rw [HK.out])
        go_ret
        exact ⟨rfl, (Kept.refl w).alloc _⟩
    · have d1 := bne_int o1
      by_cases hn : n = 0
      · subst hn
        by_cases o2 : op = 2
        · subst o2
          have hs : 200 < s.length := by
            apply Classical.byContradiction
            intro c
            exact hb ⟨by omega, by omega, by omega, .inl rfl, by omega, .inr rfl, q4, q5⟩
          clear hb q4 q5 q0
          go_enter Tryd.func45, Tryd.ntmps45
          go_wp2_with (go_at_call 67; refine (arity_any _ _).mono ?_; rintro e w' ⟨rfl, rfl⟩; rw [HK.out])
          go_ret
          exact ⟨rfl, (Kept.refl w).alloc _⟩
        · have d2 := bne_int o2
          have hs : s.isEmpty = false := by simpa using fun e => hb ⟨by omega, by omega, by omega, .inl rfl, by rw [e]; simp, .inl e, q4, q5⟩
          clear hb q4 q5 q0 o2 o1
          go_enter Tryd.func45, Tryd.ntmps45
          go_wp2_with (go_at_call 67; refine (arity_any _ _).mono ?_; rintro e w' ⟨rfl, rfl⟩; rw [HK.out])
          go_ret
          exact ⟨rfl, (Kept.refl w).alloc _⟩
      · have d3 := bne_int hn
        clear hb q4 q5 q0 o1 hn
        go_enter Tryd.func45, Tryd.ntmps45
        go_wp2_with (go_at_call 67; refine (arity_any _ _).mono ?_; rintro e w' ⟨rfl, rfl⟩; rw [HK.out])
        go_ret
        exact ⟨rfl, (Kept.refl w).alloc _⟩
  · have c3 := bne_int q0
    have c4 := bne_int q2
    clear hb q2 q0
    go_enter Tryd.func45, Tryd.ntmps45
    go_wp2_with (go_at_call 67; refine (arity_any _ _).mono ?_; rintro e w' ⟨rfl, rfl⟩; rw [HK.out])
    go_ret
    exact ⟨rfl, (Kept.refl w).alloc _⟩
end Go.Proofs.YtangbnmgkcmhbaaDoor
end

section
/- The document's terms: which nodes may be, whole. -/
set_option linter.unusedSimpArgs false
set_option linter.unusedVariables false
namespace Go.Proofs.YtangbnmgkcmhbaaDoor
open Go.RowKit Go.Maps

def MayPost (w : World) (ds : List Nd) (d : Nd) (e : Ending) (w' : World) : Prop := ∃ b : Bool, e = .returned (.bool b) ∧ (b = true ↔ May ds d) ∧ Kept w w'

set_option maxRecDepth 100000 in
set_option maxHeartbeats 4000000 in
theorem mayR_good {F : Nat → Prop} {w : World} {p : Value} {ds : List Nd} (h : ArR F w p ds) {v : Value} {d : Nd} (hd : RdN w v d) (hb : 1 ≤ d.op ∧ d.op ≤ 12 ∧ 0 ≤ d.n ∧ (d.n = 0 ∨ d.op = 1) ∧ d.s.length ≤ 200 ∧ (d.s = [] ∨ d.op = 2) ∧ kLeast d.op ≤ d.l.length ∧ (d.l.length : Int) ≤ kMost d.op) :
    Calls Tryd.prog 45 #[p, v] w (MayPost w ds d) := by
  have h64 : d.l.length ≤ 64 := by
    have hb := hb
    have := hb.2.2.2.2.2.2.2
    rcases op_cases hb.1 hb.2.1 with e | e | e | e | e | e | e | e | e | e | e | e <;> rw [e] at this <;> simp [kMost, kTab] at this <;> (try rw [this]) <;> simp <;> omega
  obtain ⟨lv, rfl, hr⟩ := hd
  obtain ⟨op, n, s, l⟩ := d
  simp only at hr hb h64 ⊢
  obtain ⟨la, lc, rfl, l1, l2, l3⟩ := hr.len
  have HB := Shut.mk hb
  obtain ⟨o1, o2, o3, o4, o5, o6, o7, o8⟩ := hb
  have hop : (op = 3 ∧ arR op = -1) ∨ (op ≠ 3 ∧ 0 ≤ arR op ∧ kLeast op = arR op ∧ kMost op = arR op) := by
    rcases op_cases o1 o2 with rfl | rfl | rfl | rfl | rfl | rfl | rfl | rfl | rfl | rfl | rfl | rfl <;> decide
  have hL : ((l.length : Nat) : Int) ≤ 9223372036854775807 := by unfold maxLen at l2; omega
  have hL64 : ((l.length : Nat) : Int) ≤ 64 := by omega
  have e1 := strB_size s
  have e2 := strB_list s
  have MM : Shut ((∀ x ∈ l, 0 ≤ x ∧ x < ds.length) → (op = 6 → (ds.getD (l.getD 1 0).toNat nd0).op = 2) → May ds ⟨op, n, s, l⟩) :=
    ⟨fun a b => ⟨o1, o2, o3, o4, o5, o6, o7, o8, a, b⟩⟩
  have hl3 : Shut (op = 6 → l.length = 3) := ⟨fun e => by
    rw [e] at o7 o8
    simp [kLeast, kMost, kTab] at o7 o8
    omega⟩
  have hcase : (arR op = -1 ∧ (op != 3) = false ∧ (op != 1) = true ∧ (op != 2) = true ∧ n = 0 ∧ s = []) ∨ (arR op = 0 ∧ (op != 1) = false ∧ (op != 2) = true ∧ ((l.length : Int) != 0) = false ∧ s = []) ∨ (arR op = 0 ∧ (op != 1) = true ∧ (op != 2) = false ∧ ((l.length : Int) != 0) = false ∧ n = 0) ∨ ((op != 1) = true ∧ (op != 2) = true ∧ 0 ≤ arR op ∧ ((l.length : Int) != arR op) = false ∧ n = 0 ∧ s = []) := by
    rcases hop with ⟨a, b⟩ | ⟨a, b, c, d⟩
    · exact .inl ⟨b, beq_int a, bne_int (by omega), bne_int (by omega), o4.resolve_right (by omega), o6.resolve_right (by omega)⟩
    · by_cases c1 : op = 1
      · subst c1
        exact .inr (.inl ⟨rfl, rfl, rfl, beq_int (by have : arR 1 = 0 := rfl; omega), o6.resolve_right (by omega)⟩)
      · by_cases c2 : op = 2
        · subst c2
          exact .inr (.inr (.inl ⟨rfl, rfl, rfl, beq_int (by have : arR 2 = 0 := rfl; omega), o4.resolve_right (by omega)⟩))
        · exact .inr (.inr (.inr ⟨bne_int c1, bne_int c2, b, beq_int (by omega), o4.resolve_right c1, o6.resolve_right c2⟩))
  generalize hK : arR op = kk at hcase
  have HK := Shut.mk hK
  clear hK hop o4 o6 o7 o8
  generalize hS : strB s = S at e1 e2
  have HS := Shut.mk hS
  clear hS
  obtain ⟨pb, mb, nv, rfl, q0, q1, qn⟩ := ArG.nodes h
  obtain ⟨na, ncap, rfl, n1, n2, n3⟩ := qn.len
  have dl : ((ds.length : Nat) : Int) ≤ 9223372036854775807 := by unfold maxLen at n2; omega
  have q0a : ∀ ob, (w.alloc ob).cell? ⟨pb, 0, none⟩ = some (.slice na ds.length ncap) := fun ob => by rw [World.cell?_alloc_past _ _ _ (World.block_lt_of_cell? _ _ q0)]; exact q0
  rcases hcase with ⟨rfl, c1, c2, c3, rfl, rfl⟩ | ⟨rfl, c1, c2, c3, rfl⟩ | ⟨rfl, c1, c2, c3, rfl⟩ | ⟨c1, c2, c3, c4, rfl, rfl⟩
  all_goals
    go_enter Tryd.func45, Tryd.ntmps45
    go_wp2_with (go_at_call 67; refine (arity_any _ _).mono ?_; rintro e w' ⟨rfl, rfl⟩; rw [HK.out])
    go_loop [69] (fun s => ∃ k : Nat, (k ≤ l.length ∧ ∀ i, i < k → 0 ≤ l.getD i 0 ∧ l.getD i 0 < ds.length) ∧ s = .int .i64 k) (fun s => l.length - (intOf s).toNat)
    case atStart => exact ⟨0, ⟨Nat.zero_le _, fun i hi => absurd hi (Nat.not_lt_zero _)⟩, rfl⟩
    case round =>
      obtain ⟨k, ⟨hk0, hk1⟩, rfl⟩ := hrel
      have HK1 := Shut.mk hk1
      clear hk1
      by_cases hlt : k < l.length
      · obtain ⟨rb, ro, rc, hrv, _, _, hrb, hcell⟩ := hr.addr (by omega)
        simp only [Value.slice.injEq] at hrv
        obtain ⟨rfl, hdrop, rfl⟩ := hrv
        clear hdrop
        have hcw : ∀ (ob : Obj), (w.alloc ob).cell? ⟨rb, ro + k, none⟩ = some (.int .i64 (l.getD k 0)) := fun ob => ((Kept.refl w).alloc ob).cell (p := ⟨rb, ro + k, none⟩) hrb |>.trans (hcell k hlt)
        clear hcell
        generalize hx : l.getD k 0 = x at hcw
        have HX := Shut.mk hx
        clear hx
        by_cases hx0 : x < 0
        · go_wp2
          go_ret
          refine ⟨false, rfl, ⟨(fun h => by cases h), fun m => ?_⟩, ((Kept.refl w).alloc _)⟩
          have := m.all x (by rw [← HX.out, List.getD_eq_getElem?_getD, List.getElem?_eq_getElem hlt]; exact List.getElem_mem _)
          omega
        · by_cases hx1 : x < ds.length
          · go_wp2
            go_round
            case rel => exact ⟨k + 1, ⟨hlt, fun i hi => by
              by_cases c : i < k
              · exact HK1.out i c
              · obtain rfl : i = k := by omega
                rw [HX.out]; omega⟩, rfl⟩
            case measure => simp [intOf]; omega
          · go_wp2
            go_ret
            refine ⟨false, rfl, ⟨(fun h => by cases h), fun m => ?_⟩, ((Kept.refl w).alloc _)⟩
            have := m.all x (by rw [← HX.out, List.getD_eq_getElem?_getD, List.getElem?_eq_getElem hlt]; exact List.getElem_mem _)
            omega
      · obtain rfl : k = l.length := by omega
        have hall : Shut (∀ x ∈ l, 0 ≤ x ∧ x < ds.length) := ⟨fun x hx => by
          obtain ⟨i, hi, e⟩ := List.mem_iff_getElem.1 hx
          have := HK1.out i hi
          rwa [List.getD_eq_getElem?_getD, List.getElem?_eq_getElem hi, Option.getD_some, e] at this⟩
        by_cases h6 : op = 6
        · have hb6 := beq_int h6
          have hl3' : l.length = 3 := hl3.out h6
          have hx1 := HK1.out 1 (by omega)
          obtain ⟨j, hj⟩ := Int.eq_ofNat_of_zero_le hx1.1
          have hjl : j < ds.length := by omega
          obtain ⟨nb, noff, ncap', lvs, hnv, _, _, hnb, hnc, _⟩ := qn.addr (by omega)
          simp only [Value.slice.injEq] at hnv
          obtain ⟨rfl, hdrop, rfl⟩ := hnv
          clear hdrop
          obtain ⟨nc, _, _, _⟩ := hnc j hjl
          obtain ⟨rb, ro, rc, hrv, _, _, hrb, hcell⟩ := hr.addr (by omega)
          simp only [Value.slice.injEq] at hrv
          obtain ⟨rfl, hdrop, rfl⟩ := hrv
          clear hdrop
          have hc1 := hcell 1 (by omega)
          rw [hj] at hc1
          clear hcell hnc
          have nca : ∀ ob, (w.alloc ob).cell? ⟨nb, noff + j * 4, none⟩ = some (.int .i64 (ds.getD j nd0).op) := fun ob => by rw [World.cell?_alloc_past _ _ _ (World.block_lt_of_cell? _ _ nc)]; exact nc
          have hca : ∀ ob, (w.alloc ob).cell? ⟨rb, ro + 1, none⟩ = some (.int .i64 (j : Int)) := fun ob => by rw [World.cell?_alloc_past _ _ _ (World.block_lt_of_cell? _ _ hc1)]; exact hc1
          have j0 : (0 : Int) ≤ (j : Int) := by omega
          have j1 : (j : Int) < (ds.length : Int) := by omega
          have l31 : (1 : Int) < (l.length : Int) := by omega
          have HL3 := Shut.mk hl3'
          have H6 := Shut.mk h6
          have HJ := Shut.mk hj
          clear hl3' h6 hj hx1
          generalize hop' : (ds.getD j nd0).op = oj at nc nca
          have HO := Shut.mk hop'
          clear hop'
          go_wp2
          go_quiet (fail)
          go_wp2
          go_ret
          refine ⟨_, rfl, ⟨fun hh => ?_, fun m => ?_⟩, ?_⟩
          · exact MM.out hall.out (fun e => by
              simp only [HJ.out, Int.toNat_natCast, HO.out]
              simpa using hh)
          · have := m.key H6.out
            simp only [HJ.out, Int.toNat_natCast, HO.out] at this
            simp [this]
          · exact ((Kept.refl w).alloc _).drewN _
        · have hb6 := bne_int h6
          go_wp2
          go_quiet (fail)
          go_wp2
          go_ret
          refine ⟨true, rfl, ⟨fun _ => MM.out hall.out (fun e => absurd e h6), fun _ => rfl⟩, ((Kept.refl w).alloc _).drewN _⟩
theorem mayR_any {F : Nat → Prop} {w : World} {p : Value} {ds : List Nd} (h : ArR F w p ds) {v : Value} {d : Nd} (hd : RdN w v d) :
    Calls Tryd.prog 45 #[p, v] w (MayPost w ds d) := by
  by_cases hb : 1 ≤ d.op ∧ d.op ≤ 12 ∧ 0 ≤ d.n ∧ (d.n = 0 ∨ d.op = 1) ∧ d.s.length ≤ 200 ∧ (d.s = [] ∨ d.op = 2) ∧ kLeast d.op ≤ d.l.length ∧ (d.l.length : Int) ≤ kMost d.op
  · exact mayR_good h hd hb
  · exact (mayR_bad hd hb).mono fun e w' ⟨a, b⟩ => ⟨false, a, ⟨(fun x => by cases x), fun m => absurd ⟨m.op1, m.op12, m.n0, m.n1, m.s0, m.s1, m.least, m.most⟩ hb⟩, b⟩
end Go.Proofs.YtangbnmgkcmhbaaDoor
end

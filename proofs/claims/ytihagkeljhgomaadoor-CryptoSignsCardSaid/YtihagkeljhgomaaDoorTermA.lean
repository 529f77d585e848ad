/- Nodes in memory; an arena in memory. -/
import Derived.Test.YtihagkeljhgomaaDoorMem
import Derived.Test.YtihagkeljhgomaaDoorTermS
set_option linter.unusedSimpArgs false
set_option linter.unusedVariables false
namespace Go.Proofs.YtihagkeljhgomaaDoor
open Go.RowKit Go.Maps

def strB (s : List UInt8) : ByteArray := ⟨s.toArray⟩
theorem strB_toList (s : List UInt8) : (strB s).data.toList = s := rfl
theorem strB_list (s : List UInt8) : (strB s).toList = s := by rw [ByteArray.toList_eq]; rfl
theorem strB_size (s : List UInt8) : (strB s).size = s.length := by simp [strB, ByteArray.size]

/-- The cells of a node whose parts are the slice lv. -/
def ndCells (d : Nd) (lv : Value) : List Value := [.int .i64 d.op, .int .i64 d.n, .string (strB d.s), lv]
/-- The cells of many. -/
def flat : List Nd → List Value → List Value
  | [], _ => []
  | d :: ds, lvs => ndCells d (lvs.headD undef) ++ flat ds lvs.tail
theorem flat_length (ds : List Nd) (lvs : List Value) : (flat ds lvs).length = ds.length * 4 := by
  induction ds generalizing lvs with
  | nil => rfl
  | cons d ds ih => simp [flat, ndCells, ih]; omega
theorem flat_at (ds : List Nd) (lvs : List Value) (i j : Nat) (hi : i < ds.length) (hj : j < 4) : (flat ds lvs)[i * 4 + j]? = (ndCells (ds.getD i nd0) (lvs.getD i undef))[j]? := by
  induction ds generalizing lvs i with
  | nil => simp at hi
  | cons d ds ih =>
    cases i with
    | zero =>
      simp only [flat, Nat.zero_mul, Nat.zero_add]
      rw [List.getElem?_append_left (by simp [ndCells]; omega)]
      cases lvs <;> rfl
    | succ i =>
      simp only [flat]
      rw [List.getElem?_append_right (by simp [ndCells]; omega)]
      have e : (i + 1) * 4 + j - (ndCells d (lvs.headD undef)).length = i * 4 + j := by simp [ndCells]; omega
      rw [e, ih lvs.tail i (by simpa using hi)]
      cases lvs <;> simp
theorem flat_snoc (ds : List Nd) (lvs : List Value) (h : lvs.length = ds.length) (d : Nd) (lv : Value) : flat (ds ++ [d]) (lvs ++ [lv]) = flat ds lvs ++ ndCells d lv := by
  induction ds generalizing lvs with
  | nil =>
    cases lvs with
    | nil => simp [flat]
    | cons => simp at h
  | cons e ds ih =>
    cases lvs with
    | nil => simp at h
    | cons v lvs => simp [flat, ih lvs (by simpa using h)]

/-- An argument that is a node. -/
def RdN (w : World) (v : Value) (d : Nd) : Prop := ∃ lv, v = .agg #[.int .i64 d.op, .int .i64 d.n, .string (strB d.s), lv] ∧ RdI w lv d.l
/-- Nodes whose numbers are int's. -/
structure NdOk (d : Nd) : Prop where
  op : I64 d.op
  n : I64 d.n
  s : d.s.length ≤ maxLen
  l : ∀ x ∈ d.l, I64 x

/-- v is a slice of nodes. -/
def RdNs (w : World) (v : Value) (ds : List Nd) : Prop :=
  ∃ lvs : List Value, lvs.length = ds.length ∧ Rdv 4 w v ds.length (flat ds lvs) ∧ ∀ i, i < ds.length → RdI w (lvs.getD i undef) (ds.getD i nd0).l

theorem RdNs.kept {w w' : World} {v : Value} {ds : List Nd} (h : RdNs w v ds) (k : Kept w w') : RdNs w' v ds := by
  obtain ⟨lvs, h1, h2, h3⟩ := h
  exact ⟨lvs, h1, h2.kept k, fun i hi => (h3 i hi).kept k⟩

/-- What the map of an arena says: at the text of each node its number; of no other text anything. -/
def Idx {H : Type} (key : Nd → List UInt8) (ds : List Nd) (D : DataW H) : Prop :=
  (∀ i, i < ds.length → Maps.has D (.string (key (ds.getD i nd0))) = true ∧ D.atKey (.string (key (ds.getD i nd0))) (.lit (.int .i64 0)) = .lit (.int .i64 i)) ∧
  ∀ s, Maps.has D (.string s) = true → ∃ i, i < ds.length ∧ key (ds.getD i nd0) = s

/-- p is an arena with the terms ds; its memory is in F. -/
structure ArG (T : TypeId) (key : Nd → List UInt8) (F : Nat → Prop) (w : World) (p : Value) (ds : List Nd) : Prop where
  good : Good ds
  rep : ∃ (pb mb n : Nat) (nv : Value) (lvs : List Value) (D : DataW Unit), p = .pointer (some ⟨pb, 0, none⟩) ∧ Blk w pb T [nv, .map (some mb)] ∧
    Ownv 0 56 4 w nv ds.length (flat ds lvs) ∧ lvs.length = ds.length ∧ (∀ i, i < ds.length → OwnI 0 w (lvs.getD i undef) (ds.getD i nd0).l) ∧
    w.ownsMap Tryd.prog 9 (plainElem Tryd.prog 3) mb n D ∧ n ≤ ds.length ∧ Idx key ds D ∧
    F pb ∧ F mb ∧ (∀ b, Blks nv b → F b) ∧ ∀ i, i < ds.length → ∀ b, Blks (lvs.getD i undef) b → F b
  lt : ∀ b, F b → b < w.heap.size
  few : ds.length ≤ 100000
  oks : ∀ d ∈ ds, NdOk d

theorem ArG.same {T : TypeId} {key : Nd → List UInt8} {F : Nat → Prop} {w w' : World} {p : Value} {ds : List Nd} (h : ArG T key F w p ds) (k : Same F w w') (hl : w.heap.size ≤ w'.heap.size) : ArG T key F w' p ds := by
  refine ⟨h.good, ?_, fun b hb => Nat.lt_of_lt_of_le (h.lt b hb) hl, h.few, h.oks⟩
  obtain ⟨pb, mb, n, nv, lvs, D, h1, h2, h3, h4, h5, h6, h7, h8, h9, h10, h11, h12⟩ := h.rep
  exact ⟨pb, mb, n, nv, lvs, D, h1, h2.same (k.mono fun b e => by rw [e]; exact h9), h3.same (k.mono h11), h4, fun i hi => (h5 i hi).same (k.mono (h12 i hi)), ownsMap_same h6 (k.mono fun b e => by rw [e]; exact h10), h7, h8, h9, h10, h11, h12⟩
theorem ArG.turn {T : TypeId} {key : Nd → List UInt8} {F G : Nat → Prop} {w w' : World} {p : Value} {ds : List Nd} (h : ArG T key F w p ds) (k : Turn G w w') (hd : ∀ b, F b → ¬ G b) : ArG T key F w' p ds :=
  h.same (k.same h.lt hd) k.size
theorem ArG.kept {T : TypeId} {key : Nd → List UInt8} {F : Nat → Prop} {w w' : World} {p : Value} {ds : List Nd} (h : ArG T key F w p ds) (k : Kept w w') : ArG T key F w' p ds :=
  h.same (k.same h.lt) k.size

/-- The program's arena. -/
def Ar (F : Nat → Prop) (w : World) (p : Value) (ds : List Nd) : Prop := ArG 53 key F w p ds

theorem ArG.nodes {T : TypeId} {key : Nd → List UInt8} {F : Nat → Prop} {w : World} {p : Value} {ds : List Nd} (h : ArG T key F w p ds) :
    ∃ (pb mb : Nat) (nv : Value), p = .pointer (some ⟨pb, 0, none⟩) ∧ w.cell? ⟨pb, 0, none⟩ = some nv ∧ w.cell? ⟨pb, 1, none⟩ = some (.map (some mb)) ∧ RdNs w nv ds := by
  obtain ⟨pb, mb, n, nv, lvs, D, h1, h2, h3, h4, h5, h6, h7, h8, h9, h10, h11, h12⟩ := h.rep
  exact ⟨pb, mb, nv, h1, h2.cell 0, h2.cell 1, lvs, h4, h3.rdv, fun i hi => (h5 i hi).rd⟩
theorem RdNs.len {w : World} {v : Value} {ds : List Nd} (h : RdNs w v ds) : ∃ a cap, v = .slice a ds.length cap ∧ ds.length ≤ cap ∧ cap ≤ maxLen ∧ (a = none → cap = 0) := by
  obtain ⟨lvs, _, ⟨a, cap, rfl, _, h2, h3, h4, _⟩, _⟩ := h
  exact ⟨a, cap, rfl, h2, h3, h4⟩

/-- A slice of nodes that is not empty: its address, its cells. -/
theorem RdNs.addr {w : World} {v : Value} {ds : List Nd} (h : RdNs w v ds) (hp : 0 < ds.length) :
    ∃ b off cap, ∃ lvs : List Value, v = .slice (some ⟨b, off, none⟩) ds.length cap ∧ ds.length ≤ cap ∧ cap ≤ maxLen ∧ b < w.heap.size ∧
      (∀ i, i < ds.length → w.cell? ⟨b, off + i * 4, none⟩ = some (.int .i64 (ds.getD i nd0).op) ∧ w.cell? ⟨b, off + i * 4 + 1, none⟩ = some (.int .i64 (ds.getD i nd0).n) ∧
        w.cell? ⟨b, off + i * 4 + 2, none⟩ = some (.string (strB (ds.getD i nd0).s)) ∧ w.cell? ⟨b, off + i * 4 + 3, none⟩ = some (lvs.getD i undef)) ∧
      ∀ i, i < ds.length → RdI w (lvs.getD i undef) (ds.getD i nd0).l := by
  obtain ⟨lvs, hvs, ⟨ao, cap, rfl, hl, hc, hm, hno, hcell⟩, hr⟩ := h
  cases ao with
  | none => have := hno rfl; omega
  | some ad =>
    obtain ⟨b, off, spot⟩ := ad
    have h0 := hcell _ rfl 0 (.int .i64 (ds.getD 0 nd0).op) (by have := flat_at ds lvs 0 0 hp (by omega); simpa [ndCells] using this)
    obtain rfl : spot = none := by simpa [Addr.add] using World.cell?_spot h0
    have hg : ∀ i j u, i < ds.length → j < 4 → (ndCells (ds.getD i nd0) (lvs.getD i undef))[j]? = some u → w.cell? ⟨b, off + i * 4 + j, none⟩ = some u := by
      intro i j u hi hj hu
      have := hcell _ rfl (i * 4 + j) u ((flat_at ds lvs i j hi hj).trans hu)
      rw [Addr.add_lit] at this
      rwa [Nat.add_assoc]
    exact ⟨b, off, cap, lvs, rfl, hc, hm, World.block_lt_of_cell? _ _ h0, fun i hi => ⟨hg i 0 _ hi (by omega) rfl, hg i 1 _ hi (by omega) rfl, hg i 2 _ hi (by omega) rfl, hg i 3 _ hi (by omega) rfl⟩, hr⟩

theorem ownsMap_kept {H : Type} {w w' : World} {P : Program} {k : TypeId} {R : Value → Option (DataW H × List MemPlace)} {b n : Nat} {D : DataW H} (h : w.ownsMap P k R b n D) (t : Kept w w') : w'.ownsMap P k R b n D :=
  ownsMap_turn h (t.turn (fun _ => False)) (fun x => x)

/-- At the text of a node that is new, the map says its number. -/
theorem Idx.snoc {H : Type} {ky : Nd → List UInt8} {ds : List Nd} {D : DataW H} (h : Idx ky ds D) (hm : Maps.IsMap D) {d : Nd} (hne : ∀ i, i < ds.length → ky (ds.getD i nd0) ≠ ky d) :
    Idx ky (ds ++ [d]) (D.put (.string (ky d)) (.lit (.int .i64 ds.length))) := by
  have hk : WideAt.IsKeyLit (.string (ky d)) := by first | trivial | exact (by decide) | simp [WideAt.IsKeyLit]
  refine ⟨fun i hi => ?_, fun s hs => ?_⟩
  · rw [List.length_append, List.length_singleton] at hi
    rw [getD_snoc]
    by_cases c : i < ds.length
    · rw [if_pos c]
      obtain ⟨h1, h2⟩ := h.1 i c
      have hn : (Lit.string (ky (ds.getD i nd0))) ≠ Lit.string (ky d) := fun e => hne i c (by injection e)
      exact ⟨by rw [has_put_other hn]; exact h1, by rw [atKey_put_other hn]; exact h2⟩
    · obtain rfl : i = ds.length := by omega
      rw [if_neg c, if_pos rfl]
      exact ⟨has_put_same hm hk _, atKey_put_same hm hk _ _⟩
  · by_cases c : s = ky d
    · exact ⟨ds.length, by simp, by rw [getD_snoc, if_neg (by omega), if_pos rfl, c]⟩
    · rw [has_put_other (fun e => c (by injection e))] at hs
      obtain ⟨i, hi, he⟩ := h.2 s hs
      exact ⟨i, by rw [List.length_append]; omega, by rw [getD_snoc, if_pos hi, he]⟩

theorem getD_snoc_v (l : List Value) (v : Value) (i : Nat) : (l ++ [v]).getD i undef = if i < l.length then l.getD i undef else if i = l.length then v else undef := by
  simp only [List.getD_eq_getElem?_getD]
  by_cases h : i < l.length
  · rw [if_pos h, List.getElem?_append_left h]
  · rw [if_neg h, List.getElem?_append_right (by omega)]
    by_cases h2 : i = l.length
    · simp [h2]
    · rw [if_neg h2, List.getElem?_eq_none (by simp; omega)]; rfl

/-- What a new node makes of an arena. -/
theorem arg_grow {T : TypeId} {ky : Nd → List UInt8} {F : Nat → Prop} {w w4 w6 w7 : World} {pb mb n : Nat} {nv nv' lv3 : Value} {lvs : List Value} {D : DataW Unit} {ds : List Nd} {d : Nd}
    (good : Good ds) (hlen : ds.length < 100000) (hoks : ∀ d ∈ ds, NdOk d) (hok : NdOk d) (hm : May ds d) (hf : find ds d = none) (hinj : ∀ i, i < ds.length → ky (ds.getD i nd0) ≠ ky d) (hT : T ≠ 3 ∧ T ≠ 56)
    (h2 : Blk w pb T [nv, .map (some mb)]) (h3 : Ownv 0 56 4 w nv ds.length (flat ds lvs)) (h4 : lvs.length = ds.length) (h5 : ∀ i, i < ds.length → OwnI 0 w (lvs.getD i undef) (ds.getD i nd0).l)
    (h6 : w.ownsMap Tryd.prog 9 (plainElem Tryd.prog 3) mb n D) (h7 : n ≤ ds.length) (h8 : Idx ky ds D) (h9 : F pb) (h10 : F mb) (h11 : ∀ b, Blks nv b → F b) (h12 : ∀ i, i < ds.length → ∀ b, Blks (lvs.getD i undef) b → F b)
    (hlt : ∀ b, F b → b < w.heap.size) (kw4 : Kept w w4) (t6 : Turn (fun b => Blks nv b ∨ b = pb) w4 w6) (g6 : Blk w6 pb T [nv', .map (some mb)])
    (o6 : Ownv 0 56 4 w6 nv' (ds.length + 1) (flat ds lvs ++ ndCells d lv3)) (hnv : ∀ b, Blks nv' b → Blks nv b ∨ w.heap.size ≤ b) (a6 : OwnI 0 w6 lv3 d.l) (hlv : ∀ b, Blks lv3 b → w.heap.size ≤ b)
    (own7 : w7.ownsMap Tryd.prog 9 (plainElem Tryd.prog 3) mb (n + 1) (D.put (.string (ky d)) (.lit (.int .i64 ds.length)))) (m6 : w6.ownsMap Tryd.prog 9 (plainElem Tryd.prog 3) mb n D) (t7 : Turn (fun b => b = mb) w6 w7) :
    ∃ F' : Nat → Prop, ArG T ky F' w7 (.pointer (some ⟨pb, 0, none⟩)) (ds ++ [d]) ∧ Turn F w w7 ∧ ∀ b, F' b → F b ∨ w.heap.size ≤ b := by
  have hn4 := h3.kept kw4
  have hg4 := h2.kept kw4
  refine ⟨fun b => F b ∨ (w.heap.size ≤ b ∧ b < w7.heap.size), ⟨good.snoc hm hf, ⟨pb, mb, n + 1, nv', lvs ++ [lv3], _, rfl, g6.turn t7 (ownsMap_notBlk' m6 g6), ?_, ?_, ?_, own7, ?_, h8.snoc m6.isMap hinj, .inl h9, .inl h10, ?_, ?_⟩, ?_, by simp; omega, fun x hx => (List.mem_append.1 hx).elim (hoks x) (fun e => by rw [List.mem_singleton.1 e]; exact hok)⟩, ?_, ?_⟩
  · rw [flat_snoc ds lvs h4, List.length_append, List.length_singleton]
    exact o6.turn t7 (fun b hb hc => ownsMap_notBlk m6 o6 (hc ▸ hb))
  · simp [h4]
  · intro i hi
    rw [List.length_append, List.length_singleton] at hi
    rw [getD_snoc, getD_snoc_v, h4]
    by_cases c : i < ds.length
    · rw [if_pos c, if_pos c]
      have x4 : OwnI 0 w4 _ _ := Ownv.kept (h5 i c) kw4
      have x6 : OwnI 0 w6 _ _ := x4.turn t6 (fun b hb hc => hc.elim (Ownv.apart x4 hn4 (by decide) hb) (fun e => Ownv.notBlk x4 hg4 hT.1.symm (e ▸ hb)))
      exact x6.turn t7 (fun b hb hc => ownsMap_notBlk m6 x6 (hc ▸ hb))
    · obtain rfl : i = ds.length := by omega
      rw [if_neg c, if_neg c, if_pos rfl, if_pos rfl]
      exact a6.turn t7 (fun b hb hc => ownsMap_notBlk m6 a6 (hc ▸ hb))
  · rw [List.length_append]; simp; exact h7
  · intro b hb
    rcases hnv b hb with c | c
    · exact .inl (h11 b c)
    · exact .inr ⟨c, Nat.lt_of_lt_of_le (o6.lt hb).1 t7.size⟩
  · intro i hi b hb
    rw [List.length_append, List.length_singleton] at hi
    rw [getD_snoc_v, h4] at hb
    by_cases c : i < ds.length
    · rw [if_pos c] at hb
      exact .inl (h12 i c b hb)
    · obtain rfl : i = ds.length := by omega
      rw [if_neg c, if_pos rfl] at hb
      exact .inr ⟨hlv b hb, Nat.lt_of_lt_of_le (Ownv.lt a6 hb).1 t7.size⟩
  · intro b hb
    have hs : w.heap.size ≤ w7.heap.size := Nat.le_trans (Nat.le_trans kw4.size t6.size) t7.size
    rcases hb with hb | hb
    · exact Nat.lt_of_lt_of_le (hlt b hb) hs
    · exact hb.2
  · exact (((kw4.turn F).trans t6 (fun x hx => .inl (hx.elim (h11 x) (fun e => e ▸ h9)))).trans t7 (fun x hx => .inl (hx ▸ h10)))
  · intro b hb
    exact hb.elim .inl (fun x => .inr x.1)
end Go.Proofs.YtihagkeljhgomaaDoor

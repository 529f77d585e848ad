/- What a call may turn, numbers in slices, rows of the call's own; the document's SameInts. -/
import Derived.Test.YtlohedmpcjpaeaaDoorProg
import Derived.WalkKit
import Derived.WalkSpells
import Derived.WalkLawsBesides
import Derived.ProofKit
import Derived.OpenShut
import Derived.Below
import Derived.Lib.Hide
import Derived.Laws.AppendOwnNone
import Derived.Laws.BytesArg
import Derived.StillTactics
import Derived.Deep.QuietTactic
import Derived.BigQuiet
import Derived.Outline
import Derived.Laws.Rows
import Derived.Maps.AppendAt
import Derived.IntWalk
set_option linter.unusedSimpArgs false
set_option linter.unusedVariables false
namespace Go.Proofs.YtlohedmpcjpaeaaDoor
open Go.RowKit Go.Maps

/-- v is a slice of n elements of 'size' cells each; its cells are xs. -/
def Rdv (size : Nat) (w : World) (v : Value) (n : Nat) (xs : List Value) : Prop :=
  ∃ (a : Option Addr) (cap : Nat), v = .slice a n cap ∧ xs.length = n * size ∧ n ≤ cap ∧ cap ≤ maxLen ∧ (a = none → cap = 0) ∧
    ∀ ad, a = some ad → ∀ j u, xs[j]? = some u → w.cell? (ad.add j) = some u
/-- v is a slice of bytes, which are the numbers zs. -/
def Rd (w : World) (v : Value) (zs : List Int) : Prop := Rdv 1 w v zs.length (zs.map (Value.int .u8))
/-- v is a slice of the call's own (blocks from B on), or nil; its cells are xs. -/
def Ownv (B : Nat) (e : TypeId) (size : Nat) (w : World) (v : Value) (n : Nat) (xs : List Value) : Prop := w.ownsRow B e size v n xs
def Own (B : Nat) (e : TypeId) (w : World) (v : Value) (zs : List Int) : Prop := Ownv B e 1 w v zs.length (zs.map (Value.int .u8))
/-- Of what was there nothing has turned. -/
def Kept (w w' : World) : Prop := Below w.heap.size w w'
theorem Kept.refl (w : World) : Kept w w := Below.refl _ _
theorem Kept.size {w w' : World} (h : Kept w w') : w.heap.size ≤ w'.heap.size := Below.size h
theorem Kept.trans {a b c : World} (h : Kept a b) (k : Kept b c) : Kept a c := Below.trans h (Below.mono k (Below.size h))
theorem Kept.alloc {a w : World} (h : Kept a w) (o : Obj) : Kept a (w.alloc o) := Below.alloc h h.size o
theorem Kept.drew {a w : World} (h : Kept a w) : Kept a w.drew := Below.drew h
theorem Kept.trans' {a b c : World} (h : Kept a b) (k : Below a.heap.size b c) : Kept a c := Below.trans h k
theorem Kept.drewN {a w : World} (h : Kept a w) (n : Nat) : Kept a (w.drewN n) := ⟨h.os, h.tape, h.output, h.size, h.block⟩
theorem Kept.below {B : Nat} {a b c : World} (h : Kept a b) (k : Below B b c) (hB : a.heap.size ≤ B) : Kept a c := Below.trans h (Below.mono k hB)
theorem Rdv.kept {size n : Nat} {w w' : World} {v : Value} {xs : List Value} (h : Rdv size w v n xs) (k : Kept w w') : Rdv size w' v n xs := by
  obtain ⟨a, cap, rfl, h1, h2, h3, h4, h5⟩ := h
  refine ⟨a, cap, rfl, h1, h2, h3, h4, fun ad ha j u hj => ?_⟩
  have hc := h5 ad ha j u hj
  rw [Below.cell k (World.block_lt_of_cell? _ _ hc)]
  exact hc
theorem Rd.kept {w w' : World} {v : Value} {zs : List Int} (h : Rd w v zs) (k : Kept w w') : Rd w' v zs := Rdv.kept h k
theorem Ownv.rdv {B : Nat} {e : TypeId} {size n : Nat} {w : World} {v : Value} {xs : List Value} (h : Ownv B e size w v n xs) : Rdv size w v n xs := by
  rcases h.2 with ⟨rfl, rfl⟩ | ⟨g, cap, cur, rfl, hb, hg, hn, hm, hs, ht⟩
  · exact ⟨none, 0, rfl, h.1, Nat.le_refl _, Nat.zero_le _, fun _ => rfl, fun _ hh => by cases hh⟩
  · refine ⟨_, cap, rfl, h.1, hn, hm, (fun hh => by cases hh), fun ad hh j u hj => ?_⟩
    cases hh
    exact World.ownsRow.cells h rfl j u hj
theorem Own.rd {B : Nat} {e : TypeId} {w : World} {v : Value} {zs : List Int} (h : Own B e w v zs) : Rd w v zs := Ownv.rdv h
theorem Ownv.kept {B : Nat} {e : TypeId} {size n : Nat} {w w' : World} {v : Value} {xs : List Value} (h : Ownv B e size w v n xs) (k : Kept w w') : Ownv B e size w' v n xs := by
  refine ⟨h.1, ?_⟩
  rcases h.2 with hn | ⟨g, cap, cur, rfl, hb, hg, rest⟩
  · exact .inl hn
  · refine .inr ⟨g, cap, cur, rfl, hb, ?_, rest⟩
    rw [k.block g (Array.getElem?_eq_some_iff.1 hg).1]
    exact hg
theorem Own.kept {B : Nat} {e : TypeId} {w w' : World} {v : Value} {zs : List Int} (h : Own B e w v zs) (k : Kept w w') : Own B e w' v zs := Ownv.kept h k
theorem Ownv.mono {B B' : Nat} {e : TypeId} {size n : Nat} {w : World} {v : Value} {xs : List Value} (h : Ownv B e size w v n xs) (k : B' ≤ B) : Ownv B' e size w v n xs := by
  refine ⟨h.1, ?_⟩
  rcases h.2 with hn | ⟨g, cap, cur, rfl, hb, rest⟩
  · exact .inl hn
  · exact .inr ⟨g, cap, cur, rfl, Nat.le_trans k hb, rest⟩
theorem Own.mono {B B' : Nat} {e : TypeId} {w : World} {v : Value} {zs : List Int} (h : Own B e w v zs) (k : B' ≤ B) : Own B' e w v zs := Ownv.mono h k
theorem Own.nil (B : Nat) (e : TypeId) (w : World) : Own B e w (.slice none 0 0) [] := World.ownsRow_nil w B e 1
theorem Rd.nil (w : World) : Rd w (.slice none 0 0) [] := ⟨none, 0, rfl, rfl, Nat.le_refl _, Nat.zero_le _, fun _ => rfl, fun _ h => by cases h⟩
/-- Each value is one cell. -/
theorem ones_int (k : IntKind) (zs : List Int) : ∀ u ∈ zs.map (Value.int k), u.oneCell' = true := ints_oneCell k zs
/-- A row that is laid with just these cells. -/
theorem Ownv.lit {B : Nat} (e : TypeId) {w : World} (cs : List Value) (hB : B ≤ w.heap.size) (hm : cs.length ≤ maxLen) :
    Ownv B e 1 (w.alloc (.cells cs.toArray e)) (.slice (some ⟨w.heap.size, 0, none⟩) cs.length cs.length) cs.length cs :=
  ⟨by simp, .inr ⟨w.heap.size, cs.length, cs.toArray, rfl, hB, heap_alloc_new w _, Nat.le_refl _, hm, by simp, by simp⟩⟩
/-- append to a row of the call's own, from whatever slice. -/
theorem go_app {P : Program} {w : World} {ops : Array Oper} {rest : List Oper} {a : Act} {Q : Exit → Act → World → Prop} {d : Option Tmp} {ty : TypeId} {ps : String} {af : Array Edge}
    {s x : Operand} {t : TypeId} (B : Nat) (e : TypeId) (size bytes : Nat) (i : TypeInfo) (z : Value) (ht : P.underlying t = some (.slice e)) (hi : P.info? e = some i) (hz : i.zero = some z)
    (hsize : i.size = size) (hby : i.bytes = bytes) (hzs : z.cells.size = size) (hsz : 0 < size)
    (v : Value) (n : Nat) (xs : List Value) (hs : a.eval s = v) (ho : Ownv B e size w v n xs)
    (u : Value) (m : Nat) (news : List Value) (hx : a.eval x = u) (hr : Rdv size w u m news) (h1 : ∀ u ∈ news, u.oneCell' = true)
    (h63 : n + m ≤ maxLen) (hbytes : (n + m) * bytes ≤ 140737488355328) (hB : B ≤ w.heap.size)
    (hK : ∀ v' w', Ownv B e size w' v' (n + m) (xs ++ news) → Below B w w' → wpList P ops Q rest (a.put d v') w') :
    wpList P ops Q (⟨d, .call { callee := .builtin .append, args := #[s, x], argTypes := #[t, t] }, ty, ps, af, none⟩ :: rest) a w := by
  obtain ⟨ao, cap, rfl, hl, hc, hm, hno, hcell⟩ := hr
  cases ao with
  | none =>
    obtain rfl := hno rfl
    obtain rfl : m = 0 := by omega
    obtain rfl : news = [] := List.eq_nil_of_length_eq_zero (by simpa using hl)
    refine wpList_append_own_none rfl s x t rfl B e i size ht hi v n xs hs ho hx ?_
    exact hK v w (by simpa using ho) (Below.refl _ _)
  | some ad =>
    refine wpList_append_own w rfl s x t rfl B e i z size bytes ht hi hz hsize hby hzs hsz v n xs hs ho ad m cap news hx hl (hcell ad rfl) h1 h63 hbytes hB ?_
    intro v' w' ho' hg _
    exact hK v' w' ho' ((Below.refl B w).grown hg hB fun k hk => (World.ownsRow.lt ho k hk).1)
/-- What a slice of bytes says as a string. -/
theorem go_str_run {P : Program} {w : World} {src e : TypeId} (hs : P.underlying src = some (.slice e)) (he : P.underlying e = some (.int .u8)) {v : Value} {zs : List Int} (h : Rd w v zs) :
    ∀ dst, P.underlying dst = some .string → (convert src dst v).run P w = .ok (.string (strOfNums zs)) w := by
  intro dst hd
  obtain ⟨ao, cap, rfl, hl, hc, hm, hno, hcell⟩ := h
  cases ao with
  | none =>
    obtain rfl := hno rfl
    have hz : zs.length = 0 := by omega
    obtain rfl : zs = [] := List.eq_nil_of_length_eq_zero hz
    exact run_convert_bytes_nil w src e hs he _ _ dst hd
  | some ad =>
    rw [run_convert_bytes_string w src dst e _ _ _ hs he hd]
    have hl' : (loadCells ad zs.length).run P w = .ok (zs.map (Value.int .u8)).toArray w := by
      have := run_loadCells_list (P := P) w ad (zs.map (Value.int .u8)) (hcell ad rfl)
      simpa using this
    rw [run_bytesToString w ad zs.length cap zs hl', foldl_push_bytes]
    simp [strOfNums, ByteArray.empty, ByteArray.emptyWithCapacity]
    rfl
/-- The same as an operation. -/
theorem go_str {P : Program} {w : World} {ops : Array Oper} {rest : List Oper} {a : Act} {Q : Exit → Act → World → Prop} {d : Option Tmp} {ty : TypeId} {ps : String} {af : Array Edge}
    {src e dst : TypeId} {x : Operand} (hs : P.underlying src = some (.slice e)) (he : P.underlying e = some (.int .u8)) (hd : P.underlying dst = some .string) (v : Value) (zs : List Int)
    (hx : a.eval x = v) (h : Rd w v zs) (hK : wpList P ops Q rest (a.put d (.string (strOfNums zs))) w) :
    wpList P ops Q (⟨d, .convert src dst x, ty, ps, af, none⟩ :: rest) a w := by
  refine wpList_plain rfl fun K hK' => ?_
  have hrun := go_str_run hs he h dst hd
  unfold Oper.wp
  simp [execOp, hx, hrun, Result.andThen]
  exact hK' _ _ hK
/-- v[lo:hi], of a slice of bytes. -/
theorem Rd.cut {w : World} {a : Option Addr} {cap : Nat} {zs : List Int} (h : Rd w (.slice a zs.length cap) zs) {lo hi : Nat} (h1 : lo ≤ hi) (h2 : hi ≤ zs.length) :
    Rd w (sliced a lo hi cap 1) ((zs.take hi).drop lo) := by
  obtain ⟨ao, c, hv, hl, hc, hm, hno, hcell⟩ := h
  simp only [Value.slice.injEq] at hv
  obtain ⟨rfl, _, rfl⟩ := hv
  have hlen : ((zs.take hi).drop lo).length = hi - lo := by simp; omega
  unfold Rd sliced
  rw [hlen]
  refine ⟨_, _, rfl, by simp; omega, by omega, by omega, ?_, ?_⟩
  · intro h
    cases a with
    | none => have := hno rfl; omega
    | some ad =>
      split at h
      · omega
      · simp at h
  · intro ad had j u hj
    have hjl : j < hi - lo := by
      have := (List.getElem?_eq_some_iff.1 hj).1
      simp at this; omega
    rw [if_neg (by omega)] at had
    cases a with
    | none => simp at had
    | some a0 =>
      simp only [Nat.mul_one, Option.map_some, Option.some.injEq] at had
      subst had
      have e1 : (a0.add lo).add j = a0.add (lo + j) := by
        unfold Addr.add
        by_cases hlo : lo = 0
        · subst hlo; simp
        · by_cases hj0 : j = 0
          · subst hj0; simp
          · simp [hlo, hj0, Nat.add_assoc]
      rw [e1]
      refine hcell a0 rfl (lo + j) u ?_
      rw [← hj]
      simp [List.getElem?_drop, List.getElem?_take, show lo + j < hi by omega]
theorem Rd.len {w : World} {v : Value} {zs : List Int} (h : Rd w v zs) : ∃ a cap, v = .slice a zs.length cap ∧ zs.length ≤ cap ∧ cap ≤ maxLen ∧ (a = none → cap = 0) := by
  obtain ⟨a, cap, rfl, _, h2, h3, h4, _⟩ := h
  exact ⟨a, cap, rfl, h2, h3, h4⟩
/-- A slice of bytes that is not empty has an address, and its cells are there. -/
theorem Rd.addr {w : World} {v : Value} {zs : List Int} (h : Rd w v zs) (hp : 0 < zs.length) :
    ∃ b off cap, v = .slice (some ⟨b, off, none⟩) zs.length cap ∧ zs.length ≤ cap ∧ cap ≤ maxLen ∧ b < w.heap.size ∧ ∀ i, i < zs.length → w.cell? ⟨b, off + i, none⟩ = some (.int .u8 (zs.getD i 0)) := by
  obtain ⟨ao, cap, rfl, hl, hc, hm, hno, hcell⟩ := h
  cases ao with
  | none => have := hno rfl; omega
  | some ad =>
    obtain ⟨b, off, spot⟩ := ad
    have hg : ∀ i, i < zs.length → w.cell? ((⟨b, off, spot⟩ : Addr).add i) = some (.int .u8 (zs.getD i 0)) := by
      intro i hi
      refine hcell _ rfl i _ ?_
      simp [List.getD, List.getElem?_eq_getElem hi]
    have h0 := hg 0 hp
    obtain rfl : spot = none := by simpa [Addr.add] using World.cell?_spot h0
    refine ⟨b, off, cap, rfl, hc, hm, World.block_lt_of_cell? _ _ h0, fun i hi => ?_⟩
    have := hg i hi
    rwa [Addr.add_lit] at this
theorem Tryd.info5 : (Tryd.prog.info? 5).map (fun i => (i.zero, i.size, i.bytes)) = some (some (.int .u8 0), 1, 1) := by kernel_rfl
/-- A literal of bytes. -/
theorem Own.lit {w : World} (zs : List Int) (hl : zs.length ≤ 140737488355328) :
    Own w.heap.size 5 (w.alloc (.cells (zs.map (Value.int .u8)).toArray 5)) (.slice (some ⟨w.heap.size, 0, none⟩) zs.length zs.length) zs := by
  have := Ownv.lit (B := w.heap.size) 5 (w := w) (zs.map (Value.int .u8)) (Nat.le_refl _) (by simp; unfold maxLen; omega)
  simpa [Own] using this
/-- v is a slice of bytes that lies below block B, wherever that is not empty: what is written from B on doesn't turn it. -/
def Old (B : Nat) (w : World) (v : Value) (zs : List Int) : Prop := ∃ w0 : World, w0.heap.size ≤ B ∧ Below B w0 w ∧ Rd w0 v zs
theorem Old.rd {B : Nat} {w : World} {v : Value} {zs : List Int} (h : Old B w v zs) : Rd w v zs := by
  obtain ⟨w0, h1, h2, h3⟩ := h
  exact h3.kept (Below.mono h2 h1)
theorem Old.below {B : Nat} {w w' : World} {v : Value} {zs : List Int} (h : Old B w v zs) (k : Below B w w') : Old B w' v zs := by
  obtain ⟨w0, h1, h2, h3⟩ := h
  exact ⟨w0, h1, h2.trans k, h3⟩
theorem Rd.old {w : World} {v : Value} {zs : List Int} (h : Rd w v zs) : Old w.heap.size w v zs := ⟨w, Nat.le_refl _, Below.refl _ _, h⟩
theorem Rd.old' {B : Nat} {w w' : World} {v : Value} {zs : List Int} (h : Rd w v zs) (hB : w.heap.size ≤ B) (k : Below B w w') : Old B w' v zs := ⟨w, hB, k, h⟩
theorem results4 {fn : Func} {t u v x : Tmp} (h : fn.results = #[.tmp t, .tmp u, .tmp v, .tmp x]) (tmps : Array Value) (P : Program) (w : World) :
    (results fn tmps).run P w = .ok (.tuple #[tmps.getD t undef, tmps.getD u undef, tmps.getD v undef, tmps.getD x undef]) w := by
  simp [results, h]
/-- append to a row of the call's own, with all that it leaves. -/
theorem go_appg {P : Program} {w : World} {ops : Array Oper} {rest : List Oper} {a : Act} {Q : Exit → Act → World → Prop} {d : Option Tmp} {ty : TypeId} {ps : String} {af : Array Edge}
    {s x : Operand} {t : TypeId} (B : Nat) (e : TypeId) (size bytes : Nat) (i : TypeInfo) (z : Value) (ht : P.underlying t = some (.slice e)) (hi : P.info? e = some i) (hz : i.zero = some z)
    (hsize : i.size = size) (hby : i.bytes = bytes) (hzs : z.cells.size = size) (hsz : 0 < size)
    (v : Value) (n : Nat) (xs : List Value) (hs : a.eval s = v) (ho : Ownv B e size w v n xs)
    (u : Value) (m : Nat) (news : List Value) (hx : a.eval x = u) (hr : Rdv size w u m news) (h1 : ∀ u ∈ news, u.oneCell' = true)
    (h63 : n + m ≤ maxLen) (hbytes : (n + m) * bytes ≤ 140737488355328) (hB : B ≤ w.heap.size)
    (hK : ∀ v' w', Ownv B e size w' v' (n + m) (xs ++ news) → Below B w w' → w.grownBy w' v.ownBlock → wpList P ops Q rest (a.put d v') w') :
    wpList P ops Q (⟨d, .call { callee := .builtin .append, args := #[s, x], argTypes := #[t, t] }, ty, ps, af, none⟩ :: rest) a w := by
  obtain ⟨ao, cap, rfl, hl, hc, hm, hno, hcell⟩ := hr
  cases ao with
  | none =>
    obtain rfl := hno rfl
    obtain rfl : m = 0 := by omega
    obtain rfl : news = [] := List.eq_nil_of_length_eq_zero (by simpa using hl)
    refine wpList_append_own_none rfl s x t rfl B e i size ht hi v n xs hs ho hx ?_
    exact hK v w (by simpa using ho) (Below.refl _ _) (World.grownBy.refl _ _)
  | some ad =>
    refine wpList_append_own w rfl s x t rfl B e i z size bytes ht hi hz hsize hby hzs hsz v n xs hs ho ad m cap news hx hl (hcell ad rfl) h1 h63 hbytes hB ?_
    intro v' w' ho' hg _
    exact hK v' w' ho' ((Below.refl B w).grown hg hB fun k hk => (World.ownsRow.lt ho k hk).1) hg
/-- What is owned of another element type stays as it is behind an append. -/
theorem Ownv.other {B B' : Nat} {e e' : TypeId} {size size' n n' : Nat} {w w' : World} {v v' : Value} {xs xs' : List Value} (h : Ownv B e size w v n xs) (h' : Ownv B' e' size' w v' n' xs') (hne : e ≠ e')
    (hg : w.grownBy w' v'.ownBlock) : Ownv B e size w' v n xs := by
  refine World.ownsRow.kept h hg ?_
  rcases h.2 with ⟨rfl, _⟩ | ⟨g, cap, cur, rfl, hb, hgg, _⟩
  · exact .inl rfl
  · refine .inr fun hh => ?_
    rcases h'.2 with ⟨rfl, _⟩ | ⟨g', cap', cur', rfl, hb', hgg', _⟩
    · simp [Value.ownBlock] at hh
    · simp only [Value.ownBlock, Option.some.injEq] at hh
      subst hh
      rw [hgg] at hgg'
      simp only [Option.some.injEq, Obj.cells.injEq] at hgg'
      exact hne hgg'.2.1
/-- A fact put away: no tactic looks into it. -/
structure Shut (p : Prop) : Prop where
  out : p
/-- Block g is a row of the call's own, known whole. -/
def Blk (w : World) (g : Nat) (e : TypeId) (xs : List Value) : Prop := w.heap[g]? = some (.cells xs.toArray e (0, 0))
theorem Blk.lt {w : World} {g : Nat} {e : TypeId} {xs : List Value} (h : Blk w g e xs) : g < w.heap.size := (Array.getElem?_eq_some_iff.1 h).1
theorem Blk.cell {w : World} {g : Nat} {e : TypeId} {xs : List Value} (h : Blk w g e xs) (i : Nat) : w.cell? ⟨g, i, none⟩ = xs[i]? := by
  unfold Blk at h
  simp [World.cell?, h]
theorem Blk.frozen {w : World} {g : Nat} {e : TypeId} {xs : List Value} (h : Blk w g e xs) (i : Nat) : w.frozen? ⟨g, i, none⟩ = false := by
  unfold Blk at h
  simp [World.frozen?, h]
theorem Blk.set {w : World} {g : Nat} {e : TypeId} {xs : List Value} (h : Blk w g e xs) (i : Nat) (v : Value) : Blk (w.setCell ⟨g, i, none⟩ v) g e (xs.set i v) := by
  unfold Blk at h ⊢
  simp [World.setCell, Array.getElem?_modify, h]
theorem Blk.below {B : Nat} {w w' : World} {g : Nat} {e : TypeId} {xs : List Value} (h : Blk w g e xs) (k : Below B w w') (hg : g < B) : Blk w' g e xs := by
  unfold Blk at h ⊢
  rw [k.block g hg]; exact h
theorem Blk.ownv {B : Nat} {w : World} {g : Nat} {e : TypeId} {xs : List Value} (h : Blk w g e xs) (hB : B ≤ g) (hm : xs.length ≤ maxLen) : Ownv B e 1 w (.slice (some ⟨g, 0, none⟩) xs.length xs.length) xs.length xs :=
  ⟨by simp, .inr ⟨g, xs.length, xs.toArray, rfl, hB, h, Nat.le_refl _, hm, by simp, by simp⟩⟩
theorem Ownv.blk {B : Nat} {w : World} {g n : Nat} {e : TypeId} {xs : List Value} (h : Ownv B e 1 w (.slice (some ⟨g, 0, none⟩) n n) n xs) : Blk w g e xs ∧ B ≤ g := by
  rcases h.2 with ⟨hh, _⟩ | ⟨g', cap, cur, hv, hb, hg, hn, hm, hs, ht⟩
  · cases hh
  · simp only [Value.slice.injEq, Option.some.injEq, Addr.mk.injEq] at hv
    obtain ⟨⟨rfl, _⟩, _, rfl⟩ := hv
    refine ⟨?_, hb⟩
    unfold Blk
    rw [hg]
    have : cur.toList = xs := by rw [← ht]; exact (List.take_of_length_le (by simp; omega)).symm
    rw [← this]
theorem alloc_size (w : World) (o : Obj) : (w.alloc o).heap.size = w.heap.size + 1 := by simp
/-- From w to w' only blocks of F have turned; new blocks may be there. -/
structure Turn (F : Nat → Prop) (w w' : World) : Prop where
  os : w'.os = w.os
  tape : w'.tape = w.tape
  output : w'.output = w.output
  size : w.heap.size ≤ w'.heap.size
  block : ∀ k, k < w.heap.size → ¬ F k → w'.heap[k]? = w.heap[k]?
theorem Turn.refl (F : Nat → Prop) (w : World) : Turn F w w := ⟨rfl, rfl, rfl, Nat.le_refl _, fun _ _ _ => rfl⟩
theorem Turn.mono {F G : Nat → Prop} {w w' : World} (h : Turn F w w') (hs : ∀ b, F b → G b) : Turn G w w' := ⟨h.os, h.tape, h.output, h.size, fun k hk hn => h.block k hk fun e => hn (hs k e)⟩
/-- Behind one another; what is new may be turned. -/
theorem Turn.trans {F G : Nat → Prop} {a b c : World} (h : Turn F a b) (k : Turn G b c) (hs : ∀ x, G x → F x ∨ a.heap.size ≤ x) : Turn F a c :=
  ⟨k.os.trans h.os, k.tape.trans h.tape, k.output.trans h.output, Nat.le_trans h.size k.size, fun i hi hn => (k.block i (Nat.lt_of_lt_of_le hi h.size) (fun e => by
    rcases hs i e with h1 | h1
    · exact hn h1
    · omega)).trans (h.block i hi hn)⟩
theorem Turn.kept {F : Nat → Prop} {a b c : World} (h : Turn F a b) (k : Kept b c) : Turn F a c :=
  ⟨k.os.trans h.os, k.tape.trans h.tape, k.output.trans h.output, Nat.le_trans h.size k.size, fun i hi hn => (k.block i (Nat.lt_of_lt_of_le hi h.size)).trans (h.block i hi hn)⟩
theorem Kept.turn {w w' : World} (h : Kept w w') (F : Nat → Prop) : Turn F w w' := ⟨h.os, h.tape, h.output, h.size, fun k hk _ => h.block k hk⟩
theorem Turn.toKept {w w' : World} (h : Turn (fun b => w.heap.size ≤ b) w w') : Kept w w' := ⟨h.os, h.tape, h.output, h.size, fun k hk => h.block k hk (by omega)⟩
theorem Turn.below {F : Nat → Prop} {B : Nat} {w0 w w' : World} (h0 : Below B w0 w) (h : Turn F w w') (hF : ∀ b, F b → B ≤ b) (hB : B ≤ w.heap.size) : Below B w0 w' :=
  ⟨h.os.trans h0.os, h.tape.trans h0.tape, h.output.trans h0.output, Nat.le_trans h0.size h.size, fun k hk => (h.block k (by omega) (fun e => by have := hF k e; omega)).trans (h0.block k hk)⟩
theorem Turn.keptOf {F : Nat → Prop} {w0 w w' : World} (h0 : Kept w0 w) (h : Turn F w w') (hF : ∀ b, F b → w0.heap.size ≤ b) : Kept w0 w' := Turn.below h0 h hF h0.size
theorem Below.turn {B : Nat} {w w' : World} (h : Below B w w') : Turn (fun b => B ≤ b) w w' := ⟨h.os, h.tape, h.output, h.size, fun k hk hn => h.block k (by omega)⟩
theorem Grown.turn {w w' : World} {row : Option Nat} (h : w.grownBy w' row) : Turn (fun b => some b = row) w w' := ⟨h.os, h.tape, h.output, h.size, fun k hk hn => h.block k hk hn⟩
theorem Turn.alloc {F : Nat → Prop} {a w : World} (h : Turn F a w) (o : Obj) : Turn F a (w.alloc o) := h.kept ((Kept.refl w).alloc o)
theorem Turn.drewN {F : Nat → Prop} {a w : World} (h : Turn F a w) (n : Nat) : Turn F a (w.drewN n) := h.kept ((Kept.refl w).drewN n)
theorem Turn.drew {F : Nat → Prop} {a w : World} (h : Turn F a w) : Turn F a w.drew := h.kept ((Kept.refl w).drew)
theorem turn_setCell (w : World) (a : Addr) (v : Value) : Turn (fun b => b = a.block) w (w.setCell a v) :=
  ⟨rfl, rfl, rfl, by simp [World.setCell], fun k hk hn => Below.heap_setCell _ _ _ _ hn⟩
theorem turn_setCells (w : World) (b off : Nat) (vs : List Value) : Turn (fun k => k = b) w (w.setCells b off vs) := by
  induction vs generalizing w off with
  | nil => exact Turn.refl _ _
  | cons v r ih => exact Turn.trans (turn_setCell w ⟨b, off, none⟩ v) (ih _ _) (fun x h => .inl h)
theorem Kept.setCell {a w : World} (h : Kept a w) {ad : Addr} (hb : a.heap.size ≤ ad.block) (v : Value) : Kept a (w.setCell ad v) :=
  Turn.keptOf h (turn_setCell w ad v) (fun b e => by rw [e]; exact hb)
theorem size_setCell (w : World) (ad : Addr) (v : Value) : (w.setCell ad v).heap.size = w.heap.size := by simp [World.setCell]
/-- Two worlds that say the same of the blocks of F. -/
def Same (F : Nat → Prop) (w w' : World) : Prop := ∀ b, F b → w'.heap[b]? = w.heap[b]?
theorem Turn.same {F G : Nat → Prop} {w w' : World} (h : Turn F w w') (hl : ∀ b, G b → b < w.heap.size) (hd : ∀ b, G b → ¬ F b) : Same G w w' := fun b hb => h.block b (hl b hb) (hd b hb)
theorem Kept.same {G : Nat → Prop} {w w' : World} (h : Kept w w') (hl : ∀ b, G b → b < w.heap.size) : Same G w w' := fun b hb => h.block b (hl b hb)
theorem Same.mono {F G : Nat → Prop} {w w' : World} (h : Same F w w') (hs : ∀ b, G b → F b) : Same G w w' := fun b hb => h b (hs b hb)
/-- The block of a slice, if it has one. -/
def Blks (v : Value) (b : Nat) : Prop := v.ownBlock = some b
theorem Ownv.same {B : Nat} {e : TypeId} {size n : Nat} {w w' : World} {v : Value} {xs : List Value} (h : Ownv B e size w v n xs) (k : Same (Blks v) w w') : Ownv B e size w' v n xs := by
  refine ⟨h.1, ?_⟩
  rcases h.2 with hn | ⟨g, cap, cur, rfl, hb, hg, rest⟩
  · exact .inl hn
  · refine .inr ⟨g, cap, cur, rfl, hb, ?_, rest⟩
    rw [k g rfl]
    exact hg
theorem Ownv.lt {B : Nat} {e : TypeId} {size n : Nat} {w : World} {v : Value} {xs : List Value} (h : Ownv B e size w v n xs) {b : Nat} (hb : Blks v b) : b < w.heap.size ∧ B ≤ b := by
  rcases h.2 with ⟨rfl, _⟩ | ⟨g, cap, cur, rfl, hb', hg, rest⟩
  · cases hb
  · obtain rfl : g = b := by simpa [Blks, Value.ownBlock] using hb
    exact ⟨(Array.getElem?_eq_some_iff.1 hg).1, hb'⟩
theorem Ownv.obj {B : Nat} {e : TypeId} {size n : Nat} {w : World} {v : Value} {xs : List Value} (h : Ownv B e size w v n xs) {b : Nat} (hb : Blks v b) : ∃ cur, w.heap[b]? = some (.cells cur e (0, 0)) := by
  rcases h.2 with ⟨rfl, _⟩ | ⟨g, cap, cur, rfl, hb', hg, rest⟩
  · cases hb
  · obtain rfl : g = b := by simpa [Blks, Value.ownBlock] using hb
    exact ⟨cur, hg⟩
/-- Rows of different element types are different blocks. -/
theorem Ownv.apart {B B' : Nat} {e e' : TypeId} {size size' n n' : Nat} {w : World} {v v' : Value} {xs xs' : List Value} (h : Ownv B e size w v n xs) (h' : Ownv B' e' size' w v' n' xs') (hne : e ≠ e') {b : Nat} (hb : Blks v b) : ¬ Blks v' b := by
  intro hb'
  obtain ⟨c, hc⟩ := h.obj hb
  obtain ⟨c', hc'⟩ := h'.obj hb'
  rw [hc] at hc'
  simp only [Option.some.injEq, Obj.cells.injEq] at hc'
  exact hne hc'.2.1
theorem Ownv.mono0 {B : Nat} {e : TypeId} {size n : Nat} {w : World} {v : Value} {xs : List Value} (h : Ownv B e size w v n xs) : Ownv 0 e size w v n xs := h.mono (Nat.zero_le _)
theorem Ownv.from {e : TypeId} {size n : Nat} {w : World} {v : Value} {xs : List Value} (h : Ownv 0 e size w v n xs) (B : Nat) (hB : ∀ b, Blks v b → B ≤ b) : Ownv B e size w v n xs := by
  refine ⟨h.1, ?_⟩
  rcases h.2 with hn | ⟨g, cap, cur, rfl, hb, rest⟩
  · exact .inl hn
  · exact .inr ⟨g, cap, cur, rfl, hB g rfl, rest⟩
/-- A row of the call's own is another block than one of another type. -/
theorem Ownv.notBlk {B : Nat} {e e' : TypeId} {size n : Nat} {w : World} {v : Value} {xs cs : List Value} {g : Nat} (h : Ownv B e size w v n xs) (h' : Blk w g e' cs) (hne : e ≠ e') : ¬ Blks v g := by
  intro hb
  obtain ⟨c, hc⟩ := h.obj hb
  unfold Blk at h'
  rw [hc] at h'
  simp only [Option.some.injEq, Obj.cells.injEq] at h'
  exact hne h'.2.1
theorem Ownv.setCell {B : Nat} {e : TypeId} {size n : Nat} {w : World} {v : Value} {xs : List Value} (h : Ownv B e size w v n xs) {ad : Addr} (hn : ¬ Blks v ad.block) (u : Value) : Ownv B e size (w.setCell ad u) v n xs :=
  h.same fun b hb => (turn_setCell w ad u).block b (h.lt hb).1 (fun e => hn (e ▸ hb))
theorem Ownv.turn {B : Nat} {e : TypeId} {size n : Nat} {w w' : World} {v : Value} {xs : List Value} {F : Nat → Prop} (h : Ownv B e size w v n xs) (k : Turn F w w') (hn : ∀ b, Blks v b → ¬ F b) : Ownv B e size w' v n xs :=
  h.same fun b hb => k.block b (h.lt hb).1 (hn b hb)
theorem Blk.turn {w w' : World} {g : Nat} {e : TypeId} {xs : List Value} {F : Nat → Prop} (h : Blk w g e xs) (k : Turn F w w') (hn : ¬ F g) : Blk w' g e xs := by
  have hl := h.lt
  unfold Blk at h ⊢
  rw [k.block g hl hn]; exact h
theorem Blk.kept {w w' : World} {g : Nat} {e : TypeId} {xs : List Value} (h : Blk w g e xs) (k : Kept w w') : Blk w' g e xs := h.below k h.lt
theorem Blk.new (w : World) (cs : List Value) (e : TypeId) : Blk (w.alloc (.cells cs.toArray e)) w.heap.size e cs := heap_alloc_new w _
theorem Blk.same {w w' : World} {g : Nat} {e : TypeId} {xs : List Value} (h : Blk w g e xs) (k : Same (fun b => b = g) w w') : Blk w' g e xs := by
  unfold Blk at h ⊢
  rw [k g rfl]; exact h
/-- v is a slice of numbers. -/
def RdI (w : World) (v : Value) (zs : List Int) : Prop := Rdv 1 w v zs.length (zs.map (Value.int .i64))
/-- v is a slice of numbers of the call's own. -/
def OwnI (B : Nat) (w : World) (v : Value) (zs : List Int) : Prop := Ownv B 3 1 w v zs.length (zs.map (Value.int .i64))
/-- Numbers that are int's. -/
def I64 (z : Int) : Prop := -9223372036854775808 ≤ z ∧ z ≤ 9223372036854775807
theorem RdI.kept {w w' : World} {v : Value} {zs : List Int} (h : RdI w v zs) (k : Kept w w') : RdI w' v zs := Rdv.kept h k
theorem OwnI.rd {B : Nat} {w : World} {v : Value} {zs : List Int} (h : OwnI B w v zs) : RdI w v zs := Ownv.rdv h
theorem RdI.nil (w : World) : RdI w (.slice none 0 0) [] := ⟨none, 0, rfl, rfl, Nat.le_refl _, Nat.zero_le _, fun _ => rfl, fun _ h => by cases h⟩
theorem OwnI.nil (B : Nat) (w : World) : OwnI B w (.slice none 0 0) [] := World.ownsRow_nil w B _ 1
theorem RdI.len {w : World} {v : Value} {zs : List Int} (h : RdI w v zs) : ∃ a cap, v = .slice a zs.length cap ∧ zs.length ≤ cap ∧ cap ≤ maxLen ∧ (a = none → cap = 0) := by
  obtain ⟨a, cap, rfl, _, h2, h3, h4, _⟩ := h
  exact ⟨a, cap, rfl, h2, h3, h4⟩
theorem RdI.addr {w : World} {v : Value} {zs : List Int} (h : RdI w v zs) (hp : 0 < zs.length) :
    ∃ b off cap, v = .slice (some ⟨b, off, none⟩) zs.length cap ∧ zs.length ≤ cap ∧ cap ≤ maxLen ∧ b < w.heap.size ∧ ∀ i, i < zs.length → w.cell? ⟨b, off + i, none⟩ = some (.int .i64 (zs.getD i 0)) := by
  obtain ⟨ao, cap, rfl, hl, hc, hm, hno, hcell⟩ := h
  cases ao with
  | none => have := hno rfl; omega
  | some ad =>
    obtain ⟨b, off, spot⟩ := ad
    have hg : ∀ i, i < zs.length → w.cell? ((⟨b, off, spot⟩ : Addr).add i) = some (.int .i64 (zs.getD i 0)) := by
      intro i hi
      refine hcell _ rfl i _ ?_
      simp [List.getD, List.getElem?_eq_getElem hi]
    have h0 := hg 0 hp
    obtain rfl : spot = none := by simpa [Addr.add] using World.cell?_spot h0
    refine ⟨b, off, cap, rfl, hc, hm, World.block_lt_of_cell? _ _ h0, fun i hi => ?_⟩
    have := hg i hi
    rwa [Addr.add_lit] at this
theorem Tryd.infoInt : (Tryd.prog.info? 3).map (fun i => (i.zero, i.size, i.bytes)) = some (some (.int .i64 0), 1, 8) := by kernel_rfl
/-- append to a row of the call's own: what comes lies in the old row or in a new one. -/
theorem go_app_at {P : Program} {w : World} {ops : Array Oper} {rest : List Oper} {a : Act} {Q : Exit → Act → World → Prop} {d : Option Tmp} {ty : TypeId} {ps : String} {af : Array Edge}
    {s x : Operand} {t : TypeId} (B : Nat) (e : TypeId) (size bytes : Nat) (i : TypeInfo) (z : Value) (ht : P.underlying t = some (.slice e)) (hi : P.info? e = some i) (hz : i.zero = some z)
    (hsize : i.size = size) (hby : i.bytes = bytes) (hzs : z.cells.size = size) (hsz : 0 < size)
    (v : Value) (n : Nat) (xs : List Value) (hs : a.eval s = v) (ho : Ownv B e size w v n xs)
    (u : Value) (m : Nat) (news : List Value) (hx : a.eval x = u) (hr : Rdv size w u m news) (h1 : ∀ u ∈ news, u.oneCell' = true)
    (h63 : n + m ≤ maxLen) (hbytes : (n + m) * bytes ≤ 140737488355328) (hB : B ≤ w.heap.size)
    (hK : ∀ v' w', Ownv B e size w' v' (n + m) (xs ++ news) → Turn (Blks v) w w' → (∀ b, Blks v' b → Blks v b ∨ w.heap.size ≤ b) → wpList P ops Q rest (a.put d v') w') :
    wpList P ops Q (⟨d, .call { callee := .builtin .append, args := #[s, x], argTypes := #[t, t] }, ty, ps, af, none⟩ :: rest) a w := by
  obtain ⟨ao, cap, rfl, hl, hc, hm, hno, hcell⟩ := hr
  cases ao with
  | none =>
    obtain rfl := hno rfl
    obtain rfl : m = 0 := by omega
    obtain rfl : news = [] := List.eq_nil_of_length_eq_zero (by simpa using hl)
    refine wpList_append_own_none rfl s x t rfl B e i size ht hi v n xs hs ho hx ?_
    exact hK v w (by simpa using ho) (Turn.refl _ _) (fun b hb => .inl hb)
  | some ad =>
    refine wpList_append_own_at w rfl s x t rfl B e i z size bytes ht hi hz hsize hby hzs hsz v n xs hs ho ad m cap news hx hl (hcell ad rfl) h1 h63 hbytes hB ?_
    intro v' w' ho' hg _ hloc
    exact hK v' w' ho' ((Grown.turn hg).mono fun b hb => hb.symm) (fun b hb => by
      rcases hloc with h | h
      · exact .inl (h.symm.trans hb)
      · rw [Blks, h] at hb
        simp only [Option.some.injEq] at hb
        exact .inr (by omega))
/-- append to numbers of the call's own. -/
theorem go_appi {w : World} {ops : Array Oper} {rest : List Oper} {a : Act} {Q : Exit → Act → World → Prop} {d : Option Tmp} {ty : TypeId} {ps : String} {af : Array Edge} {s x : Operand}
    (B : Nat) (v : Value) (zs : List Int) (hs : a.eval s = v) (ho : OwnI B w v zs) (u : Value) (news : List Int) (hx : a.eval x = u) (hr : RdI w u news)
    (hl : zs.length + news.length ≤ 10000000000) (hB : B ≤ w.heap.size)
    (hK : ∀ v' w', OwnI B w' v' (zs ++ news) → Turn (Blks v) w w' → (∀ b, Blks v' b → Blks v b ∨ w.heap.size ≤ b) → wpList Tryd.prog ops Q rest (a.put d v') w') :
    wpList Tryd.prog ops Q (⟨d, .call { callee := .builtin .append, args := #[s, x], argTypes := #[32, 32] }, ty, ps, af, none⟩ :: rest) a w := by
  obtain ⟨i0, hi, hz0, hz1, hz2⟩ := info_parts Tryd.infoInt
  refine go_app_at B 3 1 8 i0 (.int .i64 0) Tryd.underlying32 hi hz0 hz1 hz2 rfl (by decide) v zs.length (zs.map (Value.int .i64)) hs ho u news.length (news.map (Value.int .i64)) hx hr (ones_int .i64 news) (by unfold maxLen; omega) (by omega) hB ?_
  intro v' w' ho' hg hloc
  exact hK v' w' (by unfold OwnI; simpa using ho') hg hloc
theorem OwnI.lit1 (w : World) (z : Int) : OwnI w.heap.size (w.alloc (.cells #[.int .i64 z] 3)) (.slice (some ⟨w.heap.size, 0, none⟩) 1 1) [z] :=
  Ownv.lit (B := w.heap.size) 3 (w := w) [.int .i64 z] (Nat.le_refl _) (by unfold maxLen; simp)
/-- The first k of a row are a row. -/
theorem OwnI.take {B : Nat} {w : World} {g cap : Nat} {zs : List Int} {n : Nat} (h : OwnI B w (.slice (some ⟨g, 0, none⟩) n cap) zs) (k : Nat) (hk : k ≤ zs.length) : OwnI B w (.slice (some ⟨g, 0, none⟩) k cap) (zs.take k) := by
  obtain ⟨h1, h2⟩ := h
  have hl : (zs.take k).length = k := by rw [List.length_take]; omega
  rcases h2 with ⟨e, _⟩ | ⟨g', cap', cur, hv, hb, hg, hn, hm, hs, ht⟩
  · cases e
  · simp only [Value.slice.injEq, Option.some.injEq, Addr.mk.injEq] at hv
    obtain ⟨⟨rfl, _, _⟩, hn', rfl⟩ := hv
    unfold OwnI Ownv
    rw [hl]
    refine ⟨by rw [List.length_map, hl, Nat.mul_one], .inr ⟨g, cap, cur, rfl, hb, hg, by omega, hm, hs, ?_⟩⟩
    rw [Nat.mul_one] at ht ⊢
    have := congrArg (List.take k) ht
    rw [List.take_take, Nat.min_eq_left (by omega)] at this
    rw [this, List.map_take]
theorem getD_ext {a b : List Int} (hl : a.length = b.length) (h : ∀ i, i < a.length → a.getD i 0 = b.getD i 0) : a = b := by
  refine List.ext_getElem hl fun i h1 h2 => ?_
  have := h i h1
  rwa [List.getD_eq_getElem?_getD, List.getElem?_eq_getElem h1, List.getD_eq_getElem?_getD, List.getElem?_eq_getElem h2] at this
set_option maxHeartbeats 4000000 in
set_option maxRecDepth 100000 in
theorem sameInts_any {w : World} {u v : Value} {a b : List Int} (ha : RdI w u a) (hb : RdI w v b) :
    Calls Tryd.prog 31 #[u, v] w fun e w' => e = .returned (.bool (decide (a = b))) ∧ Kept w w' := by
  obtain ⟨aa, ac, rfl, a1, a2, a3⟩ := ha.len
  obtain ⟨ba, bc, rfl, b1, b2, b3⟩ := hb.len
  have a63 : ((a.length : Nat) : Int) ≤ 9223372036854775807 := by unfold maxLen at a2; omega
  by_cases hl : a.length = b.length
  · have hd : ((a.length : Int) != (b.length : Int)) = false := by simp [hl]
    have HL := Shut.mk hl
    rw [← hl] at hb b1 hd ⊢
    clear hl
    go_enter Tryd.func31, Tryd.ntmps31
    go_wp2
    go_loopw [13] (fun i wr => ∃ k : Nat, k ≤ a.length ∧ i = .int .i64 k ∧ (∀ j, j < k → a.getD j 0 = b.getD j 0) ∧ Kept w wr) (fun i _ => a.length - (intOf i).toNat)
    case atStart => exact ⟨0, Nat.zero_le _, rfl, fun j hj => absurd hj (Nat.not_lt_zero _), Kept.refl _⟩
    case round =>
      obtain ⟨k, hk0, rfl, hsame, hk⟩ := hrel
      have HS := Shut.mk hsame
      clear hsame
      by_cases hlt : k < a.length
      · obtain ⟨rb, ro, rc, hrv, _, _, hrb, hcl⟩ := ha.addr (by omega)
        simp only [Value.slice.injEq] at hrv
        obtain ⟨rfl, _, rfl⟩ := hrv
        have hcb := hb
        rw [show (Value.slice ba a.length bc) = Value.slice ba b.length bc by rw [HL.out]] at hcb
        obtain ⟨sb, so, sc, hsv, _, _, hsb, hcl2⟩ := hcb.addr (by have := HL.out; omega)
        simp only [Value.slice.injEq] at hsv
        obtain ⟨rfl, _, rfl⟩ := hsv
        have x1 := hk.cell (p := ⟨rb, ro + k, none⟩) hrb |>.trans (hcl k hlt)
        have x2 := hk.cell (p := ⟨sb, so + k, none⟩) hsb |>.trans (hcl2 k (by have := HL.out; omega))
        clear hcl hcl2 hcb
        have k0 : (0 : Int) ≤ (k : Int) := by omega
        have k1 : (k : Int) < (a.length : Int) := by omega
        generalize hx : a.getD k 0 = x at x1
        generalize hy : b.getD k 0 = y at x2
        have HX := Shut.mk hx
        have HY := Shut.mk hy
        clear hx hy
        by_cases hxy : x = y
        · subst hxy
          go_wp2
          go_quiet (fail)
          go_wp2
          go_roundw
          case rel => exact ⟨k + 1, hlt, rfl, fun j hj => by
            by_cases c : j < k
            · exact HS.out j c
            · obtain rfl : j = k := by omega
              rw [HX.out, HY.out], hk.drewN _⟩
          case measure => simp [intOf]; omega
        · have hd2 : (x != y) = true := by simpa using hxy
          have hne : ¬ a = b := fun e => hxy (by rw [← HX.out, ← HY.out, e])
          have HN := Shut.mk hne
          clear hne hxy
          go_wp2
          go_quiet (fail)
          go_wp2
          go_ret
          exact ⟨by rw [decide_eq_false HN.out]; rfl, hk.drewN _⟩
      · obtain rfl : k = a.length := by omega
        have he := getD_ext HL.out HS.out
        have HE := Shut.mk he
        clear he
        go_wp2
        go_ret
        exact ⟨by rw [decide_eq_true HE.out]; rfl, hk⟩
  · have hd : ((a.length : Int) != (b.length : Int)) = true := by simp; omega
    have hne : ¬ a = b := fun e => hl (by rw [e])
    have HN := Shut.mk hne
    clear hne hl
    go_enter Tryd.func31, Tryd.ntmps31
    go_wp2
    go_ret
    exact ⟨by rw [decide_eq_false HN.out]; rfl, Kept.refl _⟩
end Go.Proofs.YtlohedmpcjpaeaaDoor

/- Texts of one proof, put together: Base, Core, OpenB, Mem, TermS, TermA, OpenN, TermB, Laid. -/
import Derived.Test.YtangbnmgkcmhbaaDoorProg
import Derived.WalkKit
import Derived.WalkSpells
import Derived.WalkLawsBesides
import Derived.ProofKit
import Derived.OpenShut
import Derived.Below
import Derived.Lib.Hide
import Derived.Laws.AppendOwnNone
import Derived.Laws.BytesArg
import Derived.StillTactics
import Derived.Deep.QuietTactic
import Derived.BigQuiet
import Derived.Outline
import Derived.Laws.CopyOwn
import Derived.Laws.Rows
import Derived.Test.YtangbnmgkcmhbaaDoorRows
import Derived.Deep.Matrix
import Derived.JoinedCond
import Derived.SizedLaws
import Derived.ChangeOld
import Derived.Maps.OwnSet
import Derived.Maps.AppendAt
import Derived.Maps.RangeWalk
import Derived.LaidOnce
import Derived.Lib.ItoaNum
import Derived.Deep.Slices
import Derived.Deep.Fields
import Derived.Lib.LaidTab
import Derived.Lib.AppendIntMem
import Derived.Test.YtangbnmgkcmhbaaDoorTie
import Derived.Test.YtangbnmgkcmhbaaDoorCards
import Derived.Lay
import Derived.LaidLaws
import Derived.Handed
import Derived.Lib.LaidU8
section
/- Base for the walks of this seat: slices of memory as lists of values (of bytes: as lists of numbers), what a call may leave unchanged, and laws for append, slicing, conversion and indexing over them. No function of the program is named here. -/
set_option linter.unusedSimpArgs false
set_option linter.unusedVariables false
namespace Go.Proofs.YtangbnmgkcmhbaaDoor
open Go.RowKit

/-- v is a slice of n elements of 'size' cells each; its cells are xs. -/
def Rdv (size : Nat) (w : World) (v : Value) (n : Nat) (xs : List Value) : Prop :=
  ∃ (a : Option Addr) (cap : Nat), v = .slice a n cap ∧ xs.length = n * size ∧ n ≤ cap ∧ cap ≤ maxLen ∧ (a = none → cap = 0) ∧
    ∀ ad, a = some ad → ∀ j u, xs[j]? = some u → w.cell? (ad.add j) = some u

/-- v is a slice of bytes, which are the numbers zs. -/
def Rd (w : World) (v : Value) (zs : List Int) : Prop := Rdv 1 w v zs.length (zs.map (Value.int .u8))

/-- v is a slice of the call's own (blocks from B on), or nil; its cells are xs. -/
def Ownv (B : Nat) (e : TypeId) (size : Nat) (w : World) (v : Value) (n : Nat) (xs : List Value) : Prop := w.ownsRow B e size v n xs

def Own (B : Nat) (e : TypeId) (w : World) (v : Value) (zs : List Int) : Prop := Ownv B e 1 w v zs.length (zs.map (Value.int .u8))

/-- Of what was there nothing has turned. -/
def Kept (w w' : World) : Prop := Below w.heap.size w w'

theorem Kept.refl (w : World) : Kept w w := Below.refl _ _
theorem Kept.size {w w' : World} (h : Kept w w') : w.heap.size ≤ w'.heap.size := Below.size h
theorem Kept.trans {a b c : World} (h : Kept a b) (k : Kept b c) : Kept a c := Below.trans h (Below.mono k (Below.size h))
theorem Kept.alloc {a w : World} (h : Kept a w) (o : Obj) : Kept a (w.alloc o) := Below.alloc h h.size o
theorem Kept.drew {a w : World} (h : Kept a w) : Kept a w.drew := Below.drew h
theorem Kept.trans' {a b c : World} (h : Kept a b) (k : Below a.heap.size b c) : Kept a c := Below.trans h k
theorem Kept.drewN {a w : World} (h : Kept a w) (n : Nat) : Kept a (w.drewN n) := ⟨h.os, h.tape, h.output, h.size, h.block⟩
theorem Kept.below {B : Nat} {a b c : World} (h : Kept a b) (k : Below B b c) (hB : a.heap.size ≤ B) : Kept a c := Below.trans h (Below.mono k hB)

theorem Rdv.kept {size n : Nat} {w w' : World} {v : Value} {xs : List Value} (h : Rdv size w v n xs) (k : Kept w w') : Rdv size w' v n xs := by
  obtain ⟨a, cap, rfl, h1, h2, h3, h4, h5⟩ := h
  refine ⟨a, cap, rfl, h1, h2, h3, h4, fun ad ha j u hj => ?_⟩
  have hc := h5 ad ha j u hj
  rw [Below.cell k (World.block_lt_of_cell? _ _ hc)]
  exact hc

theorem Rd.kept {w w' : World} {v : Value} {zs : List Int} (h : Rd w v zs) (k : Kept w w') : Rd w' v zs := Rdv.kept h k

theorem Ownv.rdv {B : Nat} {e : TypeId} {size n : Nat} {w : World} {v : Value} {xs : List Value} (h : Ownv B e size w v n xs) : Rdv size w v n xs := by
  rcases h.2 with ⟨rfl, rfl⟩ | ⟨g, cap, cur, rfl, hb, hg, hn, hm, hs, ht⟩
  · exact ⟨none, 0, rfl, h.1, Nat.le_refl _, Nat.zero_le _, fun _ => rfl, fun _ hh => by cases hh⟩
  · refine ⟨_, cap, rfl, h.1, hn, hm, (fun hh => by cases hh), fun ad hh j u hj => ?_⟩
    cases hh
    exact World.ownsRow.cells h rfl j u hj

theorem Own.rd {B : Nat} {e : TypeId} {w : World} {v : Value} {zs : List Int} (h : Own B e w v zs) : Rd w v zs := Ownv.rdv h

theorem Ownv.kept {B : Nat} {e : TypeId} {size n : Nat} {w w' : World} {v : Value} {xs : List Value} (h : Ownv B e size w v n xs) (k : Kept w w') : Ownv B e size w' v n xs := by
  refine ⟨h.1, ?_⟩
  rcases h.2 with hn | ⟨g, cap, cur, rfl, hb, hg, rest⟩
  · exact .inl hn
  · refine .inr ⟨g, cap, cur, rfl, hb, ?_, rest⟩
    rw [k.block g (Array.getElem?_eq_some_iff.1 hg).1]
    exact hg

theorem Own.kept {B : Nat} {e : TypeId} {w w' : World} {v : Value} {zs : List Int} (h : Own B e w v zs) (k : Kept w w') : Own B e w' v zs := Ownv.kept h k

theorem Ownv.mono {B B' : Nat} {e : TypeId} {size n : Nat} {w : World} {v : Value} {xs : List Value} (h : Ownv B e size w v n xs) (k : B' ≤ B) : Ownv B' e size w v n xs := by
  refine ⟨h.1, ?_⟩
  rcases h.2 with hn | ⟨g, cap, cur, rfl, hb, rest⟩
  · exact .inl hn
  · exact .inr ⟨g, cap, cur, rfl, Nat.le_trans k hb, rest⟩

theorem Own.mono {B B' : Nat} {e : TypeId} {w : World} {v : Value} {zs : List Int} (h : Own B e w v zs) (k : B' ≤ B) : Own B' e w v zs := Ownv.mono h k

theorem Own.nil (B : Nat) (e : TypeId) (w : World) : Own B e w (.slice none 0 0) [] := World.ownsRow_nil w B e 1
theorem Rd.nil (w : World) : Rd w (.slice none 0 0) [] := ⟨none, 0, rfl, rfl, Nat.le_refl _, Nat.zero_le _, fun _ => rfl, fun _ h => by cases h⟩

/-- Each value is one cell. -/
theorem ones_int (k : IntKind) (zs : List Int) : ∀ u ∈ zs.map (Value.int k), u.oneCell' = true := ints_oneCell k zs

/-- A row that is laid with just these cells. -/
theorem Ownv.lit {B : Nat} (e : TypeId) {w : World} (cs : List Value) (hB : B ≤ w.heap.size) (hm : cs.length ≤ maxLen) :
    Ownv B e 1 (w.alloc (.cells cs.toArray e)) (.slice (some ⟨w.heap.size, 0, none⟩) cs.length cs.length) cs.length cs :=
  ⟨by simp, .inr ⟨w.heap.size, cs.length, cs.toArray, rfl, hB, heap_alloc_new w _, Nat.le_refl _, hm, by simp, by simp⟩⟩

/-- append to a row of the call's own, from whatever slice. -/
theorem go_app {P : Program} {w : World} {ops : Array Oper} {rest : List Oper} {a : Act} {Q : Exit → Act → World → Prop} {d : Option Tmp} {ty : TypeId} {ps : String} {af : Array Edge}
    {s x : Operand} {t : TypeId} (B : Nat) (e : TypeId) (size bytes : Nat) (i : TypeInfo) (z : Value) (ht : P.underlying t = some (.slice e)) (hi : P.info? e = some i) (hz : i.zero = some z)
    (hsize : i.size = size) (hby : i.bytes = bytes) (hzs : z.cells.size = size) (hsz : 0 < size)
    (v : Value) (n : Nat) (xs : List Value) (hs : a.eval s = v) (ho : Ownv B e size w v n xs)
    (u : Value) (m : Nat) (news : List Value) (hx : a.eval x = u) (hr : Rdv size w u m news) (h1 : ∀ u ∈ news, u.oneCell' = true)
    (h63 : n + m ≤ maxLen) (hbytes : (n + m) * bytes ≤ 140737488355328) (hB : B ≤ w.heap.size)
    (hK : ∀ v' w', Ownv B e size w' v' (n + m) (xs ++ news) → Below B w w' → wpList P ops Q rest (a.put d v') w') :
    wpList P ops Q (⟨d, .call { callee := .builtin .append, args := #[s, x], argTypes := #[t, t] }, ty, ps, af, none⟩ :: rest) a w := by
  obtain ⟨ao, cap, rfl, hl, hc, hm, hno, hcell⟩ := hr
  cases ao with
  | none =>
    obtain rfl := hno rfl
    obtain rfl : m = 0 := by omega
    obtain rfl : news = [] := List.eq_nil_of_length_eq_zero (by simpa using hl)
    refine wpList_append_own_none rfl s x t rfl B e i size ht hi v n xs hs ho hx ?_
    exact hK v w (by simpa using ho) (Below.refl _ _)
  | some ad =>
    refine wpList_append_own w rfl s x t rfl B e i z size bytes ht hi hz hsize hby hzs hsz v n xs hs ho ad m cap news hx hl (hcell ad rfl) h1 h63 hbytes hB ?_
    intro v' w' ho' hg _
    exact hK v' w' ho' ((Below.refl B w).grown hg hB fun k hk => (World.ownsRow.lt ho k hk).1)

/-- What a slice of bytes says as a string. -/
theorem go_str_run {P : Program} {w : World} {src e : TypeId} (hs : P.underlying src = some (.slice e)) (he : P.underlying e = some (.int .u8)) {v : Value} {zs : List Int} (h : Rd w v zs) :
    ∀ dst, P.underlying dst = some .string → (convert src dst v).run P w = .ok (.string (strOfNums zs)) w := by
  intro dst hd
  obtain ⟨ao, cap, rfl, hl, hc, hm, hno, hcell⟩ := h
  cases ao with
  | none =>
    obtain rfl := hno rfl
    have hz : zs.length = 0 := by omega
    obtain rfl : zs = [] := List.eq_nil_of_length_eq_zero hz
    exact run_convert_bytes_nil w src e hs he _ _ dst hd
  | some ad =>
    rw [run_convert_bytes_string w src dst e _ _ _ hs he hd]
    have hl' : (loadCells ad zs.length).run P w = .ok (zs.map (Value.int .u8)).toArray w := by
      have := run_loadCells_list (P := P) w ad (zs.map (Value.int .u8)) (hcell ad rfl)
      simpa using this
    rw [run_bytesToString w ad zs.length cap zs hl', foldl_push_bytes]
    simp [strOfNums, ByteArray.empty, ByteArray.emptyWithCapacity]
    rfl

/-- The same as an operation. -/
theorem go_str {P : Program} {w : World} {ops : Array Oper} {rest : List Oper} {a : Act} {Q : Exit → Act → World → Prop} {d : Option Tmp} {ty : TypeId} {ps : String} {af : Array Edge}
    {src e dst : TypeId} {x : Operand} (hs : P.underlying src = some (.slice e)) (he : P.underlying e = some (.int .u8)) (hd : P.underlying dst = some .string) (v : Value) (zs : List Int)
    (hx : a.eval x = v) (h : Rd w v zs) (hK : wpList P ops Q rest (a.put d (.string (strOfNums zs))) w) :
    wpList P ops Q (⟨d, .convert src dst x, ty, ps, af, none⟩ :: rest) a w := by
  refine wpList_plain rfl fun K hK' => ?_
  have hrun := go_str_run hs he h dst hd
  unfold Oper.wp
  simp [execOp, hx, hrun, Result.andThen]
  exact hK' _ _ hK

/-- v[lo:hi], of a slice of bytes. -/
theorem Rd.cut {w : World} {a : Option Addr} {cap : Nat} {zs : List Int} (h : Rd w (.slice a zs.length cap) zs) {lo hi : Nat} (h1 : lo ≤ hi) (h2 : hi ≤ zs.length) :
    Rd w (sliced a lo hi cap 1) ((zs.take hi).drop lo) := by
  obtain ⟨ao, c, hv, hl, hc, hm, hno, hcell⟩ := h
  simp only [Value.slice.injEq] at hv
  obtain ⟨rfl, _, rfl⟩ := hv
  have hlen : ((zs.take hi).drop lo).length = hi - lo := by simp; omega
  unfold Rd sliced
  rw [hlen]
  refine ⟨_, _, rfl, by simp; omega, by omega, by omega, ?_, ?_⟩
  · intro h
    cases a with
    | none => have := hno rfl; omega
    | some ad =>
      split at h
      · omega
      · simp at h
  · intro ad had j u hj
    have hjl : j < hi - lo := by
      have := (List.getElem?_eq_some_iff.1 hj).1
      simp at this; omega
    rw [if_neg (by omega)] at had
    cases a with
    | none => simp at had
    | some a0 =>
      simp only [Nat.mul_one, Option.map_some, Option.some.injEq] at had
      subst had
      have e1 : (a0.add lo).add j = a0.add (lo + j) := by
        unfold Addr.add
        by_cases hlo : lo = 0
        · subst hlo; simp
        · by_cases hj0 : j = 0
          · subst hj0; simp
          · simp [hlo, hj0, Nat.add_assoc]
      rw [e1]
      refine hcell a0 rfl (lo + j) u ?_
      rw [← hj]
      simp [List.getElem?_drop, List.getElem?_take, show lo + j < hi by omega]

theorem Rd.len {w : World} {v : Value} {zs : List Int} (h : Rd w v zs) : ∃ a cap, v = .slice a zs.length cap ∧ zs.length ≤ cap ∧ cap ≤ maxLen ∧ (a = none → cap = 0) := by
  obtain ⟨a, cap, rfl, _, h2, h3, h4, _⟩ := h
  exact ⟨a, cap, rfl, h2, h3, h4⟩

/-- A slice of bytes that is not empty has an address, and its cells are there. -/
theorem Rd.addr {w : World} {v : Value} {zs : List Int} (h : Rd w v zs) (hp : 0 < zs.length) :
    ∃ b off cap, v = .slice (some ⟨b, off, none⟩) zs.length cap ∧ zs.length ≤ cap ∧ cap ≤ maxLen ∧ b < w.heap.size ∧ ∀ i, i < zs.length → w.cell? ⟨b, off + i, none⟩ = some (.int .u8 (zs.getD i 0)) := by
  obtain ⟨ao, cap, rfl, hl, hc, hm, hno, hcell⟩ := h
  cases ao with
  | none => have := hno rfl; omega
  | some ad =>
    obtain ⟨b, off, spot⟩ := ad
    have hg : ∀ i, i < zs.length → w.cell? ((⟨b, off, spot⟩ : Addr).add i) = some (.int .u8 (zs.getD i 0)) := by
      intro i hi
      refine hcell _ rfl i _ ?_
      simp [List.getD, List.getElem?_eq_getElem hi]
    have h0 := hg 0 hp
    obtain rfl : spot = none := by simpa [Addr.add] using World.cell?_spot h0
    refine ⟨b, off, cap, rfl, hc, hm, World.block_lt_of_cell? _ _ h0, fun i hi => ?_⟩
    have := hg i hi
    rwa [Addr.add_lit] at this

theorem Tryd.info5 : (Tryd.prog.info? 5).map (fun i => (i.zero, i.size, i.bytes)) = some (some (.int .u8 0), 1, 1) := by kernel_rfl

/-- append to bytes of the call's own. -/
theorem go_appb {w : World} {ops : Array Oper} {rest : List Oper} {a : Act} {Q : Exit → Act → World → Prop} {d : Option Tmp} {ty : TypeId} {ps : String} {af : Array Edge} {s x : Operand}
    (B : Nat) (v : Value) (zs : List Int) (hs : a.eval s = v) (ho : Own B 5 w v zs) (u : Value) (news : List Int) (hx : a.eval x = u) (hr : Rd w u news)
    (hl : zs.length + news.length ≤ 140737488355328) (hB : B ≤ w.heap.size)
    (hK : ∀ v' w', Own B 5 w' v' (zs ++ news) → Below B w w' → wpList Tryd.prog ops Q rest (a.put d v') w') :
    wpList Tryd.prog ops Q (⟨d, .call { callee := .builtin .append, args := #[s, x], argTypes := #[104, 104] }, ty, ps, af, none⟩ :: rest) a w := by
  obtain ⟨i0, hi, hz0, hz1, hz2⟩ := info_parts Tryd.info5
  refine go_app B 5 1 1 i0 (.int .u8 0) Tryd.underlying104 hi hz0 hz1 hz2 rfl (by decide) v zs.length (zs.map (Value.int .u8)) hs ho u news.length (news.map (Value.int .u8)) hx hr (ones_int .u8 news) (by unfold maxLen; omega) (by omega) hB ?_
  intro v' w' h1 h2
  exact hK v' w' (by unfold Own; simpa using h1) h2

/-- A literal of bytes. -/
theorem Own.lit {w : World} (zs : List Int) (hl : zs.length ≤ 140737488355328) :
    Own w.heap.size 5 (w.alloc (.cells (zs.map (Value.int .u8)).toArray 5)) (.slice (some ⟨w.heap.size, 0, none⟩) zs.length zs.length) zs := by
  have := Ownv.lit (B := w.heap.size) 5 (w := w) (zs.map (Value.int .u8)) (Nat.le_refl _) (by simp; unfold maxLen; omega)
  simpa [Own] using this

/-- v is a slice of bytes that lies below block B, wherever that is not empty: what is written from B on doesn't turn it. -/
def Old (B : Nat) (w : World) (v : Value) (zs : List Int) : Prop := ∃ w0 : World, w0.heap.size ≤ B ∧ Below B w0 w ∧ Rd w0 v zs

theorem Old.rd {B : Nat} {w : World} {v : Value} {zs : List Int} (h : Old B w v zs) : Rd w v zs := by
  obtain ⟨w0, h1, h2, h3⟩ := h
  exact h3.kept (Below.mono h2 h1)
theorem Old.below {B : Nat} {w w' : World} {v : Value} {zs : List Int} (h : Old B w v zs) (k : Below B w w') : Old B w' v zs := by
  obtain ⟨w0, h1, h2, h3⟩ := h
  exact ⟨w0, h1, h2.trans k, h3⟩
theorem Rd.old {w : World} {v : Value} {zs : List Int} (h : Rd w v zs) : Old w.heap.size w v zs := ⟨w, Nat.le_refl _, Below.refl _ _, h⟩
theorem Rd.old' {B : Nat} {w w' : World} {v : Value} {zs : List Int} (h : Rd w v zs) (hB : w.heap.size ≤ B) (k : Below B w w') : Old B w' v zs := ⟨w, hB, k, h⟩

/-- make([]byte, 0, n). -/
theorem go_mkb {w : World} {ops : Array Oper} {rest : List Oper} {a : Act} {Q : Exit → Act → World → Prop} {d : Option Tmp} {ty : TypeId} {ps : String} {af : Array Edge} {c : Operand}
    (n : Int) (hc : a.eval c = .int .i64 n) (h0 : 0 ≤ n) (h1 : n ≤ 140737488355328)
    (hK : ∀ v' w', Own w.heap.size 5 w' v' [] → Kept w w' → wpList Tryd.prog ops Q rest (a.put d v') w') :
    wpList Tryd.prog ops Q (⟨d, .makeSlice 104 (.const (.int .i64 0)) c, ty, ps, af, none⟩ :: rest) a w := by
  obtain ⟨i0, hi, hz0, hz1, hz2⟩ := info_parts Tryd.info5
  obtain ⟨k, rfl⟩ := Int.eq_ofNat_of_zero_le h0
  refine wpList_make_own w rfl (.const (.int .i64 0)) c 104 rfl w.heap.size 5 i0 (.int .u8 0) 1 Tryd.underlying104 hi hz0 hz1 .i64 .i64 k k rfl hc rfl (by rw [hz2]; omega) (by unfold maxLen; omega) (Nat.le_refl _) ?_
  intro w' ho hg
  exact hK _ w' ho ((Below.refl w.heap.size w).grown hg (Nat.le_refl _) fun k hk => by cases hk)

/-- make([]byte, n, n). -/
theorem go_mkf {w : World} {ops : Array Oper} {rest : List Oper} {a : Act} {Q : Exit → Act → World → Prop} {d : Option Tmp} {ty : TypeId} {ps : String} {af : Array Edge} {l c : Operand}
    (n : Nat) (hl : a.eval l = .int .i64 n) (hc : a.eval c = .int .i64 n) (h1 : n ≤ 140737488355328)
    (hK : ∀ w', Own w.heap.size 5 w' (.slice (some ⟨w.heap.size, 0, none⟩) n n) (List.replicate n 0) → Kept w w' → wpList Tryd.prog ops Q rest (a.put d (.slice (some ⟨w.heap.size, 0, none⟩) n n)) w') :
    wpList Tryd.prog ops Q (⟨d, .makeSlice 104 l c, ty, ps, af, none⟩ :: rest) a w := by
  obtain ⟨i0, hi, hz0, hz1, hz2⟩ := info_parts Tryd.info5
  refine wpList_make_full w rfl l c 104 rfl w.heap.size 5 i0 (.int .u8 0) 1 Tryd.underlying104 hi hz0 hz1 .i64 .i64 n n n hl hc rfl rfl (by rw [hz2]; omega) (by unfold maxLen; omega) (Nat.le_refl _) ?_
  intro w' ho hg
  refine hK w' ?_ ((Below.refl w.heap.size w).grown hg (Nat.le_refl _) fun k hk => by cases hk)
  unfold Own Ownv
  rw [List.length_replicate, List.map_replicate]
  simpa [toList_madeCells_one, Value.cells] using ho


theorem go_cut_lh {w : World} {ops : Array Oper} {rest : List Oper} {a : Act} {Q : Exit → Act → World → Prop} {d : Option Tmp} {ty : TypeId} {ps : String} {af : Array Edge} {x lo hi : Operand}
    (v : Value) (zs : List Int) (hx : a.eval x = v) (hr : Rd w v zs) (l h : Int) (hlo : a.eval lo = .int .i64 l) (hhi : a.eval hi = .int .i64 h) (h0 : 0 ≤ l) (hlh : l ≤ h) (hh : h ≤ zs.length)
    (hK : ∀ v', Rd w v' ((zs.take h.toNat).drop l.toNat) → wpList Tryd.prog ops Q rest (a.put d v') w) :
    wpList Tryd.prog ops Q (⟨d, .slice 104 x (some lo) (some hi) none, ty, ps, af, none⟩ :: rest) a w := by
  obtain ⟨b, cap, rfl, h1, h2, h3⟩ := hr.len
  refine wpList_plain rfl fun K hK' => ?_
  have hs : Tryd.prog.underlying 104 = some (.slice (Tryd.prog.elem 104)) := by kernel_rfl
  have hz : ∀ w, (sizeOf (Tryd.prog.elem 104)).run Tryd.prog w = .ok 1 w := fun w => by kernel_rfl
  have hrun := run_slice_lh w 104 b zs.length cap hs .i64 .i64 l h h0 hlh (by omega)
  rw [hz] at hrun
  simp only [Result.andThen] at hrun
  unfold Oper.wp
  simp [execOp, hx, hlo, hhi, run_sliceAt_slice, hs, hrun, Result.andThen]
  refine hK' _ _ (hK _ ?_)
  exact hr.cut (by omega) (by omega)

theorem go_cut_l {w : World} {ops : Array Oper} {rest : List Oper} {a : Act} {Q : Exit → Act → World → Prop} {d : Option Tmp} {ty : TypeId} {ps : String} {af : Array Edge} {x lo : Operand}
    (v : Value) (zs : List Int) (hx : a.eval x = v) (hr : Rd w v zs) (l : Int) (hlo : a.eval lo = .int .i64 l) (h0 : 0 ≤ l) (hh : l ≤ zs.length)
    (hK : ∀ v', Rd w v' (zs.drop l.toNat) → wpList Tryd.prog ops Q rest (a.put d v') w) :
    wpList Tryd.prog ops Q (⟨d, .slice 104 x (some lo) (none) none, ty, ps, af, none⟩ :: rest) a w := by
  obtain ⟨b, cap, rfl, h1, h2, h3⟩ := hr.len
  refine wpList_plain rfl fun K hK' => ?_
  have hs : Tryd.prog.underlying 104 = some (.slice (Tryd.prog.elem 104)) := by kernel_rfl
  have hz : ∀ w, (sizeOf (Tryd.prog.elem 104)).run Tryd.prog w = .ok 1 w := fun w => by kernel_rfl
  have hrun := run_slice_l w 104 b zs.length cap hs .i64 l h0 (by omega)
  rw [hz] at hrun
  simp only [Result.andThen] at hrun
  unfold Oper.wp
  simp [execOp, hx, hlo, run_sliceAt_slice, hs, hrun, Result.andThen]
  refine hK' _ _ (hK _ ?_)
  have := hr.cut (lo := l.toNat) (hi := zs.length) (by omega) (Nat.le_refl _)
  rwa [List.take_length] at this

theorem go_cut_h {w : World} {ops : Array Oper} {rest : List Oper} {a : Act} {Q : Exit → Act → World → Prop} {d : Option Tmp} {ty : TypeId} {ps : String} {af : Array Edge} {x hi : Operand}
    (v : Value) (zs : List Int) (hx : a.eval x = v) (hr : Rd w v zs) (h : Int) (hhi : a.eval hi = .int .i64 h) (h0 : 0 ≤ h) (hh : h ≤ zs.length)
    (hK : ∀ v', Rd w v' (zs.take h.toNat) → wpList Tryd.prog ops Q rest (a.put d v') w) :
    wpList Tryd.prog ops Q (⟨d, .slice 104 x (none) (some hi) none, ty, ps, af, none⟩ :: rest) a w := by
  obtain ⟨b, cap, rfl, h1, h2, h3⟩ := hr.len
  refine wpList_plain rfl fun K hK' => ?_
  have hs : Tryd.prog.underlying 104 = some (.slice (Tryd.prog.elem 104)) := by kernel_rfl
  have hz : ∀ w, (sizeOf (Tryd.prog.elem 104)).run Tryd.prog w = .ok 1 w := fun w => by kernel_rfl
  have hrun := run_slice_h w 104 b zs.length cap hs .i64 h h0 (by omega)
  rw [hz] at hrun
  simp only [Result.andThen] at hrun
  unfold Oper.wp
  simp [execOp, hx, hhi, run_sliceAt_slice, hs, hrun, Result.andThen]
  refine hK' _ _ (hK _ ?_)
  have := hr.cut (lo := 0) (hi := h.toNat) (by omega) (by omega)
  rwa [List.drop_zero] at this

theorem results4 {fn : Func} {t u v x : Tmp} (h : fn.results = #[.tmp t, .tmp u, .tmp v, .tmp x]) (tmps : Array Value) (P : Program) (w : World) :
    (results fn tmps).run P w = .ok (.tuple #[tmps.getD t undef, tmps.getD u undef, tmps.getD v undef, tmps.getD x undef]) w := by
  simp [results, h]

theorem go_cut_1 {w : World} {ops : Array Oper} {rest : List Oper} {a : Act} {Q : Exit → Act → World → Prop} {d : Option Tmp} {ty : TypeId} {ps : String} {af : Array Edge} {x lo : Operand}
    (v : Value) (zs : List Int) (hx : a.eval x = v) (hr : Rd w v zs) (hlo : a.eval lo = .int .i64 1) (hh : 0 < zs.length)
    (hK : ∀ v', Rd w v' (zs.drop 1) → wpList Tryd.prog ops Q rest (a.put d v') w) :
    wpList Tryd.prog ops Q (⟨d, .slice 104 x (some lo) none none, ty, ps, af, none⟩ :: rest) a w :=
  go_cut_l v zs hx hr 1 hlo (by omega) (by omega) hK

/-- append to a row of the call's own, with all that it leaves. -/
theorem go_appg {P : Program} {w : World} {ops : Array Oper} {rest : List Oper} {a : Act} {Q : Exit → Act → World → Prop} {d : Option Tmp} {ty : TypeId} {ps : String} {af : Array Edge}
    {s x : Operand} {t : TypeId} (B : Nat) (e : TypeId) (size bytes : Nat) (i : TypeInfo) (z : Value) (ht : P.underlying t = some (.slice e)) (hi : P.info? e = some i) (hz : i.zero = some z)
    (hsize : i.size = size) (hby : i.bytes = bytes) (hzs : z.cells.size = size) (hsz : 0 < size)
    (v : Value) (n : Nat) (xs : List Value) (hs : a.eval s = v) (ho : Ownv B e size w v n xs)
    (u : Value) (m : Nat) (news : List Value) (hx : a.eval x = u) (hr : Rdv size w u m news) (h1 : ∀ u ∈ news, u.oneCell' = true)
    (h63 : n + m ≤ maxLen) (hbytes : (n + m) * bytes ≤ 140737488355328) (hB : B ≤ w.heap.size)
    (hK : ∀ v' w', Ownv B e size w' v' (n + m) (xs ++ news) → Below B w w' → w.grownBy w' v.ownBlock → wpList P ops Q rest (a.put d v') w') :
    wpList P ops Q (⟨d, .call { callee := .builtin .append, args := #[s, x], argTypes := #[t, t] }, ty, ps, af, none⟩ :: rest) a w := by
  obtain ⟨ao, cap, rfl, hl, hc, hm, hno, hcell⟩ := hr
  cases ao with
  | none =>
    obtain rfl := hno rfl
    obtain rfl : m = 0 := by omega
    obtain rfl : news = [] := List.eq_nil_of_length_eq_zero (by simpa using hl)
    refine wpList_append_own_none rfl s x t rfl B e i size ht hi v n xs hs ho hx ?_
    exact hK v w (by simpa using ho) (Below.refl _ _) (World.grownBy.refl _ _)
  | some ad =>
    refine wpList_append_own w rfl s x t rfl B e i z size bytes ht hi hz hsize hby hzs hsz v n xs hs ho ad m cap news hx hl (hcell ad rfl) h1 h63 hbytes hB ?_
    intro v' w' ho' hg _
    exact hK v' w' ho' ((Below.refl B w).grown hg hB fun k hk => (World.ownsRow.lt ho k hk).1) hg

/-- What is owned of another element type stays as it is behind an append. -/
theorem Ownv.other {B B' : Nat} {e e' : TypeId} {size size' n n' : Nat} {w w' : World} {v v' : Value} {xs xs' : List Value} (h : Ownv B e size w v n xs) (h' : Ownv B' e' size' w v' n' xs') (hne : e ≠ e')
    (hg : w.grownBy w' v'.ownBlock) : Ownv B e size w' v n xs := by
  refine World.ownsRow.kept h hg ?_
  rcases h.2 with ⟨rfl, _⟩ | ⟨g, cap, cur, rfl, hb, hgg, _⟩
  · exact .inl rfl
  · refine .inr fun hh => ?_
    rcases h'.2 with ⟨rfl, _⟩ | ⟨g', cap', cur', rfl, hb', hgg', _⟩
    · simp [Value.ownBlock] at hh
    · simp only [Value.ownBlock, Option.some.injEq] at hh
      subst hh
      rw [hgg] at hgg'
      simp only [Option.some.injEq, Obj.cells.injEq] at hgg'
      exact hne hgg'.2.1

/-- What a cut reads as, in whatever world. -/
theorem go_cut_lw {w : World} {ops : Array Oper} {rest : List Oper} {a : Act} {Q : Exit → Act → World → Prop} {d : Option Tmp} {ty : TypeId} {ps : String} {af : Array Edge} {x lo : Operand}
    (v : Value) (zs : List Int) (hx : a.eval x = v) (hr : Rd w v zs) (l : Int) (hlo : a.eval lo = .int .i64 l) (h0 : 0 ≤ l) (hh : l ≤ zs.length)
    (hK : ∀ v', (∀ w0, Rd w0 v zs → Rd w0 v' (zs.drop l.toNat)) → wpList Tryd.prog ops Q rest (a.put d v') w) :
    wpList Tryd.prog ops Q (⟨d, .slice 104 x (some lo) (none) none, ty, ps, af, none⟩ :: rest) a w := by
  obtain ⟨b, cap, rfl, h1, h2, h3⟩ := hr.len
  refine wpList_plain rfl fun K hK' => ?_
  have hs : Tryd.prog.underlying 104 = some (.slice (Tryd.prog.elem 104)) := by kernel_rfl
  have hz : ∀ w, (sizeOf (Tryd.prog.elem 104)).run Tryd.prog w = .ok 1 w := fun w => by kernel_rfl
  have hrun := run_slice_l w 104 b zs.length cap hs .i64 l h0 (by omega)
  rw [hz] at hrun
  simp only [Result.andThen] at hrun
  unfold Oper.wp
  simp [execOp, hx, hlo, run_sliceAt_slice, hs, hrun, Result.andThen]
  refine hK' _ _ (hK _ fun w0 h0' => ?_)
  have := h0'.cut (lo := l.toNat) (hi := zs.length) (by omega) (Nat.le_refl _)
  rwa [List.take_length] at this

end Go.Proofs.YtangbnmgkcmhbaaDoor
end

section
/- Lists of slices of bytes; sums over them; bytes' bounds; strings of bytes. No function of the program is named here. -/
set_option linter.unusedSimpArgs false
set_option linter.unusedVariables false
namespace Go.Proofs.YtangbnmgkcmhbaaDoor
open Go.RowKit

/-- A fact put away: no tactic looks into it. -/
structure Shut (p : Prop) : Prop where
  out : p

/-- v is a slice of slices of bytes. -/
def Rds (w : World) (v : Value) (xss : List (List Int)) : Prop :=
  ∃ vs : List Value, vs.length = xss.length ∧ Rdv 1 w v xss.length vs ∧ ∀ i, i < xss.length → Rd w (vs.getD i undef) (xss.getD i [])

theorem Rds.kept {w w' : World} {v : Value} {xss : List (List Int)} (h : Rds w v xss) (k : Kept w w') : Rds w' v xss := by
  obtain ⟨vs, h1, h2, h3⟩ := h
  exact ⟨vs, h1, h2.kept k, fun i hi => (h3 i hi).kept k⟩

def Olds (B : Nat) (w : World) (v : Value) (xss : List (List Int)) : Prop := ∃ w0 : World, w0.heap.size ≤ B ∧ Below B w0 w ∧ Rds w0 v xss
theorem Olds.rds {B : Nat} {w : World} {v : Value} {zs : List (List Int)} (h : Olds B w v zs) : Rds w v zs := by
  obtain ⟨w0, h1, h2, h3⟩ := h
  exact h3.kept (Below.mono h2 h1)
theorem Olds.below {B : Nat} {w w' : World} {v : Value} {zs : List (List Int)} (h : Olds B w v zs) (k : Below B w w') : Olds B w' v zs := by
  obtain ⟨w0, h1, h2, h3⟩ := h
  exact ⟨w0, h1, h2.trans k, h3⟩
theorem Rds.olds {w : World} {v : Value} {zs : List (List Int)} (h : Rds w v zs) : Olds w.heap.size w v zs := ⟨w, Nat.le_refl _, Below.refl _ _, h⟩

theorem Rds.len {w : World} {v : Value} {xss : List (List Int)} (h : Rds w v xss) : ∃ a cap, v = .slice a xss.length cap ∧ xss.length ≤ cap ∧ cap ≤ maxLen ∧ (a = none → cap = 0) := by
  obtain ⟨vs, _, ⟨a, cap, rfl, _, h2, h3, h4, _⟩, _⟩ := h
  exact ⟨a, cap, rfl, h2, h3, h4⟩

theorem Rds.nil (w : World) : Rds w (.slice none 0 0) [] := ⟨[], rfl, ⟨none, 0, rfl, rfl, Nat.le_refl _, Nat.zero_le _, fun _ => rfl, fun _ h => by cases h⟩, fun i hi => by simp at hi⟩

/-- A slice of slices that is not empty: its address, its cells, and what each reads as. -/
theorem Rds.addr {w : World} {v : Value} {xss : List (List Int)} (h : Rds w v xss) (hp : 0 < xss.length) :
    ∃ b off cap, ∃ vs : List Value, v = .slice (some ⟨b, off, none⟩) xss.length cap ∧ xss.length ≤ cap ∧ cap ≤ maxLen ∧ b < w.heap.size ∧
      (∀ i, i < xss.length → w.cell? ⟨b, off + i, none⟩ = some (vs.getD i undef)) ∧ ∀ i, i < xss.length → Rd w (vs.getD i undef) (xss.getD i []) := by
  obtain ⟨vs, hvs, ⟨ao, cap, rfl, hl, hc, hm, hno, hcell⟩, hr⟩ := h
  cases ao with
  | none => have := hno rfl; omega
  | some ad =>
    obtain ⟨b, off, spot⟩ := ad
    have hg : ∀ i, i < xss.length → w.cell? ((⟨b, off, spot⟩ : Addr).add i) = some (vs.getD i undef) := by
      intro i hi
      refine hcell _ rfl i _ ?_
      simp [List.getD, List.getElem?_eq_getElem (show i < vs.length by omega)]
    have h0 := hg 0 hp
    obtain rfl : spot = none := by simpa [Addr.add] using World.cell?_spot h0
    refine ⟨b, off, cap, vs, rfl, hc, hm, World.block_lt_of_cell? _ _ h0, fun i hi => ?_, hr⟩
    have := hg i hi
    rwa [Addr.add_lit] at this

/-- A literal list of slices of bytes. -/
theorem Rds.lit {w : World} (e : TypeId) (vs : List Value) (xss : List (List Int)) (hl : vs.length = xss.length) (hm : vs.length ≤ 1000000) (hr : ∀ i, i < xss.length → Rd w (vs.getD i undef) (xss.getD i [])) :
    Rds (w.alloc (.cells vs.toArray e)) (.slice (some ⟨w.heap.size, 0, none⟩) vs.length vs.length) xss := by
  have h0 := (Ownv.lit (B := w.heap.size) e (w := w) vs (Nat.le_refl _) (by unfold maxLen; omega)).rdv
  refine ⟨vs, hl, by rw [← hl]; exact h0, fun i hi => (hr i hi).kept ((Kept.refl w).alloc _)⟩
theorem Rds.lit1 {w : World} (e : TypeId) {v : Value} {zs : List Int} (h : Rd w v zs) : Rds (w.alloc (.cells #[v] e)) (.slice (some ⟨w.heap.size, 0, none⟩) 1 1) [zs] :=
  Rds.lit e [v] [zs] rfl (by simp) (fun i hi => by obtain rfl : i = 0 := by simp at hi; omega
                                                   exact h)

/-- Sums over lists. -/
def lsum (f : List Int → Int) : List (List Int) → Int
  | [] => 0
  | x :: r => f x + lsum f r

theorem lsum_append (f : List Int → Int) (a b : List (List Int)) : lsum f (a ++ b) = lsum f a + lsum f b := by
  induction a with
  | nil => simp [lsum]
  | cons x r ih => simp only [List.cons_append, lsum, ih]; omega
theorem lsum_take (f : List Int → Int) (l : List (List Int)) (k : Nat) (h : k < l.length) : lsum f (l.take (k + 1)) = lsum f (l.take k) + f (l.getD k []) := by
  rw [List.take_succ_eq_append_getElem h, lsum_append]
  simp [lsum, List.getD, List.getElem?_eq_getElem h]
theorem lsum_nonneg (f : List Int → Int) (hf : ∀ x, 0 ≤ f x) (l : List (List Int)) : 0 ≤ lsum f l := by
  induction l with
  | nil => simp [lsum]
  | cons x r ih => have := hf x; simp only [lsum]; omega
theorem lsum_take_le (f : List Int → Int) (hf : ∀ x, 0 ≤ f x) (l : List (List Int)) (k : Nat) : lsum f (l.take k) ≤ lsum f l := by
  have h := lsum_append f (l.take k) (l.drop k)
  rw [List.take_append_drop] at h
  have := lsum_nonneg f hf (l.drop k)
  omega

/-- What 'big' counts. -/
def bigN (x : List Int) : Int := x.length + 1
theorem bigN_nonneg (x : List Int) : 0 ≤ bigN x := by unfold bigN; omega

/-- Bytes' numbers are 0 to 255. -/
def By (zs : List Int) : Prop := ∀ z ∈ zs, 0 ≤ z ∧ z ≤ 255

theorem By.at {zs : List Int} (h : By zs) (i : Nat) : 0 ≤ zs.getD i 0 ∧ zs.getD i 0 ≤ 255 := by
  by_cases hi : i < zs.length
  · have : zs.getD i 0 = zs[i] := by simp [List.getD, List.getElem?_eq_getElem hi]
    rw [this]; exact h _ (List.getElem_mem hi)
  · have : zs.getD i 0 = 0 := by simp [List.getD, List.getElem?_eq_none (Nat.le_of_not_lt hi)]
    rw [this]; omega

theorem strs {w : World} {v : Value} {zs : List Int} (h : Rd w v zs) : ∀ n, (convert 104 9 v).run Tryd.prog (w.drewN n) = .ok (.string (strOfNums zs)) (w.drewN n) := fun n =>
  go_str_run (P := Tryd.prog) Tryd.underlying104 Tryd.underlying5 (h.kept ((Kept.refl w).drewN n)) 9 Tryd.underlying9
theorem strs0 {w : World} {v : Value} {zs : List Int} (h : Rd w v zs) : (convert 104 9 v).run Tryd.prog w = .ok (.string (strOfNums zs)) w :=
  go_str_run (P := Tryd.prog) Tryd.underlying104 Tryd.underlying5 h 9 Tryd.underlying9

theorem u8_eq (a b : Int) (ha : 0 ≤ a ∧ a ≤ 255) (hb : 0 ≤ b ∧ b ≤ 255) : (UInt8.ofNat a.toNat = UInt8.ofNat b.toNat) ↔ a = b := by
  rw [← UInt8.toNat_inj, UInt8.toNat_ofNat_of_lt' (by simp; omega), UInt8.toNat_ofNat_of_lt' (by simp; omega)]; omega

theorem strOf_toList (zs : List Int) : (strOfNums zs).toList = zs.map fun n => UInt8.ofNat n.toNat := by
  rw [ByteArray.toList_eq]
  rfl


theorem By.append {x y : List Int} (h : By x) (k : By y) : By (x ++ y) := fun z hz => (List.mem_append.1 hz).elim (h z) (k z)
theorem By.take {x : List Int} (h : By x) (n : Nat) : By (x.take n) := fun z hz => h z (List.mem_of_mem_take hz)
theorem By.drop {x : List Int} (h : By x) (n : Nat) : By (x.drop n) := fun z hz => h z (List.mem_of_mem_drop hz)
theorem By.nil : By [] := fun z hz => by cases hz
theorem By.cons {a : Int} {x : List Int} (h0 : 0 ≤ a ∧ a ≤ 255) (h : By x) : By (a :: x) := fun z hz => by
  rcases List.mem_cons.1 hz with rfl | hz
  · exact h0
  · exact h z hz

theorem map_inj {x y : List Int} (hx : By x) (hy : By y) (h : (x.map fun n => UInt8.ofNat n.toNat) = y.map fun n => UInt8.ofNat n.toNat) : x = y := by
  induction x generalizing y with
  | nil => cases y with
    | nil => rfl
    | cons b y => simp at h
  | cons a x ih =>
    cases y with
    | nil => simp at h
    | cons b y =>
      simp only [List.map_cons, List.cons.injEq] at h
      obtain ⟨h1, h2⟩ := h
      rw [(u8_eq a b (hx a List.mem_cons_self) (hy b List.mem_cons_self)).1 h1, ih (fun z hz => hx z (List.mem_cons_of_mem _ hz)) (fun z hz => hy z (List.mem_cons_of_mem _ hz)) h2]

/-- Two strings of bytes are the same, just if their numbers are. -/
theorem strOf_inj {x y : List Int} (hx : By x) (hy : By y) (h : strOfNums x = strOfNums y) : x = y := by
  have h' := congrArg ByteArray.toList h
  rw [strOf_toList, strOf_toList] at h'
  exact map_inj hx hy h'
theorem bytes_beq (a b : ByteArray) : (a == b) = (a.data == b.data) := rfl
theorem strOf_beq {x y : List Int} (hx : By x) (hy : By y) : (strOfNums x == strOfNums y) = decide (x = y) := by
  rw [bytes_beq]
  by_cases h : x = y
  · subst h; simp
  · rw [decide_eq_false h, beq_eq_false_iff_ne]
    exact fun e => h (strOf_inj hx hy (by cases hX : strOfNums x; cases hY : strOfNums y; rw [hX, hY] at e; simp only at e; rw [e]))

/-- Block g is a row of the call's own, known whole. -/
def Blk (w : World) (g : Nat) (e : TypeId) (xs : List Value) : Prop := w.heap[g]? = some (.cells xs.toArray e (0, 0))

theorem Blk.lt {w : World} {g : Nat} {e : TypeId} {xs : List Value} (h : Blk w g e xs) : g < w.heap.size := (Array.getElem?_eq_some_iff.1 h).1
theorem Blk.cell {w : World} {g : Nat} {e : TypeId} {xs : List Value} (h : Blk w g e xs) (i : Nat) : w.cell? ⟨g, i, none⟩ = xs[i]? := by
  unfold Blk at h
  simp [World.cell?, h]
theorem Blk.frozen {w : World} {g : Nat} {e : TypeId} {xs : List Value} (h : Blk w g e xs) (i : Nat) : w.frozen? ⟨g, i, none⟩ = false := by
  unfold Blk at h
  simp [World.frozen?, h]
theorem Blk.set {w : World} {g : Nat} {e : TypeId} {xs : List Value} (h : Blk w g e xs) (i : Nat) (v : Value) : Blk (w.setCell ⟨g, i, none⟩ v) g e (xs.set i v) := by
  unfold Blk at h ⊢
  simp [World.setCell, Array.getElem?_modify, h]
theorem Blk.below {B : Nat} {w w' : World} {g : Nat} {e : TypeId} {xs : List Value} (h : Blk w g e xs) (k : Below B w w') (hg : g < B) : Blk w' g e xs := by
  unfold Blk at h ⊢
  rw [k.block g hg]; exact h
theorem Blk.ownv {B : Nat} {w : World} {g : Nat} {e : TypeId} {xs : List Value} (h : Blk w g e xs) (hB : B ≤ g) (hm : xs.length ≤ maxLen) : Ownv B e 1 w (.slice (some ⟨g, 0, none⟩) xs.length xs.length) xs.length xs :=
  ⟨by simp, .inr ⟨g, xs.length, xs.toArray, rfl, hB, h, Nat.le_refl _, hm, by simp, by simp⟩⟩
theorem Ownv.blk {B : Nat} {w : World} {g n : Nat} {e : TypeId} {xs : List Value} (h : Ownv B e 1 w (.slice (some ⟨g, 0, none⟩) n n) n xs) : Blk w g e xs ∧ B ≤ g := by
  rcases h.2 with ⟨hh, _⟩ | ⟨g', cap, cur, hv, hb, hg, hn, hm, hs, ht⟩
  · cases hh
  · simp only [Value.slice.injEq, Option.some.injEq, Addr.mk.injEq] at hv
    obtain ⟨⟨rfl, _⟩, _, rfl⟩ := hv
    refine ⟨?_, hb⟩
    unfold Blk
    rw [hg]
    have : cur.toList = xs := by rw [← ht]; exact (List.take_of_length_le (by simp; omega)).symm
    rw [← this]
theorem Blk.own {B : Nat} {w : World} {g n : Nat} {e : TypeId} {zs : List Int} (h : Blk w g e (zs.map (Value.int .u8))) (hB : B ≤ g) (hn : n = zs.length) (hm : zs.length ≤ maxLen) : Own B e w (.slice (some ⟨g, 0, none⟩) n n) zs := by
  subst hn
  have := h.ownv hB (by simpa using hm)
  simp only [List.length_map] at this
  exact this

/-- copy of bytes into a row of the call's own, known whole. -/
theorem go_copyb {w : World} {ops : Array Oper} {rest : List Oper} {a : Act} {Q : Exit → Act → World → Prop} {d : Option Tmp} {ty : TypeId} {ps : String} {af : Array Edge} {s x : Operand}
    (B g n : Nat) (cur : List Value) (hd : a.eval s = .slice (some ⟨g, 0, none⟩) n n) (hg : Blk w g 5 cur) (hBg : B ≤ g) (hn : cur.length = n) (u : Value) (zs : List Int) (hx : a.eval x = u) (hr : Rd w u zs) (hl : zs.length ≤ n)
    (hK : ∀ w', Hid (Blk w' g 5 (splice cur 0 (zs.map (Value.int .u8)))) → Below B w w' → wpList Tryd.prog ops Q rest (a.put d (goInt (zs.map (Value.int .u8)).length)) w') :
    wpList Tryd.prog ops Q (⟨d, .call { callee := .builtin .copy, args := #[s, x], argTypes := #[104, 104] }, ty, ps, af, none⟩ :: rest) a w := by
  obtain ⟨ao, cap, rfl, hl2, hc, hm, hno, hcell⟩ := hr
  refine wpList_copy_splice rfl s x 104 104 rfl 5 Tryd.underlying104 (by kernel_rfl) (some ⟨g, 0, none⟩) ao n n zs.length cap hd hx g 0 cur 5 hg (zs.map (Value.int .u8)) (by rw [List.length_map]; exact (Nat.min_eq_left hl).symm) ?_ (by simp; omega) (ones_int .u8 zs) B w (Below.refl _ _) hBg ?_
  · intro hp
    refine ⟨rfl, ?_⟩
    cases ao with
    | none => have := hno rfl; simp at hp; omega
    | some ad => exact ⟨ad, rfl, hcell ad rfl⟩
  · intro w' h1 h2
    exact hK w' h1 h2
theorem alloc_size (w : World) (o : Obj) : (w.alloc o).heap.size = w.heap.size + 1 := by simp

theorem Rd.marked {w : World} (zs : List Int) (fr : Nat × Nat) (hl : zs.length ≤ 1000000) : Rd (w.alloc (.cells (zs.map (Value.int .u8)).toArray 5 fr)) (.slice (some ⟨w.heap.size, 0, none⟩) zs.length zs.length) zs := by
  refine ⟨_, zs.length, rfl, by simp, Nat.le_refl _, by unfold maxLen; omega, (fun h => by cases h), fun ad had j u hj => ?_⟩
  cases had
  have e : (⟨w.heap.size, 0, none⟩ : Addr).add j = ⟨w.heap.size, j, none⟩ := by rw [Addr.add_lit, Nat.zero_add]
  rw [e, cell_of_row _ w.heap.size j _ _ fr (heap_alloc_new w _)]
  simpa using hj
end Go.Proofs.YtangbnmgkcmhbaaDoor
end

section
/- What comes in as an argument, as the walks want it. -/
set_option linter.unusedSimpArgs false
set_option linter.unusedVariables false
set_option maxRecDepth 100000
namespace Go.Proofs.YtangbnmgkcmhbaaDoor
open Go.RowKit Go.ChangeShapes Go.WideShapes Go.ChangeAt

theorem Done.own : ownKnob Tryd.prog.godebug = none := by kernel_rfl
theorem Done.laidOut : laidOutB Tryd.prog = true := by kernel_rfl
theorem Tryd.bytes5 : Tryd.prog.bytesOf 5 = 1 := by kernel_rfl

theorem wf_by {zs : List Int} (h : ∀ n ∈ zs, (Lit.int .u8 n).wf = true) : By zs := fun z hz => bounds_u8 (h z hz)

theorem bulk_lits {H : Type} (k : IntKind) (zs : List Int) : Rows.uptoBulkAll (lits (H := H) k zs) = zs.length := by
  induction zs with
  | nil => rfl
  | cons a r ih =>
    have e : lits (H := H) k (a :: r) = .lit (.int k a) :: lits k r := rfl
    rw [e]
    simp only [Rows.uptoBulkAll, ih, List.length_cons]
    have : Rows.uptoBulk (DataW.lit (H := H) (.int k a)) = 1 := rfl
    omega

theorem addr_add (ad : Addr) (j : Nat) : ad.add j = ad.add j := rfl

theorem rd_of_cells {w : World} {a : Addr} {len cap : Nat} {zs : List Int} (hl : len ≤ cap) (hm : cap ≤ maxLen) (hz : zs.length = cap) (hcell : ∀ i, i < zs.length → w.cell? (a.add i) = some (.int .u8 (zs.getD i 0))) :
    Rd w (.slice (some a) len cap) (zs.take len) := by
  have e : (zs.take len).length = len := by rw [List.length_take]; omega
  unfold Rd
  rw [e]
  refine ⟨some a, cap, rfl, by simp [e]; omega, hl, hm, (fun h => by cases h), fun ad had j u hj => ?_⟩
  cases had
  have hjl : j < len := by
    have := (List.getElem?_eq_some_iff.1 hj).1
    simp at this; omega
  rw [hcell j (by omega), ← hj]
  simp [List.getElem?_take, hjl, List.getD, List.getElem?_eq_getElem (show j < zs.length by omega)]

/-- A slice of bytes that comes in. -/
theorem open_bytes {H : Type} {enc : TypeId × Value → H} {W : World} {base : Nat} {v : Value} {d : DataW H} {p : List MemPlace} (hv : Value.okWide Tryd.prog W .any base 104 v)
    (h : DataW.Trod enc Tryd.prog W 0 (fun _ => true) true 104 v d p) :
    ∃ zs : List Int, Rd W v zs ∧ By zs ∧ zs.length + 1 ≤ Rows.uptoBulk d ∧
      ∀ (ts : List TypeId) (ds : List (DataW H)) (j : Nat), (DataW.weightsEach Tryd.prog ts ds).all (· ≤ reachBytes) = true → ts[j]? = some 104 → ds[j]? = some d → zs.length ≤ 140737488351232 := by
  obtain ⟨a, len, cap, rfl⟩ := okWide_slice Tryd.underlying104 hv
  obtain ⟨fuel, hf⟩ := h
  rcases open_ints Tryd.underlying104 Tryd.underlying5 (by kernel_rfl) hf with ⟨hcs, hx⟩ | ⟨x, l, c, zs, hcs, _, hl, hm, hz, hx, hcell, hwz⟩
  · simp [Value.cells] at hcs
    obtain ⟨rfl, rfl, rfl⟩ := hcs
    simp only [Prod.mk.injEq] at hx
    obtain ⟨rfl, rfl⟩ := hx
    exact ⟨[], Rd.nil W, (fun z hz => by cases hz), by simp [Rows.uptoBulk], fun _ _ _ _ _ _ => by simp⟩
  · simp [Value.cells] at hcs
    obtain ⟨rfl, rfl, rfl⟩ := hcs
    simp only [Prod.mk.injEq] at hx
    obtain ⟨rfl, rfl⟩ := hx
    simp only [if_true] at hz
    refine ⟨zs.take len, rd_of_cells hl hm hz hcell, wf_by fun n hn => hwz n (List.mem_of_mem_take hn), ?_, ?_⟩
    · simp only [Rows.uptoBulk, bulk_lits]
      omega
    · intro ts ds j hsz ht hd
      have := sized_slice hsz ht hd Tryd.underlying104
      rw [Tryd.bytes5] at this
      simp only [lits, List.length_map, List.length_take, List.length_drop, reachBytes] at this
      rw [List.length_take]
      omega

theorem weightsAll_mem {H : Type} {P : Program} {e : TypeId} {d : DataW H} {n : Nat} : ∀ {l : List (DataW H)}, d ∈ l → n ∈ d.weights P e → n ∈ DataW.weightsAll P e l
  | [], h, _ => by cases h
  | x :: r, h, hn => by
    simp only [DataW.weightsAll, List.mem_append]
    rcases List.mem_cons.1 h with rfl | h
    · exact .inl hn
    · exact .inr (weightsAll_mem h hn)

end Go.Proofs.YtangbnmgkcmhbaaDoor
end

section
/- What a call may turn (a set of blocks), numbers in slices, and rows of the call's own as such. No function of the program is named here. -/
set_option linter.unusedSimpArgs false
set_option linter.unusedVariables false
namespace Go.Proofs.YtangbnmgkcmhbaaDoor
open Go.RowKit Go.Maps

/-- From w to w' only blocks of F have turned; new blocks may be there. -/
structure Turn (F : Nat → Prop) (w w' : World) : Prop where
  os : w'.os = w.os
  tape : w'.tape = w.tape
  output : w'.output = w.output
  size : w.heap.size ≤ w'.heap.size
  block : ∀ k, k < w.heap.size → ¬ F k → w'.heap[k]? = w.heap[k]?

theorem Turn.refl (F : Nat → Prop) (w : World) : Turn F w w := ⟨rfl, rfl, rfl, Nat.le_refl _, fun _ _ _ => rfl⟩
theorem Turn.mono {F G : Nat → Prop} {w w' : World} (h : Turn F w w') (hs : ∀ b, F b → G b) : Turn G w w' := ⟨h.os, h.tape, h.output, h.size, fun k hk hn => h.block k hk fun e => hn (hs k e)⟩
/-- Behind one another; what is new may be turned. -/
theorem Turn.trans {F G : Nat → Prop} {a b c : World} (h : Turn F a b) (k : Turn G b c) (hs : ∀ x, G x → F x ∨ a.heap.size ≤ x) : Turn F a c :=
  ⟨k.os.trans h.os, k.tape.trans h.tape, k.output.trans h.output, Nat.le_trans h.size k.size, fun i hi hn => (k.block i (Nat.lt_of_lt_of_le hi h.size) (fun e => by
    rcases hs i e with h1 | h1
    · exact hn h1
    · omega)).trans (h.block i hi hn)⟩
theorem Turn.kept {F : Nat → Prop} {a b c : World} (h : Turn F a b) (k : Kept b c) : Turn F a c :=
  ⟨k.os.trans h.os, k.tape.trans h.tape, k.output.trans h.output, Nat.le_trans h.size k.size, fun i hi hn => (k.block i (Nat.lt_of_lt_of_le hi h.size)).trans (h.block i hi hn)⟩
theorem Kept.turn {w w' : World} (h : Kept w w') (F : Nat → Prop) : Turn F w w' := ⟨h.os, h.tape, h.output, h.size, fun k hk _ => h.block k hk⟩
theorem Turn.toKept {w w' : World} (h : Turn (fun b => w.heap.size ≤ b) w w') : Kept w w' := ⟨h.os, h.tape, h.output, h.size, fun k hk => h.block k hk (by omega)⟩
theorem Turn.below {F : Nat → Prop} {B : Nat} {w0 w w' : World} (h0 : Below B w0 w) (h : Turn F w w') (hF : ∀ b, F b → B ≤ b) (hB : B ≤ w.heap.size) : Below B w0 w' :=
  ⟨h.os.trans h0.os, h.tape.trans h0.tape, h.output.trans h0.output, Nat.le_trans h0.size h.size, fun k hk => (h.block k (by omega) (fun e => by have := hF k e; omega)).trans (h0.block k hk)⟩
theorem Turn.keptOf {F : Nat → Prop} {w0 w w' : World} (h0 : Kept w0 w) (h : Turn F w w') (hF : ∀ b, F b → w0.heap.size ≤ b) : Kept w0 w' := Turn.below h0 h hF h0.size
theorem Below.turn {B : Nat} {w w' : World} (h : Below B w w') : Turn (fun b => B ≤ b) w w' := ⟨h.os, h.tape, h.output, h.size, fun k hk hn => h.block k (by omega)⟩
theorem Grown.turn {w w' : World} {row : Option Nat} (h : w.grownBy w' row) : Turn (fun b => some b = row) w w' := ⟨h.os, h.tape, h.output, h.size, fun k hk hn => h.block k hk hn⟩
theorem Turn.alloc {F : Nat → Prop} {a w : World} (h : Turn F a w) (o : Obj) : Turn F a (w.alloc o) := h.kept ((Kept.refl w).alloc o)
theorem Turn.drewN {F : Nat → Prop} {a w : World} (h : Turn F a w) (n : Nat) : Turn F a (w.drewN n) := h.kept ((Kept.refl w).drewN n)
theorem Turn.drew {F : Nat → Prop} {a w : World} (h : Turn F a w) : Turn F a w.drew := h.kept ((Kept.refl w).drew)
theorem turn_setCell (w : World) (a : Addr) (v : Value) : Turn (fun b => b = a.block) w (w.setCell a v) :=
  ⟨rfl, rfl, rfl, by simp [World.setCell], fun k hk hn => Below.heap_setCell _ _ _ _ hn⟩
theorem turn_setCells (w : World) (b off : Nat) (vs : List Value) : Turn (fun k => k = b) w (w.setCells b off vs) := by
  induction vs generalizing w off with
  | nil => exact Turn.refl _ _
  | cons v r ih => exact Turn.trans (turn_setCell w ⟨b, off, none⟩ v) (ih _ _) (fun x h => .inl h)

theorem Kept.setCell {a w : World} (h : Kept a w) {ad : Addr} (hb : a.heap.size ≤ ad.block) (v : Value) : Kept a (w.setCell ad v) :=
  Turn.keptOf h (turn_setCell w ad v) (fun b e => by rw [e]; exact hb)
theorem size_setCell (w : World) (ad : Addr) (v : Value) : (w.setCell ad v).heap.size = w.heap.size := by simp [World.setCell]
/-- Two worlds that say the same of the blocks of F. -/
def Same (F : Nat → Prop) (w w' : World) : Prop := ∀ b, F b → w'.heap[b]? = w.heap[b]?
theorem Turn.same {F G : Nat → Prop} {w w' : World} (h : Turn F w w') (hl : ∀ b, G b → b < w.heap.size) (hd : ∀ b, G b → ¬ F b) : Same G w w' := fun b hb => h.block b (hl b hb) (hd b hb)
theorem Kept.same {G : Nat → Prop} {w w' : World} (h : Kept w w') (hl : ∀ b, G b → b < w.heap.size) : Same G w w' := fun b hb => h.block b (hl b hb)
theorem Same.mono {F G : Nat → Prop} {w w' : World} (h : Same F w w') (hs : ∀ b, G b → F b) : Same G w w' := fun b hb => h b (hs b hb)

/-- The block of a slice, if it has one. -/
def Blks (v : Value) (b : Nat) : Prop := v.ownBlock = some b

theorem Ownv.same {B : Nat} {e : TypeId} {size n : Nat} {w w' : World} {v : Value} {xs : List Value} (h : Ownv B e size w v n xs) (k : Same (Blks v) w w') : Ownv B e size w' v n xs := by
  refine ⟨h.1, ?_⟩
  rcases h.2 with hn | ⟨g, cap, cur, rfl, hb, hg, rest⟩
  · exact .inl hn
  · refine .inr ⟨g, cap, cur, rfl, hb, ?_, rest⟩
    rw [k g rfl]
    exact hg
theorem Ownv.lt {B : Nat} {e : TypeId} {size n : Nat} {w : World} {v : Value} {xs : List Value} (h : Ownv B e size w v n xs) {b : Nat} (hb : Blks v b) : b < w.heap.size ∧ B ≤ b := by
  rcases h.2 with ⟨rfl, _⟩ | ⟨g, cap, cur, rfl, hb', hg, rest⟩
  · cases hb
  · obtain rfl : g = b := by simpa [Blks, Value.ownBlock] using hb
    exact ⟨(Array.getElem?_eq_some_iff.1 hg).1, hb'⟩
theorem Ownv.obj {B : Nat} {e : TypeId} {size n : Nat} {w : World} {v : Value} {xs : List Value} (h : Ownv B e size w v n xs) {b : Nat} (hb : Blks v b) : ∃ cur, w.heap[b]? = some (.cells cur e (0, 0)) := by
  rcases h.2 with ⟨rfl, _⟩ | ⟨g, cap, cur, rfl, hb', hg, rest⟩
  · cases hb
  · obtain rfl : g = b := by simpa [Blks, Value.ownBlock] using hb
    exact ⟨cur, hg⟩
/-- Rows of different element types are different blocks. -/
theorem Ownv.apart {B B' : Nat} {e e' : TypeId} {size size' n n' : Nat} {w : World} {v v' : Value} {xs xs' : List Value} (h : Ownv B e size w v n xs) (h' : Ownv B' e' size' w v' n' xs') (hne : e ≠ e') {b : Nat} (hb : Blks v b) : ¬ Blks v' b := by
  intro hb'
  obtain ⟨c, hc⟩ := h.obj hb
  obtain ⟨c', hc'⟩ := h'.obj hb'
  rw [hc] at hc'
  simp only [Option.some.injEq, Obj.cells.injEq] at hc'
  exact hne hc'.2.1
theorem Ownv.mono0 {B : Nat} {e : TypeId} {size n : Nat} {w : World} {v : Value} {xs : List Value} (h : Ownv B e size w v n xs) : Ownv 0 e size w v n xs := h.mono (Nat.zero_le _)
theorem Ownv.from {e : TypeId} {size n : Nat} {w : World} {v : Value} {xs : List Value} (h : Ownv 0 e size w v n xs) (B : Nat) (hB : ∀ b, Blks v b → B ≤ b) : Ownv B e size w v n xs := by
  refine ⟨h.1, ?_⟩
  rcases h.2 with hn | ⟨g, cap, cur, rfl, hb, rest⟩
  · exact .inl hn
  · exact .inr ⟨g, cap, cur, rfl, hB g rfl, rest⟩
/-- A row of the call's own is another block than one of another type. -/
theorem Ownv.notBlk {B : Nat} {e e' : TypeId} {size n : Nat} {w : World} {v : Value} {xs cs : List Value} {g : Nat} (h : Ownv B e size w v n xs) (h' : Blk w g e' cs) (hne : e ≠ e') : ¬ Blks v g := by
  intro hb
  obtain ⟨c, hc⟩ := h.obj hb
  unfold Blk at h'
  rw [hc] at h'
  simp only [Option.some.injEq, Obj.cells.injEq] at h'
  exact hne h'.2.1
theorem Ownv.setCell {B : Nat} {e : TypeId} {size n : Nat} {w : World} {v : Value} {xs : List Value} (h : Ownv B e size w v n xs) {ad : Addr} (hn : ¬ Blks v ad.block) (u : Value) : Ownv B e size (w.setCell ad u) v n xs :=
  h.same fun b hb => (turn_setCell w ad u).block b (h.lt hb).1 (fun e => hn (e ▸ hb))
theorem Ownv.turn {B : Nat} {e : TypeId} {size n : Nat} {w w' : World} {v : Value} {xs : List Value} {F : Nat → Prop} (h : Ownv B e size w v n xs) (k : Turn F w w') (hn : ∀ b, Blks v b → ¬ F b) : Ownv B e size w' v n xs :=
  h.same fun b hb => k.block b (h.lt hb).1 (hn b hb)
theorem Blk.turn {w w' : World} {g : Nat} {e : TypeId} {xs : List Value} {F : Nat → Prop} (h : Blk w g e xs) (k : Turn F w w') (hn : ¬ F g) : Blk w' g e xs := by
  have hl := h.lt
  unfold Blk at h ⊢
  rw [k.block g hl hn]; exact h
theorem Blk.kept {w w' : World} {g : Nat} {e : TypeId} {xs : List Value} (h : Blk w g e xs) (k : Kept w w') : Blk w' g e xs := h.below k h.lt
theorem ownsMap_turn {H : Type} {w w' : World} {P : Program} {k : TypeId} {R : Value → Option (DataW H × List MemPlace)} {b n : Nat} {D : DataW H} {F : Nat → Prop} (h : w.ownsMap P k R b n D) (t : Turn F w w') (hn : ¬ F b) : w'.ownsMap P k R b n D := by
  obtain ⟨es, clock, hb, r⟩ := h
  have hlt := (Array.getElem?_eq_some_iff.1 hb).1
  exact ⟨es, clock, (t.block b hlt hn).trans hb, r⟩
theorem ownsMap_notBlk {H : Type} {w : World} {P : Program} {k : TypeId} {R : Value → Option (DataW H × List MemPlace)} {b n : Nat} {D : DataW H} (h : w.ownsMap P k R b n D) {B : Nat} {e : TypeId} {size m : Nat} {v : Value} {xs : List Value} (h' : Ownv B e size w v m xs) : ¬ Blks v b := by
  intro hb
  obtain ⟨c, hc⟩ := h'.obj hb
  obtain ⟨es, clock, hm, _⟩ := h
  rw [hc] at hm
  simp at hm
theorem ownsMap_notBlk' {H : Type} {w : World} {P : Program} {k : TypeId} {R : Value → Option (DataW H × List MemPlace)} {b n : Nat} {D : DataW H} (h : w.ownsMap P k R b n D) {g : Nat} {e : TypeId} {xs : List Value} (h' : Blk w g e xs) : g ≠ b := by
  intro hb
  subst hb
  obtain ⟨es, clock, hm, _⟩ := h
  unfold Blk at h'
  rw [h'] at hm
  simp at hm
theorem Blk.new (w : World) (cs : List Value) (e : TypeId) : Blk (w.alloc (.cells cs.toArray e)) w.heap.size e cs := heap_alloc_new w _
theorem Blk.same {w w' : World} {g : Nat} {e : TypeId} {xs : List Value} (h : Blk w g e xs) (k : Same (fun b => b = g) w w') : Blk w' g e xs := by
  unfold Blk at h ⊢
  rw [k g rfl]; exact h
theorem ownsMap_same {H : Type} {w w' : World} {P : Program} {k : TypeId} {R : Value → Option (DataW H × List MemPlace)} {b n : Nat} {D : DataW H} (h : w.ownsMap P k R b n D) (hs : Same (fun x => x = b) w w') : w'.ownsMap P k R b n D := by
  obtain ⟨es, clock, hb, F, hn, hD⟩ := h
  exact ⟨es, clock, (hs b rfl).trans hb, F, hn, hD⟩

/-! ## numbers -/
/-- v is a slice of numbers. -/
def RdI (w : World) (v : Value) (zs : List Int) : Prop := Rdv 1 w v zs.length (zs.map (Value.int .i64))
/-- v is a slice of numbers of the call's own. -/
def OwnI (B : Nat) (w : World) (v : Value) (zs : List Int) : Prop := Ownv B 3 1 w v zs.length (zs.map (Value.int .i64))
/-- Numbers that are int's. -/
def I64 (z : Int) : Prop := -9223372036854775808 ≤ z ∧ z ≤ 9223372036854775807

theorem RdI.kept {w w' : World} {v : Value} {zs : List Int} (h : RdI w v zs) (k : Kept w w') : RdI w' v zs := Rdv.kept h k
theorem OwnI.rd {B : Nat} {w : World} {v : Value} {zs : List Int} (h : OwnI B w v zs) : RdI w v zs := Ownv.rdv h
theorem RdI.nil (w : World) : RdI w (.slice none 0 0) [] := ⟨none, 0, rfl, rfl, Nat.le_refl _, Nat.zero_le _, fun _ => rfl, fun _ h => by cases h⟩
theorem OwnI.nil (B : Nat) (w : World) : OwnI B w (.slice none 0 0) [] := World.ownsRow_nil w B _ 1
theorem RdI.len {w : World} {v : Value} {zs : List Int} (h : RdI w v zs) : ∃ a cap, v = .slice a zs.length cap ∧ zs.length ≤ cap ∧ cap ≤ maxLen ∧ (a = none → cap = 0) := by
  obtain ⟨a, cap, rfl, _, h2, h3, h4, _⟩ := h
  exact ⟨a, cap, rfl, h2, h3, h4⟩
theorem RdI.addr {w : World} {v : Value} {zs : List Int} (h : RdI w v zs) (hp : 0 < zs.length) :
    ∃ b off cap, v = .slice (some ⟨b, off, none⟩) zs.length cap ∧ zs.length ≤ cap ∧ cap ≤ maxLen ∧ b < w.heap.size ∧ ∀ i, i < zs.length → w.cell? ⟨b, off + i, none⟩ = some (.int .i64 (zs.getD i 0)) := by
  obtain ⟨ao, cap, rfl, hl, hc, hm, hno, hcell⟩ := h
  cases ao with
  | none => have := hno rfl; omega
  | some ad =>
    obtain ⟨b, off, spot⟩ := ad
    have hg : ∀ i, i < zs.length → w.cell? ((⟨b, off, spot⟩ : Addr).add i) = some (.int .i64 (zs.getD i 0)) := by
      intro i hi
      refine hcell _ rfl i _ ?_
      simp [List.getD, List.getElem?_eq_getElem hi]
    have h0 := hg 0 hp
    obtain rfl : spot = none := by simpa [Addr.add] using World.cell?_spot h0
    refine ⟨b, off, cap, rfl, hc, hm, World.block_lt_of_cell? _ _ h0, fun i hi => ?_⟩
    have := hg i hi
    rwa [Addr.add_lit] at this

theorem Tryd.infoInt : (Tryd.prog.info? 3).map (fun i => (i.zero, i.size, i.bytes)) = some (some (.int .i64 0), 1, 8) := by kernel_rfl

/-- append to a row of the call's own: what comes lies in the old row or in a new one. -/
theorem go_app_at {P : Program} {w : World} {ops : Array Oper} {rest : List Oper} {a : Act} {Q : Exit → Act → World → Prop} {d : Option Tmp} {ty : TypeId} {ps : String} {af : Array Edge}
    {s x : Operand} {t : TypeId} (B : Nat) (e : TypeId) (size bytes : Nat) (i : TypeInfo) (z : Value) (ht : P.underlying t = some (.slice e)) (hi : P.info? e = some i) (hz : i.zero = some z)
    (hsize : i.size = size) (hby : i.bytes = bytes) (hzs : z.cells.size = size) (hsz : 0 < size)
    (v : Value) (n : Nat) (xs : List Value) (hs : a.eval s = v) (ho : Ownv B e size w v n xs)
    (u : Value) (m : Nat) (news : List Value) (hx : a.eval x = u) (hr : Rdv size w u m news) (h1 : ∀ u ∈ news, u.oneCell' = true)
    (h63 : n + m ≤ maxLen) (hbytes : (n + m) * bytes ≤ 140737488355328) (hB : B ≤ w.heap.size)
    (hK : ∀ v' w', Ownv B e size w' v' (n + m) (xs ++ news) → Turn (Blks v) w w' → (∀ b, Blks v' b → Blks v b ∨ w.heap.size ≤ b) → wpList P ops Q rest (a.put d v') w') :
    wpList P ops Q (⟨d, .call { callee := .builtin .append, args := #[s, x], argTypes := #[t, t] }, ty, ps, af, none⟩ :: rest) a w := by
  obtain ⟨ao, cap, rfl, hl, hc, hm, hno, hcell⟩ := hr
  cases ao with
  | none =>
    obtain rfl := hno rfl
    obtain rfl : m = 0 := by omega
    obtain rfl : news = [] := List.eq_nil_of_length_eq_zero (by simpa using hl)
    refine wpList_append_own_none rfl s x t rfl B e i size ht hi v n xs hs ho hx ?_
    exact hK v w (by simpa using ho) (Turn.refl _ _) (fun b hb => .inl hb)
  | some ad =>
    refine wpList_append_own_at w rfl s x t rfl B e i z size bytes ht hi hz hsize hby hzs hsz v n xs hs ho ad m cap news hx hl (hcell ad rfl) h1 h63 hbytes hB ?_
    intro v' w' ho' hg _ hloc
    exact hK v' w' ho' ((Grown.turn hg).mono fun b hb => hb.symm) (fun b hb => by
      rcases hloc with h | h
      · exact .inl (h.symm.trans hb)
      · rw [Blks, h] at hb
        simp only [Option.some.injEq] at hb
        exact .inr (by omega))

/-- append to numbers of the call's own. -/
theorem go_appi {w : World} {ops : Array Oper} {rest : List Oper} {a : Act} {Q : Exit → Act → World → Prop} {d : Option Tmp} {ty : TypeId} {ps : String} {af : Array Edge} {s x : Operand}
    (B : Nat) (v : Value) (zs : List Int) (hs : a.eval s = v) (ho : OwnI B w v zs) (u : Value) (news : List Int) (hx : a.eval x = u) (hr : RdI w u news)
    (hl : zs.length + news.length ≤ 10000000000) (hB : B ≤ w.heap.size)
    (hK : ∀ v' w', OwnI B w' v' (zs ++ news) → Turn (Blks v) w w' → (∀ b, Blks v' b → Blks v b ∨ w.heap.size ≤ b) → wpList Tryd.prog ops Q rest (a.put d v') w') :
    wpList Tryd.prog ops Q (⟨d, .call { callee := .builtin .append, args := #[s, x], argTypes := #[23, 23] }, ty, ps, af, none⟩ :: rest) a w := by
  obtain ⟨i0, hi, hz0, hz1, hz2⟩ := info_parts Tryd.infoInt
  refine go_app_at B 3 1 8 i0 (.int .i64 0) Tryd.underlying23 hi hz0 hz1 hz2 rfl (by decide) v zs.length (zs.map (Value.int .i64)) hs ho u news.length (news.map (Value.int .i64)) hx hr (ones_int .i64 news) (by unfold maxLen; omega) (by omega) hB ?_
  intro v' w' ho' hg hloc
  exact hK v' w' (by unfold OwnI; simpa using ho') hg hloc
end Go.Proofs.YtangbnmgkcmhbaaDoor
end

section
/- Terms: what a node is, which may be, how it is found again; plain facts. Nothing here names a program. -/
set_option linter.unusedSimpArgs false
set_option linter.unusedVariables false
namespace Go.Proofs.YtangbnmgkcmhbaaDoor
open Go

/-- A node. -/
structure Nd where
  op : Int
  n : Int
  s : List UInt8
  l : List Int
  deriving DecidableEq

def nd0 : Nd := ⟨0, 0, [], []⟩

def kTab : List (List UInt8 × Int × Int) := [([], 0, 0), ([], 0, 0), ([], 0, 0), ([108, 105, 115, 116], 0, 64), ([104, 97, 115, 104], 1, 1), ([109, 105, 120], 2, 2), ([107, 101, 121], 3, 3), ([112, 117, 98], 1, 1),
  ([115, 101, 97, 108], 4, 4), ([101, 110, 99], 4, 4), ([115, 105, 103], 2, 2), ([109, 97, 99], 2, 2), ([98, 108, 105, 110, 100], 2, 2)]
def kName (op : Int) : List UInt8 := (kTab.getD op.toNat ([], 0, 0)).1
def kLeast (op : Int) : Int := (kTab.getD op.toNat ([], 0, 0)).2.1
def kMost (op : Int) : Int := (kTab.getD op.toNat ([], 0, 0)).2.2

/-- A node may be, where there are the terms ds. -/
structure May (ds : List Nd) (d : Nd) : Prop where
  op1 : 1 ≤ d.op
  op12 : d.op ≤ 12
  n0 : 0 ≤ d.n
  n1 : d.n = 0 ∨ d.op = 1
  s0 : d.s.length ≤ 200
  s1 : d.s = [] ∨ d.op = 2
  least : kLeast d.op ≤ d.l.length
  most : (d.l.length : Int) ≤ kMost d.op
  all : ∀ x ∈ d.l, 0 ≤ x ∧ x < ds.length
  key : d.op = 6 → (ds.getD (d.l.getD 1 0).toNat nd0).op = 2

theorem op_cases {o : Int} (h1 : 1 ≤ o) (h2 : o ≤ 12) : o = 1 ∨ o = 2 ∨ o = 3 ∨ o = 4 ∨ o = 5 ∨ o = 6 ∨ o = 7 ∨ o = 8 ∨ o = 9 ∨ o = 10 ∨ o = 11 ∨ o = 12 := by omega

theorem May.len64 {ds : List Nd} {d : Nd} (h : May ds d) : d.l.length ≤ 64 := by
  have := h.most
  rcases op_cases h.op1 h.op12 with e | e | e | e | e | e | e | e | e | e | e | e <;> rw [e] at this <;> simp [kMost, kTab] at this <;> (try rw [this]) <;> simp <;> omega
theorem May.nol {ds : List Nd} {d : Nd} (h : May ds d) (ho : d.op = 1 ∨ d.op = 2) : d.l = [] := by
  have := h.most
  rcases ho with e | e <;> rw [e] at this <;> simp [kMost, kTab] at this <;> exact this
theorem May.len3 {ds : List Nd} {d : Nd} (h : May ds d) (ho : d.op = 6) : d.l.length = 3 := by
  have h1 := h.most
  have h2 := h.least
  rw [ho] at h1 h2
  simp [kMost, kLeast, kTab] at h1 h2
  omega
theorem May.more {ds es : List Nd} {d : Nd} (h : May ds d) : May (ds ++ es) d :=
  { h with
    all := fun x hx => ⟨(h.all x hx).1, by have := (h.all x hx).2; rw [List.length_append]; omega⟩
    key := fun ho => by
      have hl := h.len3 ho
      have hx := h.all (d.l.getD 1 0) (by
        rw [List.getD_eq_getElem?_getD, List.getElem?_eq_getElem (show 1 < d.l.length by omega)]
        exact List.getElem_mem _)
      rw [← h.key ho]
      simp only [List.getD_eq_getElem?_getD]
      rw [List.getElem?_append_left (by simp only [List.getD_eq_getElem?_getD] at hx; omega)] }

/-! ## decimals -/
def isDig (c : UInt8) : Bool := decide (48 ≤ c.toNat) && decide (c.toNat ≤ 57)
def decVal (l : List UInt8) : Nat := l.foldl (fun a c => a * 10 + (c.toNat - 48)) 0

theorem dd_step {u : Nat} (h : ¬ u < 10) : Lib.decDigits u = Lib.decDigits (u / 10) ++ [UInt8.ofNat (48 + u % 10)] := by
  rw [Lib.decDigits, dif_neg h]
theorem ofNat_small {k : Nat} (h : k < 256) : (UInt8.ofNat k).toNat = k := by
  rw [UInt8.toNat_ofNat_of_lt' (by simpa using h)]
theorem dd_dig (u : Nat) : ∀ c ∈ Lib.decDigits u, isDig c = true := by
  induction u using Nat.strongRecOn with
  | ind u ih =>
    by_cases h : u < 10
    · rw [Lib.decDigits_one h]
      intro c hc
      obtain rfl : c = UInt8.ofNat (48 + u) := by simpa using hc
      simp [isDig, ofNat_small (show 48 + u < 256 by omega)]
      omega
    · rw [dd_step h]
      intro c hc
      rcases List.mem_append.1 hc with h1 | h1
      · exact ih _ (by omega) c h1
      · obtain rfl : c = UInt8.ofNat (48 + u % 10) := by simpa using h1
        simp only [isDig, ofNat_small (show 48 + u % 10 < 256 by omega)]
        simp
        omega
theorem dd_val (u : Nat) : decVal (Lib.decDigits u) = u := by
  induction u using Nat.strongRecOn with
  | ind u ih =>
    by_cases h : u < 10
    · rw [Lib.decDigits_one h]
      simp only [decVal, List.foldl_cons, List.foldl_nil, ofNat_small (show 48 + u < 256 by omega)]
      omega
    · have := ih (u / 10) (by omega)
      rw [dd_step h]
      unfold decVal at this ⊢
      rw [List.foldl_append, this]
      simp only [List.foldl_cons, List.foldl_nil, ofNat_small (show 48 + u % 10 < 256 by omega)]
      omega
theorem dd_inj {a b : Nat} (h : Lib.decDigits a = Lib.decDigits b) : a = b := by rw [← dd_val a, ← dd_val b, h]
theorem dd_pos (u : Nat) : 0 < (Lib.decDigits u).length := by
  by_cases h : u < 10
  · rw [Lib.decDigits_one h]; simp
  · rw [dd_step h]; simp

/-- Nothing, or no digit, comes first. -/
def NoDig (l : List UInt8) : Prop := ∀ c r, l = c :: r → isDig c = false
theorem noDig_nil : NoDig [] := fun c r h => by cases h
theorem noDig_cons {c : UInt8} (r : List UInt8) (h : isDig c = false) : NoDig (c :: r) := fun c' r' e => by cases e; exact h

theorem takeWhile_dig {x u : List UInt8} (hx : ∀ c ∈ x, isDig c = true) (hu : NoDig u) : (x ++ u).takeWhile isDig = x ∧ (x ++ u).dropWhile isDig = u := by
  induction x with
  | nil =>
    cases u with
    | nil => exact ⟨rfl, rfl⟩
    | cons c r =>
      have := hu c r rfl
      simp [List.takeWhile, List.dropWhile, this]
  | cons a x ih =>
    have h1 := hx a List.mem_cons_self
    obtain ⟨i1, i2⟩ := ih fun c hc => hx c (List.mem_cons_of_mem _ hc)
    simp only [List.cons_append, List.takeWhile_cons, List.dropWhile_cons, h1, if_true]
    exact ⟨by rw [i1], i2⟩

theorem dd_sep {a b : Nat} {u v : List UInt8} (hu : NoDig u) (hv : NoDig v) (h : Lib.decDigits a ++ u = Lib.decDigits b ++ v) : a = b ∧ u = v := by
  obtain ⟨h1, h2⟩ := takeWhile_dig (dd_dig a) hu
  obtain ⟨h3, h4⟩ := takeWhile_dig (dd_dig b) hv
  rw [h] at h1 h2
  exact ⟨dd_inj (h1.symm.trans h3), h2.symm.trans h4⟩
theorem itoa_of_nonneg {n : Int} (h : 0 ≤ n) : Lib.itoa n = Lib.decDigits n.toNat := by
  unfold Lib.itoa
  rw [if_neg (by omega)]
theorem itoa_sep {a b : Int} {u v : List UInt8} (ha : 0 ≤ a) (hb : 0 ≤ b) (hu : NoDig u) (hv : NoDig v) (h : Lib.itoa a ++ u = Lib.itoa b ++ v) : a = b ∧ u = v := by
  rw [itoa_of_nonneg ha, itoa_of_nonneg hb] at h
  obtain ⟨h1, h2⟩ := dd_sep hu hv h
  exact ⟨by omega, h2⟩

/-! ## a node's text among others: the program's -/
def partsKey (l : List Int) : List UInt8 := l.flatMap fun x => Lib.itoa x ++ [44]
def key (d : Nd) : List UInt8 := UInt8.ofNat d.op.toNat :: (if d.op = 1 then Lib.itoa d.n else if d.op = 2 then d.s else partsKey d.l)

theorem partsKey_cons (x : Int) (l : List Int) : partsKey (x :: l) = Lib.itoa x ++ 44 :: partsKey l := by simp [partsKey]
theorem partsKey_snoc (l : List Int) (x : Int) : partsKey (l ++ [x]) = partsKey l ++ (Lib.itoa x ++ [44]) := by simp [partsKey]
theorem partsKey_inj {l m : List Int} (hl : ∀ x ∈ l, 0 ≤ x) (hm : ∀ x ∈ m, 0 ≤ x) (h : partsKey l = partsKey m) : l = m := by
  induction l generalizing m with
  | nil =>
    cases m with
    | nil => rfl
    | cons y m => rw [partsKey_cons] at h; simp [partsKey] at h
  | cons x l ih =>
    cases m with
    | nil => rw [partsKey_cons] at h; simp [partsKey] at h
    | cons y m =>
      rw [partsKey_cons, partsKey_cons] at h
      obtain ⟨h1, h2⟩ := itoa_sep (hl x List.mem_cons_self) (hm y List.mem_cons_self) (noDig_cons _ (by decide)) (noDig_cons _ (by decide)) h
      simp only [List.cons.injEq, true_and] at h2
      rw [h1, ih (fun z hz => hl z (List.mem_cons_of_mem _ hz)) (fun z hz => hm z (List.mem_cons_of_mem _ hz)) h2]

theorem nd_ext {d e : Nd} (h1 : d.op = e.op) (h2 : d.n = e.n) (h3 : d.s = e.s) (h4 : d.l = e.l) : d = e := by
  cases d; cases e; simp_all

theorem key_inj {ds es : List Nd} {d e : Nd} (hd : May ds d) (he : May es e) (h : key d = key e) : d = e := by
  unfold key at h
  simp only [List.cons.injEq] at h
  obtain ⟨h1, h2⟩ := h
  have a1 := hd.op1; have a2 := hd.op12; have b1 := he.op1; have b2 := he.op12
  have ho : d.op = e.op := by
    have := congrArg UInt8.toNat h1
    rw [ofNat_small (by omega), ofNat_small (by omega)] at this
    omega
  rw [← ho] at h2
  by_cases c1 : d.op = 1
  · rw [if_pos c1, if_pos c1] at h2
    have hn : d.n = e.n := (itoa_sep (u := []) (v := []) hd.n0 he.n0 noDig_nil noDig_nil (by simpa using h2)).1
    have s1 : d.s = [] := hd.s1.resolve_right (by omega)
    have s2 : e.s = [] := he.s1.resolve_right (by omega)
    exact nd_ext ho hn (s1.trans s2.symm) ((hd.nol (.inl c1)).trans (he.nol (.inl (by omega))).symm)
  · have n1 : d.n = 0 := hd.n1.resolve_right c1
    have n2 : e.n = 0 := he.n1.resolve_right (by omega)
    rw [if_neg c1, if_neg c1] at h2
    by_cases c2 : d.op = 2
    · rw [if_pos c2, if_pos c2] at h2
      exact nd_ext ho (n1.trans n2.symm) h2 ((hd.nol (.inr c2)).trans (he.nol (.inr (by omega))).symm)
    · rw [if_neg c2, if_neg c2] at h2
      have s1 : d.s = [] := hd.s1.resolve_right c2
      have s2 : e.s = [] := he.s1.resolve_right (by omega)
      exact nd_ext ho (n1.trans n2.symm) (s1.trans s2.symm) (partsKey_inj (fun x hx => (hd.all x hx).1) (fun x hx => (he.all x hx).1) h2)

/-! ## a node's text among others: the document's -/
def partsKeyR (l : List Int) : List UInt8 := l.flatMap fun x => 32 :: Lib.itoa x
def keyR (d : Nd) : List UInt8 := Lib.itoa d.op ++ 32 :: (Lib.itoa d.n ++ 32 :: (Lib.itoa d.s.length ++ 32 :: (d.s ++ partsKeyR d.l)))
theorem partsKeyR_cons (x : Int) (l : List Int) : partsKeyR (x :: l) = 32 :: (Lib.itoa x ++ partsKeyR l) := by simp [partsKeyR]
theorem partsKeyR_snoc (l : List Int) (x : Int) : partsKeyR (l ++ [x]) = partsKeyR l ++ 32 :: Lib.itoa x := by simp [partsKeyR]
theorem noDig_partsR (l : List Int) : NoDig (partsKeyR l) := by
  cases l with
  | nil => exact noDig_nil
  | cons x l => rw [partsKeyR_cons]; exact noDig_cons _ (by decide)
theorem partsKeyR_inj {l m : List Int} (hl : ∀ x ∈ l, 0 ≤ x) (hm : ∀ x ∈ m, 0 ≤ x) (h : partsKeyR l = partsKeyR m) : l = m := by
  induction l generalizing m with
  | nil =>
    cases m with
    | nil => rfl
    | cons y m => rw [partsKeyR_cons] at h; simp [partsKeyR] at h
  | cons x l ih =>
    cases m with
    | nil => rw [partsKeyR_cons] at h; simp [partsKeyR] at h
    | cons y m =>
      rw [partsKeyR_cons, partsKeyR_cons] at h
      simp only [List.cons.injEq, true_and] at h
      obtain ⟨h1, h2⟩ := itoa_sep (hl x List.mem_cons_self) (hm y List.mem_cons_self) (noDig_partsR l) (noDig_partsR m) h
      rw [h1, ih (fun z hz => hl z (List.mem_cons_of_mem _ hz)) (fun z hz => hm z (List.mem_cons_of_mem _ hz)) h2]
theorem keyR_inj {ds es : List Nd} {d e : Nd} (hd : May ds d) (he : May es e) (h : keyR d = keyR e) : d = e := by
  unfold keyR at h
  have d1 := hd.op1; have e1 := he.op1
  obtain ⟨ho, h⟩ := itoa_sep (by omega) (by omega) (noDig_cons _ (by decide)) (noDig_cons _ (by decide)) h
  simp only [List.cons.injEq, true_and] at h
  obtain ⟨hn, h⟩ := itoa_sep hd.n0 he.n0 (noDig_cons _ (by decide)) (noDig_cons _ (by decide)) h
  simp only [List.cons.injEq, true_and] at h
  obtain ⟨hs, h⟩ := itoa_sep (by omega) (by omega) (noDig_cons _ (by decide)) (noDig_cons _ (by decide)) h
  simp only [List.cons.injEq, true_and] at h
  obtain ⟨hs', hl⟩ := List.append_inj h (by omega)
  exact nd_ext ho hn hs' (partsKeyR_inj (fun x hx => (hd.all x hx).1) (fun x hx => (he.all x hx).1) hl)

/-! ## an arena's terms -/
/-- The terms of an arena: each made of lesser ones, each once. -/
structure Good (ds : List Nd) : Prop where
  may : ∀ i, i < ds.length → May (ds.take i) (ds.getD i nd0)
  once : ∀ i j, i < ds.length → j < ds.length → ds.getD i nd0 = ds.getD j nd0 → i = j

theorem Good.nil : Good [] := ⟨fun i hi => by simp at hi, fun i j hi => by simp at hi⟩
theorem Good.may' {ds : List Nd} (h : Good ds) {i : Nat} (hi : i < ds.length) : May ds (ds.getD i nd0) := by
  have := (h.may i hi).more (es := ds.drop i)
  rwa [List.take_append_drop] at this
theorem Good.lesser {ds : List Nd} (h : Good ds) {i : Nat} (hi : i < ds.length) : ∀ x ∈ (ds.getD i nd0).l, 0 ≤ x ∧ x < i := fun x hx => by
  have := (h.may i hi).all x hx
  rw [List.length_take] at this
  omega
theorem getD_snoc (ds : List Nd) (d : Nd) (i : Nat) : (ds ++ [d]).getD i nd0 = if i < ds.length then ds.getD i nd0 else if i = ds.length then d else nd0 := by
  simp only [List.getD_eq_getElem?_getD]
  by_cases h : i < ds.length
  · rw [if_pos h, List.getElem?_append_left h]
  · rw [if_neg h, List.getElem?_append_right (by omega)]
    by_cases h2 : i = ds.length
    · simp [h2]
    · rw [if_neg h2, List.getElem?_eq_none (by simp; omega)]; rfl

/-- The number of the term that has this node. -/
def find (ds : List Nd) (d : Nd) : Option Nat := ds.findIdx? (fun e => decide (e = d))
theorem find_some {ds : List Nd} {d : Nd} {i : Nat} (h : find ds d = some i) : i < ds.length ∧ ds.getD i nd0 = d := by
  obtain ⟨h1, h2, _⟩ := List.findIdx?_eq_some_iff_getElem.1 h
  refine ⟨h1, ?_⟩
  rw [List.getD_eq_getElem?_getD, List.getElem?_eq_getElem h1]
  simpa using h2
theorem find_none {ds : List Nd} {d : Nd} (h : find ds d = none) : ∀ i, i < ds.length → ds.getD i nd0 ≠ d := by
  intro i hi e
  have := List.findIdx?_eq_none_iff.1 h (ds.getD i nd0) (by rw [List.getD_eq_getElem?_getD, List.getElem?_eq_getElem hi]; exact List.getElem_mem _)
  rw [e] at this
  simp at this
theorem Good.findAt {ds : List Nd} (h : Good ds) {d : Nd} {i : Nat} (hi : i < ds.length) (he : ds.getD i nd0 = d) : find ds d = some i := by
  cases hf : find ds d with
  | none => exact absurd he (find_none hf i hi)
  | some j =>
    obtain ⟨h1, h2⟩ := find_some hf
    rw [h.once j i h1 hi (h2.trans he.symm)]

theorem Good.snoc {ds : List Nd} (h : Good ds) {d : Nd} (hm : May ds d) (hf : find ds d = none) : Good (ds ++ [d]) := by
  refine ⟨fun i hi => ?_, fun i j hi hj he => ?_⟩
  · rw [getD_snoc]
    rw [List.length_append, List.length_singleton] at hi
    by_cases h1 : i < ds.length
    · rw [if_pos h1, List.take_append_of_le_length (by omega)]
      exact h.may i h1
    · obtain rfl : i = ds.length := by omega
      rw [if_neg h1, if_pos rfl, List.take_append_of_le_length (Nat.le_refl _), List.take_length]
      exact hm
  · rw [List.length_append, List.length_singleton] at hi hj
    rw [getD_snoc, getD_snoc] at he
    by_cases h1 : i < ds.length
    · rw [if_pos h1] at he
      by_cases h2 : j < ds.length
      · rw [if_pos h2] at he; exact h.once i j h1 h2 he
      · rw [if_neg h2, if_pos (by omega)] at he
        exact absurd he (find_none hf i h1)
    · rw [if_neg h1, if_pos (by omega)] at he
      by_cases h2 : j < ds.length
      · rw [if_pos h2] at he
        exact absurd he.symm (find_none hf j h2)
      · omega

/-- What Make does: the terms behind it, the term's number, the error. -/
noncomputable def mk (ds : List Nd) (d : Nd) : List Nd × Int × Int :=
  open Classical in
  if May ds d then
    match find ds d with
    | some i => (ds, i, 0)
    | none => if 100000 ≤ ds.length then (ds, 0, 2) else (ds ++ [d], ds.length, 0)
  else (ds, 0, 1)
theorem mk_bad {ds : List Nd} {d : Nd} (h : ¬ May ds d) : mk ds d = (ds, 0, 1) := by unfold mk; rw [if_neg h]
theorem mk_old {ds : List Nd} {d : Nd} (h : May ds d) {i : Nat} (hf : find ds d = some i) : mk ds d = (ds, (i : Int), 0) := by unfold mk; rw [if_pos h, hf]
theorem mk_full {ds : List Nd} {d : Nd} (h : May ds d) (hf : find ds d = none) (hl : 100000 ≤ ds.length) : mk ds d = (ds, 0, 2) := by unfold mk; rw [if_pos h, hf]; simp only [if_pos hl]
theorem mk_new {ds : List Nd} {d : Nd} (h : May ds d) (hf : find ds d = none) (hl : ¬ 100000 ≤ ds.length) : mk ds d = (ds ++ [d], (ds.length : Int), 0) := by unfold mk; rw [if_pos h, hf]; simp only [if_neg hl]
theorem good_mk {ds : List Nd} (h : Good ds) (d : Nd) : Good (mk ds d).1 := by
  by_cases hm : May ds d
  · cases hf : find ds d with
    | some i => rw [mk_old hm hf]; exact h
    | none =>
      by_cases hl : 100000 ≤ ds.length
      · rw [mk_full hm hf hl]; exact h
      · rw [mk_new hm hf hl]; exact h.snoc hm hf
  · rw [mk_bad hm]; exact h
theorem mk_le (ds : List Nd) (d : Nd) : ds.length ≤ (mk ds d).1.length ∧ (mk ds d).1.length ≤ ds.length + 1 := by
  by_cases hm : May ds d
  · cases hf : find ds d with
    | some i => rw [mk_old hm hf]; simp
    | none =>
      by_cases hl : 100000 ≤ ds.length
      · rw [mk_full hm hf hl]; simp
      · rw [mk_new hm hf hl]; simp
  · rw [mk_bad hm]; simp
end Go.Proofs.YtangbnmgkcmhbaaDoor
end

section
/- Nodes in memory; an arena in memory. -/
set_option linter.unusedSimpArgs false
set_option linter.unusedVariables false
namespace Go.Proofs.YtangbnmgkcmhbaaDoor
open Go.RowKit Go.Maps

def strB (s : List UInt8) : ByteArray := ⟨s.toArray⟩
theorem strB_toList (s : List UInt8) : (strB s).data.toList = s := rfl
theorem strB_list (s : List UInt8) : (strB s).toList = s := by rw [ByteArray.toList_eq]; rfl
theorem strB_size (s : List UInt8) : (strB s).size = s.length := by simp [strB, ByteArray.size]

/-- The cells of a node whose parts are the slice lv. -/
def ndCells (d : Nd) (lv : Value) : List Value := [.int .i64 d.op, .int .i64 d.n, .string (strB d.s), lv]
/-- The cells of many. -/
def flat : List Nd → List Value → List Value
  | [], _ => []
  | d :: ds, lvs => ndCells d (lvs.headD undef) ++ flat ds lvs.tail
theorem flat_length (ds : List Nd) (lvs : List Value) : (flat ds lvs).length = ds.length * 4 := by
  induction ds generalizing lvs with
  | nil => rfl
  | cons d ds ih => simp [flat, ndCells, ih]; omega
theorem flat_at (ds : List Nd) (lvs : List Value) (i j : Nat) (hi : i < ds.length) (hj : j < 4) : (flat ds lvs)[i * 4 + j]? = (ndCells (ds.getD i nd0) (lvs.getD i undef))[j]? := by
  induction ds generalizing lvs i with
  | nil => simp at hi
  | cons d ds ih =>
    cases i with
    | zero =>
      simp only [flat, Nat.zero_mul, Nat.zero_add]
      rw [List.getElem?_append_left (by simp [ndCells]; omega)]
      cases lvs <;> rfl
    | succ i =>
      simp only [flat]
      rw [List.getElem?_append_right (by simp [ndCells]; omega)]
      have e : (i + 1) * 4 + j - (ndCells d (lvs.headD undef)).length = i * 4 + j := by simp [ndCells]; omega
      rw [e, ih lvs.tail i (by simpa using hi)]
      cases lvs <;> simp
theorem flat_snoc (ds : List Nd) (lvs : List Value) (h : lvs.length = ds.length) (d : Nd) (lv : Value) : flat (ds ++ [d]) (lvs ++ [lv]) = flat ds lvs ++ ndCells d lv := by
  induction ds generalizing lvs with
  | nil =>
    cases lvs with
    | nil => simp [flat]
    | cons => simp at h
  | cons e ds ih =>
    cases lvs with
    | nil => simp at h
    | cons v lvs => simp [flat, ih lvs (by simpa using h)]

/-- An argument that is a node. -/
def RdN (w : World) (v : Value) (d : Nd) : Prop := ∃ lv, v = .agg #[.int .i64 d.op, .int .i64 d.n, .string (strB d.s), lv] ∧ RdI w lv d.l
/-- Nodes whose numbers are int's. -/
structure NdOk (d : Nd) : Prop where
  op : I64 d.op
  n : I64 d.n
  s : d.s.length ≤ maxLen
  l : ∀ x ∈ d.l, I64 x

/-- v is a slice of nodes. -/
def RdNs (w : World) (v : Value) (ds : List Nd) : Prop :=
  ∃ lvs : List Value, lvs.length = ds.length ∧ Rdv 4 w v ds.length (flat ds lvs) ∧ ∀ i, i < ds.length → RdI w (lvs.getD i undef) (ds.getD i nd0).l

theorem RdNs.kept {w w' : World} {v : Value} {ds : List Nd} (h : RdNs w v ds) (k : Kept w w') : RdNs w' v ds := by
  obtain ⟨lvs, h1, h2, h3⟩ := h
  exact ⟨lvs, h1, h2.kept k, fun i hi => (h3 i hi).kept k⟩

/-- What the map of an arena says: at the text of each node its number; of no other text anything. -/
def Idx {H : Type} (key : Nd → List UInt8) (ds : List Nd) (D : DataW H) : Prop :=
  (∀ i, i < ds.length → Maps.has D (.string (key (ds.getD i nd0))) = true ∧ D.atKey (.string (key (ds.getD i nd0))) (.lit (.int .i64 0)) = .lit (.int .i64 i)) ∧
  ∀ s, Maps.has D (.string s) = true → ∃ i, i < ds.length ∧ key (ds.getD i nd0) = s

/-- p is an arena with the terms ds; its memory is in F. -/
structure ArG (T : TypeId) (key : Nd → List UInt8) (F : Nat → Prop) (w : World) (p : Value) (ds : List Nd) : Prop where
  good : Good ds
  rep : ∃ (pb mb n : Nat) (nv : Value) (lvs : List Value) (D : DataW Unit), p = .pointer (some ⟨pb, 0, none⟩) ∧ Blk w pb T [nv, .map (some mb)] ∧
    Ownv 0 51 4 w nv ds.length (flat ds lvs) ∧ lvs.length = ds.length ∧ (∀ i, i < ds.length → OwnI 0 w (lvs.getD i undef) (ds.getD i nd0).l) ∧
    w.ownsMap Tryd.prog 9 (plainElem Tryd.prog 3) mb n D ∧ n ≤ ds.length ∧ Idx key ds D ∧
    F pb ∧ F mb ∧ (∀ b, Blks nv b → F b) ∧ ∀ i, i < ds.length → ∀ b, Blks (lvs.getD i undef) b → F b
  lt : ∀ b, F b → b < w.heap.size
  few : ds.length ≤ 100000
  oks : ∀ d ∈ ds, NdOk d

theorem ArG.same {T : TypeId} {key : Nd → List UInt8} {F : Nat → Prop} {w w' : World} {p : Value} {ds : List Nd} (h : ArG T key F w p ds) (k : Same F w w') (hl : w.heap.size ≤ w'.heap.size) : ArG T key F w' p ds := by
  refine ⟨h.good, ?_, fun b hb => Nat.lt_of_lt_of_le (h.lt b hb) hl, h.few, h.oks⟩
  obtain ⟨pb, mb, n, nv, lvs, D, h1, h2, h3, h4, h5, h6, h7, h8, h9, h10, h11, h12⟩ := h.rep
  exact ⟨pb, mb, n, nv, lvs, D, h1, h2.same (k.mono fun b e => by rw [e]; exact h9), h3.same (k.mono h11), h4, fun i hi => (h5 i hi).same (k.mono (h12 i hi)), ownsMap_same h6 (k.mono fun b e => by rw [e]; exact h10), h7, h8, h9, h10, h11, h12⟩
theorem ArG.turn {T : TypeId} {key : Nd → List UInt8} {F G : Nat → Prop} {w w' : World} {p : Value} {ds : List Nd} (h : ArG T key F w p ds) (k : Turn G w w') (hd : ∀ b, F b → ¬ G b) : ArG T key F w' p ds :=
  h.same (k.same h.lt hd) k.size
theorem ArG.kept {T : TypeId} {key : Nd → List UInt8} {F : Nat → Prop} {w w' : World} {p : Value} {ds : List Nd} (h : ArG T key F w p ds) (k : Kept w w') : ArG T key F w' p ds :=
  h.same (k.same h.lt) k.size

/-- The program's arena. -/
def Ar (F : Nat → Prop) (w : World) (p : Value) (ds : List Nd) : Prop := ArG 80 key F w p ds

theorem ArG.nodes {T : TypeId} {key : Nd → List UInt8} {F : Nat → Prop} {w : World} {p : Value} {ds : List Nd} (h : ArG T key F w p ds) :
    ∃ (pb mb : Nat) (nv : Value), p = .pointer (some ⟨pb, 0, none⟩) ∧ w.cell? ⟨pb, 0, none⟩ = some nv ∧ w.cell? ⟨pb, 1, none⟩ = some (.map (some mb)) ∧ RdNs w nv ds := by
  obtain ⟨pb, mb, n, nv, lvs, D, h1, h2, h3, h4, h5, h6, h7, h8, h9, h10, h11, h12⟩ := h.rep
  exact ⟨pb, mb, nv, h1, h2.cell 0, h2.cell 1, lvs, h4, h3.rdv, fun i hi => (h5 i hi).rd⟩
theorem RdNs.len {w : World} {v : Value} {ds : List Nd} (h : RdNs w v ds) : ∃ a cap, v = .slice a ds.length cap ∧ ds.length ≤ cap ∧ cap ≤ maxLen ∧ (a = none → cap = 0) := by
  obtain ⟨lvs, _, ⟨a, cap, rfl, _, h2, h3, h4, _⟩, _⟩ := h
  exact ⟨a, cap, rfl, h2, h3, h4⟩

/-- A slice of nodes that is not empty: its address, its cells. -/
theorem RdNs.addr {w : World} {v : Value} {ds : List Nd} (h : RdNs w v ds) (hp : 0 < ds.length) :
    ∃ b off cap, ∃ lvs : List Value, v = .slice (some ⟨b, off, none⟩) ds.length cap ∧ ds.length ≤ cap ∧ cap ≤ maxLen ∧ b < w.heap.size ∧
      (∀ i, i < ds.length → w.cell? ⟨b, off + i * 4, none⟩ = some (.int .i64 (ds.getD i nd0).op) ∧ w.cell? ⟨b, off + i * 4 + 1, none⟩ = some (.int .i64 (ds.getD i nd0).n) ∧
        w.cell? ⟨b, off + i * 4 + 2, none⟩ = some (.string (strB (ds.getD i nd0).s)) ∧ w.cell? ⟨b, off + i * 4 + 3, none⟩ = some (lvs.getD i undef)) ∧
      ∀ i, i < ds.length → RdI w (lvs.getD i undef) (ds.getD i nd0).l := by
  obtain ⟨lvs, hvs, ⟨ao, cap, rfl, hl, hc, hm, hno, hcell⟩, hr⟩ := h
  cases ao with
  | none => have := hno rfl; omega
  | some ad =>
    obtain ⟨b, off, spot⟩ := ad
    have h0 := hcell _ rfl 0 (.int .i64 (ds.getD 0 nd0).op) (by have := flat_at ds lvs 0 0 hp (by omega); simpa [ndCells] using this)
    obtain rfl : spot = none := by simpa [Addr.add] using World.cell?_spot h0
    have hg : ∀ i j u, i < ds.length → j < 4 → (ndCells (ds.getD i nd0) (lvs.getD i undef))[j]? = some u → w.cell? ⟨b, off + i * 4 + j, none⟩ = some u := by
      intro i j u hi hj hu
      have := hcell _ rfl (i * 4 + j) u ((flat_at ds lvs i j hi hj).trans hu)
      rw [Addr.add_lit] at this
      rwa [Nat.add_assoc]
    exact ⟨b, off, cap, lvs, rfl, hc, hm, World.block_lt_of_cell? _ _ h0, fun i hi => ⟨hg i 0 _ hi (by omega) rfl, hg i 1 _ hi (by omega) rfl, hg i 2 _ hi (by omega) rfl, hg i 3 _ hi (by omega) rfl⟩, hr⟩

theorem ownsMap_kept {H : Type} {w w' : World} {P : Program} {k : TypeId} {R : Value → Option (DataW H × List MemPlace)} {b n : Nat} {D : DataW H} (h : w.ownsMap P k R b n D) (t : Kept w w') : w'.ownsMap P k R b n D :=
  ownsMap_turn h (t.turn (fun _ => False)) (fun x => x)

/-- At the text of a node that is new, the map says its number. -/
theorem Idx.snoc {H : Type} {ky : Nd → List UInt8} {ds : List Nd} {D : DataW H} (h : Idx ky ds D) (hm : Maps.IsMap D) {d : Nd} (hne : ∀ i, i < ds.length → ky (ds.getD i nd0) ≠ ky d) :
    Idx ky (ds ++ [d]) (D.put (.string (ky d)) (.lit (.int .i64 ds.length))) := by
  have hk : WideAt.IsKeyLit (.string (ky d)) := by first | trivial | exact (by decide) | simp [WideAt.IsKeyLit]
  refine ⟨fun i hi => ?_, fun s hs => ?_⟩
  · rw [List.length_append, List.length_singleton] at hi
    rw [getD_snoc]
    by_cases c : i < ds.length
    · rw [if_pos c]
      obtain ⟨h1, h2⟩ := h.1 i c
      have hn : (Lit.string (ky (ds.getD i nd0))) ≠ Lit.string (ky d) := fun e => hne i c (by injection e)
      exact ⟨by rw [has_put_other hn]; exact h1, by rw [atKey_put_other hn]; exact h2⟩
    · obtain rfl : i = ds.length := by omega
      rw [if_neg c, if_pos rfl]
      exact ⟨has_put_same hm hk _, atKey_put_same hm hk _ _⟩
  · by_cases c : s = ky d
    · exact ⟨ds.length, by simp, by rw [getD_snoc, if_neg (by omega), if_pos rfl, c]⟩
    · rw [has_put_other (fun e => c (by injection e))] at hs
      obtain ⟨i, hi, he⟩ := h.2 s hs
      exact ⟨i, by rw [List.length_append]; omega, by rw [getD_snoc, if_pos hi, he]⟩

theorem getD_snoc_v (l : List Value) (v : Value) (i : Nat) : (l ++ [v]).getD i undef = if i < l.length then l.getD i undef else if i = l.length then v else undef := by
  simp only [List.getD_eq_getElem?_getD]
  by_cases h : i < l.length
  · rw [if_pos h, List.getElem?_append_left h]
  · rw [if_neg h, List.getElem?_append_right (by omega)]
    by_cases h2 : i = l.length
    · simp [h2]
    · rw [if_neg h2, List.getElem?_eq_none (by simp; omega)]; rfl

/-- What a new node makes of an arena. -/
theorem arg_grow {T : TypeId} {ky : Nd → List UInt8} {F : Nat → Prop} {w w4 w6 w7 : World} {pb mb n : Nat} {nv nv' lv3 : Value} {lvs : List Value} {D : DataW Unit} {ds : List Nd} {d : Nd}
    (good : Good ds) (hlen : ds.length < 100000) (hoks : ∀ d ∈ ds, NdOk d) (hok : NdOk d) (hm : May ds d) (hf : find ds d = none) (hinj : ∀ i, i < ds.length → ky (ds.getD i nd0) ≠ ky d) (hT : T ≠ 3 ∧ T ≠ 51)
    (h2 : Blk w pb T [nv, .map (some mb)]) (h3 : Ownv 0 51 4 w nv ds.length (flat ds lvs)) (h4 : lvs.length = ds.length) (h5 : ∀ i, i < ds.length → OwnI 0 w (lvs.getD i undef) (ds.getD i nd0).l)
    (h6 : w.ownsMap Tryd.prog 9 (plainElem Tryd.prog 3) mb n D) (h7 : n ≤ ds.length) (h8 : Idx ky ds D) (h9 : F pb) (h10 : F mb) (h11 : ∀ b, Blks nv b → F b) (h12 : ∀ i, i < ds.length → ∀ b, Blks (lvs.getD i undef) b → F b)
    (hlt : ∀ b, F b → b < w.heap.size) (kw4 : Kept w w4) (t6 : Turn (fun b => Blks nv b ∨ b = pb) w4 w6) (g6 : Blk w6 pb T [nv', .map (some mb)])
    (o6 : Ownv 0 51 4 w6 nv' (ds.length + 1) (flat ds lvs ++ ndCells d lv3)) (hnv : ∀ b, Blks nv' b → Blks nv b ∨ w.heap.size ≤ b) (a6 : OwnI 0 w6 lv3 d.l) (hlv : ∀ b, Blks lv3 b → w.heap.size ≤ b)
    (own7 : w7.ownsMap Tryd.prog 9 (plainElem Tryd.prog 3) mb (n + 1) (D.put (.string (ky d)) (.lit (.int .i64 ds.length)))) (m6 : w6.ownsMap Tryd.prog 9 (plainElem Tryd.prog 3) mb n D) (t7 : Turn (fun b => b = mb) w6 w7) :
    ∃ F' : Nat → Prop, ArG T ky F' w7 (.pointer (some ⟨pb, 0, none⟩)) (ds ++ [d]) ∧ Turn F w w7 ∧ ∀ b, F' b → F b ∨ w.heap.size ≤ b := by
  have hn4 := h3.kept kw4
  have hg4 := h2.kept kw4
  refine ⟨fun b => F b ∨ (w.heap.size ≤ b ∧ b < w7.heap.size), ⟨good.snoc hm hf, ⟨pb, mb, n + 1, nv', lvs ++ [lv3], _, rfl, g6.turn t7 (ownsMap_notBlk' m6 g6), ?_, ?_, ?_, own7, ?_, h8.snoc m6.isMap hinj, .inl h9, .inl h10, ?_, ?_⟩, ?_, by simp; omega, fun x hx => (List.mem_append.1 hx).elim (hoks x) (fun e => by rw [List.mem_singleton.1 e]; exact hok)⟩, ?_, ?_⟩
  · rw [flat_snoc ds lvs h4, List.length_append, List.length_singleton]
    exact o6.turn t7 (fun b hb hc => ownsMap_notBlk m6 o6 (hc ▸ hb))
  · simp [h4]
  · intro i hi
    rw [List.length_append, List.length_singleton] at hi
    rw [getD_snoc, getD_snoc_v, h4]
    by_cases c : i < ds.length
    · rw [if_pos c, if_pos c]
      have x4 : OwnI 0 w4 _ _ := Ownv.kept (h5 i c) kw4
      have x6 : OwnI 0 w6 _ _ := x4.turn t6 (fun b hb hc => hc.elim (Ownv.apart x4 hn4 (by decide) hb) (fun e => Ownv.notBlk x4 hg4 hT.1.symm (e ▸ hb)))
      exact x6.turn t7 (fun b hb hc => ownsMap_notBlk m6 x6 (hc ▸ hb))
    · obtain rfl : i = ds.length := by omega
      rw [if_neg c, if_neg c, if_pos rfl, if_pos rfl]
      exact a6.turn t7 (fun b hb hc => ownsMap_notBlk m6 a6 (hc ▸ hb))
  · rw [List.length_append]; simp; exact h7
  · intro b hb
    rcases hnv b hb with c | c
    · exact .inl (h11 b c)
    · exact .inr ⟨c, Nat.lt_of_lt_of_le (o6.lt hb).1 t7.size⟩
  · intro i hi b hb
    rw [List.length_append, List.length_singleton] at hi
    rw [getD_snoc_v, h4] at hb
    by_cases c : i < ds.length
    · rw [if_pos c] at hb
      exact .inl (h12 i c b hb)
    · obtain rfl : i = ds.length := by omega
      rw [if_neg c, if_pos rfl] at hb
      exact .inr ⟨hlv b hb, Nat.lt_of_lt_of_le (Ownv.lt a6 hb).1 t7.size⟩
  · intro b hb
    have hs : w.heap.size ≤ w7.heap.size := Nat.le_trans (Nat.le_trans kw4.size t6.size) t7.size
    rcases hb with hb | hb
    · exact Nat.lt_of_lt_of_le (hlt b hb) hs
    · exact hb.2
  · exact (((kw4.turn F).trans t6 (fun x hx => .inl (hx.elim (h11 x) (fun e => e ▸ h9)))).trans t7 (fun x hx => .inl (hx ▸ h10)))
  · intro b hb
    exact hb.elim .inl (fun x => .inr x.1)
end Go.Proofs.YtangbnmgkcmhbaaDoor
end

section
/- What comes in: numbers, nodes. -/
set_option linter.unusedSimpArgs false
set_option linter.unusedVariables false
set_option maxRecDepth 100000
namespace Go.Proofs.YtangbnmgkcmhbaaDoor
open Go.RowKit Go.ChangeShapes Go.WideShapes Go.ChangeAt

theorem cells_of_ints {H : Type} {enc : TypeId × Value → H} {W : World} {base : Nat} {sp : Nat → Bool} {held : Bool} {fuel : Nat} {v : Value} {x : DataW H × List MemPlace} (h : DataW.trod enc Tryd.prog W base sp held fuel 23 [v] = some x) :
    ∃ zs : List Int, RdI W v zs ∧ ∀ z ∈ zs, I64 z := by
  rcases open_ints Tryd.underlying23 Tryd.underlying3 (by kernel_rfl) h with ⟨hcs, _⟩ | ⟨a, len, cap, zs, hcs, _, hl, hm, hz, _, hcell, hw⟩
  · simp only [List.cons.injEq, and_true] at hcs
    subst hcs
    exact ⟨[], RdI.nil W, fun z hz => by cases hz⟩
  · simp only [List.cons.injEq, and_true] at hcs
    subst hcs
    have hlz : len ≤ zs.length := by rw [hz]; split <;> omega
    have e : (zs.take len).length = len := by rw [List.length_take]; omega
    refine ⟨zs.take len, ?_, fun z hz' => bounds_i64 (hw z (List.mem_of_mem_take hz'))⟩
    unfold RdI
    rw [e]
    refine ⟨some a, cap, rfl, by simp [e]; omega, hl, hm, (fun h => by cases h), fun ad had j u hj => ?_⟩
    cases had
    have hjl : j < len := by
      have := (List.getElem?_eq_some_iff.1 hj).1
      simp at this; omega
    rw [hcell j (by omega), ← hj]
    simp [List.getElem?_take, hjl, List.getD, List.getElem?_eq_getElem (show j < zs.length by omega)]

theorem open_numbers {H : Type} {enc : TypeId × Value → H} {W : World} {base : Nat} {v : Value} {d : DataW H} {p : List MemPlace} (hv : Value.okWide Tryd.prog W .any base 23 v)
    (h : DataW.Trod enc Tryd.prog W 0 (fun _ => true) true 23 v d p) : ∃ zs : List Int, RdI W v zs ∧ ∀ z ∈ zs, I64 z := by
  obtain ⟨a, len, cap, rfl⟩ := okWide_slice Tryd.underlying23 hv
  obtain ⟨fuel, hf⟩ := h
  exact cells_of_ints hf

theorem Tryd.nodeStruct : ∃ fs : Array Field, Tryd.prog.underlying 51 = some (.struct fs) ∧ (fs[0]?.map fun f => (f.type, f.offset)) = some (3, 0) ∧ (fs[1]?.map fun f => (f.type, f.offset)) = some (3, 1) ∧
    (fs[2]?.map fun f => (f.type, f.offset)) = some (9, 2) ∧ (fs[3]?.map fun f => (f.type, f.offset)) = some (23, 3) := ⟨_, Tryd.underlying51, rfl, rfl, rfl, rfl⟩
theorem Tryd.nodeCells : Tryd.prog.cellsOf 51 = 4 := by kernel_rfl

/-- One node's cells. -/
theorem cells_of_node {H : Type} {enc : TypeId × Value → H} {W : World} {base : Nat} {sp : Nat → Bool} {held : Bool} {fuel : Nat} {cs : List Value} {x : DataW H × List MemPlace} (h : DataW.trod enc Tryd.prog W base sp held fuel 51 cs = some x) :
    ∃ (d : Nd) (lv : Value), cs = ndCells d lv ∧ RdI W lv d.l ∧ NdOk d := by
  obtain ⟨fs, hst, f0, f1, f2, f3⟩ := Tryd.nodeStruct
  obtain ⟨ys, m, rfl, hy, hl, hyl, hall⟩ := DataW.trod_struct hst h
  rw [Tryd.nodeCells] at hl
  obtain ⟨v0, v1, v2, v3, rfl⟩ : ∃ v0 v1 v2 v3, cs = [v0, v1, v2, v3] := by
    match cs, hl with
    | [a, b, c, d], _ => exact ⟨a, b, c, d, rfl⟩
  obtain ⟨g0, hg0, e0⟩ := Option.map_eq_some_iff.1 f0
  obtain ⟨g1, hg1, e1⟩ := Option.map_eq_some_iff.1 f1
  obtain ⟨g2, hg2, e2⟩ := Option.map_eq_some_iff.1 f2
  obtain ⟨g3, hg3, e3⟩ := Option.map_eq_some_iff.1 f3
  simp only [Prod.mk.injEq] at e0 e1 e2 e3
  have hsz : ∀ (j : Nat) (g : Field), fs[j]? = some g → ∃ y, ys[j]? = some y := fun j g hg => ⟨ys[j]'(by rw [hyl]; exact (Array.getElem?_eq_some_iff.1 hg).1), List.getElem?_eq_getElem _⟩
  obtain ⟨y0, hy0⟩ := hsz 0 g0 hg0
  obtain ⟨y1, hy1⟩ := hsz 1 g1 hg1
  obtain ⟨y2, hy2⟩ := hsz 2 g2 hg2
  obtain ⟨y3, hy3⟩ := hsz 3 g3 hg3
  have c1 : Tryd.prog.cellsOf 3 = 1 := by kernel_rfl
  have c2 : Tryd.prog.cellsOf 9 = 1 := by kernel_rfl
  have c3 : Tryd.prog.cellsOf 23 = 1 := by kernel_rfl
  have a0 := (hall 0 g0 hg0).trans hy0
  have a1 := (hall 1 g1 hg1).trans hy1
  have a2 := (hall 2 g2 hg2).trans hy2
  have a3 := (hall 3 g3 hg3).trans hy3
  rw [e0.1, e0.2, c1] at a0
  rw [e1.1, e1.2, c1] at a1
  rw [e2.1, e2.2, c2] at a2
  rw [e3.1, e3.2, c3] at a3
  simp only [List.drop_zero, List.drop_succ_cons, List.take_succ_cons, List.take_zero] at a0 a1 a2 a3
  obtain ⟨n0, q0, _, w0⟩ := DataW.trod_int Tryd.underlying3 a0
  obtain ⟨n1, q1, _, w1⟩ := DataW.trod_int Tryd.underlying3 a1
  obtain ⟨s, q2, _, w2⟩ := DataW.trod_string Tryd.underlying9 a2
  obtain ⟨zs, rd, h64⟩ := cells_of_ints a3
  simp only [List.cons.injEq, and_true] at q0 q1 q2
  subst q0 q1 q2
  refine ⟨⟨n0, n1, s.data.toList, zs⟩, v3, ?_, rd, ⟨bounds_i64 w0, bounds_i64 w1, ?_, h64⟩⟩
  · cases s; rfl
  · show s.data.toList.length ≤ maxLen
    have e : s.data.toList.length = s.size := Array.length_toList
    rw [e]; exact w2

/-- A slice of nodes that comes in. -/
theorem open_nodes {H : Type} {enc : TypeId × Value → H} {W : World} {base : Nat} {v : Value} {d : DataW H} {p : List MemPlace} (hv : Value.okWide Tryd.prog W .any base 22 v)
    (h : DataW.Trod enc Tryd.prog W 0 (fun _ => true) true 22 v d p) : ∃ ls : List Nd, RdNs W v ls ∧ ∀ d ∈ ls, NdOk d := by
  obtain ⟨a0, len0, cap0, rfl⟩ := okWide_slice Tryd.underlying22 hv
  obtain ⟨fuel, hf⟩ := h
  rcases Deep.open_slice Tryd.underlying22 hf with ⟨hcs, _⟩ | ⟨a, len, cap, m, n, D, Pl, hcs, _, hl, hm, hmm, _, hi⟩
  · simp [Value.cells] at hcs
    obtain ⟨rfl, rfl, rfl⟩ := hcs
    exact ⟨[], ⟨[], rfl, ⟨none, 0, rfl, rfl, Nat.le_refl _, Nat.zero_le _, fun _ => rfl, fun _ h => by cases h⟩, fun i hi => by simp at hi⟩, fun d hd => by cases hd⟩
  · simp [Value.cells] at hcs
    obtain ⟨rfl, rfl, rfl⟩ := hcs
    have hlm : len0 ≤ m := by rw [hmm]; split <;> omega
    have hel : ∀ i, ∃ (d : Nd) (lv : Value), i < len0 → (∀ j u, (ndCells d lv)[j]? = some u → W.cell? (a.add (i * 4 + j)) = some u) ∧ RdI W lv d.l ∧ NdOk d := by
      intro i
      by_cases c : i < len0
      · obtain ⟨cs', hc, ht⟩ := hi i (by omega)
        rw [Tryd.nodeCells] at hc
        obtain ⟨_, hcl, hat⟩ := World.cells?_some hc
        obtain ⟨d, lv, rfl, rd, ok⟩ := cells_of_node ht
        refine ⟨d, lv, fun _ => ⟨fun j u hj => ?_, rd, ok⟩⟩
        have hj4 : j < 4 := by
          have := (List.getElem?_eq_some_iff.1 hj).1
          simpa [ndCells] using this
        rw [← Go.Deep.add_add, hat j hj4, hj]
      · exact ⟨nd0, undef, fun h => absurd h c⟩
    obtain ⟨dd, ll, hdl⟩ : ∃ (dd : Nat → Nd) (ll : Nat → Value), ∀ i, i < len0 → (∀ j u, (ndCells (dd i) (ll i))[j]? = some u → W.cell? (a.add (i * 4 + j)) = some u) ∧ RdI W (ll i) (dd i).l ∧ NdOk (dd i) :=
      ⟨fun i => Classical.choose (hel i), fun i => Classical.choose (Classical.choose_spec (hel i)), fun i => Classical.choose_spec (Classical.choose_spec (hel i))⟩
    have gd : ∀ i, i < len0 → ((List.range len0).map dd).getD i nd0 = dd i := fun i hi => by simp [List.getD, List.getElem?_range hi]
    have gl : ∀ i, i < len0 → ((List.range len0).map ll).getD i undef = ll i := fun i hi => by simp [List.getD, List.getElem?_range hi]
    refine ⟨(List.range len0).map dd, ⟨(List.range len0).map ll, by simp, ?_, fun i hi => ?_⟩, fun d hd => ?_⟩
    · have el : ((List.range len0).map dd).length = len0 := by simp
      rw [el]
      refine ⟨some a, cap0, rfl, by rw [flat_length, el], hl, hm, (fun h => by cases h), fun ad had q u hq => ?_⟩
      cases had
      have hql : q < len0 * 4 := by
        have := (List.getElem?_eq_some_iff.1 hq).1
        rwa [flat_length, el] at this
      have hq2 : q = q / 4 * 4 + q % 4 := by omega
      have hi4 : q / 4 < len0 := by omega
      rw [hq2, flat_at _ _ (q / 4) (q % 4) (by rw [el]; exact hi4) (by omega), gd _ hi4, gl _ hi4] at hq
      rw [hq2]
      exact (hdl (q / 4) hi4).1 _ _ hq
    · have hi' : i < len0 := by simpa using hi
      rw [gd i hi', gl i hi']
      exact (hdl i hi').2.1
    · obtain ⟨i, hi, rfl⟩ := List.mem_map.1 hd
      exact (hdl i (List.mem_range.1 hi)).2.2
end Go.Proofs.YtangbnmgkcmhbaaDoor
end

section
/- Walks of package term: Len, has, New, allows. -/
set_option linter.unusedSimpArgs false
set_option linter.unusedVariables false
namespace Go.Proofs.YtangbnmgkcmhbaaDoor
open Go.RowKit Go.Maps

/-- The tables that the program reads. -/
structure Tabs (w : World) : Prop where
  pow : Lib.TabIs Tryd.prog w "internal/strconv.uint64pow10" .u64 Lib.pow10Tab
  kinds : ∀ o : Nat, o < 13 → w.cell? ⟨0, o * 3, none⟩ = some (.string (strB (kName o))) ∧ w.cell? ⟨0, o * 3 + 1, none⟩ = some (.int .i64 (kLeast o)) ∧ w.cell? ⟨0, o * 3 + 2, none⟩ = some (.int .i64 (kMost o))
theorem Tabs.kept {w w' : World} (h : Tabs w) (k : Kept w w') : Tabs w' := by
  refine ⟨Lib.tabBelow_of_tabIs h.pow w' k, fun o ho => ?_⟩
  obtain ⟨h1, h2, h3⟩ := h.kinds o ho
  have hb := World.block_lt_of_cell? _ _ h1
  exact ⟨(Below.cell k (p := ⟨0, o * 3, none⟩) hb).trans h1, (Below.cell k (p := ⟨0, o * 3 + 1, none⟩) hb).trans h2, (Below.cell k (p := ⟨0, o * 3 + 2, none⟩) hb).trans h3⟩

theorem arg_len {T : TypeId} {ky : Nd → List UInt8} {F : Nat → Prop} {w : World} {p : Value} {ds : List Nd} (h : ArG T ky F w p ds) :
    Calls Tryd.prog 47 #[p] w fun e w' => e = .returned (.int .i64 ds.length) ∧ w = w' := by
  obtain ⟨pb, mb, nv, rfl, c0, c1, hr⟩ := h.nodes
  obtain ⟨a, cap, rfl, _, _, _⟩ := hr.len
  go_enter Tryd.func47, Tryd.ntmps47
  go_wp2
  go_ret
  exact ⟨rfl, rfl⟩

theorem arg_has {T : TypeId} {ky : Nd → List UInt8} {F : Nat → Prop} {w : World} {p : Value} {ds : List Nd} (h : ArG T ky F w p ds) (t : Int) :
    Calls Tryd.prog 63 #[p, .int .i64 t] w fun e w' => e = .returned (.bool (decide (0 ≤ t ∧ t < ds.length))) ∧ w = w' := by
  by_cases h0 : 0 ≤ t
  · have hd : decide (t ≥ 0) = true := by simpa using h0
    go_enter Tryd.func63, Tryd.ntmps63
    go_wp2_with (go_at_call 47; refine (arg_len h).mono ?_; rintro e w' ⟨rfl, rfl⟩)
    go_ret
    exact ⟨by simp [h0], rfl⟩
  · go_enter Tryd.func63, Tryd.ntmps63
    go_wp2_with (go_at_call 47; refine (arg_len h).mono ?_; rintro e w' ⟨rfl, rfl⟩)
    go_ret
    exact ⟨by rw [decide_eq_false (p := 0 ≤ t) (by omega)]; rfl, rfl⟩
theorem arg_has_t {T : TypeId} {ky : Nd → List UInt8} {F : Nat → Prop} {w : World} {p : Value} {ds : List Nd} (h : ArG T ky F w p ds) {t : Int} (h0 : 0 ≤ t) (h1 : t < ds.length) :
    Calls Tryd.prog 63 #[p, .int .i64 t] w fun e w' => e = .returned (.bool true) ∧ w = w' :=
  (arg_has h t).mono fun e w' ⟨a, b⟩ => ⟨by rw [a, decide_eq_true ⟨h0, h1⟩], b⟩
theorem arg_has_f {T : TypeId} {ky : Nd → List UInt8} {F : Nat → Prop} {w : World} {p : Value} {ds : List Nd} (h : ArG T ky F w p ds) {t : Int} (h0 : ¬ (0 ≤ t ∧ t < ds.length)) :
    Calls Tryd.prog 63 #[p, .int .i64 t] w fun e w' => e = .returned (.bool false) ∧ w = w' :=
  (arg_has h t).mono fun e w' ⟨a, b⟩ => ⟨by rw [a, decide_eq_false h0], b⟩

/-- What a struct of an arena that was just made holds. -/
theorem arg_new {T : TypeId} {ky : Nd → List UInt8} (w : World) :
    ArG T ky (fun b => b = w.heap.size ∨ b = w.heap.size + 1) ((w.alloc (.map #[] 0)).alloc (.cells #[.slice none 0 0, .map (some w.heap.size)] T)) (.pointer (some ⟨w.heap.size + 1, 0, none⟩)) [] := by
  have hs : (w.alloc (.map #[] 0)).heap.size = w.heap.size + 1 := by simp
  refine ⟨Good.nil, ⟨w.heap.size + 1, w.heap.size, 0, .slice none 0 0, [], .map [], rfl, ?_, World.ownsRow_nil _ _ _ _, rfl, (fun i hi => by simp at hi), ?_, Nat.le_refl _, ⟨(fun i hi => by simp at hi), fun s hs => by simp [Maps.has] at hs⟩, .inr rfl, .inl rfl, (fun b hb => by cases hb), fun i hi => by simp at hi⟩, ?_, Nat.zero_le _, fun x hx => by cases hx⟩
  · have := heap_alloc_new (w.alloc (.map #[] 0)) (.cells #[.slice none 0 0, .map (some w.heap.size)] T)
    rw [hs] at this
    exact this
  · exact (World.ownsMap_made w _ _ _).alloc _
  · intro b hb
    rw [alloc_size, alloc_size]
    omega
theorem new_any (w : World) : Calls Tryd.prog 24 #[] w fun e w' => ∃ (F : Nat → Prop) (p : Value), e = .returned p ∧ Ar F w' p [] ∧ Kept w w' ∧ (∀ b, F b → w.heap.size ≤ b) ∧ p = .pointer (some ⟨w.heap.size + 1, 0, none⟩) := by
  have hmm := @run_makeMap Tryd.prog
  go_enter Tryd.func24, Tryd.ntmps24
  go_wp2
  go_ret
  exact ⟨fun b => b = w.heap.size ∨ b = w.heap.size + 1, .pointer (some ⟨w.heap.size + 1, 0, none⟩), rfl, arg_new w, ((Kept.refl w).alloc _).alloc _, fun b hb => (by omega), rfl⟩
end Go.Proofs.YtangbnmgkcmhbaaDoor
end

section
/- The tables that the rows list: what they hold when the call begins; a world that holds them. -/
set_option linter.unusedSimpArgs false
set_option linter.unusedVariables false
namespace Go.Proofs.YtangbnmgkcmhbaaDoor
open Go.RowKit Go.ChangeShapes Go.WideShapes

/-- What the rows list. -/
def laidAll : List (String × DataW Unit) := Rows.deduceMoreRow.laid

theorem Tryd.kindStruct : ∃ fs : Array Field, Tryd.prog.underlying 114 = some (.struct fs) ∧ (fs[0]?.map fun f => (f.type, f.offset)) = some (9, 0) ∧ (fs[1]?.map fun f => (f.type, f.offset)) = some (3, 1) ∧ (fs[2]?.map fun f => (f.type, f.offset)) = some (3, 2) := ⟨_, Tryd.underlying114, rfl, rfl, rfl⟩
theorem Tryd.kindCells : Tryd.prog.cellsOf 114 = 3 := by kernel_rfl
theorem Tryd.kindsCells : Tryd.prog.cellsOf 115 = 39 := by kernel_rfl
theorem Tryd.strCells : Tryd.prog.cellsOf 9 = 1 := by kernel_rfl
theorem Tryd.intCells : Tryd.prog.cellsOf 3 = 1 := by kernel_rfl
theorem kinds_data : (Rows.laid_cassock_term_kinds : DataW Unit) = .agg (kTab.map fun x => .agg [.lit (.string x.1), .lit (.int .i64 x.2.1), .lit (.int .i64 x.2.2)]) := rfl

theorem kinds_cells {W : World} (h : Lib.VarReads Tryd.prog W "cassock/term.kinds" Rows.laid_cassock_term_kinds) :
    ∀ o : Nat, o < 13 → W.cell? ⟨0, o * 3, none⟩ = some (.string (strB (kName o))) ∧ W.cell? ⟨0, o * 3 + 1, none⟩ = some (.int .i64 (kLeast o)) ∧ W.cell? ⟨0, o * 3 + 2, none⟩ = some (.int .i64 (kMost o)) := by
  obtain ⟨g, t, cs, fuel, p, h1, h2, h3, h4⟩ := h
  have hg : Tryd.prog.globalNamed "cassock/term.kinds" = some 0 := by kernel_rfl
  have hty : (Tryd.prog.globals[(0 : Nat)]?).map (·.type) = some 115 := by kernel_rfl
  obtain rfl := Option.some.inj (hg.symm.trans h1)
  obtain rfl := Option.some.inj (hty.symm.trans h2)
  have hcell : ∀ i v, cs.toList[i]? = some v → W.cell? ⟨0, i, none⟩ = some v := fun i v hv => by
    rw [World.var?_cell hg h3 i]; simpa using hv
  rw [kinds_data] at h4
  obtain ⟨fs, hst, f0, f1, f2⟩ := Tryd.kindStruct
  cases fuel with
  | zero => simp [DataW.trod] at h4
  | succ fuel =>
    simp only [DataW.trod, Tryd.underlying115, Tryd.kindCells, Tryd.kindsCells] at h4
    split at h4
    · obtain ⟨xs, hm, hx⟩ := Option.map_eq_some_iff.1 h4
      have hxs : xs.map (·.1) = kTab.map fun x => (.agg [.lit (.string x.1), .lit (.int .i64 x.2.1), .lit (.int .i64 x.2.2)] : DataW Unit) := by
        have := congrArg Prod.fst hx
        simpa using this
      intro o ho
      obtain ⟨b, hb, hf⟩ := Lib.mapM_at hm o o (by simp [ho])
      have hd : b.1 = .agg [.lit (.string (kName o)), .lit (.int .i64 (kLeast o)), .lit (.int .i64 (kMost o))] := by
        have h5 : (xs.map (·.1))[o]? = some b.1 := by simp [hb]
        rw [hxs, List.getElem?_map] at h5
        have hk : kTab[o]? = some (kTab.getD o ([], 0, 0)) := by
          rw [List.getD_eq_getElem?_getD, List.getElem?_eq_getElem (by simpa [kTab] using ho)]; rfl
        rw [hk] at h5
        simp only [Option.map_some, Option.some.injEq] at h5
        rw [← h5]
        rfl
      obtain ⟨ys, m, rfl, hy, hl, hyl, hall⟩ := DataW.trod_struct hst hf
      have hys : ys.map (·.1) = [.lit (.string (kName o)), .lit (.int .i64 (kLeast o)), .lit (.int .i64 (kMost o))] := by
        have := congrArg Prod.fst hy
        rw [hd] at this
        simpa using this.symm
      have hget : ∀ j v, ((cs.toList.drop (o * 3)).take 3)[j]? = some v → W.cell? ⟨0, o * 3 + j, none⟩ = some v := fun j v hv => by
        refine hcell _ _ ?_
        rw [List.getElem?_take] at hv
        split at hv
        · rw [List.getElem?_drop] at hv; exact hv
        · cases hv
      obtain ⟨g0, hg0, e0⟩ := Option.map_eq_some_iff.1 f0
      obtain ⟨g1, hg1, e1⟩ := Option.map_eq_some_iff.1 f1
      obtain ⟨g2, hg2, e2⟩ := Option.map_eq_some_iff.1 f2
      simp only [Prod.mk.injEq] at e0 e1 e2
      have a0 := hall 0 g0 hg0
      have a1 := hall 1 g1 hg1
      have a2 := hall 2 g2 hg2
      rw [e0.1, e0.2, Tryd.strCells] at a0
      rw [e1.1, e1.2, Tryd.intCells] at a1
      rw [e2.1, e2.2, Tryd.intCells] at a2
      have hl3 : ys.length = 3 := by simpa using congrArg List.length hys
      obtain ⟨y0, y1, y2, rfl⟩ : ∃ y0 y1 y2, ys = [y0, y1, y2] := by
        match ys, hl3 with
        | [a, b, c], _ => exact ⟨a, b, c, rfl⟩
      simp only [List.map_cons, List.map_nil, List.cons.injEq, and_true] at hys
      obtain ⟨q0, q1, q2⟩ := hys
      simp only [List.getElem?_cons_zero, List.getElem?_cons_succ] at a0 a1 a2
      obtain ⟨s, c0, r0, _⟩ := DataW.trod_string Tryd.underlying9 a0
      obtain ⟨n1, c1, r1, _⟩ := DataW.trod_int Tryd.underlying3 a1
      obtain ⟨n2, c2, r2, _⟩ := DataW.trod_int Tryd.underlying3 a2
      rw [r0] at q0
      rw [r1] at q1
      rw [r2] at q2
      simp only [DataW.lit.injEq, Lit.string.injEq, Lit.int.injEq, true_and] at q0 q1 q2
      have hs : s = strB (kName o) := by
        cases s with
        | mk data => unfold strB; rw [← q0]
      subst hs q1 q2
      generalize (cs.toList.drop (o * 3)).take 3 = es at hget c0 c1 c2
      refine ⟨?_, ?_, ?_⟩
      · have := hget 0 (.string (strB (kName o))) (by have := congrArg (·[0]?) c0; simpa [List.getElem?_take, List.getElem?_drop] using this)
        exact this
      · exact hget 1 _ (by have := congrArg (·[0]?) c1; simpa [List.getElem?_take, List.getElem?_drop] using this)
      · exact hget 2 _ (by have := congrArg (·[0]?) c2; simpa [List.getElem?_take, List.getElem?_drop] using this)
    · cases h4

theorem pow_data : (Rows.laid_internal_strconv_uint64pow10 : DataW Unit) = Lib.tabData .u64 Lib.pow10Tab := rfl
theorem pow_tab {W : World} (h : Lib.VarReads Tryd.prog W "internal/strconv.uint64pow10" Rows.laid_internal_strconv_uint64pow10) : Lib.TabIs Tryd.prog W "internal/strconv.uint64pow10" .u64 Lib.pow10Tab := by
  obtain ⟨g, t, cs, fuel, p, h1, h2, h3, h4⟩ := h
  have hg : Tryd.prog.globalNamed "internal/strconv.uint64pow10" = some 3 := by kernel_rfl
  have hty : (Tryd.prog.globals[(3 : Nat)]?).map (·.type) = some 157 := by kernel_rfl
  obtain rfl := Option.some.inj (hg.symm.trans h1)
  obtain rfl := Option.some.inj (hty.symm.trans h2)
  rw [pow_data] at h4
  unfold Lib.TabIs
  rw [h3, ← Lib.cells_of_tab Tryd.underlying157 Tryd.underlying149 (by kernel_rfl) (by kernel_rfl) h4]

theorem tabs_of_laid {W : World} (h : laidMetH Tryd.prog laidAll W) : Tabs W := by
  have h' : laidMet Tryd.prog laidAll W := h
  exact ⟨pow_tab (Lib.laidMet.reads h' (by simp [laidAll, Rows.deduceMoreRow])), kinds_cells (Lib.laidMet.reads h' (by simp [laidAll, Rows.deduceMoreRow]))⟩

/-- A world that holds the tables. -/
noncomputable def laidWorld (os : Os) : World := World.laidAll Tryd.prog os laidAll
theorem laidWorld_met (os : Os) (args : Array Value) : laidMetH Tryd.prog laidAll ((laidWorld os).forCall (fun _ _ => 0) ⟨#[], args, []⟩).memory :=
  laidMet_laidAll args (by kernel_rfl) (by kernel_rfl)
theorem laidWorld_shaped (os : Os) (args : Array Value) : ((laidWorld os).forCall (fun _ _ => 0) ⟨#[], args, []⟩).Shaped Tryd.prog :=
  World.shaped_of_ZipB (by kernel_rfl) (by kernel_rfl)
end Go.Proofs.YtangbnmgkcmhbaaDoor
end

/- Texts of one proof, put together: Base, Core, OpenB, Mem, MthM, PairK, MthS, MthQ. -/
import Derived.Test.YtdjfdobcjakmhaaDoorProg
import Derived.WalkKit
import Derived.WalkSpells
import Derived.WalkLawsBesides
import Derived.ProofKit
import Derived.OpenShut
import Derived.Below
import Derived.Lib.Hide
import Derived.Laws.AppendOwnNone
import Derived.Laws.BytesArg
import Derived.StillTactics
import Derived.Deep.QuietTactic
import Derived.BigQuiet
import Derived.Outline
import Derived.Laws.CopyOwn
import Derived.Laws.Rows
import Derived.Test.YtdjfdobcjakmhaaDoorRows
import Derived.Deep.Matrix
import Derived.JoinedCond
import Derived.SizedLaws
import Derived.ChangeOld
import Derived.Maps.OwnSet
import Derived.Maps.AppendAt
import Derived.Maps.RangeWalk
import Derived.LaidOnce
import Derived.IntWalk
import Derived.ChangeBears
import Derived.DeepKeys4
section
/- Base for the walks of this seat: slices of memory as lists of values (of bytes: as lists of numbers), what a call may leave unchanged, and laws for append, slicing, conversion and indexing over them. No function of the program is named here. -/
set_option linter.unusedSimpArgs false
set_option linter.unusedVariables false
namespace Go.Proofs.YtdjfdobcjakmhaaDoor
open Go.RowKit

/-- v is a slice of n elements of 'size' cells each; its cells are xs. -/
def Rdv (size : Nat) (w : World) (v : Value) (n : Nat) (xs : List Value) : Prop :=
  ∃ (a : Option Addr) (cap : Nat), v = .slice a n cap ∧ xs.length = n * size ∧ n ≤ cap ∧ cap ≤ maxLen ∧ (a = none → cap = 0) ∧
    ∀ ad, a = some ad → ∀ j u, xs[j]? = some u → w.cell? (ad.add j) = some u

/-- v is a slice of bytes, which are the numbers zs. -/
def Rd (w : World) (v : Value) (zs : List Int) : Prop := Rdv 1 w v zs.length (zs.map (Value.int .u8))

/-- v is a slice of the call's own (blocks from B on), or nil; its cells are xs. -/
def Ownv (B : Nat) (e : TypeId) (size : Nat) (w : World) (v : Value) (n : Nat) (xs : List Value) : Prop := w.ownsRow B e size v n xs

def Own (B : Nat) (e : TypeId) (w : World) (v : Value) (zs : List Int) : Prop := Ownv B e 1 w v zs.length (zs.map (Value.int .u8))

/-- Of what was there nothing has turned. -/
def Kept (w w' : World) : Prop := Below w.heap.size w w'

theorem Kept.refl (w : World) : Kept w w := Below.refl _ _
theorem Kept.size {w w' : World} (h : Kept w w') : w.heap.size ≤ w'.heap.size := Below.size h
theorem Kept.trans {a b c : World} (h : Kept a b) (k : Kept b c) : Kept a c := Below.trans h (Below.mono k (Below.size h))
theorem Kept.alloc {a w : World} (h : Kept a w) (o : Obj) : Kept a (w.alloc o) := Below.alloc h h.size o
theorem Kept.drew {a w : World} (h : Kept a w) : Kept a w.drew := Below.drew h
theorem Kept.trans' {a b c : World} (h : Kept a b) (k : Below a.heap.size b c) : Kept a c := Below.trans h k
theorem Kept.drewN {a w : World} (h : Kept a w) (n : Nat) : Kept a (w.drewN n) := ⟨h.os, h.tape, h.output, h.size, h.block⟩
theorem Kept.below {B : Nat} {a b c : World} (h : Kept a b) (k : Below B b c) (hB : a.heap.size ≤ B) : Kept a c := Below.trans h (Below.mono k hB)

theorem Rdv.kept {size n : Nat} {w w' : World} {v : Value} {xs : List Value} (h : Rdv size w v n xs) (k : Kept w w') : Rdv size w' v n xs := by
  obtain ⟨a, cap, rfl, h1, h2, h3, h4, h5⟩ := h
  refine ⟨a, cap, rfl, h1, h2, h3, h4, fun ad ha j u hj => ?_⟩
  have hc := h5 ad ha j u hj
  rw [Below.cell k (World.block_lt_of_cell? _ _ hc)]
  exact hc

theorem Rd.kept {w w' : World} {v : Value} {zs : List Int} (h : Rd w v zs) (k : Kept w w') : Rd w' v zs := Rdv.kept h k

theorem Ownv.rdv {B : Nat} {e : TypeId} {size n : Nat} {w : World} {v : Value} {xs : List Value} (h : Ownv B e size w v n xs) : Rdv size w v n xs := by
  rcases h.2 with ⟨rfl, rfl⟩ | ⟨g, cap, cur, rfl, hb, hg, hn, hm, hs, ht⟩
  · exact ⟨none, 0, rfl, h.1, Nat.le_refl _, Nat.zero_le _, fun _ => rfl, fun _ hh => by cases hh⟩
  · refine ⟨_, cap, rfl, h.1, hn, hm, (fun hh => by cases hh), fun ad hh j u hj => ?_⟩
    cases hh
    exact World.ownsRow.cells h rfl j u hj

theorem Own.rd {B : Nat} {e : TypeId} {w : World} {v : Value} {zs : List Int} (h : Own B e w v zs) : Rd w v zs := Ownv.rdv h

theorem Ownv.kept {B : Nat} {e : TypeId} {size n : Nat} {w w' : World} {v : Value} {xs : List Value} (h : Ownv B e size w v n xs) (k : Kept w w') : Ownv B e size w' v n xs := by
  refine ⟨h.1, ?_⟩
  rcases h.2 with hn | ⟨g, cap, cur, rfl, hb, hg, rest⟩
  · exact .inl hn
  · refine .inr ⟨g, cap, cur, rfl, hb, ?_, rest⟩
    rw [k.block g (Array.getElem?_eq_some_iff.1 hg).1]
    exact hg

theorem Own.kept {B : Nat} {e : TypeId} {w w' : World} {v : Value} {zs : List Int} (h : Own B e w v zs) (k : Kept w w') : Own B e w' v zs := Ownv.kept h k

theorem Ownv.mono {B B' : Nat} {e : TypeId} {size n : Nat} {w : World} {v : Value} {xs : List Value} (h : Ownv B e size w v n xs) (k : B' ≤ B) : Ownv B' e size w v n xs := by
  refine ⟨h.1, ?_⟩
  rcases h.2 with hn | ⟨g, cap, cur, rfl, hb, rest⟩
  · exact .inl hn
  · exact .inr ⟨g, cap, cur, rfl, Nat.le_trans k hb, rest⟩

theorem Own.mono {B B' : Nat} {e : TypeId} {w : World} {v : Value} {zs : List Int} (h : Own B e w v zs) (k : B' ≤ B) : Own B' e w v zs := Ownv.mono h k

theorem Own.nil (B : Nat) (e : TypeId) (w : World) : Own B e w (.slice none 0 0) [] := World.ownsRow_nil w B e 1
theorem Rd.nil (w : World) : Rd w (.slice none 0 0) [] := ⟨none, 0, rfl, rfl, Nat.le_refl _, Nat.zero_le _, fun _ => rfl, fun _ h => by cases h⟩

/-- Each value is one cell. -/
theorem ones_int (k : IntKind) (zs : List Int) : ∀ u ∈ zs.map (Value.int k), u.oneCell' = true := ints_oneCell k zs

/-- A row that is laid with just these cells. -/
theorem Ownv.lit {B : Nat} (e : TypeId) {w : World} (cs : List Value) (hB : B ≤ w.heap.size) (hm : cs.length ≤ maxLen) :
    Ownv B e 1 (w.alloc (.cells cs.toArray e)) (.slice (some ⟨w.heap.size, 0, none⟩) cs.length cs.length) cs.length cs :=
  ⟨by simp, .inr ⟨w.heap.size, cs.length, cs.toArray, rfl, hB, heap_alloc_new w _, Nat.le_refl _, hm, by simp, by simp⟩⟩

/-- append to a row of the call's own, from whatever slice. -/
theorem go_app {P : Program} {w : World} {ops : Array Oper} {rest : List Oper} {a : Act} {Q : Exit → Act → World → Prop} {d : Option Tmp} {ty : TypeId} {ps : String} {af : Array Edge}
    {s x : Operand} {t : TypeId} (B : Nat) (e : TypeId) (size bytes : Nat) (i : TypeInfo) (z : Value) (ht : P.underlying t = some (.slice e)) (hi : P.info? e = some i) (hz : i.zero = some z)
    (hsize : i.size = size) (hby : i.bytes = bytes) (hzs : z.cells.size = size) (hsz : 0 < size)
    (v : Value) (n : Nat) (xs : List Value) (hs : a.eval s = v) (ho : Ownv B e size w v n xs)
    (u : Value) (m : Nat) (news : List Value) (hx : a.eval x = u) (hr : Rdv size w u m news) (h1 : ∀ u ∈ news, u.oneCell' = true)
    (h63 : n + m ≤ maxLen) (hbytes : (n + m) * bytes ≤ 140737488355328) (hB : B ≤ w.heap.size)
    (hK : ∀ v' w', Ownv B e size w' v' (n + m) (xs ++ news) → Below B w w' → wpList P ops Q rest (a.put d v') w') :
    wpList P ops Q (⟨d, .call { callee := .builtin .append, args := #[s, x], argTypes := #[t, t] }, ty, ps, af, none⟩ :: rest) a w := by
  obtain ⟨ao, cap, rfl, hl, hc, hm, hno, hcell⟩ := hr
  cases ao with
  | none =>
    obtain rfl := hno rfl
    obtain rfl : m = 0 := by omega
    obtain rfl : news = [] := List.eq_nil_of_length_eq_zero (by simpa using hl)
    refine wpList_append_own_none rfl s x t rfl B e i size ht hi v n xs hs ho hx ?_
    exact hK v w (by simpa using ho) (Below.refl _ _)
  | some ad =>
    refine wpList_append_own w rfl s x t rfl B e i z size bytes ht hi hz hsize hby hzs hsz v n xs hs ho ad m cap news hx hl (hcell ad rfl) h1 h63 hbytes hB ?_
    intro v' w' ho' hg _
    exact hK v' w' ho' ((Below.refl B w).grown hg hB fun k hk => (World.ownsRow.lt ho k hk).1)

/-- What a slice of bytes says as a string. -/
theorem go_str_run {P : Program} {w : World} {src e : TypeId} (hs : P.underlying src = some (.slice e)) (he : P.underlying e = some (.int .u8)) {v : Value} {zs : List Int} (h : Rd w v zs) :
    ∀ dst, P.underlying dst = some .string → (convert src dst v).run P w = .ok (.string (strOfNums zs)) w := by
  intro dst hd
  obtain ⟨ao, cap, rfl, hl, hc, hm, hno, hcell⟩ := h
  cases ao with
  | none =>
    obtain rfl := hno rfl
    have hz : zs.length = 0 := by omega
    obtain rfl : zs = [] := List.eq_nil_of_length_eq_zero hz
    exact run_convert_bytes_nil w src e hs he _ _ dst hd
  | some ad =>
    rw [run_convert_bytes_string w src dst e _ _ _ hs he hd]
    have hl' : (loadCells ad zs.length).run P w = .ok (zs.map (Value.int .u8)).toArray w := by
      have := run_loadCells_list (P := P) w ad (zs.map (Value.int .u8)) (hcell ad rfl)
      simpa using this
    rw [run_bytesToString w ad zs.length cap zs hl', foldl_push_bytes]
    simp [strOfNums, ByteArray.empty, ByteArray.emptyWithCapacity]
    rfl

/-- The same as an operation. -/
theorem go_str {P : Program} {w : World} {ops : Array Oper} {rest : List Oper} {a : Act} {Q : Exit → Act → World → Prop} {d : Option Tmp} {ty : TypeId} {ps : String} {af : Array Edge}
    {src e dst : TypeId} {x : Operand} (hs : P.underlying src = some (.slice e)) (he : P.underlying e = some (.int .u8)) (hd : P.underlying dst = some .string) (v : Value) (zs : List Int)
    (hx : a.eval x = v) (h : Rd w v zs) (hK : wpList P ops Q rest (a.put d (.string (strOfNums zs))) w) :
    wpList P ops Q (⟨d, .convert src dst x, ty, ps, af, none⟩ :: rest) a w := by
  refine wpList_plain rfl fun K hK' => ?_
  have hrun := go_str_run hs he h dst hd
  unfold Oper.wp
  simp [execOp, hx, hrun, Result.andThen]
  exact hK' _ _ hK

/-- v[lo:hi], of a slice of bytes. -/
theorem Rd.cut {w : World} {a : Option Addr} {cap : Nat} {zs : List Int} (h : Rd w (.slice a zs.length cap) zs) {lo hi : Nat} (h1 : lo ≤ hi) (h2 : hi ≤ zs.length) :
    Rd w (sliced a lo hi cap 1) ((zs.take hi).drop lo) := by
  obtain ⟨ao, c, hv, hl, hc, hm, hno, hcell⟩ := h
  simp only [Value.slice.injEq] at hv
  obtain ⟨rfl, _, rfl⟩ := hv
  have hlen : ((zs.take hi).drop lo).length = hi - lo := by simp; omega
  unfold Rd sliced
  rw [hlen]
  refine ⟨_, _, rfl, by simp; omega, by omega, by omega, ?_, ?_⟩
  · intro h
    cases a with
    | none => have := hno rfl; omega
    | some ad =>
      split at h
      · omega
      · simp at h
  · intro ad had j u hj
    have hjl : j < hi - lo := by
      have := (List.getElem?_eq_some_iff.1 hj).1
      simp at this; omega
    rw [if_neg (by omega)] at had
    cases a with
    | none => simp at had
    | some a0 =>
      simp only [Nat.mul_one, Option.map_some, Option.some.injEq] at had
      subst had
      have e1 : (a0.add lo).add j = a0.add (lo + j) := by
        unfold Addr.add
        by_cases hlo : lo = 0
        · subst hlo; simp
        · by_cases hj0 : j = 0
          · subst hj0; simp
          · simp [hlo, hj0, Nat.add_assoc]
      rw [e1]
      refine hcell a0 rfl (lo + j) u ?_
      rw [← hj]
      simp [List.getElem?_drop, List.getElem?_take, show lo + j < hi by omega]

theorem Rd.len {w : World} {v : Value} {zs : List Int} (h : Rd w v zs) : ∃ a cap, v = .slice a zs.length cap ∧ zs.length ≤ cap ∧ cap ≤ maxLen ∧ (a = none → cap = 0) := by
  obtain ⟨a, cap, rfl, _, h2, h3, h4, _⟩ := h
  exact ⟨a, cap, rfl, h2, h3, h4⟩

/-- A slice of bytes that is not empty has an address, and its cells are there. -/
theorem Rd.addr {w : World} {v : Value} {zs : List Int} (h : Rd w v zs) (hp : 0 < zs.length) :
    ∃ b off cap, v = .slice (some ⟨b, off, none⟩) zs.length cap ∧ zs.length ≤ cap ∧ cap ≤ maxLen ∧ b < w.heap.size ∧ ∀ i, i < zs.length → w.cell? ⟨b, off + i, none⟩ = some (.int .u8 (zs.getD i 0)) := by
  obtain ⟨ao, cap, rfl, hl, hc, hm, hno, hcell⟩ := h
  cases ao with
  | none => have := hno rfl; omega
  | some ad =>
    obtain ⟨b, off, spot⟩ := ad
    have hg : ∀ i, i < zs.length → w.cell? ((⟨b, off, spot⟩ : Addr).add i) = some (.int .u8 (zs.getD i 0)) := by
      intro i hi
      refine hcell _ rfl i _ ?_
      simp [List.getD, List.getElem?_eq_getElem hi]
    have h0 := hg 0 hp
    obtain rfl : spot = none := by simpa [Addr.add] using World.cell?_spot h0
    refine ⟨b, off, cap, rfl, hc, hm, World.block_lt_of_cell? _ _ h0, fun i hi => ?_⟩
    have := hg i hi
    rwa [Addr.add_lit] at this

theorem Tryd.info5 : (Tryd.prog.info? 5).map (fun i => (i.zero, i.size, i.bytes)) = some (some (.int .u8 0), 1, 1) := by kernel_rfl

/-- append to bytes of the call's own. -/
theorem go_appb {w : World} {ops : Array Oper} {rest : List Oper} {a : Act} {Q : Exit → Act → World → Prop} {d : Option Tmp} {ty : TypeId} {ps : String} {af : Array Edge} {s x : Operand}
    (B : Nat) (v : Value) (zs : List Int) (hs : a.eval s = v) (ho : Own B 5 w v zs) (u : Value) (news : List Int) (hx : a.eval x = u) (hr : Rd w u news)
    (hl : zs.length + news.length ≤ 140737488355328) (hB : B ≤ w.heap.size)
    (hK : ∀ v' w', Own B 5 w' v' (zs ++ news) → Below B w w' → wpList Tryd.prog ops Q rest (a.put d v') w') :
    wpList Tryd.prog ops Q (⟨d, .call { callee := .builtin .append, args := #[s, x], argTypes := #[91, 91] }, ty, ps, af, none⟩ :: rest) a w := by
  obtain ⟨i0, hi, hz0, hz1, hz2⟩ := info_parts Tryd.info5
  refine go_app B 5 1 1 i0 (.int .u8 0) Tryd.underlying91 hi hz0 hz1 hz2 rfl (by decide) v zs.length (zs.map (Value.int .u8)) hs ho u news.length (news.map (Value.int .u8)) hx hr (ones_int .u8 news) (by unfold maxLen; omega) (by omega) hB ?_
  intro v' w' h1 h2
  exact hK v' w' (by unfold Own; simpa using h1) h2

/-- A literal of bytes. -/
theorem Own.lit {w : World} (zs : List Int) (hl : zs.length ≤ 140737488355328) :
    Own w.heap.size 5 (w.alloc (.cells (zs.map (Value.int .u8)).toArray 5)) (.slice (some ⟨w.heap.size, 0, none⟩) zs.length zs.length) zs := by
  have := Ownv.lit (B := w.heap.size) 5 (w := w) (zs.map (Value.int .u8)) (Nat.le_refl _) (by simp; unfold maxLen; omega)
  simpa [Own] using this

/-- v is a slice of bytes that lies below block B, wherever that is not empty: what is written from B on doesn't turn it. -/
def Old (B : Nat) (w : World) (v : Value) (zs : List Int) : Prop := ∃ w0 : World, w0.heap.size ≤ B ∧ Below B w0 w ∧ Rd w0 v zs

theorem Old.rd {B : Nat} {w : World} {v : Value} {zs : List Int} (h : Old B w v zs) : Rd w v zs := by
  obtain ⟨w0, h1, h2, h3⟩ := h
  exact h3.kept (Below.mono h2 h1)
theorem Old.below {B : Nat} {w w' : World} {v : Value} {zs : List Int} (h : Old B w v zs) (k : Below B w w') : Old B w' v zs := by
  obtain ⟨w0, h1, h2, h3⟩ := h
  exact ⟨w0, h1, h2.trans k, h3⟩
theorem Rd.old {w : World} {v : Value} {zs : List Int} (h : Rd w v zs) : Old w.heap.size w v zs := ⟨w, Nat.le_refl _, Below.refl _ _, h⟩
theorem Rd.old' {B : Nat} {w w' : World} {v : Value} {zs : List Int} (h : Rd w v zs) (hB : w.heap.size ≤ B) (k : Below B w w') : Old B w' v zs := ⟨w, hB, k, h⟩

/-- make([]byte, 0, n). -/
theorem go_mkb {w : World} {ops : Array Oper} {rest : List Oper} {a : Act} {Q : Exit → Act → World → Prop} {d : Option Tmp} {ty : TypeId} {ps : String} {af : Array Edge} {c : Operand}
    (n : Int) (hc : a.eval c = .int .i64 n) (h0 : 0 ≤ n) (h1 : n ≤ 140737488355328)
    (hK : ∀ v' w', Own w.heap.size 5 w' v' [] → Kept w w' → wpList Tryd.prog ops Q rest (a.put d v') w') :
    wpList Tryd.prog ops Q (⟨d, .makeSlice 91 (.const (.int .i64 0)) c, ty, ps, af, none⟩ :: rest) a w := by
  obtain ⟨i0, hi, hz0, hz1, hz2⟩ := info_parts Tryd.info5
  obtain ⟨k, rfl⟩ := Int.eq_ofNat_of_zero_le h0
  refine wpList_make_own w rfl (.const (.int .i64 0)) c 91 rfl w.heap.size 5 i0 (.int .u8 0) 1 Tryd.underlying91 hi hz0 hz1 .i64 .i64 k k rfl hc rfl (by rw [hz2]; omega) (by unfold maxLen; omega) (Nat.le_refl _) ?_
  intro w' ho hg
  exact hK _ w' ho ((Below.refl w.heap.size w).grown hg (Nat.le_refl _) fun k hk => by cases hk)

/-- make([]byte, n, n). -/
theorem go_mkf {w : World} {ops : Array Oper} {rest : List Oper} {a : Act} {Q : Exit → Act → World → Prop} {d : Option Tmp} {ty : TypeId} {ps : String} {af : Array Edge} {l c : Operand}
    (n : Nat) (hl : a.eval l = .int .i64 n) (hc : a.eval c = .int .i64 n) (h1 : n ≤ 140737488355328)
    (hK : ∀ w', Own w.heap.size 5 w' (.slice (some ⟨w.heap.size, 0, none⟩) n n) (List.replicate n 0) → Kept w w' → wpList Tryd.prog ops Q rest (a.put d (.slice (some ⟨w.heap.size, 0, none⟩) n n)) w') :
    wpList Tryd.prog ops Q (⟨d, .makeSlice 91 l c, ty, ps, af, none⟩ :: rest) a w := by
  obtain ⟨i0, hi, hz0, hz1, hz2⟩ := info_parts Tryd.info5
  refine wpList_make_full w rfl l c 91 rfl w.heap.size 5 i0 (.int .u8 0) 1 Tryd.underlying91 hi hz0 hz1 .i64 .i64 n n n hl hc rfl rfl (by rw [hz2]; omega) (by unfold maxLen; omega) (Nat.le_refl _) ?_
  intro w' ho hg
  refine hK w' ?_ ((Below.refl w.heap.size w).grown hg (Nat.le_refl _) fun k hk => by cases hk)
  unfold Own Ownv
  rw [List.length_replicate, List.map_replicate]
  simpa [toList_madeCells_one, Value.cells] using ho


theorem go_cut_lh {w : World} {ops : Array Oper} {rest : List Oper} {a : Act} {Q : Exit → Act → World → Prop} {d : Option Tmp} {ty : TypeId} {ps : String} {af : Array Edge} {x lo hi : Operand}
    (v : Value) (zs : List Int) (hx : a.eval x = v) (hr : Rd w v zs) (l h : Int) (hlo : a.eval lo = .int .i64 l) (hhi : a.eval hi = .int .i64 h) (h0 : 0 ≤ l) (hlh : l ≤ h) (hh : h ≤ zs.length)
    (hK : ∀ v', Rd w v' ((zs.take h.toNat).drop l.toNat) → wpList Tryd.prog ops Q rest (a.put d v') w) :
    wpList Tryd.prog ops Q (⟨d, .slice 91 x (some lo) (some hi) none, ty, ps, af, none⟩ :: rest) a w := by
  obtain ⟨b, cap, rfl, h1, h2, h3⟩ := hr.len
  refine wpList_plain rfl fun K hK' => ?_
  have hs : Tryd.prog.underlying 91 = some (.slice (Tryd.prog.elem 91)) := by kernel_rfl
  have hz : ∀ w, (sizeOf (Tryd.prog.elem 91)).run Tryd.prog w = .ok 1 w := fun w => by kernel_rfl
  have hrun := run_slice_lh w 91 b zs.length cap hs .i64 .i64 l h h0 hlh (by omega)
  rw [hz] at hrun
  simp only [Result.andThen] at hrun
  unfold Oper.wp
  simp [execOp, hx, hlo, hhi, run_sliceAt_slice, hs, hrun, Result.andThen]
  refine hK' _ _ (hK _ ?_)
  exact hr.cut (by omega) (by omega)

theorem go_cut_l {w : World} {ops : Array Oper} {rest : List Oper} {a : Act} {Q : Exit → Act → World → Prop} {d : Option Tmp} {ty : TypeId} {ps : String} {af : Array Edge} {x lo : Operand}
    (v : Value) (zs : List Int) (hx : a.eval x = v) (hr : Rd w v zs) (l : Int) (hlo : a.eval lo = .int .i64 l) (h0 : 0 ≤ l) (hh : l ≤ zs.length)
    (hK : ∀ v', Rd w v' (zs.drop l.toNat) → wpList Tryd.prog ops Q rest (a.put d v') w) :
    wpList Tryd.prog ops Q (⟨d, .slice 91 x (some lo) (none) none, ty, ps, af, none⟩ :: rest) a w := by
  obtain ⟨b, cap, rfl, h1, h2, h3⟩ := hr.len
  refine wpList_plain rfl fun K hK' => ?_
  have hs : Tryd.prog.underlying 91 = some (.slice (Tryd.prog.elem 91)) := by kernel_rfl
  have hz : ∀ w, (sizeOf (Tryd.prog.elem 91)).run Tryd.prog w = .ok 1 w := fun w => by kernel_rfl
  have hrun := run_slice_l w 91 b zs.length cap hs .i64 l h0 (by omega)
  rw [hz] at hrun
  simp only [Result.andThen] at hrun
  unfold Oper.wp
  simp [execOp, hx, hlo, run_sliceAt_slice, hs, hrun, Result.andThen]
  refine hK' _ _ (hK _ ?_)
  have := hr.cut (lo := l.toNat) (hi := zs.length) (by omega) (Nat.le_refl _)
  rwa [List.take_length] at this

theorem go_cut_h {w : World} {ops : Array Oper} {rest : List Oper} {a : Act} {Q : Exit → Act → World → Prop} {d : Option Tmp} {ty : TypeId} {ps : String} {af : Array Edge} {x hi : Operand}
    (v : Value) (zs : List Int) (hx : a.eval x = v) (hr : Rd w v zs) (h : Int) (hhi : a.eval hi = .int .i64 h) (h0 : 0 ≤ h) (hh : h ≤ zs.length)
    (hK : ∀ v', Rd w v' (zs.take h.toNat) → wpList Tryd.prog ops Q rest (a.put d v') w) :
    wpList Tryd.prog ops Q (⟨d, .slice 91 x (none) (some hi) none, ty, ps, af, none⟩ :: rest) a w := by
  obtain ⟨b, cap, rfl, h1, h2, h3⟩ := hr.len
  refine wpList_plain rfl fun K hK' => ?_
  have hs : Tryd.prog.underlying 91 = some (.slice (Tryd.prog.elem 91)) := by kernel_rfl
  have hz : ∀ w, (sizeOf (Tryd.prog.elem 91)).run Tryd.prog w = .ok 1 w := fun w => by kernel_rfl
  have hrun := run_slice_h w 91 b zs.length cap hs .i64 h h0 (by omega)
  rw [hz] at hrun
  simp only [Result.andThen] at hrun
  unfold Oper.wp
  simp [execOp, hx, hhi, run_sliceAt_slice, hs, hrun, Result.andThen]
  refine hK' _ _ (hK _ ?_)
  have := hr.cut (lo := 0) (hi := h.toNat) (by omega) (by omega)
  rwa [List.drop_zero] at this

theorem results4 {fn : Func} {t u v x : Tmp} (h : fn.results = #[.tmp t, .tmp u, .tmp v, .tmp x]) (tmps : Array Value) (P : Program) (w : World) :
    (results fn tmps).run P w = .ok (.tuple #[tmps.getD t undef, tmps.getD u undef, tmps.getD v undef, tmps.getD x undef]) w := by
  simp [results, h]

theorem go_cut_1 {w : World} {ops : Array Oper} {rest : List Oper} {a : Act} {Q : Exit → Act → World → Prop} {d : Option Tmp} {ty : TypeId} {ps : String} {af : Array Edge} {x lo : Operand}
    (v : Value) (zs : List Int) (hx : a.eval x = v) (hr : Rd w v zs) (hlo : a.eval lo = .int .i64 1) (hh : 0 < zs.length)
    (hK : ∀ v', Rd w v' (zs.drop 1) → wpList Tryd.prog ops Q rest (a.put d v') w) :
    wpList Tryd.prog ops Q (⟨d, .slice 91 x (some lo) none none, ty, ps, af, none⟩ :: rest) a w :=
  go_cut_l v zs hx hr 1 hlo (by omega) (by omega) hK

/-- append to a row of the call's own, with all that it leaves. -/
theorem go_appg {P : Program} {w : World} {ops : Array Oper} {rest : List Oper} {a : Act} {Q : Exit → Act → World → Prop} {d : Option Tmp} {ty : TypeId} {ps : String} {af : Array Edge}
    {s x : Operand} {t : TypeId} (B : Nat) (e : TypeId) (size bytes : Nat) (i : TypeInfo) (z : Value) (ht : P.underlying t = some (.slice e)) (hi : P.info? e = some i) (hz : i.zero = some z)
    (hsize : i.size = size) (hby : i.bytes = bytes) (hzs : z.cells.size = size) (hsz : 0 < size)
    (v : Value) (n : Nat) (xs : List Value) (hs : a.eval s = v) (ho : Ownv B e size w v n xs)
    (u : Value) (m : Nat) (news : List Value) (hx : a.eval x = u) (hr : Rdv size w u m news) (h1 : ∀ u ∈ news, u.oneCell' = true)
    (h63 : n + m ≤ maxLen) (hbytes : (n + m) * bytes ≤ 140737488355328) (hB : B ≤ w.heap.size)
    (hK : ∀ v' w', Ownv B e size w' v' (n + m) (xs ++ news) → Below B w w' → w.grownBy w' v.ownBlock → wpList P ops Q rest (a.put d v') w') :
    wpList P ops Q (⟨d, .call { callee := .builtin .append, args := #[s, x], argTypes := #[t, t] }, ty, ps, af, none⟩ :: rest) a w := by
  obtain ⟨ao, cap, rfl, hl, hc, hm, hno, hcell⟩ := hr
  cases ao with
  | none =>
    obtain rfl := hno rfl
    obtain rfl : m = 0 := by omega
    obtain rfl : news = [] := List.eq_nil_of_length_eq_zero (by simpa using hl)
    refine wpList_append_own_none rfl s x t rfl B e i size ht hi v n xs hs ho hx ?_
    exact hK v w (by simpa using ho) (Below.refl _ _) (World.grownBy.refl _ _)
  | some ad =>
    refine wpList_append_own w rfl s x t rfl B e i z size bytes ht hi hz hsize hby hzs hsz v n xs hs ho ad m cap news hx hl (hcell ad rfl) h1 h63 hbytes hB ?_
    intro v' w' ho' hg _
    exact hK v' w' ho' ((Below.refl B w).grown hg hB fun k hk => (World.ownsRow.lt ho k hk).1) hg

/-- What is owned of another element type stays as it is behind an append. -/
theorem Ownv.other {B B' : Nat} {e e' : TypeId} {size size' n n' : Nat} {w w' : World} {v v' : Value} {xs xs' : List Value} (h : Ownv B e size w v n xs) (h' : Ownv B' e' size' w v' n' xs') (hne : e ≠ e')
    (hg : w.grownBy w' v'.ownBlock) : Ownv B e size w' v n xs := by
  refine World.ownsRow.kept h hg ?_
  rcases h.2 with ⟨rfl, _⟩ | ⟨g, cap, cur, rfl, hb, hgg, _⟩
  · exact .inl rfl
  · refine .inr fun hh => ?_
    rcases h'.2 with ⟨rfl, _⟩ | ⟨g', cap', cur', rfl, hb', hgg', _⟩
    · simp [Value.ownBlock] at hh
    · simp only [Value.ownBlock, Option.some.injEq] at hh
      subst hh
      rw [hgg] at hgg'
      simp only [Option.some.injEq, Obj.cells.injEq] at hgg'
      exact hne hgg'.2.1

/-- What a cut reads as, in whatever world. -/
theorem go_cut_lw {w : World} {ops : Array Oper} {rest : List Oper} {a : Act} {Q : Exit → Act → World → Prop} {d : Option Tmp} {ty : TypeId} {ps : String} {af : Array Edge} {x lo : Operand}
    (v : Value) (zs : List Int) (hx : a.eval x = v) (hr : Rd w v zs) (l : Int) (hlo : a.eval lo = .int .i64 l) (h0 : 0 ≤ l) (hh : l ≤ zs.length)
    (hK : ∀ v', (∀ w0, Rd w0 v zs → Rd w0 v' (zs.drop l.toNat)) → wpList Tryd.prog ops Q rest (a.put d v') w) :
    wpList Tryd.prog ops Q (⟨d, .slice 91 x (some lo) (none) none, ty, ps, af, none⟩ :: rest) a w := by
  obtain ⟨b, cap, rfl, h1, h2, h3⟩ := hr.len
  refine wpList_plain rfl fun K hK' => ?_
  have hs : Tryd.prog.underlying 91 = some (.slice (Tryd.prog.elem 91)) := by kernel_rfl
  have hz : ∀ w, (sizeOf (Tryd.prog.elem 91)).run Tryd.prog w = .ok 1 w := fun w => by kernel_rfl
  have hrun := run_slice_l w 91 b zs.length cap hs .i64 l h0 (by omega)
  rw [hz] at hrun
  simp only [Result.andThen] at hrun
  unfold Oper.wp
  simp [execOp, hx, hlo, run_sliceAt_slice, hs, hrun, Result.andThen]
  refine hK' _ _ (hK _ fun w0 h0' => ?_)
  have := h0'.cut (lo := l.toNat) (hi := zs.length) (by omega) (Nat.le_refl _)
  rwa [List.take_length] at this

end Go.Proofs.YtdjfdobcjakmhaaDoor
end

section
/- Lists of slices of bytes; sums over them; bytes' bounds; strings of bytes. No function of the program is named here. -/
set_option linter.unusedSimpArgs false
set_option linter.unusedVariables false
namespace Go.Proofs.YtdjfdobcjakmhaaDoor
open Go.RowKit

/-- A fact put away: no tactic looks into it. -/
structure Shut (p : Prop) : Prop where
  out : p

/-- v is a slice of slices of bytes. -/
def Rds (w : World) (v : Value) (xss : List (List Int)) : Prop :=
  ∃ vs : List Value, vs.length = xss.length ∧ Rdv 1 w v xss.length vs ∧ ∀ i, i < xss.length → Rd w (vs.getD i undef) (xss.getD i [])

theorem Rds.kept {w w' : World} {v : Value} {xss : List (List Int)} (h : Rds w v xss) (k : Kept w w') : Rds w' v xss := by
  obtain ⟨vs, h1, h2, h3⟩ := h
  exact ⟨vs, h1, h2.kept k, fun i hi => (h3 i hi).kept k⟩

def Olds (B : Nat) (w : World) (v : Value) (xss : List (List Int)) : Prop := ∃ w0 : World, w0.heap.size ≤ B ∧ Below B w0 w ∧ Rds w0 v xss
theorem Olds.rds {B : Nat} {w : World} {v : Value} {zs : List (List Int)} (h : Olds B w v zs) : Rds w v zs := by
  obtain ⟨w0, h1, h2, h3⟩ := h
  exact h3.kept (Below.mono h2 h1)
theorem Olds.below {B : Nat} {w w' : World} {v : Value} {zs : List (List Int)} (h : Olds B w v zs) (k : Below B w w') : Olds B w' v zs := by
  obtain ⟨w0, h1, h2, h3⟩ := h
  exact ⟨w0, h1, h2.trans k, h3⟩
theorem Rds.olds {w : World} {v : Value} {zs : List (List Int)} (h : Rds w v zs) : Olds w.heap.size w v zs := ⟨w, Nat.le_refl _, Below.refl _ _, h⟩

theorem Rds.len {w : World} {v : Value} {xss : List (List Int)} (h : Rds w v xss) : ∃ a cap, v = .slice a xss.length cap ∧ xss.length ≤ cap ∧ cap ≤ maxLen ∧ (a = none → cap = 0) := by
  obtain ⟨vs, _, ⟨a, cap, rfl, _, h2, h3, h4, _⟩, _⟩ := h
  exact ⟨a, cap, rfl, h2, h3, h4⟩

theorem Rds.nil (w : World) : Rds w (.slice none 0 0) [] := ⟨[], rfl, ⟨none, 0, rfl, rfl, Nat.le_refl _, Nat.zero_le _, fun _ => rfl, fun _ h => by cases h⟩, fun i hi => by simp at hi⟩

/-- A slice of slices that is not empty: its address, its cells, and what each reads as. -/
theorem Rds.addr {w : World} {v : Value} {xss : List (List Int)} (h : Rds w v xss) (hp : 0 < xss.length) :
    ∃ b off cap, ∃ vs : List Value, v = .slice (some ⟨b, off, none⟩) xss.length cap ∧ xss.length ≤ cap ∧ cap ≤ maxLen ∧ b < w.heap.size ∧
      (∀ i, i < xss.length → w.cell? ⟨b, off + i, none⟩ = some (vs.getD i undef)) ∧ ∀ i, i < xss.length → Rd w (vs.getD i undef) (xss.getD i []) := by
  obtain ⟨vs, hvs, ⟨ao, cap, rfl, hl, hc, hm, hno, hcell⟩, hr⟩ := h
  cases ao with
  | none => have := hno rfl; omega
  | some ad =>
    obtain ⟨b, off, spot⟩ := ad
    have hg : ∀ i, i < xss.length → w.cell? ((⟨b, off, spot⟩ : Addr).add i) = some (vs.getD i undef) := by
      intro i hi
      refine hcell _ rfl i _ ?_
      simp [List.getD, List.getElem?_eq_getElem (show i < vs.length by omega)]
    have h0 := hg 0 hp
    obtain rfl : spot = none := by simpa [Addr.add] using World.cell?_spot h0
    refine ⟨b, off, cap, vs, rfl, hc, hm, World.block_lt_of_cell? _ _ h0, fun i hi => ?_, hr⟩
    have := hg i hi
    rwa [Addr.add_lit] at this

/-- A literal list of slices of bytes. -/
theorem Rds.lit {w : World} (e : TypeId) (vs : List Value) (xss : List (List Int)) (hl : vs.length = xss.length) (hm : vs.length ≤ 1000000) (hr : ∀ i, i < xss.length → Rd w (vs.getD i undef) (xss.getD i [])) :
    Rds (w.alloc (.cells vs.toArray e)) (.slice (some ⟨w.heap.size, 0, none⟩) vs.length vs.length) xss := by
  have h0 := (Ownv.lit (B := w.heap.size) e (w := w) vs (Nat.le_refl _) (by unfold maxLen; omega)).rdv
  refine ⟨vs, hl, by rw [← hl]; exact h0, fun i hi => (hr i hi).kept ((Kept.refl w).alloc _)⟩
theorem Rds.lit1 {w : World} (e : TypeId) {v : Value} {zs : List Int} (h : Rd w v zs) : Rds (w.alloc (.cells #[v] e)) (.slice (some ⟨w.heap.size, 0, none⟩) 1 1) [zs] :=
  Rds.lit e [v] [zs] rfl (by simp) (fun i hi => by obtain rfl : i = 0 := by simp at hi; omega
                                                   exact h)

/-- Sums over lists. -/
def lsum (f : List Int → Int) : List (List Int) → Int
  | [] => 0
  | x :: r => f x + lsum f r

theorem lsum_append (f : List Int → Int) (a b : List (List Int)) : lsum f (a ++ b) = lsum f a + lsum f b := by
  induction a with
  | nil => simp [lsum]
  | cons x r ih => simp only [List.cons_append, lsum, ih]; omega
theorem lsum_take (f : List Int → Int) (l : List (List Int)) (k : Nat) (h : k < l.length) : lsum f (l.take (k + 1)) = lsum f (l.take k) + f (l.getD k []) := by
  rw [List.take_succ_eq_append_getElem h, lsum_append]
  simp [lsum, List.getD, List.getElem?_eq_getElem h]
theorem lsum_nonneg (f : List Int → Int) (hf : ∀ x, 0 ≤ f x) (l : List (List Int)) : 0 ≤ lsum f l := by
  induction l with
  | nil => simp [lsum]
  | cons x r ih => have := hf x; simp only [lsum]; omega
theorem lsum_take_le (f : List Int → Int) (hf : ∀ x, 0 ≤ f x) (l : List (List Int)) (k : Nat) : lsum f (l.take k) ≤ lsum f l := by
  have h := lsum_append f (l.take k) (l.drop k)
  rw [List.take_append_drop] at h
  have := lsum_nonneg f hf (l.drop k)
  omega

/-- What 'big' counts. -/
def bigN (x : List Int) : Int := x.length + 1
theorem bigN_nonneg (x : List Int) : 0 ≤ bigN x := by unfold bigN; omega

/-- Bytes' numbers are 0 to 255. -/
def By (zs : List Int) : Prop := ∀ z ∈ zs, 0 ≤ z ∧ z ≤ 255

theorem By.at {zs : List Int} (h : By zs) (i : Nat) : 0 ≤ zs.getD i 0 ∧ zs.getD i 0 ≤ 255 := by
  by_cases hi : i < zs.length
  · have : zs.getD i 0 = zs[i] := by simp [List.getD, List.getElem?_eq_getElem hi]
    rw [this]; exact h _ (List.getElem_mem hi)
  · have : zs.getD i 0 = 0 := by simp [List.getD, List.getElem?_eq_none (Nat.le_of_not_lt hi)]
    rw [this]; omega

theorem strs {w : World} {v : Value} {zs : List Int} (h : Rd w v zs) : ∀ n, (convert 91 9 v).run Tryd.prog (w.drewN n) = .ok (.string (strOfNums zs)) (w.drewN n) := fun n =>
  go_str_run (P := Tryd.prog) Tryd.underlying91 Tryd.underlying5 (h.kept ((Kept.refl w).drewN n)) 9 Tryd.underlying9
theorem strs0 {w : World} {v : Value} {zs : List Int} (h : Rd w v zs) : (convert 91 9 v).run Tryd.prog w = .ok (.string (strOfNums zs)) w :=
  go_str_run (P := Tryd.prog) Tryd.underlying91 Tryd.underlying5 h 9 Tryd.underlying9

theorem u8_eq (a b : Int) (ha : 0 ≤ a ∧ a ≤ 255) (hb : 0 ≤ b ∧ b ≤ 255) : (UInt8.ofNat a.toNat = UInt8.ofNat b.toNat) ↔ a = b := by
  rw [← UInt8.toNat_inj, UInt8.toNat_ofNat_of_lt' (by simp; omega), UInt8.toNat_ofNat_of_lt' (by simp; omega)]; omega

theorem strOf_toList (zs : List Int) : (strOfNums zs).toList = zs.map fun n => UInt8.ofNat n.toNat := by
  rw [ByteArray.toList_eq]
  rfl


theorem By.append {x y : List Int} (h : By x) (k : By y) : By (x ++ y) := fun z hz => (List.mem_append.1 hz).elim (h z) (k z)
theorem By.take {x : List Int} (h : By x) (n : Nat) : By (x.take n) := fun z hz => h z (List.mem_of_mem_take hz)
theorem By.drop {x : List Int} (h : By x) (n : Nat) : By (x.drop n) := fun z hz => h z (List.mem_of_mem_drop hz)
theorem By.nil : By [] := fun z hz => by cases hz
theorem By.cons {a : Int} {x : List Int} (h0 : 0 ≤ a ∧ a ≤ 255) (h : By x) : By (a :: x) := fun z hz => by
  rcases List.mem_cons.1 hz with rfl | hz
  · exact h0
  · exact h z hz

theorem map_inj {x y : List Int} (hx : By x) (hy : By y) (h : (x.map fun n => UInt8.ofNat n.toNat) = y.map fun n => UInt8.ofNat n.toNat) : x = y := by
  induction x generalizing y with
  | nil => cases y with
    | nil => rfl
    | cons b y => simp at h
  | cons a x ih =>
    cases y with
    | nil => simp at h
    | cons b y =>
      simp only [List.map_cons, List.cons.injEq] at h
      obtain ⟨h1, h2⟩ := h
      rw [(u8_eq a b (hx a List.mem_cons_self) (hy b List.mem_cons_self)).1 h1, ih (fun z hz => hx z (List.mem_cons_of_mem _ hz)) (fun z hz => hy z (List.mem_cons_of_mem _ hz)) h2]

/-- Two strings of bytes are the same, just if their numbers are. -/
theorem strOf_inj {x y : List Int} (hx : By x) (hy : By y) (h : strOfNums x = strOfNums y) : x = y := by
  have h' := congrArg ByteArray.toList h
  rw [strOf_toList, strOf_toList] at h'
  exact map_inj hx hy h'
theorem bytes_beq (a b : ByteArray) : (a == b) = (a.data == b.data) := rfl
theorem strOf_beq {x y : List Int} (hx : By x) (hy : By y) : (strOfNums x == strOfNums y) = decide (x = y) := by
  rw [bytes_beq]
  by_cases h : x = y
  · subst h; simp
  · rw [decide_eq_false h, beq_eq_false_iff_ne]
    exact fun e => h (strOf_inj hx hy (by cases hX : strOfNums x; cases hY : strOfNums y; rw [hX, hY] at e; simp only at e; rw [e]))

/-- Block g is a row of the call's own, known whole. -/
def Blk (w : World) (g : Nat) (e : TypeId) (xs : List Value) : Prop := w.heap[g]? = some (.cells xs.toArray e (0, 0))

theorem Blk.lt {w : World} {g : Nat} {e : TypeId} {xs : List Value} (h : Blk w g e xs) : g < w.heap.size := (Array.getElem?_eq_some_iff.1 h).1
theorem Blk.cell {w : World} {g : Nat} {e : TypeId} {xs : List Value} (h : Blk w g e xs) (i : Nat) : w.cell? ⟨g, i, none⟩ = xs[i]? := by
  unfold Blk at h
  simp [World.cell?, h]
theorem Blk.frozen {w : World} {g : Nat} {e : TypeId} {xs : List Value} (h : Blk w g e xs) (i : Nat) : w.frozen? ⟨g, i, none⟩ = false := by
  unfold Blk at h
  simp [World.frozen?, h]
theorem Blk.set {w : World} {g : Nat} {e : TypeId} {xs : List Value} (h : Blk w g e xs) (i : Nat) (v : Value) : Blk (w.setCell ⟨g, i, none⟩ v) g e (xs.set i v) := by
  unfold Blk at h ⊢
  simp [World.setCell, Array.getElem?_modify, h]
theorem Blk.below {B : Nat} {w w' : World} {g : Nat} {e : TypeId} {xs : List Value} (h : Blk w g e xs) (k : Below B w w') (hg : g < B) : Blk w' g e xs := by
  unfold Blk at h ⊢
  rw [k.block g hg]; exact h
theorem Blk.ownv {B : Nat} {w : World} {g : Nat} {e : TypeId} {xs : List Value} (h : Blk w g e xs) (hB : B ≤ g) (hm : xs.length ≤ maxLen) : Ownv B e 1 w (.slice (some ⟨g, 0, none⟩) xs.length xs.length) xs.length xs :=
  ⟨by simp, .inr ⟨g, xs.length, xs.toArray, rfl, hB, h, Nat.le_refl _, hm, by simp, by simp⟩⟩
theorem Ownv.blk {B : Nat} {w : World} {g n : Nat} {e : TypeId} {xs : List Value} (h : Ownv B e 1 w (.slice (some ⟨g, 0, none⟩) n n) n xs) : Blk w g e xs ∧ B ≤ g := by
  rcases h.2 with ⟨hh, _⟩ | ⟨g', cap, cur, hv, hb, hg, hn, hm, hs, ht⟩
  · cases hh
  · simp only [Value.slice.injEq, Option.some.injEq, Addr.mk.injEq] at hv
    obtain ⟨⟨rfl, _⟩, _, rfl⟩ := hv
    refine ⟨?_, hb⟩
    unfold Blk
    rw [hg]
    have : cur.toList = xs := by rw [← ht]; exact (List.take_of_length_le (by simp; omega)).symm
    rw [← this]
theorem Blk.own {B : Nat} {w : World} {g n : Nat} {e : TypeId} {zs : List Int} (h : Blk w g e (zs.map (Value.int .u8))) (hB : B ≤ g) (hn : n = zs.length) (hm : zs.length ≤ maxLen) : Own B e w (.slice (some ⟨g, 0, none⟩) n n) zs := by
  subst hn
  have := h.ownv hB (by simpa using hm)
  simp only [List.length_map] at this
  exact this

/-- copy of bytes into a row of the call's own, known whole. -/
theorem go_copyb {w : World} {ops : Array Oper} {rest : List Oper} {a : Act} {Q : Exit → Act → World → Prop} {d : Option Tmp} {ty : TypeId} {ps : String} {af : Array Edge} {s x : Operand}
    (B g n : Nat) (cur : List Value) (hd : a.eval s = .slice (some ⟨g, 0, none⟩) n n) (hg : Blk w g 5 cur) (hBg : B ≤ g) (hn : cur.length = n) (u : Value) (zs : List Int) (hx : a.eval x = u) (hr : Rd w u zs) (hl : zs.length ≤ n)
    (hK : ∀ w', Hid (Blk w' g 5 (splice cur 0 (zs.map (Value.int .u8)))) → Below B w w' → wpList Tryd.prog ops Q rest (a.put d (goInt (zs.map (Value.int .u8)).length)) w') :
    wpList Tryd.prog ops Q (⟨d, .call { callee := .builtin .copy, args := #[s, x], argTypes := #[91, 91] }, ty, ps, af, none⟩ :: rest) a w := by
  obtain ⟨ao, cap, rfl, hl2, hc, hm, hno, hcell⟩ := hr
  refine wpList_copy_splice rfl s x 91 91 rfl 5 Tryd.underlying91 (by kernel_rfl) (some ⟨g, 0, none⟩) ao n n zs.length cap hd hx g 0 cur 5 hg (zs.map (Value.int .u8)) (by rw [List.length_map]; exact (Nat.min_eq_left hl).symm) ?_ (by simp; omega) (ones_int .u8 zs) B w (Below.refl _ _) hBg ?_
  · intro hp
    refine ⟨rfl, ?_⟩
    cases ao with
    | none => have := hno rfl; simp at hp; omega
    | some ad => exact ⟨ad, rfl, hcell ad rfl⟩
  · intro w' h1 h2
    exact hK w' h1 h2
theorem alloc_size (w : World) (o : Obj) : (w.alloc o).heap.size = w.heap.size + 1 := by simp

theorem Rd.marked {w : World} (zs : List Int) (fr : Nat × Nat) (hl : zs.length ≤ 1000000) : Rd (w.alloc (.cells (zs.map (Value.int .u8)).toArray 5 fr)) (.slice (some ⟨w.heap.size, 0, none⟩) zs.length zs.length) zs := by
  refine ⟨_, zs.length, rfl, by simp, Nat.le_refl _, by unfold maxLen; omega, (fun h => by cases h), fun ad had j u hj => ?_⟩
  cases had
  have e : (⟨w.heap.size, 0, none⟩ : Addr).add j = ⟨w.heap.size, j, none⟩ := by rw [Addr.add_lit, Nat.zero_add]
  rw [e, cell_of_row _ w.heap.size j _ _ fr (heap_alloc_new w _)]
  simpa using hj
end Go.Proofs.YtdjfdobcjakmhaaDoor
end

section
/- What comes in as an argument, as the walks want it. -/
set_option linter.unusedSimpArgs false
set_option linter.unusedVariables false
set_option maxRecDepth 100000
namespace Go.Proofs.YtdjfdobcjakmhaaDoor
open Go.RowKit Go.ChangeShapes Go.WideShapes Go.ChangeAt

theorem Done.own : ownKnob Tryd.prog.godebug = none := by kernel_rfl
theorem Done.laidOut : laidOutB Tryd.prog = true := by kernel_rfl
theorem Tryd.bytes5 : Tryd.prog.bytesOf 5 = 1 := by kernel_rfl

theorem wf_by {zs : List Int} (h : ∀ n ∈ zs, (Lit.int .u8 n).wf = true) : By zs := fun z hz => bounds_u8 (h z hz)

theorem bulk_lits {H : Type} (k : IntKind) (zs : List Int) : Rows.uptoBulkAll (lits (H := H) k zs) = zs.length := by
  induction zs with
  | nil => rfl
  | cons a r ih =>
    have e : lits (H := H) k (a :: r) = .lit (.int k a) :: lits k r := rfl
    rw [e]
    simp only [Rows.uptoBulkAll, ih, List.length_cons]
    have : Rows.uptoBulk (DataW.lit (H := H) (.int k a)) = 1 := rfl
    omega

theorem addr_add (ad : Addr) (j : Nat) : ad.add j = ad.add j := rfl

theorem rd_of_cells {w : World} {a : Addr} {len cap : Nat} {zs : List Int} (hl : len ≤ cap) (hm : cap ≤ maxLen) (hz : zs.length = cap) (hcell : ∀ i, i < zs.length → w.cell? (a.add i) = some (.int .u8 (zs.getD i 0))) :
    Rd w (.slice (some a) len cap) (zs.take len) := by
  have e : (zs.take len).length = len := by rw [List.length_take]; omega
  unfold Rd
  rw [e]
  refine ⟨some a, cap, rfl, by simp [e]; omega, hl, hm, (fun h => by cases h), fun ad had j u hj => ?_⟩
  cases had
  have hjl : j < len := by
    have := (List.getElem?_eq_some_iff.1 hj).1
    simp at this; omega
  rw [hcell j (by omega), ← hj]
  simp [List.getElem?_take, hjl, List.getD, List.getElem?_eq_getElem (show j < zs.length by omega)]

/-- A slice of bytes that comes in. -/
theorem open_bytes {H : Type} {enc : TypeId × Value → H} {W : World} {base : Nat} {v : Value} {d : DataW H} {p : List MemPlace} (hv : Value.okWide Tryd.prog W .any base 91 v)
    (h : DataW.Trod enc Tryd.prog W 0 (fun _ => true) true 91 v d p) :
    ∃ zs : List Int, Rd W v zs ∧ By zs ∧ zs.length + 1 ≤ Rows.uptoBulk d ∧
      ∀ (ts : List TypeId) (ds : List (DataW H)) (j : Nat), (DataW.weightsEach Tryd.prog ts ds).all (· ≤ reachBytes) = true → ts[j]? = some 91 → ds[j]? = some d → zs.length ≤ 140737488351232 := by
  obtain ⟨a, len, cap, rfl⟩ := okWide_slice Tryd.underlying91 hv
  obtain ⟨fuel, hf⟩ := h
  rcases open_ints Tryd.underlying91 Tryd.underlying5 (by kernel_rfl) hf with ⟨hcs, hx⟩ | ⟨x, l, c, zs, hcs, _, hl, hm, hz, hx, hcell, hwz⟩
  · simp [Value.cells] at hcs
    obtain ⟨rfl, rfl, rfl⟩ := hcs
    simp only [Prod.mk.injEq] at hx
    obtain ⟨rfl, rfl⟩ := hx
    exact ⟨[], Rd.nil W, (fun z hz => by cases hz), by simp [Rows.uptoBulk], fun _ _ _ _ _ _ => by simp⟩
  · simp [Value.cells] at hcs
    obtain ⟨rfl, rfl, rfl⟩ := hcs
    simp only [Prod.mk.injEq] at hx
    obtain ⟨rfl, rfl⟩ := hx
    simp only [if_true] at hz
    refine ⟨zs.take len, rd_of_cells hl hm hz hcell, wf_by fun n hn => hwz n (List.mem_of_mem_take hn), ?_, ?_⟩
    · simp only [Rows.uptoBulk, bulk_lits]
      omega
    · intro ts ds j hsz ht hd
      have := sized_slice hsz ht hd Tryd.underlying91
      rw [Tryd.bytes5] at this
      simp only [lits, List.length_map, List.length_take, List.length_drop, reachBytes] at this
      rw [List.length_take]
      omega

theorem weightsAll_mem {H : Type} {P : Program} {e : TypeId} {d : DataW H} {n : Nat} : ∀ {l : List (DataW H)}, d ∈ l → n ∈ d.weights P e → n ∈ DataW.weightsAll P e l
  | [], h, _ => by cases h
  | x :: r, h, hn => by
    simp only [DataW.weightsAll, List.mem_append]
    rcases List.mem_cons.1 h with rfl | h
    · exact .inl hn
    · exact .inr (weightsAll_mem h hn)

end Go.Proofs.YtdjfdobcjakmhaaDoor
end

section
/- What a call may turn (a set of blocks), numbers in slices, and rows of the call's own as such. No function of the program is named here. -/
set_option linter.unusedSimpArgs false
set_option linter.unusedVariables false
namespace Go.Proofs.YtdjfdobcjakmhaaDoor
open Go.RowKit Go.Maps

/-- From w to w' only blocks of F have turned; new blocks may be there. -/
structure Turn (F : Nat → Prop) (w w' : World) : Prop where
  os : w'.os = w.os
  tape : w'.tape = w.tape
  output : w'.output = w.output
  size : w.heap.size ≤ w'.heap.size
  block : ∀ k, k < w.heap.size → ¬ F k → w'.heap[k]? = w.heap[k]?

theorem Turn.refl (F : Nat → Prop) (w : World) : Turn F w w := ⟨rfl, rfl, rfl, Nat.le_refl _, fun _ _ _ => rfl⟩
theorem Turn.mono {F G : Nat → Prop} {w w' : World} (h : Turn F w w') (hs : ∀ b, F b → G b) : Turn G w w' := ⟨h.os, h.tape, h.output, h.size, fun k hk hn => h.block k hk fun e => hn (hs k e)⟩
/-- Behind one another; what is new may be turned. -/
theorem Turn.trans {F G : Nat → Prop} {a b c : World} (h : Turn F a b) (k : Turn G b c) (hs : ∀ x, G x → F x ∨ a.heap.size ≤ x) : Turn F a c :=
  ⟨k.os.trans h.os, k.tape.trans h.tape, k.output.trans h.output, Nat.le_trans h.size k.size, fun i hi hn => (k.block i (Nat.lt_of_lt_of_le hi h.size) (fun e => by
    rcases hs i e with h1 | h1
    · exact hn h1
    · omega)).trans (h.block i hi hn)⟩
theorem Turn.kept {F : Nat → Prop} {a b c : World} (h : Turn F a b) (k : Kept b c) : Turn F a c :=
  ⟨k.os.trans h.os, k.tape.trans h.tape, k.output.trans h.output, Nat.le_trans h.size k.size, fun i hi hn => (k.block i (Nat.lt_of_lt_of_le hi h.size)).trans (h.block i hi hn)⟩
theorem Kept.turn {w w' : World} (h : Kept w w') (F : Nat → Prop) : Turn F w w' := ⟨h.os, h.tape, h.output, h.size, fun k hk _ => h.block k hk⟩
theorem Turn.toKept {w w' : World} (h : Turn (fun b => w.heap.size ≤ b) w w') : Kept w w' := ⟨h.os, h.tape, h.output, h.size, fun k hk => h.block k hk (by omega)⟩
theorem Turn.below {F : Nat → Prop} {B : Nat} {w0 w w' : World} (h0 : Below B w0 w) (h : Turn F w w') (hF : ∀ b, F b → B ≤ b) (hB : B ≤ w.heap.size) : Below B w0 w' :=
  ⟨h.os.trans h0.os, h.tape.trans h0.tape, h.output.trans h0.output, Nat.le_trans h0.size h.size, fun k hk => (h.block k (by omega) (fun e => by have := hF k e; omega)).trans (h0.block k hk)⟩
theorem Turn.keptOf {F : Nat → Prop} {w0 w w' : World} (h0 : Kept w0 w) (h : Turn F w w') (hF : ∀ b, F b → w0.heap.size ≤ b) : Kept w0 w' := Turn.below h0 h hF h0.size
theorem Below.turn {B : Nat} {w w' : World} (h : Below B w w') : Turn (fun b => B ≤ b) w w' := ⟨h.os, h.tape, h.output, h.size, fun k hk hn => h.block k (by omega)⟩
theorem Grown.turn {w w' : World} {row : Option Nat} (h : w.grownBy w' row) : Turn (fun b => some b = row) w w' := ⟨h.os, h.tape, h.output, h.size, fun k hk hn => h.block k hk hn⟩
theorem Turn.alloc {F : Nat → Prop} {a w : World} (h : Turn F a w) (o : Obj) : Turn F a (w.alloc o) := h.kept ((Kept.refl w).alloc o)
theorem Turn.drewN {F : Nat → Prop} {a w : World} (h : Turn F a w) (n : Nat) : Turn F a (w.drewN n) := h.kept ((Kept.refl w).drewN n)
theorem Turn.drew {F : Nat → Prop} {a w : World} (h : Turn F a w) : Turn F a w.drew := h.kept ((Kept.refl w).drew)
theorem turn_setCell (w : World) (a : Addr) (v : Value) : Turn (fun b => b = a.block) w (w.setCell a v) :=
  ⟨rfl, rfl, rfl, by simp [World.setCell], fun k hk hn => Below.heap_setCell _ _ _ _ hn⟩
theorem turn_setCells (w : World) (b off : Nat) (vs : List Value) : Turn (fun k => k = b) w (w.setCells b off vs) := by
  induction vs generalizing w off with
  | nil => exact Turn.refl _ _
  | cons v r ih => exact Turn.trans (turn_setCell w ⟨b, off, none⟩ v) (ih _ _) (fun x h => .inl h)

theorem Kept.setCell {a w : World} (h : Kept a w) {ad : Addr} (hb : a.heap.size ≤ ad.block) (v : Value) : Kept a (w.setCell ad v) :=
  Turn.keptOf h (turn_setCell w ad v) (fun b e => by rw [e]; exact hb)
theorem size_setCell (w : World) (ad : Addr) (v : Value) : (w.setCell ad v).heap.size = w.heap.size := by simp [World.setCell]
/-- Two worlds that say the same of the blocks of F. -/
def Same (F : Nat → Prop) (w w' : World) : Prop := ∀ b, F b → w'.heap[b]? = w.heap[b]?
theorem Turn.same {F G : Nat → Prop} {w w' : World} (h : Turn F w w') (hl : ∀ b, G b → b < w.heap.size) (hd : ∀ b, G b → ¬ F b) : Same G w w' := fun b hb => h.block b (hl b hb) (hd b hb)
theorem Kept.same {G : Nat → Prop} {w w' : World} (h : Kept w w') (hl : ∀ b, G b → b < w.heap.size) : Same G w w' := fun b hb => h.block b (hl b hb)
theorem Same.mono {F G : Nat → Prop} {w w' : World} (h : Same F w w') (hs : ∀ b, G b → F b) : Same G w w' := fun b hb => h b (hs b hb)

/-- The block of a slice, if it has one. -/
def Blks (v : Value) (b : Nat) : Prop := v.ownBlock = some b

theorem Ownv.same {B : Nat} {e : TypeId} {size n : Nat} {w w' : World} {v : Value} {xs : List Value} (h : Ownv B e size w v n xs) (k : Same (Blks v) w w') : Ownv B e size w' v n xs := by
  refine ⟨h.1, ?_⟩
  rcases h.2 with hn | ⟨g, cap, cur, rfl, hb, hg, rest⟩
  · exact .inl hn
  · refine .inr ⟨g, cap, cur, rfl, hb, ?_, rest⟩
    rw [k g rfl]
    exact hg
theorem Ownv.lt {B : Nat} {e : TypeId} {size n : Nat} {w : World} {v : Value} {xs : List Value} (h : Ownv B e size w v n xs) {b : Nat} (hb : Blks v b) : b < w.heap.size ∧ B ≤ b := by
  rcases h.2 with ⟨rfl, _⟩ | ⟨g, cap, cur, rfl, hb', hg, rest⟩
  · cases hb
  · obtain rfl : g = b := by simpa [Blks, Value.ownBlock] using hb
    exact ⟨(Array.getElem?_eq_some_iff.1 hg).1, hb'⟩
theorem Ownv.obj {B : Nat} {e : TypeId} {size n : Nat} {w : World} {v : Value} {xs : List Value} (h : Ownv B e size w v n xs) {b : Nat} (hb : Blks v b) : ∃ cur, w.heap[b]? = some (.cells cur e (0, 0)) := by
  rcases h.2 with ⟨rfl, _⟩ | ⟨g, cap, cur, rfl, hb', hg, rest⟩
  · cases hb
  · obtain rfl : g = b := by simpa [Blks, Value.ownBlock] using hb
    exact ⟨cur, hg⟩
/-- Rows of different element types are different blocks. -/
theorem Ownv.apart {B B' : Nat} {e e' : TypeId} {size size' n n' : Nat} {w : World} {v v' : Value} {xs xs' : List Value} (h : Ownv B e size w v n xs) (h' : Ownv B' e' size' w v' n' xs') (hne : e ≠ e') {b : Nat} (hb : Blks v b) : ¬ Blks v' b := by
  intro hb'
  obtain ⟨c, hc⟩ := h.obj hb
  obtain ⟨c', hc'⟩ := h'.obj hb'
  rw [hc] at hc'
  simp only [Option.some.injEq, Obj.cells.injEq] at hc'
  exact hne hc'.2.1
theorem Ownv.mono0 {B : Nat} {e : TypeId} {size n : Nat} {w : World} {v : Value} {xs : List Value} (h : Ownv B e size w v n xs) : Ownv 0 e size w v n xs := h.mono (Nat.zero_le _)
theorem Ownv.from {e : TypeId} {size n : Nat} {w : World} {v : Value} {xs : List Value} (h : Ownv 0 e size w v n xs) (B : Nat) (hB : ∀ b, Blks v b → B ≤ b) : Ownv B e size w v n xs := by
  refine ⟨h.1, ?_⟩
  rcases h.2 with hn | ⟨g, cap, cur, rfl, hb, rest⟩
  · exact .inl hn
  · exact .inr ⟨g, cap, cur, rfl, hB g rfl, rest⟩
/-- A row of the call's own is another block than one of another type. -/
theorem Ownv.notBlk {B : Nat} {e e' : TypeId} {size n : Nat} {w : World} {v : Value} {xs cs : List Value} {g : Nat} (h : Ownv B e size w v n xs) (h' : Blk w g e' cs) (hne : e ≠ e') : ¬ Blks v g := by
  intro hb
  obtain ⟨c, hc⟩ := h.obj hb
  unfold Blk at h'
  rw [hc] at h'
  simp only [Option.some.injEq, Obj.cells.injEq] at h'
  exact hne h'.2.1
theorem Ownv.setCell {B : Nat} {e : TypeId} {size n : Nat} {w : World} {v : Value} {xs : List Value} (h : Ownv B e size w v n xs) {ad : Addr} (hn : ¬ Blks v ad.block) (u : Value) : Ownv B e size (w.setCell ad u) v n xs :=
  h.same fun b hb => (turn_setCell w ad u).block b (h.lt hb).1 (fun e => hn (e ▸ hb))
theorem Ownv.turn {B : Nat} {e : TypeId} {size n : Nat} {w w' : World} {v : Value} {xs : List Value} {F : Nat → Prop} (h : Ownv B e size w v n xs) (k : Turn F w w') (hn : ∀ b, Blks v b → ¬ F b) : Ownv B e size w' v n xs :=
  h.same fun b hb => k.block b (h.lt hb).1 (hn b hb)
theorem Blk.turn {w w' : World} {g : Nat} {e : TypeId} {xs : List Value} {F : Nat → Prop} (h : Blk w g e xs) (k : Turn F w w') (hn : ¬ F g) : Blk w' g e xs := by
  have hl := h.lt
  unfold Blk at h ⊢
  rw [k.block g hl hn]; exact h
theorem Blk.kept {w w' : World} {g : Nat} {e : TypeId} {xs : List Value} (h : Blk w g e xs) (k : Kept w w') : Blk w' g e xs := h.below k h.lt
theorem ownsMap_turn {H : Type} {w w' : World} {P : Program} {k : TypeId} {R : Value → Option (DataW H × List MemPlace)} {b n : Nat} {D : DataW H} {F : Nat → Prop} (h : w.ownsMap P k R b n D) (t : Turn F w w') (hn : ¬ F b) : w'.ownsMap P k R b n D := by
  obtain ⟨es, clock, hb, r⟩ := h
  have hlt := (Array.getElem?_eq_some_iff.1 hb).1
  exact ⟨es, clock, (t.block b hlt hn).trans hb, r⟩
theorem ownsMap_notBlk {H : Type} {w : World} {P : Program} {k : TypeId} {R : Value → Option (DataW H × List MemPlace)} {b n : Nat} {D : DataW H} (h : w.ownsMap P k R b n D) {B : Nat} {e : TypeId} {size m : Nat} {v : Value} {xs : List Value} (h' : Ownv B e size w v m xs) : ¬ Blks v b := by
  intro hb
  obtain ⟨c, hc⟩ := h'.obj hb
  obtain ⟨es, clock, hm, _⟩ := h
  rw [hc] at hm
  simp at hm
theorem ownsMap_notBlk' {H : Type} {w : World} {P : Program} {k : TypeId} {R : Value → Option (DataW H × List MemPlace)} {b n : Nat} {D : DataW H} (h : w.ownsMap P k R b n D) {g : Nat} {e : TypeId} {xs : List Value} (h' : Blk w g e xs) : g ≠ b := by
  intro hb
  subst hb
  obtain ⟨es, clock, hm, _⟩ := h
  unfold Blk at h'
  rw [h'] at hm
  simp at hm
theorem Blk.new (w : World) (cs : List Value) (e : TypeId) : Blk (w.alloc (.cells cs.toArray e)) w.heap.size e cs := heap_alloc_new w _
theorem Blk.same {w w' : World} {g : Nat} {e : TypeId} {xs : List Value} (h : Blk w g e xs) (k : Same (fun b => b = g) w w') : Blk w' g e xs := by
  unfold Blk at h ⊢
  rw [k g rfl]; exact h
theorem ownsMap_same {H : Type} {w w' : World} {P : Program} {k : TypeId} {R : Value → Option (DataW H × List MemPlace)} {b n : Nat} {D : DataW H} (h : w.ownsMap P k R b n D) (hs : Same (fun x => x = b) w w') : w'.ownsMap P k R b n D := by
  obtain ⟨es, clock, hb, F, hn, hD⟩ := h
  exact ⟨es, clock, (hs b rfl).trans hb, F, hn, hD⟩

/-! ## numbers -/
/-- v is a slice of numbers. -/
def RdI (w : World) (v : Value) (zs : List Int) : Prop := Rdv 1 w v zs.length (zs.map (Value.int .i64))
/-- v is a slice of numbers of the call's own. -/
def OwnI (B : Nat) (w : World) (v : Value) (zs : List Int) : Prop := Ownv B 3 1 w v zs.length (zs.map (Value.int .i64))
/-- Numbers that are int's. -/
def I64 (z : Int) : Prop := -9223372036854775808 ≤ z ∧ z ≤ 9223372036854775807

theorem RdI.kept {w w' : World} {v : Value} {zs : List Int} (h : RdI w v zs) (k : Kept w w') : RdI w' v zs := Rdv.kept h k
theorem OwnI.rd {B : Nat} {w : World} {v : Value} {zs : List Int} (h : OwnI B w v zs) : RdI w v zs := Ownv.rdv h
theorem RdI.nil (w : World) : RdI w (.slice none 0 0) [] := ⟨none, 0, rfl, rfl, Nat.le_refl _, Nat.zero_le _, fun _ => rfl, fun _ h => by cases h⟩
theorem OwnI.nil (B : Nat) (w : World) : OwnI B w (.slice none 0 0) [] := World.ownsRow_nil w B _ 1
theorem RdI.len {w : World} {v : Value} {zs : List Int} (h : RdI w v zs) : ∃ a cap, v = .slice a zs.length cap ∧ zs.length ≤ cap ∧ cap ≤ maxLen ∧ (a = none → cap = 0) := by
  obtain ⟨a, cap, rfl, _, h2, h3, h4, _⟩ := h
  exact ⟨a, cap, rfl, h2, h3, h4⟩
theorem RdI.addr {w : World} {v : Value} {zs : List Int} (h : RdI w v zs) (hp : 0 < zs.length) :
    ∃ b off cap, v = .slice (some ⟨b, off, none⟩) zs.length cap ∧ zs.length ≤ cap ∧ cap ≤ maxLen ∧ b < w.heap.size ∧ ∀ i, i < zs.length → w.cell? ⟨b, off + i, none⟩ = some (.int .i64 (zs.getD i 0)) := by
  obtain ⟨ao, cap, rfl, hl, hc, hm, hno, hcell⟩ := h
  cases ao with
  | none => have := hno rfl; omega
  | some ad =>
    obtain ⟨b, off, spot⟩ := ad
    have hg : ∀ i, i < zs.length → w.cell? ((⟨b, off, spot⟩ : Addr).add i) = some (.int .i64 (zs.getD i 0)) := by
      intro i hi
      refine hcell _ rfl i _ ?_
      simp [List.getD, List.getElem?_eq_getElem hi]
    have h0 := hg 0 hp
    obtain rfl : spot = none := by simpa [Addr.add] using World.cell?_spot h0
    refine ⟨b, off, cap, rfl, hc, hm, World.block_lt_of_cell? _ _ h0, fun i hi => ?_⟩
    have := hg i hi
    rwa [Addr.add_lit] at this

theorem Tryd.infoInt : (Tryd.prog.info? 3).map (fun i => (i.zero, i.size, i.bytes)) = some (some (.int .i64 0), 1, 8) := by kernel_rfl

/-- append to a row of the call's own: what comes lies in the old row or in a new one. -/
theorem go_app_at {P : Program} {w : World} {ops : Array Oper} {rest : List Oper} {a : Act} {Q : Exit → Act → World → Prop} {d : Option Tmp} {ty : TypeId} {ps : String} {af : Array Edge}
    {s x : Operand} {t : TypeId} (B : Nat) (e : TypeId) (size bytes : Nat) (i : TypeInfo) (z : Value) (ht : P.underlying t = some (.slice e)) (hi : P.info? e = some i) (hz : i.zero = some z)
    (hsize : i.size = size) (hby : i.bytes = bytes) (hzs : z.cells.size = size) (hsz : 0 < size)
    (v : Value) (n : Nat) (xs : List Value) (hs : a.eval s = v) (ho : Ownv B e size w v n xs)
    (u : Value) (m : Nat) (news : List Value) (hx : a.eval x = u) (hr : Rdv size w u m news) (h1 : ∀ u ∈ news, u.oneCell' = true)
    (h63 : n + m ≤ maxLen) (hbytes : (n + m) * bytes ≤ 140737488355328) (hB : B ≤ w.heap.size)
    (hK : ∀ v' w', Ownv B e size w' v' (n + m) (xs ++ news) → Turn (Blks v) w w' → (∀ b, Blks v' b → Blks v b ∨ w.heap.size ≤ b) → wpList P ops Q rest (a.put d v') w') :
    wpList P ops Q (⟨d, .call { callee := .builtin .append, args := #[s, x], argTypes := #[t, t] }, ty, ps, af, none⟩ :: rest) a w := by
  obtain ⟨ao, cap, rfl, hl, hc, hm, hno, hcell⟩ := hr
  cases ao with
  | none =>
    obtain rfl := hno rfl
    obtain rfl : m = 0 := by omega
    obtain rfl : news = [] := List.eq_nil_of_length_eq_zero (by simpa using hl)
    refine wpList_append_own_none rfl s x t rfl B e i size ht hi v n xs hs ho hx ?_
    exact hK v w (by simpa using ho) (Turn.refl _ _) (fun b hb => .inl hb)
  | some ad =>
    refine wpList_append_own_at w rfl s x t rfl B e i z size bytes ht hi hz hsize hby hzs hsz v n xs hs ho ad m cap news hx hl (hcell ad rfl) h1 h63 hbytes hB ?_
    intro v' w' ho' hg _ hloc
    exact hK v' w' ho' ((Grown.turn hg).mono fun b hb => hb.symm) (fun b hb => by
      rcases hloc with h | h
      · exact .inl (h.symm.trans hb)
      · rw [Blks, h] at hb
        simp only [Option.some.injEq] at hb
        exact .inr (by omega))

/-- append to numbers of the call's own. -/
theorem go_appi {w : World} {ops : Array Oper} {rest : List Oper} {a : Act} {Q : Exit → Act → World → Prop} {d : Option Tmp} {ty : TypeId} {ps : String} {af : Array Edge} {s x : Operand}
    (B : Nat) (v : Value) (zs : List Int) (hs : a.eval s = v) (ho : OwnI B w v zs) (u : Value) (news : List Int) (hx : a.eval x = u) (hr : RdI w u news)
    (hl : zs.length + news.length ≤ 10000000000) (hB : B ≤ w.heap.size)
    (hK : ∀ v' w', OwnI B w' v' (zs ++ news) → Turn (Blks v) w w' → (∀ b, Blks v' b → Blks v b ∨ w.heap.size ≤ b) → wpList Tryd.prog ops Q rest (a.put d v') w') :
    wpList Tryd.prog ops Q (⟨d, .call { callee := .builtin .append, args := #[s, x], argTypes := #[40, 40] }, ty, ps, af, none⟩ :: rest) a w := by
  obtain ⟨i0, hi, hz0, hz1, hz2⟩ := info_parts Tryd.infoInt
  refine go_app_at B 3 1 8 i0 (.int .i64 0) Tryd.underlying40 hi hz0 hz1 hz2 rfl (by decide) v zs.length (zs.map (Value.int .i64)) hs ho u news.length (news.map (Value.int .i64)) hx hr (ones_int .i64 news) (by unfold maxLen; omega) (by omega) hB ?_
  intro v' w' ho' hg hloc
  exact hK v' w' (by unfold OwnI; simpa using ho') hg hloc
end Go.Proofs.YtdjfdobcjakmhaaDoor
end

section
/- Rows of numbers: a row of one, the first ones; the document's SameInts. -/
set_option linter.unusedSimpArgs false
set_option linter.unusedVariables false
namespace Go.Proofs.YtdjfdobcjakmhaaDoor
open Go.RowKit Go.Maps

theorem RdvBlk {w : World} {g : Nat} {e : TypeId} {size n : Nat} {xs : List Value} (h : Blk w g e xs) (hl : xs.length = n * size) (hm : n ≤ maxLen) : Rdv size w (.slice (some ⟨g, 0, none⟩) n n) n xs := by
  refine ⟨_, n, rfl, hl, Nat.le_refl _, hm, (fun h => by cases h), fun ad had j u hj => ?_⟩
  cases had
  rw [Addr.add_lit, Nat.zero_add, Blk.cell h, hj]
theorem OwnI.lit1 (w : World) (z : Int) : OwnI w.heap.size (w.alloc (.cells #[.int .i64 z] 3)) (.slice (some ⟨w.heap.size, 0, none⟩) 1 1) [z] :=
  Ownv.lit (B := w.heap.size) 3 (w := w) [.int .i64 z] (Nat.le_refl _) (by unfold maxLen; simp)
/-- The first k of a row are a row. -/
theorem OwnI.take {B : Nat} {w : World} {g cap : Nat} {zs : List Int} {n : Nat} (h : OwnI B w (.slice (some ⟨g, 0, none⟩) n cap) zs) (k : Nat) (hk : k ≤ zs.length) : OwnI B w (.slice (some ⟨g, 0, none⟩) k cap) (zs.take k) := by
  obtain ⟨h1, h2⟩ := h
  have hl : (zs.take k).length = k := by rw [List.length_take]; omega
  rcases h2 with ⟨e, _⟩ | ⟨g', cap', cur, hv, hb, hg, hn, hm, hs, ht⟩
  · cases e
  · simp only [Value.slice.injEq, Option.some.injEq, Addr.mk.injEq] at hv
    obtain ⟨⟨rfl, _, _⟩, hn', rfl⟩ := hv
    unfold OwnI Ownv
    rw [hl]
    refine ⟨by rw [List.length_map, hl, Nat.mul_one], .inr ⟨g, cap, cur, rfl, hb, hg, by omega, hm, hs, ?_⟩⟩
    rw [Nat.mul_one] at ht ⊢
    have := congrArg (List.take k) ht
    rw [List.take_take, Nat.min_eq_left (by omega)] at this
    rw [this, List.map_take]
theorem getD_ext {a b : List Int} (hl : a.length = b.length) (h : ∀ i, i < a.length → a.getD i 0 = b.getD i 0) : a = b := by
  refine List.ext_getElem hl fun i h1 h2 => ?_
  have := h i h1
  rwa [List.getD_eq_getElem?_getD, List.getElem?_eq_getElem h1, List.getD_eq_getElem?_getD, List.getElem?_eq_getElem h2] at this
set_option maxHeartbeats 4000000 in
set_option maxRecDepth 100000 in
theorem sameInts_any {w : World} {u v : Value} {a b : List Int} (ha : RdI w u a) (hb : RdI w v b) :
    Calls Tryd.prog 31 #[u, v] w fun e w' => e = .returned (.bool (decide (a = b))) ∧ Kept w w' := by
  obtain ⟨aa, ac, rfl, a1, a2, a3⟩ := ha.len
  obtain ⟨ba, bc, rfl, b1, b2, b3⟩ := hb.len
  have a63 : ((a.length : Nat) : Int) ≤ 9223372036854775807 := by unfold maxLen at a2; omega
  by_cases hl : a.length = b.length
  · have hd : ((a.length : Int) != (b.length : Int)) = false := by simp [hl]
    have HL := Shut.mk hl
    rw [← hl] at hb b1 hd ⊢
    clear hl
    go_enter Tryd.func31, Tryd.ntmps31
    go_wp2
    go_loopw [13] (fun i wr => ∃ k : Nat, k ≤ a.length ∧ i = .int .i64 k ∧ (∀ j, j < k → a.getD j 0 = b.getD j 0) ∧ Kept w wr) (fun i _ => a.length - (intOf i).toNat)
    case atStart => exact ⟨0, Nat.zero_le _, rfl, fun j hj => absurd hj (Nat.not_lt_zero _), Kept.refl _⟩
    case round =>
      obtain ⟨k, hk0, rfl, hsame, hk⟩ := hrel
      have HS := Shut.mk hsame
      clear hsame
      by_cases hlt : k < a.length
      · obtain ⟨rb, ro, rc, hrv, _, _, hrb, hcl⟩ := ha.addr (by omega)
        simp only [Value.slice.injEq] at hrv
        obtain ⟨rfl, _, rfl⟩ := hrv
        have hcb := hb
        rw [show (Value.slice ba a.length bc) = Value.slice ba b.length bc by rw [HL.out]] at hcb
        obtain ⟨sb, so, sc, hsv, _, _, hsb, hcl2⟩ := hcb.addr (by have := HL.out; omega)
        simp only [Value.slice.injEq] at hsv
        obtain ⟨rfl, _, rfl⟩ := hsv
        have x1 := hk.cell (p := ⟨rb, ro + k, none⟩) hrb |>.trans (hcl k hlt)
        have x2 := hk.cell (p := ⟨sb, so + k, none⟩) hsb |>.trans (hcl2 k (by have := HL.out; omega))
        clear hcl hcl2 hcb
        have k0 : (0 : Int) ≤ (k : Int) := by omega
        have k1 : (k : Int) < (a.length : Int) := by omega
        generalize hx : a.getD k 0 = x at x1
        generalize hy : b.getD k 0 = y at x2
        have HX := Shut.mk hx
        have HY := Shut.mk hy
        clear hx hy
        by_cases hxy : x = y
        · subst hxy
          go_wp2
          go_quiet (fail)
          go_wp2
          go_roundw
          case rel => exact ⟨k + 1, hlt, rfl, fun j hj => by
            by_cases c : j < k
            · exact HS.out j c
            · obtain rfl : j = k := by omega
              rw [HX.out, HY.out], hk.drewN _⟩
          case measure => simp [intOf]; omega
        · have hd2 : (x != y) = true := by simpa using hxy
          have hne : ¬ a = b := fun e => hxy (by rw [← HX.out, ← HY.out, e])
          have HN := Shut.mk hne
          clear hne hxy
          go_wp2
          go_quiet (fail)
          go_wp2
          go_ret
          exact ⟨by rw [decide_eq_false HN.out]; rfl, hk.drewN _⟩
      · obtain rfl : k = a.length := by omega
        have he := getD_ext HL.out HS.out
        have HE := Shut.mk he
        clear he
        go_wp2
        go_ret
        exact ⟨by rw [decide_eq_true HE.out]; rfl, hk⟩
  · have hd : ((a.length : Int) != (b.length : Int)) = true := by simp; omega
    have hne : ¬ a = b := fun e => hl (by rw [e])
    have HN := Shut.mk hne
    clear hne hl
    go_enter Tryd.func31, Tryd.ntmps31
    go_wp2
    go_ret
    exact ⟨by rw [decide_eq_false HN.out]; rfl, Kept.refl _⟩
/-- What was there is read as before, when new memory and one new block alone have turned. -/
theorem RdI.turnB {w0 w w' : World} {v : Value} {zs : List Int} {M : Nat} (h : RdI w0 v zs) (hk : Kept w0 w) (t : Turn (fun b => b = M) w w') (hM : w0.heap.size ≤ M) : RdI w' v zs := by
  obtain ⟨a, cap, rfl, h1, h2, h3, h4, h5⟩ := h
  refine ⟨a, cap, rfl, h1, h2, h3, h4, fun ad ha j u hj => ?_⟩
  have hc := h5 ad ha j u hj
  have hb := World.block_lt_of_cell? _ _ hc
  have hc2 := (Below.cell hk hb).trans hc
  have hb2 := World.block_lt_of_cell? _ _ hc2
  exact (World.cell?_of_block (t.block _ hb2 (by omega))).trans hc2
theorem OwnI.turnM {B M : Nat} {w w' : World} {v : Value} {zs : List Int} (h : OwnI B w v zs) (t : Turn (fun b => b = M) w w') (hM : M < B) : OwnI B w' v zs :=
  Ownv.turn h t fun b hb e => by have := (Ownv.lt h hb).2; omega
end Go.Proofs.YtdjfdobcjakmhaaDoor
end

section
/- Pairs of numbers as keys of maps. -/
set_option linter.unusedSimpArgs false
set_option linter.unusedVariables false
set_option maxRecDepth 100000
namespace Go.Proofs.YtdjfdobcjakmhaaDoor
open Go.RowKit Go.Maps

theorem Tryd.pairWide : (match Tryd.prog.underlying 101 with | some (.array _ _) | some (.struct _) => true | _ => false) = true := by kernel_rfl
theorem Tryd.pairLaw : WideMaps.KeyLaw Tryd.prog 101 := deep_law_laid (show laidOutB Tryd.prog = true by kernel_rfl) (m := 2) (by omega) (of_decide_eq_true (by kernel_rfl)) (by kernel_rfl) Tryd.pairWide
theorem pair_keyed : Keyed Tryd.prog 101 := Keyed.of_law Tryd.pairLaw
def k2 (a b : Int) : List UInt8 := keyBytes [.int .i64 a, .int .i64 b]
theorem keyPair {a b : Int} (ha : I64 a) (hb : I64 b) : keyOf Tryd.prog 101 (.agg #[.int .i64 a, .int .i64 b]) = some (.string (k2 a b)) := by
  have h1 : (Lit.int .i64 a).wf = true := WalkArith.wf_i64 ha
  have h2 : (Lit.int .i64 b).wf = true := WalkArith.wf_i64 hb
  have hu := Tryd.underlying101
  have hi := Tryd.underlying3
  have c1 : Tryd.prog.cellsOf 101 = 2 := by kernel_rfl
  have c2 : Tryd.prog.cellsOf 3 = 1 := by kernel_rfl
  have hk : Tryd.prog.keyType 101 = true := by kernel_rfl
  have hz : (Tryd.prog.types.size == 0) = false := by kernel_rfl
  obtain ⟨m, hm⟩ : ∃ m, Tryd.prog.types.size = m + 1 := ⟨Tryd.prog.types.size - 1, by have := beq_eq_false_iff_ne.1 hz; omega⟩
  have one : ∀ c : Int, (Lit.int .i64 c).wf = true → Tryd.prog.keyLits (m + 1) 3 [.int .i64 c] = some [.int .i64 c] := fun c hc => by
    unfold Program.keyLits
    rw [hi]
    simp [hc]
  have hcs : (Value.agg #[.int .i64 a, .int .i64 b]).cells = #[.int .i64 a, .int .i64 b] := rfl
  have two : Tryd.prog.keyLits (m + 1 + 1) 101 [.int .i64 a, .int .i64 b] = some [.int .i64 a, .int .i64 b] := by
    unfold Program.keyLits
    rw [hu]
    simp only [List.length_cons, List.length_nil, c1, if_true, c2]
    simp [List.range_succ, one a h1, one b h2]
  unfold keyOf
  rw [hm, hu]
  simp [hk, Value.formed, hu, c1, hcs, two, k2]
theorem k2_inj {a b c d : Int} (ha : I64 a) (hb : I64 b) (hc : I64 c) (hd : I64 d) (h : k2 a b = k2 c d) : a = c ∧ b = d := by
  have h1 := keyPair ha hb
  have h2 := keyPair hc hd
  rw [h] at h1
  have := pair_keyed.inj h1 h2
  simpa using this
end Go.Proofs.YtdjfdobcjakmhaaDoor
end

section
/- A tree in an array: plain facts over its 511 nodes. Nothing here names a program. -/
set_option linter.unusedVariables false
namespace Go.Proofs.YtdjfdobcjakmhaaDoor

namespace Mth
/-- How many leaves a tree may have. -/
def fulls : List Nat := [1, 2, 4, 8, 16, 32, 64, 128, 256]
def fullB (n : Nat) : Bool := fulls.any (Nat.beq n)
/-- A node's level: how many ones its number ends with. -/
def lvlF : Nat → Nat → Nat
  | 0, _ => 0
  | f + 1, x => bif Nat.beq (x % 2) 1 then lvlF f (x / 2) + 1 else 0
def lvl (x : Nat) : Nat := lvlF 10 x
def left (x : Nat) : Nat := x - 2 ^ (lvl x - 1)
def right (x : Nat) : Nat := x + 2 ^ (lvl x - 1)
def par (x : Nat) : Nat := bif Nat.beq (x / 2 ^ (lvl x + 1) % 2) 0 then x + 2 ^ lvl x else x - 2 ^ lvl x
def sib (x : Nat) : Nat := bif Nat.beq (x / 2 ^ (lvl x + 1) % 2) 0 then x + 2 * 2 ^ lvl x else x - 2 * 2 ^ lvl x
def pathF : Nat → Nat → Nat → List Nat
  | 0, _, _ => []
  | f + 1, x, n => bif Nat.beq x (n - 1) then [] else par x :: pathF f (par x) n
def path (x n : Nat) : List Nat := pathF 9 x n
def coF : Nat → Nat → Nat → List Nat
  | 0, _, _ => []
  | f + 1, x, n => bif Nat.beq x (n - 1) then [] else sib x :: coF f (par x) n
def copath (x n : Nat) : List Nat := coF 9 x n
def lo (x : Nat) : Nat := (x - (2 ^ lvl x - 1)) / 2
def hi (x : Nat) : Nat := (x + (2 ^ lvl x - 1)) / 2 + 1
def underB (x y : Nat) : Bool := Nat.ble (lo y) (lo x) && Nat.ble (hi x) (hi y) && Nat.ble (lvl x) (lvl y)
/-- The node of the least level that has both under it. -/
def commF : List Nat → Nat → Nat
  | [], _ => 0
  | p :: l, y => bif underB y p then p else commF l y
def comm (x y n : Nat) : Nat := commF (x :: path x n) y
def sizeF : List Nat → Nat → Nat
  | [], _ => 0
  | k :: l, n => bif Nat.ble n k then k else sizeF l n
def size (n : Nat) : Nat := sizeF fulls n
def hasB (y i : Nat) : Bool := Nat.ble (lo y) i && Nat.blt i (hi y)
/-- How many of some nodes have a leaf under them. -/
def cnt (i : Nat) : List Nat → Nat
  | [] => 0
  | y :: l => (bif hasB y i then 1 else 0) + cnt i l

/-! ## what is so of each node of each tree -/
def allB (p : Nat → Nat → Bool) : Bool := fulls.all fun n => (List.range (2 * n - 1)).all fun x => p n x
theorem allB_at {p : Nat → Nat → Bool} (h : allB p = true) {n x : Nat} (hn : n ∈ fulls) (hx : x < 2 * n - 1) : p n x = true :=
  List.all_eq_true.1 (List.all_eq_true.1 h n hn) x (List.mem_range.2 hx)
def disB (y z : Nat) : Bool := Nat.ble (hi y) (lo z) || Nat.ble (hi z) (lo y)
def pairB : List Nat → Bool
  | [] => true
  | y :: l => l.all (disB y) && pairB l
def wide : List Nat → Nat
  | [] => 0
  | y :: l => (hi y - lo y) + wide l
def partB (n x : Nat) : Bool := pairB (x :: copath x n) && Nat.beq (wide (x :: copath x n)) n && (x :: copath x n).all fun y => Nat.ble (hi y) n && Nat.blt (lo y) (hi y)
theorem part_all : allB partB = true := by decide +kernel
/-- Each node of a path is the one below it and its sibling put together. -/
def stepB (n x : Nat) : Bool := Nat.beq x (n - 1) || (Nat.blt (par x) (2 * n - 1) && Nat.blt (sib x) (2 * n - 1) && Nat.beq (sib (sib x)) x && Nat.beq (par (sib x)) (par x) && Nat.beq (lvl (par x)) (lvl x + 1) && Nat.beq (lvl (sib x)) (lvl x) &&
  ((Nat.beq (left (par x)) x && Nat.beq (right (par x)) (sib x)) || (Nat.beq (right (par x)) x && Nat.beq (left (par x)) (sib x))))
theorem step_all : allB stepB = true := by decide +kernel
/-- A path ends at the root. -/
def endB (n x : Nat) : Bool := Nat.beq ((path x n).getLastD x) (n - 1) && Nat.beq (path x n).length (copath x n).length && Nat.beq (lvl x + (path x n).length) (lvl (n - 1))
theorem end_all : allB endB = true := by decide +kernel

/-! ## each leaf just once -/
theorem sum_range_cnt (n : Nat) (y : Nat) (h1 : hi y ≤ n) (h2 : lo y ≤ hi y) : ((List.range n).map fun i => (bif hasB y i then 1 else 0)).sum = hi y - lo y := by
  have key : ∀ n, ((List.range n).map fun i => (bif hasB y i then 1 else 0)).sum = min n (hi y) - min n (lo y) := by
    intro n
    induction n with
    | zero => simp
    | succ n ih =>
      rw [List.range_succ, List.map_append, List.sum_append, ih]
      simp only [List.map_cons, List.map_nil, List.sum_cons, List.sum_nil, Nat.add_zero]
      unfold hasB
      by_cases c1 : lo y ≤ n
      · by_cases c2 : n < hi y
        · have e1 : Nat.ble (lo y) n = true := Nat.ble_eq_true_of_le c1
          have e2 : Nat.blt n (hi y) = true := Nat.ble_eq_true_of_le c2
          rw [e1, e2]
          simp only [Bool.and_self, cond_true]
          omega
        · have e2 : Nat.blt n (hi y) = false := by
            cases h : Nat.blt n (hi y) with
            | false => rfl
            | true => exact absurd (Nat.le_of_ble_eq_true h) c2
          rw [e2, Bool.and_false]
          simp only [cond_false]
          omega
      · have e1 : Nat.ble (lo y) n = false := by
          cases h : Nat.ble (lo y) n with
          | false => rfl
          | true => exact absurd (Nat.le_of_ble_eq_true h) c1
        rw [e1, Bool.false_and]
        simp only [cond_false]
        omega
  rw [key n]
  omega
theorem sum_cnt (n : Nat) (l : List Nat) (h : ∀ y ∈ l, hi y ≤ n ∧ lo y ≤ hi y) : ((List.range n).map fun i => cnt i l).sum = wide l := by
  induction l with
  | nil =>
    have hz : ∀ l : List Nat, (l.map fun _ => (0 : Nat)).sum = 0 := fun l => by induction l <;> simp_all
    exact hz _
  | cons y l ih =>
    have hy := h y List.mem_cons_self
    have h1 := ih (fun z hz => h z (List.mem_cons_of_mem _ hz))
    have h2 := sum_range_cnt n y hy.1 hy.2
    have hs : ∀ (l : List Nat) (f g : Nat → Nat), (l.map fun i => f i + g i).sum = (l.map f).sum + (l.map g).sum := by
      intro l f g
      induction l with
      | nil => rfl
      | cons a l ih => simp only [List.map_cons, List.sum_cons, ih]; omega
    show ((List.range n).map fun i => (bif hasB y i then 1 else 0) + cnt i l).sum = (hi y - lo y) + wide l
    rw [hs, h1, h2]
theorem cnt_none {i y : Nat} {l : List Nat} (hd : l.all (disB y) = true) (hy : hasB y i = true) : cnt i l = 0 := by
  induction l with
  | nil => rfl
  | cons z l ih =>
    simp only [List.all_cons, Bool.and_eq_true] at hd
    unfold cnt
    rw [ih hd.2]
    have hz : hasB z i = false := by
      cases h : hasB z i with
      | false => rfl
      | true =>
        unfold hasB at h hy
        rw [Bool.and_eq_true] at h hy
        have a1 := Nat.le_of_ble_eq_true h.1
        have a2 := Nat.le_of_ble_eq_true h.2
        have a3 := Nat.le_of_ble_eq_true hy.1
        have a4 := Nat.le_of_ble_eq_true hy.2
        have hdd := hd.1
        unfold disB at hdd
        rw [Bool.or_eq_true] at hdd
        rcases hdd with c | c
        · have := Nat.le_of_ble_eq_true c; omega
        · have := Nat.le_of_ble_eq_true c; omega
    rw [hz]
    rfl
theorem cnt_le {i : Nat} {l : List Nat} (hp : pairB l = true) : cnt i l ≤ 1 := by
  induction l with
  | nil => simp [cnt]
  | cons y l ih =>
    unfold pairB at hp
    rw [Bool.and_eq_true] at hp
    unfold cnt
    cases hy : hasB y i with
    | false =>
      have := ih hp.2
      simp only [cond_false]
      omega
    | true =>
      rw [cnt_none hp.1 hy]
      simp
theorem sum_full {f : Nat → Nat} {n : Nat} (h1 : ∀ i, i < n → f i ≤ 1) (h2 : ((List.range n).map f).sum = n) : ∀ i, i < n → f i = 1 := by
  have le : ∀ n, (∀ i, i < n → f i ≤ 1) → ((List.range n).map f).sum ≤ n := by
    intro n
    induction n with
    | zero => intro _; simp
    | succ n ih =>
      intro h
      rw [List.range_succ, List.map_append, List.sum_append]
      have := ih (fun i hi => h i (by omega))
      have := h n (Nat.lt_succ_self n)
      simp only [List.map_cons, List.map_nil, List.sum_cons, List.sum_nil]
      omega
  induction n with
  | zero => intro i hi; omega
  | succ n ih =>
    rw [List.range_succ, List.map_append, List.sum_append] at h2
    simp only [List.map_cons, List.map_nil, List.sum_cons, List.sum_nil] at h2
    have a := le n (fun i hi => h1 i (by omega))
    have b := h1 n (Nat.lt_succ_self n)
    intro i hi
    by_cases c : i = n
    · rw [c]; omega
    · exact ih (fun i hi => h1 i (by omega)) (by omega) i (by omega)
/-- A node and its copath have each leaf of the tree just once. -/
theorem parts_once {n x : Nat} (hn : n ∈ fulls) (hx : x < 2 * n - 1) : ∀ i, i < n → cnt i (x :: copath x n) = 1 := by
  have h := allB_at part_all hn hx
  unfold partB at h
  rw [Bool.and_eq_true, Bool.and_eq_true] at h
  have hall := List.all_eq_true.1 h.2
  refine sum_full (fun i _ => cnt_le h.1.1) ?_
  rw [sum_cnt n _ (fun y hy => by
    have := hall y hy
    rw [Bool.and_eq_true] at this
    exact ⟨Nat.le_of_ble_eq_true this.1, Nat.le_of_lt (Nat.le_of_ble_eq_true this.2)⟩)]
  exact Nat.eq_of_beq_eq_true h.1.2

/-! ## of two leaves -/
def unionB (n x : Nat) : Bool := Nat.beq x (n - 1) || (Nat.beq (lo (par x)) (min (lo x) (lo (sib x))) && Nat.beq (hi (par x)) (max (hi x) (hi (sib x))) && (Nat.beq (hi x) (lo (sib x)) || Nat.beq (hi (sib x)) (lo x)))
theorem union_all : allB unionB = true := by decide +kernel
def topB (n x : Nat) : Bool := Nat.ble (lvl x) (lvl (n - 1)) && (Nat.beq x (n - 1) || Nat.blt (lvl x) (lvl (n - 1))) && Nat.beq (lo (n - 1)) 0 && Nat.beq (hi (n - 1)) n && (Nat.blt 0 (x % 2) || (Nat.beq (lvl x) 0 && Nat.beq (lo x) (x / 2) && Nat.beq (hi x) (x / 2 + 1)))
theorem top_all : allB topB = true := by decide +kernel

structure StepP (n x : Nat) : Prop where
  inP : par x < 2 * n - 1
  inS : sib x < 2 * n - 1
  back : sib (sib x) = x
  same : par (sib x) = par x
  up : lvl (par x) = lvl x + 1
  beside : lvl (sib x) = lvl x
  kids : (left (par x) = x ∧ right (par x) = sib x) ∨ (right (par x) = x ∧ left (par x) = sib x)
  lo' : lo (par x) = min (lo x) (lo (sib x))
  hi' : hi (par x) = max (hi x) (hi (sib x))
  meet : hi x = lo (sib x) ∨ hi (sib x) = lo x
theorem step_at {n x : Nat} (hn : n ∈ fulls) (hx : x < 2 * n - 1) (hr : x ≠ n - 1) : StepP n x := by
  have h := allB_at step_all hn hx
  have u := allB_at union_all hn hx
  have hb : Nat.beq x (n - 1) = false := by
    cases e : Nat.beq x (n - 1) with
    | false => rfl
    | true => exact absurd (Nat.eq_of_beq_eq_true e) hr
  unfold stepB at h
  unfold unionB at u
  rw [hb, Bool.false_or] at h u
  simp only [Bool.and_eq_true, Bool.or_eq_true] at h u
  obtain ⟨⟨⟨⟨⟨⟨a1, a2⟩, a3⟩, a4⟩, a5⟩, a6⟩, a7⟩ := h
  obtain ⟨⟨b1, b2⟩, b3⟩ := u
  exact ⟨Nat.le_of_ble_eq_true a1, Nat.le_of_ble_eq_true a2, Nat.eq_of_beq_eq_true a3, Nat.eq_of_beq_eq_true a4, Nat.eq_of_beq_eq_true a5, Nat.eq_of_beq_eq_true a6,
    a7.imp (fun h => ⟨Nat.eq_of_beq_eq_true h.1, Nat.eq_of_beq_eq_true h.2⟩) (fun h => ⟨Nat.eq_of_beq_eq_true h.1, Nat.eq_of_beq_eq_true h.2⟩), Nat.eq_of_beq_eq_true b1, Nat.eq_of_beq_eq_true b2,
    b3.imp Nat.eq_of_beq_eq_true Nat.eq_of_beq_eq_true⟩
structure TopP (n x : Nat) : Prop where
  le : lvl x ≤ lvl (n - 1)
  root : x = n - 1 ∨ lvl x < lvl (n - 1)
  lo0 : lo (n - 1) = 0
  hin : hi (n - 1) = n
  leaf : x % 2 = 0 → lvl x = 0 ∧ lo x = x / 2 ∧ hi x = x / 2 + 1
theorem top_at {n x : Nat} (hn : n ∈ fulls) (hx : x < 2 * n - 1) : TopP n x := by
  have h := allB_at top_all hn hx
  unfold topB at h
  simp only [Bool.and_eq_true, Bool.or_eq_true] at h
  obtain ⟨⟨⟨⟨a1, a2⟩, a3⟩, a4⟩, a5⟩ := h
  refine ⟨Nat.le_of_ble_eq_true a1, a2.imp Nat.eq_of_beq_eq_true Nat.le_of_ble_eq_true, Nat.eq_of_beq_eq_true a3, Nat.eq_of_beq_eq_true a4, fun e => ?_⟩
  rcases a5 with c | ⟨⟨c1, c2⟩, c3⟩
  · have := Nat.le_of_ble_eq_true c
    omega
  · exact ⟨Nat.eq_of_beq_eq_true c1, Nat.eq_of_beq_eq_true c2, Nat.eq_of_beq_eq_true c3⟩
theorem hasB_iff {y i : Nat} : hasB y i = true ↔ lo y ≤ i ∧ i < hi y := by
  unfold hasB
  rw [Bool.and_eq_true]
  exact ⟨fun h => ⟨Nat.le_of_ble_eq_true h.1, Nat.le_of_ble_eq_true h.2⟩, fun h => ⟨Nat.ble_eq_true_of_le h.1, Nat.ble_eq_true_of_le h.2⟩⟩
theorem under_leaf {n j p : Nat} (hn : n ∈ fulls) (hj : 2 * j < 2 * n - 1) (hp : p < 2 * n - 1) : underB (2 * j) p = hasB p j := by
  obtain ⟨a, b, c⟩ := (top_at hn hj).leaf (by omega)
  have e : 2 * j / 2 = j := by omega
  rw [e] at b c
  unfold underB
  rw [a, b, c, show Nat.ble 0 (lvl p) = true from Nat.ble_eq_true_of_le (Nat.zero_le _), Bool.and_true]
  unfold hasB
  rfl
/-- Of a leaf that is not under a node: the one of its copath that has it, and what they have in common. -/
theorem meet_up {n j : Nat} (hn : n ∈ fulls) (hj : j < n) : ∀ (f z : Nat), z < 2 * n - 1 → lvl (n - 1) ≤ lvl z + f → hasB z j = false → ∃ y ∈ coF f z n, hasB y j = true ∧ commF (pathF f z n) (2 * j) = par y := by
  intro f
  induction f with
  | zero =>
    intro z hz hf hh
    have ht := top_at hn hz
    rcases ht.root with e | e
    · rw [e] at hh
      have : hasB (n - 1) j = true := hasB_iff.2 ⟨by rw [ht.lo0]; omega, by rw [ht.hin]; exact hj⟩
      rw [this] at hh; cases hh
    · omega
  | succ f ih =>
    intro z hz hf hh
    by_cases hr : z = n - 1
    · have ht := top_at hn hz
      rw [hr] at hh
      have : hasB (n - 1) j = true := hasB_iff.2 ⟨by rw [ht.lo0]; omega, by rw [ht.hin]; exact hj⟩
      rw [this] at hh; cases hh
    · have st := step_at hn hz hr
      have hb : Nat.beq z (n - 1) = false := by
        cases e : Nat.beq z (n - 1) with
        | false => rfl
        | true => exact absurd (Nat.eq_of_beq_eq_true e) hr
      have e1 : coF (f + 1) z n = sib z :: coF f (par z) n := by show (bif Nat.beq z (n - 1) then [] else _) = _; rw [hb]; rfl
      have e2 : pathF (f + 1) z n = par z :: pathF f (par z) n := by show (bif Nat.beq z (n - 1) then [] else _) = _; rw [hb]; rfl
      rw [e1, e2]
      have hu := under_leaf hn (j := j) (by omega) st.inP
      have hnz : ¬ (lo z ≤ j ∧ j < hi z) := fun c => by rw [hasB_iff.2 c] at hh; cases hh
      cases hs : hasB (sib z) j with
      | true =>
        refine ⟨sib z, List.mem_cons_self, hs, ?_⟩
        have h1 := hasB_iff.1 hs
        have hp : hasB (par z) j = true := hasB_iff.2 ⟨by rw [st.lo']; omega, by rw [st.hi']; omega⟩
        unfold commF
        rw [hu, hp, st.same]
        rfl
      | false =>
        have hns : ¬ (lo (sib z) ≤ j ∧ j < hi (sib z)) := fun c => by rw [hasB_iff.2 c] at hs; cases hs
        have hp : hasB (par z) j = false := by
          cases e : hasB (par z) j with
          | false => rfl
          | true =>
            have h1 := hasB_iff.1 e
            rw [st.lo', st.hi'] at h1
            have hm := st.meet
            omega
        obtain ⟨y, hy1, hy2, hy3⟩ := ih (par z) st.inP (by rw [st.up]; omega) hp
        refine ⟨y, List.mem_cons_of_mem _ hy1, hy2, ?_⟩
        unfold commF
        rw [hu, hp]
        exact hy3
/-- Of two leaves the one's copath has just one node that has the other one, and its parent is what they have in common. -/
theorem meet_leaves {n i j : Nat} (hn : n ∈ fulls) (hi : i < n) (hj : j < n) (hne : i ≠ j) : cnt j (copath (2 * i) n) = 1 ∧ ∃ y ∈ copath (2 * i) n, hasB y j = true ∧ comm (2 * i) (2 * j) n = par y := by
  have hx : 2 * i < 2 * n - 1 := by omega
  obtain ⟨a, b, c⟩ := (top_at hn hx).leaf (by omega)
  have e : 2 * i / 2 = i := by omega
  rw [e] at b c
  have hno : hasB (2 * i) j = false := by
    cases h : hasB (2 * i) j with
    | false => rfl
    | true =>
      have h1 := hasB_iff.1 h
      rw [b, c] at h1
      omega
  have h1 := parts_once hn hx j hj
  unfold cnt at h1
  rw [hno] at h1
  simp only [cond_false, Nat.zero_add] at h1
  have hl9 : lvl (n - 1) ≤ 9 := by
    have : ∀ m ∈ fulls, lvl (m - 1) ≤ 9 := by decide +kernel
    exact this n hn
  obtain ⟨y, hy1, hy2, hy3⟩ := meet_up hn hj 9 (2 * i) hx (by omega) hno
  refine ⟨h1, y, hy1, hy2, ?_⟩
  unfold comm commF
  rw [under_leaf hn (by omega) hx, hno]
  exact hy3

/-! ## paths, step by step -/
def itr : Nat → Nat → Nat
  | 0, z => z
  | i + 1, z => itr i (par z)
theorem itr_succ (i z : Nat) : itr (i + 1) z = par (itr i z) := by
  induction i generalizing z with
  | zero => rfl
  | succ i ih => exact ih (par z)
structure PathP (n f z : Nat) : Prop where
  len : (pathF f z n).length = lvl (n - 1) - lvl z
  clen : (coF f z n).length = lvl (n - 1) - lvl z
  at' : ∀ i, i < lvl (n - 1) - lvl z → (pathF f z n).getD i 0 = itr (i + 1) z ∧ (coF f z n).getD i 0 = sib (itr i z) ∧ itr i z < 2 * n - 1 ∧ itr i z ≠ n - 1 ∧ lvl (itr i z) = lvl z + i
  last : itr (lvl (n - 1) - lvl z) z = n - 1
theorem path_at {n : Nat} (hn : n ∈ fulls) : ∀ (f z : Nat), z < 2 * n - 1 → lvl (n - 1) ≤ lvl z + f → PathP n f z := by
  intro f
  induction f with
  | zero =>
    intro z hz hf
    have ht := top_at hn hz
    have e : z = n - 1 := ht.root.resolve_right (by omega)
    have e0 : lvl (n - 1) - lvl z = 0 := by omega
    exact ⟨by rw [e0]; rfl, by rw [e0]; rfl, fun i hi => by omega, by rw [e0]; exact e⟩
  | succ f ih =>
    intro z hz hf
    by_cases hr : z = n - 1
    · have e0 : lvl (n - 1) - lvl z = 0 := by rw [hr]; omega
      have hb : Nat.beq z (n - 1) = true := by rw [hr]; exact Nat.beq_refl _
      have e1 : coF (f + 1) z n = [] := by show (bif Nat.beq z (n - 1) then [] else _) = _; rw [hb]; rfl
      have e2 : pathF (f + 1) z n = [] := by show (bif Nat.beq z (n - 1) then [] else _) = _; rw [hb]; rfl
      exact ⟨by rw [e0, e2]; rfl, by rw [e0, e1]; rfl, fun i hi => by omega, by rw [e0]; exact hr⟩
    · have st := step_at hn hz hr
      have ht := top_at hn hz
      have hb : Nat.beq z (n - 1) = false := by
        cases e : Nat.beq z (n - 1) with
        | false => rfl
        | true => exact absurd (Nat.eq_of_beq_eq_true e) hr
      have e1 : coF (f + 1) z n = sib z :: coF f (par z) n := by show (bif Nat.beq z (n - 1) then [] else _) = _; rw [hb]; rfl
      have e2 : pathF (f + 1) z n = par z :: pathF f (par z) n := by show (bif Nat.beq z (n - 1) then [] else _) = _; rw [hb]; rfl
      have hl : lvl z < lvl (n - 1) := ht.root.resolve_left hr
      have q := ih (par z) st.inP (by rw [st.up]; omega)
      have eu := st.up
      refine ⟨by rw [e2, List.length_cons, q.len]; omega, by rw [e1, List.length_cons, q.clen]; omega, fun i hi => ?_, ?_⟩
      · cases i with
        | zero => rw [e1, e2]; exact ⟨rfl, rfl, hz, hr, rfl⟩
        | succ i =>
          have h := q.at' i (by omega)
          rw [e1, e2]
          exact ⟨h.1, h.2.1, h.2.2.1, h.2.2.2.1, by have := h.2.2.2.2; show lvl (itr i (par z)) = _; omega⟩
      · obtain ⟨m, hm⟩ : ∃ m, lvl (n - 1) - lvl z = m + 1 := ⟨lvl (n - 1) - lvl z - 1, by omega⟩
        rw [hm]
        have h := q.last
        have e3 : lvl (n - 1) - lvl (par z) = m := by omega
        rw [e3] at h
        exact h
theorem path_of {n x : Nat} (hn : n ∈ fulls) (hx : x < 2 * n - 1) : PathP n 9 x := path_at hn 9 x hx (by
  have : ∀ m ∈ fulls, lvl (m - 1) ≤ 9 := by decide +kernel
  have := this n hn
  omega)
/-- What siblings have in common. -/
theorem comm_sib {n x : Nat} (hn : n ∈ fulls) (hx : x < 2 * n - 1) (hr : x ≠ n - 1) : comm x (sib x) n = par x := by
  have h : allB (fun n x => Nat.beq x (n - 1) || Nat.beq (comm x (sib x) n) (par x)) = true := by decide +kernel
  have h1 := allB_at h hn hx
  simp only [Bool.or_eq_true] at h1
  rcases h1 with e | e
  · exact absurd (Nat.eq_of_beq_eq_true e) hr
  · exact Nat.eq_of_beq_eq_true e
/-- A node's leaves are its children's. -/
theorem kids_leaves {x : Nat} (hx : x < 511) (hl : 0 < lvl x) : lo (left x) = lo x ∧ hi (left x) = lo (right x) ∧ hi (right x) = hi x ∧ hi (left x) - lo (left x) = hi (right x) - lo (right x) ∧ left x < 511 ∧ right x < 511 ∧ par (left x) = x ∧ par (right x) = x ∧ sib (left x) = right x ∧ sib (right x) = left x := by
  have h : (List.range 511).all (fun x => Nat.beq (lvl x) 0 || (Nat.beq (lo (left x)) (lo x) && Nat.beq (hi (left x)) (lo (right x)) && Nat.beq (hi (right x)) (hi x) && Nat.beq (hi (left x) - lo (left x)) (hi (right x) - lo (right x)) && Nat.blt (left x) 511 && Nat.blt (right x) 511 && Nat.beq (par (left x)) x && Nat.beq (par (right x)) x && Nat.beq (sib (left x)) (right x) && Nat.beq (sib (right x)) (left x))) = true := by decide +kernel
  have h1 := List.all_eq_true.1 h x (List.mem_range.2 hx)
  simp only [Bool.or_eq_true, Bool.and_eq_true] at h1
  rcases h1 with e | ⟨⟨⟨⟨⟨⟨⟨⟨⟨a1, a2⟩, a3⟩, a4⟩, a5⟩, a6⟩, a7⟩, a8⟩, a9⟩, a10⟩
  · have := Nat.eq_of_beq_eq_true e; omega
  · exact ⟨Nat.eq_of_beq_eq_true a1, Nat.eq_of_beq_eq_true a2, Nat.eq_of_beq_eq_true a3, Nat.eq_of_beq_eq_true a4, Nat.le_of_ble_eq_true a5, Nat.le_of_ble_eq_true a6, Nat.eq_of_beq_eq_true a7, Nat.eq_of_beq_eq_true a8, Nat.eq_of_beq_eq_true a9, Nat.eq_of_beq_eq_true a10⟩
theorem size_ok {n : Nat} (h1 : 1 ≤ n) (h2 : n ≤ 256) : size n ∈ fulls ∧ n ≤ size n ∧ (size n = 1 ∨ size n / 2 < n) := by
  have h : (List.range 257).all (fun n => Nat.beq n 0 || (fullB (size n) && Nat.ble n (size n) && (Nat.beq (size n) 1 || Nat.blt (size n / 2) n))) = true := by decide +kernel
  have h3 := List.all_eq_true.1 h n (List.mem_range.2 (by omega))
  simp only [Bool.or_eq_true, Bool.and_eq_true] at h3
  rcases h3 with e | ⟨⟨a1, a2⟩, a3⟩
  · have := Nat.eq_of_beq_eq_true e; omega
  · refine ⟨?_, Nat.le_of_ble_eq_true a2, a3.imp Nat.eq_of_beq_eq_true Nat.le_of_ble_eq_true⟩
    unfold fullB at a1
    obtain ⟨m, hm, he⟩ := List.any_eq_true.1 a1
    rw [Nat.eq_of_beq_eq_true he]
    exact hm
end Mth
end Go.Proofs.YtdjfdobcjakmhaaDoor
end

section
/- A tree in an array: what two nodes have in common. Nothing here names a program. -/
set_option linter.unusedVariables false
namespace Go.Proofs.YtdjfdobcjakmhaaDoor
namespace Mth
/-- y is p, or under it. -/
def insB (y p : Nat) : Bool := Nat.ble (p - (2 ^ lvl p - 1)) y && Nat.ble y (p + (2 ^ lvl p - 1))
/-- The first node from x on, upward, that has y under it. -/
def comcF : Nat → Nat → Nat → Nat
  | 0, x, _ => x
  | f + 1, x, y => bif insB y x then x else comcF f (par x) y
def comc (x y : Nat) : Nat := comcF 10 x y
theorem insB_root {n y : Nat} (hn : n ∈ fulls) (hy : y < 2 * n - 1) : insB y (n - 1) = true := by
  have h : ∀ m ∈ fulls, 2 ^ lvl (m - 1) - 1 = m - 1 := by decide +kernel
  unfold insB
  rw [h n hn, Bool.and_eq_true]
  exact ⟨Nat.ble_eq_true_of_le (by omega), Nat.ble_eq_true_of_le (by omega)⟩
theorem insB_leaf {p j : Nat} (hp : p < 511) : insB (2 * j) p = hasB p j := by
  have h : (List.range 511).all (fun p => Nat.beq ((p - (2 ^ lvl p - 1)) % 2) 0 && Nat.beq ((p + (2 ^ lvl p - 1)) % 2) 0) = true := by decide +kernel
  have := List.all_eq_true.1 h p (List.mem_range.2 hp)
  rw [Bool.and_eq_true] at this
  have h1 := Nat.eq_of_beq_eq_true this.1
  have h2 := Nat.eq_of_beq_eq_true this.2
  rw [Bool.eq_iff_iff, hasB_iff]
  unfold insB lo hi
  rw [Bool.and_eq_true, Nat.ble_eq, Nat.ble_eq]
  omega
theorem mem_bd {n : Nat} (hn : n ∈ fulls) : 1 ≤ n ∧ n ≤ 256 := by
  have : ∀ m ∈ fulls, 1 ≤ m ∧ m ≤ 256 := by decide +kernel
  exact this n hn
theorem comcF_leaf {n j : Nat} (hn : n ∈ fulls) (hj : j < n) : ∀ (f z : Nat), z < 2 * n - 1 → lvl (n - 1) ≤ lvl z + f → comcF (f + 1) z (2 * j) = commF (z :: pathF f z n) (2 * j) := by
  have hb := mem_bd hn
  intro f
  induction f with
  | zero =>
    intro z hz hf
    have e : z = n - 1 := (top_at hn hz).root.resolve_right (by omega)
    have hu := under_leaf hn (j := j) (by omega) hz
    have hi := insB_leaf (p := z) (j := j) (by omega)
    have hr := insB_root hn (y := 2 * j) (by omega)
    rw [← e] at hr
    unfold comcF commF
    rw [hu, ← hi, hr]
    rfl
  | succ f ih =>
    intro z hz hf
    have hu := under_leaf hn (j := j) (by omega) hz
    have hi := insB_leaf (p := z) (j := j) (by omega)
    show (bif insB (2 * j) z then z else comcF (f + 1) (par z) (2 * j)) = (bif underB (2 * j) z then z else commF (pathF (f + 1) z n) (2 * j))
    rw [hu, ← hi]
    cases hc : insB (2 * j) z with
    | true => rfl
    | false =>
      have hr : z ≠ n - 1 := fun e => by rw [e, insB_root hn (by omega)] at hc; cases hc
      have st := step_at hn hz hr
      have hbq : Nat.beq z (n - 1) = false := by
        cases e : Nat.beq z (n - 1) with
        | false => rfl
        | true => exact absurd (Nat.eq_of_beq_eq_true e) hr
      have e2 : pathF (f + 1) z n = par z :: pathF f (par z) n := by show (bif Nat.beq z (n - 1) then [] else _) = _; rw [hbq]; rfl
      rw [e2]
      exact ih (par z) st.inP (by rw [st.up]; omega)
theorem comc_leaf {n i j : Nat} (hn : n ∈ fulls) (hi : i < n) (hj : j < n) : comc (2 * i) (2 * j) = comm (2 * i) (2 * j) n :=
  comcF_leaf hn hj 9 (2 * i) (by omega) (by
    have : ∀ m ∈ fulls, lvl (m - 1) ≤ 9 := by decide +kernel
    have := this n hn
    omega)
/-- What siblings have in common. -/
theorem comc_sib {n x : Nat} (hn : n ∈ fulls) (hx : x < 2 * n - 1) (hr : x ≠ n - 1) : comc x (sib x) = par x := by
  have h : allB (fun n x => Nat.beq x (n - 1) || Nat.beq (comc x (sib x)) (par x)) = true := by decide +kernel
  have h1 := allB_at h hn hx
  simp only [Bool.or_eq_true] at h1
  rcases h1 with e | e
  · exact absurd (Nat.eq_of_beq_eq_true e) hr
  · exact Nat.eq_of_beq_eq_true e
/-- Of two leaves the one's copath has just one node that has the other one, and its parent is what they have in common. -/
theorem meet_leaves' {n i j : Nat} (hn : n ∈ fulls) (hi : i < n) (hj : j < n) (hne : i ≠ j) : cnt j (copath (2 * i) n) = 1 ∧ ∃ y ∈ copath (2 * i) n, hasB y j = true ∧ comc (2 * i) (2 * j) = par y := by
  obtain ⟨h1, y, h2, h3, h4⟩ := meet_leaves hn hi hj hne
  exact ⟨h1, y, h2, h3, by rw [comc_leaf hn hi hj, h4]⟩
end Mth
end Go.Proofs.YtdjfdobcjakmhaaDoor
end

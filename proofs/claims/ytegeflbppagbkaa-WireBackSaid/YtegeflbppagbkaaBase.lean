/- Base for the walks of this seat: slices of memory as lists of values (of bytes: as lists of numbers), what a call may leave unchanged, and laws for append, slicing, conversion and indexing over them. No function of the program is named here. -/
import Derived.Test.YtegeflbppagbkaaProg
import Derived.WalkKit
import Derived.WalkSpells
import Derived.WalkLawsBesides
import Derived.ProofKit
import Derived.OpenShut
import Derived.Below
import Derived.Lib.Hide
import Derived.Laws.AppendOwnNone
import Derived.Laws.BytesArg
import Derived.StillTactics
import Derived.Deep.QuietTactic
import Derived.BigQuiet
set_option linter.unusedSimpArgs false
set_option linter.unusedVariables false
namespace Go.Proofs.Ytegeflbppagbkaa
open Go.RowKit

/-- v is a slice of n elements of 'size' cells each; its cells are xs. -/
def Rdv (size : Nat) (w : World) (v : Value) (n : Nat) (xs : List Value) : Prop :=
  ∃ (a : Option Addr) (cap : Nat), v = .slice a n cap ∧ xs.length = n * size ∧ n ≤ cap ∧ cap ≤ maxLen ∧ (a = none → cap = 0) ∧
    ∀ ad, a = some ad → ∀ j u, xs[j]? = some u → w.cell? (ad.add j) = some u

/-- v is a slice of bytes, which are the numbers zs. -/
def Rd (w : World) (v : Value) (zs : List Int) : Prop := Rdv 1 w v zs.length (zs.map (Value.int .u8))

/-- v is a slice of the call's own (blocks from B on), or nil; its cells are xs. -/
def Ownv (B : Nat) (e : TypeId) (size : Nat) (w : World) (v : Value) (n : Nat) (xs : List Value) : Prop := w.ownsRow B e size v n xs

def Own (B : Nat) (e : TypeId) (w : World) (v : Value) (zs : List Int) : Prop := Ownv B e 1 w v zs.length (zs.map (Value.int .u8))

/-- Of what was there nothing has turned. -/
def Kept (w w' : World) : Prop := Below w.heap.size w w'

theorem Kept.refl (w : World) : Kept w w := Below.refl _ _
theorem Kept.size {w w' : World} (h : Kept w w') : w.heap.size ≤ w'.heap.size := Below.size h
theorem Kept.trans {a b c : World} (h : Kept a b) (k : Kept b c) : Kept a c := Below.trans h (Below.mono k (Below.size h))
theorem Kept.alloc {a w : World} (h : Kept a w) (o : Obj) : Kept a (w.alloc o) := Below.alloc h h.size o
theorem Kept.drew {a w : World} (h : Kept a w) : Kept a w.drew := Below.drew h
theorem Kept.trans' {a b c : World} (h : Kept a b) (k : Below a.heap.size b c) : Kept a c := Below.trans h k
theorem Kept.drewN {a w : World} (h : Kept a w) (n : Nat) : Kept a (w.drewN n) := ⟨h.os, h.tape, h.output, h.size, h.block⟩
theorem Kept.below {B : Nat} {a b c : World} (h : Kept a b) (k : Below B b c) (hB : a.heap.size ≤ B) : Kept a c := Below.trans h (Below.mono k hB)

theorem Rdv.kept {size n : Nat} {w w' : World} {v : Value} {xs : List Value} (h : Rdv size w v n xs) (k : Kept w w') : Rdv size w' v n xs := by
  obtain ⟨a, cap, rfl, h1, h2, h3, h4, h5⟩ := h
  refine ⟨a, cap, rfl, h1, h2, h3, h4, fun ad ha j u hj => ?_⟩
  have hc := h5 ad ha j u hj
  rw [Below.cell k (World.block_lt_of_cell? _ _ hc)]
  exact hc

theorem Rd.kept {w w' : World} {v : Value} {zs : List Int} (h : Rd w v zs) (k : Kept w w') : Rd w' v zs := Rdv.kept h k

theorem Ownv.rdv {B : Nat} {e : TypeId} {size n : Nat} {w : World} {v : Value} {xs : List Value} (h : Ownv B e size w v n xs) : Rdv size w v n xs := by
  rcases h.2 with ⟨rfl, rfl⟩ | ⟨g, cap, cur, rfl, hb, hg, hn, hm, hs, ht⟩
  · exact ⟨none, 0, rfl, h.1, Nat.le_refl _, Nat.zero_le _, fun _ => rfl, fun _ hh => by cases hh⟩
  · refine ⟨_, cap, rfl, h.1, hn, hm, (fun hh => by cases hh), fun ad hh j u hj => ?_⟩
    cases hh
    exact World.ownsRow.cells h rfl j u hj

theorem Own.rd {B : Nat} {e : TypeId} {w : World} {v : Value} {zs : List Int} (h : Own B e w v zs) : Rd w v zs := Ownv.rdv h

theorem Ownv.kept {B : Nat} {e : TypeId} {size n : Nat} {w w' : World} {v : Value} {xs : List Value} (h : Ownv B e size w v n xs) (k : Kept w w') : Ownv B e size w' v n xs := by
  refine ⟨h.1, ?_⟩
  rcases h.2 with hn | ⟨g, cap, cur, rfl, hb, hg, rest⟩
  · exact .inl hn
  · refine .inr ⟨g, cap, cur, rfl, hb, ?_, rest⟩
    rw [k.block g (Array.getElem?_eq_some_iff.1 hg).1]
    exact hg

theorem Own.kept {B : Nat} {e : TypeId} {w w' : World} {v : Value} {zs : List Int} (h : Own B e w v zs) (k : Kept w w') : Own B e w' v zs := Ownv.kept h k

theorem Ownv.mono {B B' : Nat} {e : TypeId} {size n : Nat} {w : World} {v : Value} {xs : List Value} (h : Ownv B e size w v n xs) (k : B' ≤ B) : Ownv B' e size w v n xs := by
  refine ⟨h.1, ?_⟩
  rcases h.2 with hn | ⟨g, cap, cur, rfl, hb, rest⟩
  · exact .inl hn
  · exact .inr ⟨g, cap, cur, rfl, Nat.le_trans k hb, rest⟩

theorem Own.mono {B B' : Nat} {e : TypeId} {w : World} {v : Value} {zs : List Int} (h : Own B e w v zs) (k : B' ≤ B) : Own B' e w v zs := Ownv.mono h k

theorem Own.nil (B : Nat) (e : TypeId) (w : World) : Own B e w (.slice none 0 0) [] := World.ownsRow_nil w B e 1
theorem Rd.nil (w : World) : Rd w (.slice none 0 0) [] := ⟨none, 0, rfl, rfl, Nat.le_refl _, Nat.zero_le _, fun _ => rfl, fun _ h => by cases h⟩

/-- Each value is one cell. -/
theorem ones_int (k : IntKind) (zs : List Int) : ∀ u ∈ zs.map (Value.int k), u.oneCell' = true := ints_oneCell k zs

/-- A row that is laid with just these cells. -/
theorem Ownv.lit {B : Nat} (e : TypeId) {w : World} (cs : List Value) (hB : B ≤ w.heap.size) (hm : cs.length ≤ maxLen) :
    Ownv B e 1 (w.alloc (.cells cs.toArray e)) (.slice (some ⟨w.heap.size, 0, none⟩) cs.length cs.length) cs.length cs :=
  ⟨by simp, .inr ⟨w.heap.size, cs.length, cs.toArray, rfl, hB, heap_alloc_new w _, Nat.le_refl _, hm, by simp, by simp⟩⟩

/-- append to a row of the call's own, from whatever slice. -/
theorem go_app {P : Program} {w : World} {ops : Array Oper} {rest : List Oper} {a : Act} {Q : Exit → Act → World → Prop} {d : Option Tmp} {ty : TypeId} {ps : String} {af : Array Edge}
    {s x : Operand} {t : TypeId} (B : Nat) (e : TypeId) (size bytes : Nat) (i : TypeInfo) (z : Value) (ht : P.underlying t = some (.slice e)) (hi : P.info? e = some i) (hz : i.zero = some z)
    (hsize : i.size = size) (hby : i.bytes = bytes) (hzs : z.cells.size = size) (hsz : 0 < size)
    (v : Value) (n : Nat) (xs : List Value) (hs : a.eval s = v) (ho : Ownv B e size w v n xs)
    (u : Value) (m : Nat) (news : List Value) (hx : a.eval x = u) (hr : Rdv size w u m news) (h1 : ∀ u ∈ news, u.oneCell' = true)
    (h63 : n + m ≤ maxLen) (hbytes : (n + m) * bytes ≤ 140737488355328) (hB : B ≤ w.heap.size)
    (hK : ∀ v' w', Ownv B e size w' v' (n + m) (xs ++ news) → Below B w w' → wpList P ops Q rest (a.put d v') w') :
    wpList P ops Q (⟨d, .call { callee := .builtin .append, args := #[s, x], argTypes := #[t, t] }, ty, ps, af, none⟩ :: rest) a w := by
  obtain ⟨ao, cap, rfl, hl, hc, hm, hno, hcell⟩ := hr
  cases ao with
  | none =>
    obtain rfl := hno rfl
    obtain rfl : m = 0 := by omega
    obtain rfl : news = [] := List.eq_nil_of_length_eq_zero (by simpa using hl)
    refine wpList_append_own_none rfl s x t rfl B e i size ht hi v n xs hs ho hx ?_
    exact hK v w (by simpa using ho) (Below.refl _ _)
  | some ad =>
    refine wpList_append_own w rfl s x t rfl B e i z size bytes ht hi hz hsize hby hzs hsz v n xs hs ho ad m cap news hx hl (hcell ad rfl) h1 h63 hbytes hB ?_
    intro v' w' ho' hg _
    exact hK v' w' ho' ((Below.refl B w).grown hg hB fun k hk => (World.ownsRow.lt ho k hk).1)

/-- What a slice of bytes says as a string. -/
theorem go_str_run {P : Program} {w : World} {src e : TypeId} (hs : P.underlying src = some (.slice e)) (he : P.underlying e = some (.int .u8)) {v : Value} {zs : List Int} (h : Rd w v zs) :
    ∀ dst, P.underlying dst = some .string → (convert src dst v).run P w = .ok (.string (strOfNums zs)) w := by
  intro dst hd
  obtain ⟨ao, cap, rfl, hl, hc, hm, hno, hcell⟩ := h
  cases ao with
  | none =>
    obtain rfl := hno rfl
    have hz : zs.length = 0 := by omega
    obtain rfl : zs = [] := List.eq_nil_of_length_eq_zero hz
    exact run_convert_bytes_nil w src e hs he _ _ dst hd
  | some ad =>
    rw [run_convert_bytes_string w src dst e _ _ _ hs he hd]
    have hl' : (loadCells ad zs.length).run P w = .ok (zs.map (Value.int .u8)).toArray w := by
      have := run_loadCells_list (P := P) w ad (zs.map (Value.int .u8)) (hcell ad rfl)
      simpa using this
    rw [run_bytesToString w ad zs.length cap zs hl', foldl_push_bytes]
    simp [strOfNums, ByteArray.empty, ByteArray.emptyWithCapacity]
    rfl

/-- The same as an operation. -/
theorem go_str {P : Program} {w : World} {ops : Array Oper} {rest : List Oper} {a : Act} {Q : Exit → Act → World → Prop} {d : Option Tmp} {ty : TypeId} {ps : String} {af : Array Edge}
    {src e dst : TypeId} {x : Operand} (hs : P.underlying src = some (.slice e)) (he : P.underlying e = some (.int .u8)) (hd : P.underlying dst = some .string) (v : Value) (zs : List Int)
    (hx : a.eval x = v) (h : Rd w v zs) (hK : wpList P ops Q rest (a.put d (.string (strOfNums zs))) w) :
    wpList P ops Q (⟨d, .convert src dst x, ty, ps, af, none⟩ :: rest) a w := by
  refine wpList_plain rfl fun K hK' => ?_
  have hrun := go_str_run hs he h dst hd
  unfold Oper.wp
  simp [execOp, hx, hrun, Result.andThen]
  exact hK' _ _ hK

/-- v[lo:hi], of a slice of bytes. -/
theorem Rd.cut {w : World} {a : Option Addr} {cap : Nat} {zs : List Int} (h : Rd w (.slice a zs.length cap) zs) {lo hi : Nat} (h1 : lo ≤ hi) (h2 : hi ≤ zs.length) :
    Rd w (sliced a lo hi cap 1) ((zs.take hi).drop lo) := by
  obtain ⟨ao, c, hv, hl, hc, hm, hno, hcell⟩ := h
  simp only [Value.slice.injEq] at hv
  obtain ⟨rfl, _, rfl⟩ := hv
  have hlen : ((zs.take hi).drop lo).length = hi - lo := by simp; omega
  unfold Rd sliced
  rw [hlen]
  refine ⟨_, _, rfl, by simp; omega, by omega, by omega, ?_, ?_⟩
  · intro h
    cases a with
    | none => have := hno rfl; omega
    | some ad =>
      split at h
      · omega
      · simp at h
  · intro ad had j u hj
    have hjl : j < hi - lo := by
      have := (List.getElem?_eq_some_iff.1 hj).1
      simp at this; omega
    rw [if_neg (by omega)] at had
    cases a with
    | none => simp at had
    | some a0 =>
      simp only [Nat.mul_one, Option.map_some, Option.some.injEq] at had
      subst had
      have e1 : (a0.add lo).add j = a0.add (lo + j) := by
        unfold Addr.add
        by_cases hlo : lo = 0
        · subst hlo; simp
        · by_cases hj0 : j = 0
          · subst hj0; simp
          · simp [hlo, hj0, Nat.add_assoc]
      rw [e1]
      refine hcell a0 rfl (lo + j) u ?_
      rw [← hj]
      simp [List.getElem?_drop, List.getElem?_take, show lo + j < hi by omega]

theorem Rd.len {w : World} {v : Value} {zs : List Int} (h : Rd w v zs) : ∃ a cap, v = .slice a zs.length cap ∧ zs.length ≤ cap ∧ cap ≤ maxLen ∧ (a = none → cap = 0) := by
  obtain ⟨a, cap, rfl, _, h2, h3, h4, _⟩ := h
  exact ⟨a, cap, rfl, h2, h3, h4⟩

/-- A slice of bytes that is not empty has an address, and its cells are there. -/
theorem Rd.addr {w : World} {v : Value} {zs : List Int} (h : Rd w v zs) (hp : 0 < zs.length) :
    ∃ b off cap, v = .slice (some ⟨b, off, none⟩) zs.length cap ∧ zs.length ≤ cap ∧ cap ≤ maxLen ∧ b < w.heap.size ∧ ∀ i, i < zs.length → w.cell? ⟨b, off + i, none⟩ = some (.int .u8 (zs.getD i 0)) := by
  obtain ⟨ao, cap, rfl, hl, hc, hm, hno, hcell⟩ := h
  cases ao with
  | none => have := hno rfl; omega
  | some ad =>
    obtain ⟨b, off, spot⟩ := ad
    have hg : ∀ i, i < zs.length → w.cell? ((⟨b, off, spot⟩ : Addr).add i) = some (.int .u8 (zs.getD i 0)) := by
      intro i hi
      refine hcell _ rfl i _ ?_
      simp [List.getD, List.getElem?_eq_getElem hi]
    have h0 := hg 0 hp
    obtain rfl : spot = none := by simpa [Addr.add] using World.cell?_spot h0
    refine ⟨b, off, cap, rfl, hc, hm, World.block_lt_of_cell? _ _ h0, fun i hi => ?_⟩
    have := hg i hi
    rwa [Addr.add_lit] at this

theorem Try.info5 : (Try.prog.info? 5).map (fun i => (i.zero, i.size, i.bytes)) = some (some (.int .u8 0), 1, 1) := by kernel_rfl

/-- append to bytes of the call's own. -/
theorem go_appb {w : World} {ops : Array Oper} {rest : List Oper} {a : Act} {Q : Exit → Act → World → Prop} {d : Option Tmp} {ty : TypeId} {ps : String} {af : Array Edge} {s x : Operand}
    (B : Nat) (v : Value) (zs : List Int) (hs : a.eval s = v) (ho : Own B 5 w v zs) (u : Value) (news : List Int) (hx : a.eval x = u) (hr : Rd w u news)
    (hl : zs.length + news.length ≤ 140737488355328) (hB : B ≤ w.heap.size)
    (hK : ∀ v' w', Own B 5 w' v' (zs ++ news) → Below B w w' → wpList Try.prog ops Q rest (a.put d v') w') :
    wpList Try.prog ops Q (⟨d, .call { callee := .builtin .append, args := #[s, x], argTypes := #[23, 23] }, ty, ps, af, none⟩ :: rest) a w := by
  obtain ⟨i0, hi, hz0, hz1, hz2⟩ := info_parts Try.info5
  refine go_app B 5 1 1 i0 (.int .u8 0) Try.underlying23 hi hz0 hz1 hz2 rfl (by decide) v zs.length (zs.map (Value.int .u8)) hs ho u news.length (news.map (Value.int .u8)) hx hr (ones_int .u8 news) (by unfold maxLen; omega) (by omega) hB ?_
  intro v' w' h1 h2
  exact hK v' w' (by unfold Own; simpa using h1) h2

/-- A literal of bytes. -/
theorem Own.lit {w : World} (zs : List Int) (hl : zs.length ≤ 140737488355328) :
    Own w.heap.size 5 (w.alloc (.cells (zs.map (Value.int .u8)).toArray 5)) (.slice (some ⟨w.heap.size, 0, none⟩) zs.length zs.length) zs := by
  have := Ownv.lit (B := w.heap.size) 5 (w := w) (zs.map (Value.int .u8)) (Nat.le_refl _) (by simp; unfold maxLen; omega)
  simpa [Own] using this

/-- v is a slice of bytes that lies below block B, wherever that is not empty: what is written from B on doesn't turn it. -/
def Old (B : Nat) (w : World) (v : Value) (zs : List Int) : Prop := ∃ w0 : World, w0.heap.size ≤ B ∧ Below B w0 w ∧ Rd w0 v zs

theorem Old.rd {B : Nat} {w : World} {v : Value} {zs : List Int} (h : Old B w v zs) : Rd w v zs := by
  obtain ⟨w0, h1, h2, h3⟩ := h
  exact h3.kept (Below.mono h2 h1)
theorem Old.below {B : Nat} {w w' : World} {v : Value} {zs : List Int} (h : Old B w v zs) (k : Below B w w') : Old B w' v zs := by
  obtain ⟨w0, h1, h2, h3⟩ := h
  exact ⟨w0, h1, h2.trans k, h3⟩
theorem Rd.old {w : World} {v : Value} {zs : List Int} (h : Rd w v zs) : Old w.heap.size w v zs := ⟨w, Nat.le_refl _, Below.refl _ _, h⟩
theorem Rd.old' {B : Nat} {w w' : World} {v : Value} {zs : List Int} (h : Rd w v zs) (hB : w.heap.size ≤ B) (k : Below B w w') : Old B w' v zs := ⟨w, hB, k, h⟩

/-- make([]byte, 0, n). -/
theorem go_mkb {w : World} {ops : Array Oper} {rest : List Oper} {a : Act} {Q : Exit → Act → World → Prop} {d : Option Tmp} {ty : TypeId} {ps : String} {af : Array Edge} {c : Operand}
    (n : Int) (hc : a.eval c = .int .i64 n) (h0 : 0 ≤ n) (h1 : n ≤ 140737488355328)
    (hK : ∀ v' w', Own w.heap.size 5 w' v' [] → Kept w w' → wpList Try.prog ops Q rest (a.put d v') w') :
    wpList Try.prog ops Q (⟨d, .makeSlice 23 (.const (.int .i64 0)) c, ty, ps, af, none⟩ :: rest) a w := by
  obtain ⟨i0, hi, hz0, hz1, hz2⟩ := info_parts Try.info5
  obtain ⟨k, rfl⟩ := Int.eq_ofNat_of_zero_le h0
  refine wpList_make_own w rfl (.const (.int .i64 0)) c 23 rfl w.heap.size 5 i0 (.int .u8 0) 1 Try.underlying23 hi hz0 hz1 .i64 .i64 k k rfl hc rfl (by rw [hz2]; omega) (by unfold maxLen; omega) (Nat.le_refl _) ?_
  intro w' ho hg
  exact hK _ w' ho ((Below.refl w.heap.size w).grown hg (Nat.le_refl _) fun k hk => by cases hk)

/-- make([]byte, n, n). -/
theorem go_mkf {w : World} {ops : Array Oper} {rest : List Oper} {a : Act} {Q : Exit → Act → World → Prop} {d : Option Tmp} {ty : TypeId} {ps : String} {af : Array Edge} {l c : Operand}
    (n : Nat) (hl : a.eval l = .int .i64 n) (hc : a.eval c = .int .i64 n) (h1 : n ≤ 140737488355328)
    (hK : ∀ w', Own w.heap.size 5 w' (.slice (some ⟨w.heap.size, 0, none⟩) n n) (List.replicate n 0) → Kept w w' → wpList Try.prog ops Q rest (a.put d (.slice (some ⟨w.heap.size, 0, none⟩) n n)) w') :
    wpList Try.prog ops Q (⟨d, .makeSlice 23 l c, ty, ps, af, none⟩ :: rest) a w := by
  obtain ⟨i0, hi, hz0, hz1, hz2⟩ := info_parts Try.info5
  refine wpList_make_full w rfl l c 23 rfl w.heap.size 5 i0 (.int .u8 0) 1 Try.underlying23 hi hz0 hz1 .i64 .i64 n n n hl hc rfl rfl (by rw [hz2]; omega) (by unfold maxLen; omega) (Nat.le_refl _) ?_
  intro w' ho hg
  refine hK w' ?_ ((Below.refl w.heap.size w).grown hg (Nat.le_refl _) fun k hk => by cases hk)
  unfold Own Ownv
  rw [List.length_replicate, List.map_replicate]
  simpa [toList_madeCells_one, Value.cells] using ho


theorem go_cut_lh {w : World} {ops : Array Oper} {rest : List Oper} {a : Act} {Q : Exit → Act → World → Prop} {d : Option Tmp} {ty : TypeId} {ps : String} {af : Array Edge} {x lo hi : Operand}
    (v : Value) (zs : List Int) (hx : a.eval x = v) (hr : Rd w v zs) (l h : Int) (hlo : a.eval lo = .int .i64 l) (hhi : a.eval hi = .int .i64 h) (h0 : 0 ≤ l) (hlh : l ≤ h) (hh : h ≤ zs.length)
    (hK : ∀ v', Rd w v' ((zs.take h.toNat).drop l.toNat) → wpList Try.prog ops Q rest (a.put d v') w) :
    wpList Try.prog ops Q (⟨d, .slice 23 x (some lo) (some hi) none, ty, ps, af, none⟩ :: rest) a w := by
  obtain ⟨b, cap, rfl, h1, h2, h3⟩ := hr.len
  refine wpList_plain rfl fun K hK' => ?_
  have hs : Try.prog.underlying 23 = some (.slice (Try.prog.elem 23)) := by kernel_rfl
  have hz : ∀ w, (sizeOf (Try.prog.elem 23)).run Try.prog w = .ok 1 w := fun w => by kernel_rfl
  have hrun := run_slice_lh w 23 b zs.length cap hs .i64 .i64 l h h0 hlh (by omega)
  rw [hz] at hrun
  simp only [Result.andThen] at hrun
  unfold Oper.wp
  simp [execOp, hx, hlo, hhi, run_sliceAt_slice, hs, hrun, Result.andThen]
  refine hK' _ _ (hK _ ?_)
  exact hr.cut (by omega) (by omega)

theorem go_cut_l {w : World} {ops : Array Oper} {rest : List Oper} {a : Act} {Q : Exit → Act → World → Prop} {d : Option Tmp} {ty : TypeId} {ps : String} {af : Array Edge} {x lo : Operand}
    (v : Value) (zs : List Int) (hx : a.eval x = v) (hr : Rd w v zs) (l : Int) (hlo : a.eval lo = .int .i64 l) (h0 : 0 ≤ l) (hh : l ≤ zs.length)
    (hK : ∀ v', Rd w v' (zs.drop l.toNat) → wpList Try.prog ops Q rest (a.put d v') w) :
    wpList Try.prog ops Q (⟨d, .slice 23 x (some lo) (none) none, ty, ps, af, none⟩ :: rest) a w := by
  obtain ⟨b, cap, rfl, h1, h2, h3⟩ := hr.len
  refine wpList_plain rfl fun K hK' => ?_
  have hs : Try.prog.underlying 23 = some (.slice (Try.prog.elem 23)) := by kernel_rfl
  have hz : ∀ w, (sizeOf (Try.prog.elem 23)).run Try.prog w = .ok 1 w := fun w => by kernel_rfl
  have hrun := run_slice_l w 23 b zs.length cap hs .i64 l h0 (by omega)
  rw [hz] at hrun
  simp only [Result.andThen] at hrun
  unfold Oper.wp
  simp [execOp, hx, hlo, run_sliceAt_slice, hs, hrun, Result.andThen]
  refine hK' _ _ (hK _ ?_)
  have := hr.cut (lo := l.toNat) (hi := zs.length) (by omega) (Nat.le_refl _)
  rwa [List.take_length] at this

theorem go_cut_h {w : World} {ops : Array Oper} {rest : List Oper} {a : Act} {Q : Exit → Act → World → Prop} {d : Option Tmp} {ty : TypeId} {ps : String} {af : Array Edge} {x hi : Operand}
    (v : Value) (zs : List Int) (hx : a.eval x = v) (hr : Rd w v zs) (h : Int) (hhi : a.eval hi = .int .i64 h) (h0 : 0 ≤ h) (hh : h ≤ zs.length)
    (hK : ∀ v', Rd w v' (zs.take h.toNat) → wpList Try.prog ops Q rest (a.put d v') w) :
    wpList Try.prog ops Q (⟨d, .slice 23 x (none) (some hi) none, ty, ps, af, none⟩ :: rest) a w := by
  obtain ⟨b, cap, rfl, h1, h2, h3⟩ := hr.len
  refine wpList_plain rfl fun K hK' => ?_
  have hs : Try.prog.underlying 23 = some (.slice (Try.prog.elem 23)) := by kernel_rfl
  have hz : ∀ w, (sizeOf (Try.prog.elem 23)).run Try.prog w = .ok 1 w := fun w => by kernel_rfl
  have hrun := run_slice_h w 23 b zs.length cap hs .i64 h h0 (by omega)
  rw [hz] at hrun
  simp only [Result.andThen] at hrun
  unfold Oper.wp
  simp [execOp, hx, hhi, run_sliceAt_slice, hs, hrun, Result.andThen]
  refine hK' _ _ (hK _ ?_)
  have := hr.cut (lo := 0) (hi := h.toNat) (by omega) (by omega)
  rwa [List.drop_zero] at this

theorem results4 {fn : Func} {t u v x : Tmp} (h : fn.results = #[.tmp t, .tmp u, .tmp v, .tmp x]) (tmps : Array Value) (P : Program) (w : World) :
    (results fn tmps).run P w = .ok (.tuple #[tmps.getD t undef, tmps.getD u undef, tmps.getD v undef, tmps.getD x undef]) w := by
  simp [results, h]

theorem go_cut_1 {w : World} {ops : Array Oper} {rest : List Oper} {a : Act} {Q : Exit → Act → World → Prop} {d : Option Tmp} {ty : TypeId} {ps : String} {af : Array Edge} {x lo : Operand}
    (v : Value) (zs : List Int) (hx : a.eval x = v) (hr : Rd w v zs) (hlo : a.eval lo = .int .i64 1) (hh : 0 < zs.length)
    (hK : ∀ v', Rd w v' (zs.drop 1) → wpList Try.prog ops Q rest (a.put d v') w) :
    wpList Try.prog ops Q (⟨d, .slice 23 x (some lo) none none, ty, ps, af, none⟩ :: rest) a w :=
  go_cut_l v zs hx hr 1 hlo (by omega) (by omega) hK

/-- append to a row of the call's own, with all that it leaves. -/
theorem go_appg {P : Program} {w : World} {ops : Array Oper} {rest : List Oper} {a : Act} {Q : Exit → Act → World → Prop} {d : Option Tmp} {ty : TypeId} {ps : String} {af : Array Edge}
    {s x : Operand} {t : TypeId} (B : Nat) (e : TypeId) (size bytes : Nat) (i : TypeInfo) (z : Value) (ht : P.underlying t = some (.slice e)) (hi : P.info? e = some i) (hz : i.zero = some z)
    (hsize : i.size = size) (hby : i.bytes = bytes) (hzs : z.cells.size = size) (hsz : 0 < size)
    (v : Value) (n : Nat) (xs : List Value) (hs : a.eval s = v) (ho : Ownv B e size w v n xs)
    (u : Value) (m : Nat) (news : List Value) (hx : a.eval x = u) (hr : Rdv size w u m news) (h1 : ∀ u ∈ news, u.oneCell' = true)
    (h63 : n + m ≤ maxLen) (hbytes : (n + m) * bytes ≤ 140737488355328) (hB : B ≤ w.heap.size)
    (hK : ∀ v' w', Ownv B e size w' v' (n + m) (xs ++ news) → Below B w w' → w.grownBy w' v.ownBlock → wpList P ops Q rest (a.put d v') w') :
    wpList P ops Q (⟨d, .call { callee := .builtin .append, args := #[s, x], argTypes := #[t, t] }, ty, ps, af, none⟩ :: rest) a w := by
  obtain ⟨ao, cap, rfl, hl, hc, hm, hno, hcell⟩ := hr
  cases ao with
  | none =>
    obtain rfl := hno rfl
    obtain rfl : m = 0 := by omega
    obtain rfl : news = [] := List.eq_nil_of_length_eq_zero (by simpa using hl)
    refine wpList_append_own_none rfl s x t rfl B e i size ht hi v n xs hs ho hx ?_
    exact hK v w (by simpa using ho) (Below.refl _ _) (World.grownBy.refl _ _)
  | some ad =>
    refine wpList_append_own w rfl s x t rfl B e i z size bytes ht hi hz hsize hby hzs hsz v n xs hs ho ad m cap news hx hl (hcell ad rfl) h1 h63 hbytes hB ?_
    intro v' w' ho' hg _
    exact hK v' w' ho' ((Below.refl B w).grown hg hB fun k hk => (World.ownsRow.lt ho k hk).1) hg

/-- What is owned of another element type stays as it is behind an append. -/
theorem Ownv.other {B B' : Nat} {e e' : TypeId} {size size' n n' : Nat} {w w' : World} {v v' : Value} {xs xs' : List Value} (h : Ownv B e size w v n xs) (h' : Ownv B' e' size' w v' n' xs') (hne : e ≠ e')
    (hg : w.grownBy w' v'.ownBlock) : Ownv B e size w' v n xs := by
  refine World.ownsRow.kept h hg ?_
  rcases h.2 with ⟨rfl, _⟩ | ⟨g, cap, cur, rfl, hb, hgg, _⟩
  · exact .inl rfl
  · refine .inr fun hh => ?_
    rcases h'.2 with ⟨rfl, _⟩ | ⟨g', cap', cur', rfl, hb', hgg', _⟩
    · simp [Value.ownBlock] at hh
    · simp only [Value.ownBlock, Option.some.injEq] at hh
      subst hh
      rw [hgg] at hgg'
      simp only [Option.some.injEq, Obj.cells.injEq] at hgg'
      exact hne hgg'.2.1

/-- What a cut reads as, in whatever world. -/
theorem go_cut_lw {w : World} {ops : Array Oper} {rest : List Oper} {a : Act} {Q : Exit → Act → World → Prop} {d : Option Tmp} {ty : TypeId} {ps : String} {af : Array Edge} {x lo : Operand}
    (v : Value) (zs : List Int) (hx : a.eval x = v) (hr : Rd w v zs) (l : Int) (hlo : a.eval lo = .int .i64 l) (h0 : 0 ≤ l) (hh : l ≤ zs.length)
    (hK : ∀ v', (∀ w0, Rd w0 v zs → Rd w0 v' (zs.drop l.toNat)) → wpList Try.prog ops Q rest (a.put d v') w) :
    wpList Try.prog ops Q (⟨d, .slice 23 x (some lo) (none) none, ty, ps, af, none⟩ :: rest) a w := by
  obtain ⟨b, cap, rfl, h1, h2, h3⟩ := hr.len
  refine wpList_plain rfl fun K hK' => ?_
  have hs : Try.prog.underlying 23 = some (.slice (Try.prog.elem 23)) := by kernel_rfl
  have hz : ∀ w, (sizeOf (Try.prog.elem 23)).run Try.prog w = .ok 1 w := fun w => by kernel_rfl
  have hrun := run_slice_l w 23 b zs.length cap hs .i64 l h0 (by omega)
  rw [hz] at hrun
  simp only [Result.andThen] at hrun
  unfold Oper.wp
  simp [execOp, hx, hlo, run_sliceAt_slice, hs, hrun, Result.andThen]
  refine hK' _ _ (hK _ fun w0 h0' => ?_)
  have := h0'.cut (lo := l.toNat) (hi := zs.length) (by omega) (Nat.le_refl _)
  rwa [List.take_length] at this

end Go.Proofs.Ytegeflbppagbkaa

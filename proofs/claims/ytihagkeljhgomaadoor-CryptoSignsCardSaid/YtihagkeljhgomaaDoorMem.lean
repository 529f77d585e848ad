/- What a call may turn (a set of blocks), numbers in slices, and rows of the call's own as such. No function of the program is named here. -/
import Derived.Test.YtihagkeljhgomaaDoorCore
import Derived.Maps.OwnSet
import Derived.Maps.AppendAt
import Derived.Maps.RangeWalk
import Derived.LaidOnce
set_option linter.unusedSimpArgs false
set_option linter.unusedVariables false
namespace Go.Proofs.YtihagkeljhgomaaDoor
open Go.RowKit Go.Maps

/-- From w to w' only blocks of F have turned; new blocks may be there. -/
structure Turn (F : Nat → Prop) (w w' : World) : Prop where
  os : w'.os = w.os
  tape : w'.tape = w.tape
  output : w'.output = w.output
  size : w.heap.size ≤ w'.heap.size
  block : ∀ k, k < w.heap.size → ¬ F k → w'.heap[k]? = w.heap[k]?

theorem Turn.refl (F : Nat → Prop) (w : World) : Turn F w w := ⟨rfl, rfl, rfl, Nat.le_refl _, fun _ _ _ => rfl⟩
theorem Turn.mono {F G : Nat → Prop} {w w' : World} (h : Turn F w w') (hs : ∀ b, F b → G b) : Turn G w w' := ⟨h.os, h.tape, h.output, h.size, fun k hk hn => h.block k hk fun e => hn (hs k e)⟩
/-- Behind one another; what is new may be turned. -/
theorem Turn.trans {F G : Nat → Prop} {a b c : World} (h : Turn F a b) (k : Turn G b c) (hs : ∀ x, G x → F x ∨ a.heap.size ≤ x) : Turn F a c :=
  ⟨k.os.trans h.os, k.tape.trans h.tape, k.output.trans h.output, Nat.le_trans h.size k.size, fun i hi hn => (k.block i (Nat.lt_of_lt_of_le hi h.size) (fun e => by
    rcases hs i e with h1 | h1
    · exact hn h1
    · omega)).trans (h.block i hi hn)⟩
theorem Turn.kept {F : Nat → Prop} {a b c : World} (h : Turn F a b) (k : Kept b c) : Turn F a c :=
  ⟨k.os.trans h.os, k.tape.trans h.tape, k.output.trans h.output, Nat.le_trans h.size k.size, fun i hi hn => (k.block i (Nat.lt_of_lt_of_le hi h.size)).trans (h.block i hi hn)⟩
theorem Kept.turn {w w' : World} (h : Kept w w') (F : Nat → Prop) : Turn F w w' := ⟨h.os, h.tape, h.output, h.size, fun k hk _ => h.block k hk⟩
theorem Turn.toKept {w w' : World} (h : Turn (fun b => w.heap.size ≤ b) w w') : Kept w w' := ⟨h.os, h.tape, h.output, h.size, fun k hk => h.block k hk (by omega)⟩
theorem Turn.below {F : Nat → Prop} {B : Nat} {w0 w w' : World} (h0 : Below B w0 w) (h : Turn F w w') (hF : ∀ b, F b → B ≤ b) (hB : B ≤ w.heap.size) : Below B w0 w' :=
  ⟨h.os.trans h0.os, h.tape.trans h0.tape, h.output.trans h0.output, Nat.le_trans h0.size h.size, fun k hk => (h.block k (by omega) (fun e => by have := hF k e; omega)).trans (h0.block k hk)⟩
theorem Turn.keptOf {F : Nat → Prop} {w0 w w' : World} (h0 : Kept w0 w) (h : Turn F w w') (hF : ∀ b, F b → w0.heap.size ≤ b) : Kept w0 w' := Turn.below h0 h hF h0.size
theorem Below.turn {B : Nat} {w w' : World} (h : Below B w w') : Turn (fun b => B ≤ b) w w' := ⟨h.os, h.tape, h.output, h.size, fun k hk hn => h.block k (by omega)⟩
theorem Grown.turn {w w' : World} {row : Option Nat} (h : w.grownBy w' row) : Turn (fun b => some b = row) w w' := ⟨h.os, h.tape, h.output, h.size, fun k hk hn => h.block k hk hn⟩
theorem Turn.alloc {F : Nat → Prop} {a w : World} (h : Turn F a w) (o : Obj) : Turn F a (w.alloc o) := h.kept ((Kept.refl w).alloc o)
theorem Turn.drewN {F : Nat → Prop} {a w : World} (h : Turn F a w) (n : Nat) : Turn F a (w.drewN n) := h.kept ((Kept.refl w).drewN n)
theorem Turn.drew {F : Nat → Prop} {a w : World} (h : Turn F a w) : Turn F a w.drew := h.kept ((Kept.refl w).drew)
theorem turn_setCell (w : World) (a : Addr) (v : Value) : Turn (fun b => b = a.block) w (w.setCell a v) :=
  ⟨rfl, rfl, rfl, by simp [World.setCell], fun k hk hn => Below.heap_setCell _ _ _ _ hn⟩
theorem turn_setCells (w : World) (b off : Nat) (vs : List Value) : Turn (fun k => k = b) w (w.setCells b off vs) := by
  induction vs generalizing w off with
  | nil => exact Turn.refl _ _
  | cons v r ih => exact Turn.trans (turn_setCell w ⟨b, off, none⟩ v) (ih _ _) (fun x h => .inl h)

theorem Kept.setCell {a w : World} (h : Kept a w) {ad : Addr} (hb : a.heap.size ≤ ad.block) (v : Value) : Kept a (w.setCell ad v) :=
  Turn.keptOf h (turn_setCell w ad v) (fun b e => by rw [e]; exact hb)
theorem size_setCell (w : World) (ad : Addr) (v : Value) : (w.setCell ad v).heap.size = w.heap.size := by simp [World.setCell]
/-- Two worlds that say the same of the blocks of F. -/
def Same (F : Nat → Prop) (w w' : World) : Prop := ∀ b, F b → w'.heap[b]? = w.heap[b]?
theorem Turn.same {F G : Nat → Prop} {w w' : World} (h : Turn F w w') (hl : ∀ b, G b → b < w.heap.size) (hd : ∀ b, G b → ¬ F b) : Same G w w' := fun b hb => h.block b (hl b hb) (hd b hb)
theorem Kept.same {G : Nat → Prop} {w w' : World} (h : Kept w w') (hl : ∀ b, G b → b < w.heap.size) : Same G w w' := fun b hb => h.block b (hl b hb)
theorem Same.mono {F G : Nat → Prop} {w w' : World} (h : Same F w w') (hs : ∀ b, G b → F b) : Same G w w' := fun b hb => h b (hs b hb)

/-- The block of a slice, if it has one. -/
def Blks (v : Value) (b : Nat) : Prop := v.ownBlock = some b

theorem Ownv.same {B : Nat} {e : TypeId} {size n : Nat} {w w' : World} {v : Value} {xs : List Value} (h : Ownv B e size w v n xs) (k : Same (Blks v) w w') : Ownv B e size w' v n xs := by
  refine ⟨h.1, ?_⟩
  rcases h.2 with hn | ⟨g, cap, cur, rfl, hb, hg, rest⟩
  · exact .inl hn
  · refine .inr ⟨g, cap, cur, rfl, hb, ?_, rest⟩
    rw [k g rfl]
    exact hg
theorem Ownv.lt {B : Nat} {e : TypeId} {size n : Nat} {w : World} {v : Value} {xs : List Value} (h : Ownv B e size w v n xs) {b : Nat} (hb : Blks v b) : b < w.heap.size ∧ B ≤ b := by
  rcases h.2 with ⟨rfl, _⟩ | ⟨g, cap, cur, rfl, hb', hg, rest⟩
  · cases hb
  · obtain rfl : g = b := by simpa [Blks, Value.ownBlock] using hb
    exact ⟨(Array.getElem?_eq_some_iff.1 hg).1, hb'⟩
theorem Ownv.obj {B : Nat} {e : TypeId} {size n : Nat} {w : World} {v : Value} {xs : List Value} (h : Ownv B e size w v n xs) {b : Nat} (hb : Blks v b) : ∃ cur, w.heap[b]? = some (.cells cur e (0, 0)) := by
  rcases h.2 with ⟨rfl, _⟩ | ⟨g, cap, cur, rfl, hb', hg, rest⟩
  · cases hb
  · obtain rfl : g = b := by simpa [Blks, Value.ownBlock] using hb
    exact ⟨cur, hg⟩
/-- Rows of different element types are different blocks. -/
theorem Ownv.apart {B B' : Nat} {e e' : TypeId} {size size' n n' : Nat} {w : World} {v v' : Value} {xs xs' : List Value} (h : Ownv B e size w v n xs) (h' : Ownv B' e' size' w v' n' xs') (hne : e ≠ e') {b : Nat} (hb : Blks v b) : ¬ Blks v' b := by
  intro hb'
  obtain ⟨c, hc⟩ := h.obj hb
  obtain ⟨c', hc'⟩ := h'.obj hb'
  rw [hc] at hc'
  simp only [Option.some.injEq, Obj.cells.injEq] at hc'
  exact hne hc'.2.1
theorem Ownv.mono0 {B : Nat} {e : TypeId} {size n : Nat} {w : World} {v : Value} {xs : List Value} (h : Ownv B e size w v n xs) : Ownv 0 e size w v n xs := h.mono (Nat.zero_le _)
theorem Ownv.from {e : TypeId} {size n : Nat} {w : World} {v : Value} {xs : List Value} (h : Ownv 0 e size w v n xs) (B : Nat) (hB : ∀ b, Blks v b → B ≤ b) : Ownv B e size w v n xs := by
  refine ⟨h.1, ?_⟩
  rcases h.2 with hn | ⟨g, cap, cur, rfl, hb, rest⟩
  · exact .inl hn
  · exact .inr ⟨g, cap, cur, rfl, hB g rfl, rest⟩
/-- A row of the call's own is another block than one of another type. -/
theorem Ownv.notBlk {B : Nat} {e e' : TypeId} {size n : Nat} {w : World} {v : Value} {xs cs : List Value} {g : Nat} (h : Ownv B e size w v n xs) (h' : Blk w g e' cs) (hne : e ≠ e') : ¬ Blks v g := by
  intro hb
  obtain ⟨c, hc⟩ := h.obj hb
  unfold Blk at h'
  rw [hc] at h'
  simp only [Option.some.injEq, Obj.cells.injEq] at h'
  exact hne h'.2.1
theorem Ownv.setCell {B : Nat} {e : TypeId} {size n : Nat} {w : World} {v : Value} {xs : List Value} (h : Ownv B e size w v n xs) {ad : Addr} (hn : ¬ Blks v ad.block) (u : Value) : Ownv B e size (w.setCell ad u) v n xs :=
  h.same fun b hb => (turn_setCell w ad u).block b (h.lt hb).1 (fun e => hn (e ▸ hb))
theorem Ownv.turn {B : Nat} {e : TypeId} {size n : Nat} {w w' : World} {v : Value} {xs : List Value} {F : Nat → Prop} (h : Ownv B e size w v n xs) (k : Turn F w w') (hn : ∀ b, Blks v b → ¬ F b) : Ownv B e size w' v n xs :=
  h.same fun b hb => k.block b (h.lt hb).1 (hn b hb)
theorem Blk.turn {w w' : World} {g : Nat} {e : TypeId} {xs : List Value} {F : Nat → Prop} (h : Blk w g e xs) (k : Turn F w w') (hn : ¬ F g) : Blk w' g e xs := by
  have hl := h.lt
  unfold Blk at h ⊢
  rw [k.block g hl hn]; exact h
theorem Blk.kept {w w' : World} {g : Nat} {e : TypeId} {xs : List Value} (h : Blk w g e xs) (k : Kept w w') : Blk w' g e xs := h.below k h.lt
theorem ownsMap_turn {H : Type} {w w' : World} {P : Program} {k : TypeId} {R : Value → Option (DataW H × List MemPlace)} {b n : Nat} {D : DataW H} {F : Nat → Prop} (h : w.ownsMap P k R b n D) (t : Turn F w w') (hn : ¬ F b) : w'.ownsMap P k R b n D := by
  obtain ⟨es, clock, hb, r⟩ := h
  have hlt := (Array.getElem?_eq_some_iff.1 hb).1
  exact ⟨es, clock, (t.block b hlt hn).trans hb, r⟩
theorem ownsMap_notBlk {H : Type} {w : World} {P : Program} {k : TypeId} {R : Value → Option (DataW H × List MemPlace)} {b n : Nat} {D : DataW H} (h : w.ownsMap P k R b n D) {B : Nat} {e : TypeId} {size m : Nat} {v : Value} {xs : List Value} (h' : Ownv B e size w v m xs) : ¬ Blks v b := by
  intro hb
  obtain ⟨c, hc⟩ := h'.obj hb
  obtain ⟨es, clock, hm, _⟩ := h
  rw [hc] at hm
  simp at hm
theorem ownsMap_notBlk' {H : Type} {w : World} {P : Program} {k : TypeId} {R : Value → Option (DataW H × List MemPlace)} {b n : Nat} {D : DataW H} (h : w.ownsMap P k R b n D) {g : Nat} {e : TypeId} {xs : List Value} (h' : Blk w g e xs) : g ≠ b := by
  intro hb
  subst hb
  obtain ⟨es, clock, hm, _⟩ := h
  unfold Blk at h'
  rw [h'] at hm
  simp at hm
theorem Blk.new (w : World) (cs : List Value) (e : TypeId) : Blk (w.alloc (.cells cs.toArray e)) w.heap.size e cs := heap_alloc_new w _
theorem Blk.same {w w' : World} {g : Nat} {e : TypeId} {xs : List Value} (h : Blk w g e xs) (k : Same (fun b => b = g) w w') : Blk w' g e xs := by
  unfold Blk at h ⊢
  rw [k g rfl]; exact h
theorem ownsMap_same {H : Type} {w w' : World} {P : Program} {k : TypeId} {R : Value → Option (DataW H × List MemPlace)} {b n : Nat} {D : DataW H} (h : w.ownsMap P k R b n D) (hs : Same (fun x => x = b) w w') : w'.ownsMap P k R b n D := by
  obtain ⟨es, clock, hb, F, hn, hD⟩ := h
  exact ⟨es, clock, (hs b rfl).trans hb, F, hn, hD⟩

/-! ## numbers -/
/-- v is a slice of numbers. -/
def RdI (w : World) (v : Value) (zs : List Int) : Prop := Rdv 1 w v zs.length (zs.map (Value.int .i64))
/-- v is a slice of numbers of the call's own. -/
def OwnI (B : Nat) (w : World) (v : Value) (zs : List Int) : Prop := Ownv B 3 1 w v zs.length (zs.map (Value.int .i64))
/-- Numbers that are int's. -/
def I64 (z : Int) : Prop := -9223372036854775808 ≤ z ∧ z ≤ 9223372036854775807

theorem RdI.kept {w w' : World} {v : Value} {zs : List Int} (h : RdI w v zs) (k : Kept w w') : RdI w' v zs := Rdv.kept h k
theorem OwnI.rd {B : Nat} {w : World} {v : Value} {zs : List Int} (h : OwnI B w v zs) : RdI w v zs := Ownv.rdv h
theorem RdI.nil (w : World) : RdI w (.slice none 0 0) [] := ⟨none, 0, rfl, rfl, Nat.le_refl _, Nat.zero_le _, fun _ => rfl, fun _ h => by cases h⟩
theorem OwnI.nil (B : Nat) (w : World) : OwnI B w (.slice none 0 0) [] := World.ownsRow_nil w B _ 1
theorem RdI.len {w : World} {v : Value} {zs : List Int} (h : RdI w v zs) : ∃ a cap, v = .slice a zs.length cap ∧ zs.length ≤ cap ∧ cap ≤ maxLen ∧ (a = none → cap = 0) := by
  obtain ⟨a, cap, rfl, _, h2, h3, h4, _⟩ := h
  exact ⟨a, cap, rfl, h2, h3, h4⟩
theorem RdI.addr {w : World} {v : Value} {zs : List Int} (h : RdI w v zs) (hp : 0 < zs.length) :
    ∃ b off cap, v = .slice (some ⟨b, off, none⟩) zs.length cap ∧ zs.length ≤ cap ∧ cap ≤ maxLen ∧ b < w.heap.size ∧ ∀ i, i < zs.length → w.cell? ⟨b, off + i, none⟩ = some (.int .i64 (zs.getD i 0)) := by
  obtain ⟨ao, cap, rfl, hl, hc, hm, hno, hcell⟩ := h
  cases ao with
  | none => have := hno rfl; omega
  | some ad =>
    obtain ⟨b, off, spot⟩ := ad
    have hg : ∀ i, i < zs.length → w.cell? ((⟨b, off, spot⟩ : Addr).add i) = some (.int .i64 (zs.getD i 0)) := by
      intro i hi
      refine hcell _ rfl i _ ?_
      simp [List.getD, List.getElem?_eq_getElem hi]
    have h0 := hg 0 hp
    obtain rfl : spot = none := by simpa [Addr.add] using World.cell?_spot h0
    refine ⟨b, off, cap, rfl, hc, hm, World.block_lt_of_cell? _ _ h0, fun i hi => ?_⟩
    have := hg i hi
    rwa [Addr.add_lit] at this

theorem Tryd.infoInt : (Tryd.prog.info? 3).map (fun i => (i.zero, i.size, i.bytes)) = some (some (.int .i64 0), 1, 8) := by kernel_rfl

/-- append to a row of the call's own: what comes lies in the old row or in a new one. -/
theorem go_app_at {P : Program} {w : World} {ops : Array Oper} {rest : List Oper} {a : Act} {Q : Exit → Act → World → Prop} {d : Option Tmp} {ty : TypeId} {ps : String} {af : Array Edge}
    {s x : Operand} {t : TypeId} (B : Nat) (e : TypeId) (size bytes : Nat) (i : TypeInfo) (z : Value) (ht : P.underlying t = some (.slice e)) (hi : P.info? e = some i) (hz : i.zero = some z)
    (hsize : i.size = size) (hby : i.bytes = bytes) (hzs : z.cells.size = size) (hsz : 0 < size)
    (v : Value) (n : Nat) (xs : List Value) (hs : a.eval s = v) (ho : Ownv B e size w v n xs)
    (u : Value) (m : Nat) (news : List Value) (hx : a.eval x = u) (hr : Rdv size w u m news) (h1 : ∀ u ∈ news, u.oneCell' = true)
    (h63 : n + m ≤ maxLen) (hbytes : (n + m) * bytes ≤ 140737488355328) (hB : B ≤ w.heap.size)
    (hK : ∀ v' w', Ownv B e size w' v' (n + m) (xs ++ news) → Turn (Blks v) w w' → (∀ b, Blks v' b → Blks v b ∨ w.heap.size ≤ b) → wpList P ops Q rest (a.put d v') w') :
    wpList P ops Q (⟨d, .call { callee := .builtin .append, args := #[s, x], argTypes := #[t, t] }, ty, ps, af, none⟩ :: rest) a w := by
  obtain ⟨ao, cap, rfl, hl, hc, hm, hno, hcell⟩ := hr
  cases ao with
  | none =>
    obtain rfl := hno rfl
    obtain rfl : m = 0 := by omega
    obtain rfl : news = [] := List.eq_nil_of_length_eq_zero (by simpa using hl)
    refine wpList_append_own_none rfl s x t rfl B e i size ht hi v n xs hs ho hx ?_
    exact hK v w (by simpa using ho) (Turn.refl _ _) (fun b hb => .inl hb)
  | some ad =>
    refine wpList_append_own_at w rfl s x t rfl B e i z size bytes ht hi hz hsize hby hzs hsz v n xs hs ho ad m cap news hx hl (hcell ad rfl) h1 h63 hbytes hB ?_
    intro v' w' ho' hg _ hloc
    exact hK v' w' ho' ((Grown.turn hg).mono fun b hb => hb.symm) (fun b hb => by
      rcases hloc with h | h
      · exact .inl (h.symm.trans hb)
      · rw [Blks, h] at hb
        simp only [Option.some.injEq] at hb
        exact .inr (by omega))

/-- append to numbers of the call's own. -/
theorem go_appi {w : World} {ops : Array Oper} {rest : List Oper} {a : Act} {Q : Exit → Act → World → Prop} {d : Option Tmp} {ty : TypeId} {ps : String} {af : Array Edge} {s x : Operand}
    (B : Nat) (v : Value) (zs : List Int) (hs : a.eval s = v) (ho : OwnI B w v zs) (u : Value) (news : List Int) (hx : a.eval x = u) (hr : RdI w u news)
    (hl : zs.length + news.length ≤ 10000000000) (hB : B ≤ w.heap.size)
    (hK : ∀ v' w', OwnI B w' v' (zs ++ news) → Turn (Blks v) w w' → (∀ b, Blks v' b → Blks v b ∨ w.heap.size ≤ b) → wpList Tryd.prog ops Q rest (a.put d v') w') :
    wpList Tryd.prog ops Q (⟨d, .call { callee := .builtin .append, args := #[s, x], argTypes := #[26, 26] }, ty, ps, af, none⟩ :: rest) a w := by
  obtain ⟨i0, hi, hz0, hz1, hz2⟩ := info_parts Tryd.infoInt
  refine go_app_at B 3 1 8 i0 (.int .i64 0) Tryd.underlying26 hi hz0 hz1 hz2 rfl (by decide) v zs.length (zs.map (Value.int .i64)) hs ho u news.length (news.map (Value.int .i64)) hx hr (ones_int .i64 news) (by unfold maxLen; omega) (by omega) hB ?_
  intro v' w' ho' hg hloc
  exact hK v' w' (by unfold OwnI; simpa using ho') hg hloc
end Go.Proofs.YtihagkeljhgomaaDoor

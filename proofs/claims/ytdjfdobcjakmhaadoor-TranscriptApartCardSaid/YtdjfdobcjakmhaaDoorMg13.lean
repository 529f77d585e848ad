/- Texts of one proof, put together: TsM, OpenM, AtG. -/
import Derived.Test.YtdjfdobcjakmhaaDoorMg01
import Derived.Test.YtdjfdobcjakmhaaDoorMg04
import Derived.Deep.MidRow
import Derived.Test.YtdjfdobcjakmhaaDoorMg05
import Derived.Deep.Slices
import Derived.Laws.IdiomArrays
section
/- A slice of arrays of three numbers in memory: messages. -/
set_option linter.unusedSimpArgs false
set_option linter.unusedVariables false
namespace Go.Proofs.YtdjfdobcjakmhaaDoor
open Go.RowKit Go.Maps

def mcs (m : Msg) : List Value := [.int .i64 m.content, .int .i64 m.sig, .int .i64 m.secret]
def mflat : List Msg → List Value
  | [] => []
  | m :: l => mcs m ++ mflat l
theorem mflat_length (l : List Msg) : (mflat l).length = l.length * 3 := by
  induction l with
  | nil => rfl
  | cons m l ih => simp only [mflat, List.length_append, ih, List.length_cons, mcs, List.length_nil]; omega
theorem mflat_at (l : List Msg) (k j : Nat) (hk : k < l.length) (hj : j < 3) : (mflat l)[k * 3 + j]? = (mcs (l.getD k msg0))[j]? := by
  induction l generalizing k with
  | nil => simp at hk
  | cons m l ih =>
    cases k with
    | zero =>
      simp only [mflat, Nat.zero_mul, Nat.zero_add, List.getD_cons_zero]
      rw [List.getElem?_append_left (by simpa [mcs] using hj)]
    | succ k =>
      simp only [mflat, List.getD_cons_succ]
      rw [List.getElem?_append_right (by simp [mcs]; omega)]
      have e : (k + 1) * 3 + j - (mcs m).length = k * 3 + j := by simp [mcs]; omega
      rw [e]
      exact ih k (by simpa using hk)
theorem mflat_append (l m : List Msg) : mflat (l ++ m) = mflat l ++ mflat m := by
  induction l with
  | nil => rfl
  | cons a l ih => simp only [List.cons_append, mflat, ih, List.append_assoc]
/-- v reads as the messages l. -/
def RdMs (w : World) (v : Value) (l : List Msg) : Prop := Rdv 3 w v l.length (mflat l)
theorem RdMs.kept {w w' : World} {v : Value} {l : List Msg} (h : RdMs w v l) (k : Kept w w') : RdMs w' v l := Rdv.kept h k
theorem RdMs.nil (w : World) : RdMs w (.slice none 0 0) [] := ⟨none, 0, rfl, rfl, Nat.le_refl _, Nat.zero_le _, fun _ => rfl, fun _ h => by cases h⟩
theorem RdMs.len {w : World} {v : Value} {l : List Msg} (h : RdMs w v l) : ∃ a cap, v = .slice a l.length cap ∧ l.length ≤ cap ∧ cap ≤ maxLen ∧ (a = none → cap = 0) := by
  obtain ⟨a, cap, h1, h2, h3, h4, h5, h6⟩ := h
  exact ⟨a, cap, h1, h3, h4, h5⟩
/-- The k-th message's row. -/
theorem RdMs.at {w : World} {v : Value} {l : List Msg} (h : RdMs w v l) {k : Nat} (hk : k < l.length) : ∃ b o cap, v = .slice (some ⟨b, o, none⟩) l.length cap ∧ w.rangeAt b (o + k * 3) (mcs (l.getD k msg0)) := by
  obtain ⟨a, cap, rfl, h2, h3, h4, h5, h6⟩ := h
  cases a with
  | none => have := h5 rfl; omega
  | some ad =>
    obtain ⟨b, off, spot⟩ := ad
    have hg : ∀ j, j < 3 → ∀ u, (mcs (l.getD k msg0))[j]? = some u → w.cell? ((⟨b, off, spot⟩ : Addr).add (k * 3 + j)) = some u := fun j hj u hu => h6 _ rfl _ u (by rw [mflat_at l k j hk hj]; exact hu)
    have h00 := h6 _ rfl 0 (.int .i64 (l.getD 0 msg0).content) (by have := mflat_at l 0 0 (by omega) (by decide); simpa [mcs] using this)
    obtain rfl : spot = none := by simpa [Addr.add] using World.cell?_spot h00
    refine ⟨b, off, cap, rfl, fun j v hv => ?_⟩
    have hj : j < 3 := by
      have := (List.getElem?_eq_some_iff.1 hv).1
      simpa [mcs] using this
    have := hg j hj v hv
    rw [Addr.add_mid] at this
    rw [Nat.add_assoc]
    exact this
/-- The three numbers of the k-th message. -/
theorem RdMs.cells {w : World} {b o : Nat} {m : Msg} (h : w.rangeAt b o (mcs m)) : w.cell? ⟨b, o, none⟩ = some (.int .i64 m.content) ∧ w.cell? ⟨b, o + 1, none⟩ = some (.int .i64 m.sig) ∧ w.cell? ⟨b, o + 2, none⟩ = some (.int .i64 m.secret) :=
  ⟨h 0 _ rfl, h 1 _ rfl, h 2 _ rfl⟩
theorem RdMs.pre {w : World} {g o c n : Nat} {l : List Msg} (h : RdMs w (.slice (some ⟨g, o, none⟩) n c) l) (k : Nat) (hk : k ≤ l.length) : RdMs w (.slice (some ⟨g, o, none⟩) k c) (l.take k) := by
  obtain ⟨a, cap, hv, hl, hc, hm, hno, hcell⟩ := h
  simp only [Value.slice.injEq] at hv
  obtain ⟨rfl, _, rfl⟩ := hv
  have hlen : (l.take k).length = k := by rw [List.length_take]; omega
  unfold RdMs
  rw [hlen]
  refine ⟨_, _, rfl, by rw [mflat_length, hlen], by omega, hm, hno, fun ad had j u hj => hcell ad had j u ?_⟩
  have e : mflat l = mflat (l.take k) ++ mflat (l.drop k) := by rw [← mflat_append, List.take_append_drop]
  rw [e, List.getElem?_append_left (List.getElem?_eq_some_iff.1 hj).1]
  exact hj
end Go.Proofs.YtdjfdobcjakmhaaDoor
end

section
/- What comes in: a slice of arrays of three numbers. -/
set_option linter.unusedSimpArgs false
set_option linter.unusedVariables false
set_option maxRecDepth 100000
namespace Go.Proofs.YtdjfdobcjakmhaaDoor
open Go.RowKit Go.ChangeShapes Go.WideShapes Go.ChangeAt

/-- One message's cells. -/
theorem cells_of_msg {H : Type} {enc : TypeId × Value → H} {W : World} {base : Nat} {sp : Nat → Bool} {held : Bool} {fuel : Nat} {cs : List Value} {x : DataW H × List MemPlace} (hl : cs.length = 3) (h : DataW.trod enc Tryd.prog W base sp held fuel 50 cs = some x) :
    ∃ m : Msg, cs = mcs m ∧ I64 m.content ∧ I64 m.sig ∧ I64 m.secret := by
  have hc1 : Tryd.prog.cellsOf 3 = 1 := by kernel_rfl
  match cs, hl with
  | [c0, c1, c2], _ =>
    obtain ⟨y0, y1, y2, n, _, t0, t1, t2⟩ := trod_array3 Tryd.underlying50 hc1 (c0 := c0) (c1 := c1) (c2 := c2) h
    obtain ⟨n0, q0, _, w0⟩ := DataW.trod_int Tryd.underlying3 t0
    obtain ⟨n1, q1, _, w1⟩ := DataW.trod_int Tryd.underlying3 t1
    obtain ⟨n2, q2, _, w2⟩ := DataW.trod_int Tryd.underlying3 t2
    simp only [List.cons.injEq, and_true] at q0 q1 q2
    subst q0 q1 q2
    exact ⟨⟨n0, n1, n2⟩, rfl, bounds_i64 w0, bounds_i64 w1, bounds_i64 w2⟩
theorem open_msgs {H : Type} {enc : TypeId × Value → H} {W : World} {base : Nat} {v : Value} {d : DataW H} {p : List MemPlace} (hv : Value.okWide Tryd.prog W .any base 49 v)
    (h : DataW.Trod enc Tryd.prog W 0 (fun _ => true) true 49 v d p) : ∃ ls : List Msg, RdMs W v ls ∧ ∀ m ∈ ls, I64 m.content ∧ I64 m.sig ∧ I64 m.secret := by
  have hc3 : Tryd.prog.cellsOf 50 = 3 := by kernel_rfl
  obtain ⟨a0, len0, cap0, rfl⟩ := okWide_slice Tryd.underlying49 hv
  obtain ⟨fuel, hf⟩ := h
  rcases Deep.open_slice Tryd.underlying49 hf with ⟨hcs, _⟩ | ⟨a, len, cap, m, n, D, Pl, hcs, _, hl, hm, hmm, _, hi⟩
  · simp [Value.cells] at hcs
    obtain ⟨rfl, rfl, rfl⟩ := hcs
    exact ⟨[], RdMs.nil W, fun d hd => by cases hd⟩
  · simp [Value.cells] at hcs
    obtain ⟨rfl, rfl, rfl⟩ := hcs
    have hlm : len0 ≤ m := by rw [hmm]; split <;> omega
    have hel : ∀ i, ∃ d : Msg, i < len0 → (∀ j u, (mcs d)[j]? = some u → W.cell? (a.add (i * 3 + j)) = some u) ∧ I64 d.content ∧ I64 d.sig ∧ I64 d.secret := by
      intro i
      by_cases c : i < len0
      · obtain ⟨cs', hc, ht⟩ := hi i (by omega)
        rw [hc3] at hc
        obtain ⟨hlen, hcl, hat⟩ := World.cells?_some hc
        obtain ⟨d, rfl, ok⟩ := cells_of_msg (by first | exact hlen | exact hcl | omega) ht
        refine ⟨d, fun _ => ⟨fun j u hj => ?_, ok⟩⟩
        have hj4 : j < 3 := by
          have := (List.getElem?_eq_some_iff.1 hj).1
          simpa [mcs] using this
        rw [← Go.Deep.add_add, hat j hj4, hj]
      · exact ⟨msg0, fun h => absurd h c⟩
    obtain ⟨dd, hdl⟩ : ∃ (dd : Nat → Msg), ∀ i, i < len0 → (∀ j u, (mcs (dd i))[j]? = some u → W.cell? (a.add (i * 3 + j)) = some u) ∧ I64 (dd i).content ∧ I64 (dd i).sig ∧ I64 (dd i).secret :=
      ⟨fun i => Classical.choose (hel i), fun i => Classical.choose_spec (hel i)⟩
    have gd : ∀ i, i < len0 → ((List.range len0).map dd).getD i msg0 = dd i := fun i hi => by simp [List.getD, List.getElem?_range hi]
    refine ⟨(List.range len0).map dd, ?_, fun d hd => ?_⟩
    · have el : ((List.range len0).map dd).length = len0 := by simp
      unfold RdMs
      rw [el]
      refine ⟨some a, cap0, rfl, by rw [mflat_length, el], hl, hm, (fun h => by cases h), fun ad had q u hq => ?_⟩
      cases had
      have hql : q < len0 * 3 := by
        have := (List.getElem?_eq_some_iff.1 hq).1
        rwa [mflat_length, el] at this
      have hq2 : q = q / 3 * 3 + q % 3 := by omega
      have hi4 : q / 3 < len0 := by omega
      rw [hq2, mflat_at _ (q / 3) (q % 3) (by rw [el]; exact hi4) (by omega), gd _ hi4] at hq
      rw [hq2]
      exact (hdl (q / 3) hi4).1 _ _ hq
    · obtain ⟨i, hi, rfl⟩ := List.mem_map.1 hd
      exact (hdl i (List.mem_range.1 hi)).2
end Go.Proofs.YtdjfdobcjakmhaaDoor
end

section
/- An arena that is kept: what is to stay, less or more of it; slices of the call's own. -/
set_option linter.unusedSimpArgs false
set_option linter.unusedVariables false
namespace Go.Proofs.YtdjfdobcjakmhaaDoor
open Go.RowKit Go.Maps

theorem At.less {w0 : World} {S T : Nat → Prop} {w : World} {p : Value} {ds : List Nd} (h : At w0 T w p ds) (hS : ∀ b, S b → T b) (hb : ∀ b, b < w0.heap.size → S b) : At w0 S w p ds := by
  obtain ⟨F, h1, h2⟩ := h.ar
  exact ⟨⟨F, h1, fun b hF hs => h2 b hF (hS b hs)⟩, fun b hs => h.old b (hS b hs), hb, h.kept, h.tab⟩
theorem Keep.less {S T : Nat → Prop} {a b : World} (h : Keep T a b) (hS : ∀ b, S b → T b) : Keep S a b := Turn.mono h (fun b hn hs => hn (hS b hs))
/-- S, and the block of a slice. -/
def SB (S : Nat → Prop) (v : Value) : Nat → Prop := fun b => S b ∨ Blks v b
/-- What turns blocks that are to stay; other blocks are to stay behind it. -/
theorem At.grow {w0 : World} {S T G : Nat → Prop} {w w' : World} {p : Value} {ds : List Nd} (h : At w0 S w p ds) (k : Turn G w w') (hG : ∀ b, G b → S b ∧ w0.heap.size ≤ b)
    (hT : ∀ b, T b → (S b ∨ w.heap.size ≤ b) ∧ b < w'.heap.size) (hb : ∀ b, b < w0.heap.size → T b) : At w0 T w' p ds := by
  obtain ⟨F, h1, h2⟩ := h.ar
  refine ⟨⟨F, ArG.turn h1 k (fun b hF hg => h2 b hF (hG b hg).1), fun b hF hTb => ?_⟩, fun b hTb => (hT b hTb).2, hb, Turn.keptOf h.kept k (fun b hb => (hG b hb).2), h.tab⟩
  rcases (hT b hTb).1 with c | c
  · exact h2 b hF c
  · exact absurd (h1.lt b hF) (by omega)

theorem lit1_of (w : World) (t : Int) : OwnI 0 (w.alloc (.cells #[.int .i64 t] 3)) (.slice (some ⟨w.heap.size, 0, none⟩) 1 1) [t] :=
  Ownv.lit (B := 0) 3 (w := w) [.int .i64 t] (Nat.zero_le _) (by unfold maxLen; simp)
theorem getD_snoc_j (l : List Int) (x : Int) (i : Nat) : (l ++ [x]).getD i 0 = if i < l.length then l.getD i 0 else if i = l.length then x else 0 := by
  simp only [List.getD_eq_getElem?_getD]
  by_cases h : i < l.length
  · rw [if_pos h, List.getElem?_append_left h]
  · rw [if_neg h, List.getElem?_append_right (by omega)]
    by_cases h2 : i = l.length
    · simp [h2]
    · rw [if_neg h2, List.getElem?_eq_none (by simp; omega)]; rfl

end Go.Proofs.YtdjfdobcjakmhaaDoor
end

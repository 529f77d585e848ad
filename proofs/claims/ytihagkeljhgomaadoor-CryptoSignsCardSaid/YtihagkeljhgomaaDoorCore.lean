/- Lists of slices of bytes; sums over them; bytes' bounds; strings of bytes. No function of the program is named here. -/
import Derived.Test.YtihagkeljhgomaaDoorBase
import Derived.Outline
import Derived.Laws.CopyOwn
import Derived.Laws.Rows
set_option linter.unusedSimpArgs false
set_option linter.unusedVariables false
namespace Go.Proofs.YtihagkeljhgomaaDoor
open Go.RowKit

/-- A fact put away: no tactic looks into it. -/
structure Shut (p : Prop) : Prop where
  out : p

/-- v is a slice of slices of bytes. -/
def Rds (w : World) (v : Value) (xss : List (List Int)) : Prop :=
  ∃ vs : List Value, vs.length = xss.length ∧ Rdv 1 w v xss.length vs ∧ ∀ i, i < xss.length → Rd w (vs.getD i undef) (xss.getD i [])

theorem Rds.kept {w w' : World} {v : Value} {xss : List (List Int)} (h : Rds w v xss) (k : Kept w w') : Rds w' v xss := by
  obtain ⟨vs, h1, h2, h3⟩ := h
  exact ⟨vs, h1, h2.kept k, fun i hi => (h3 i hi).kept k⟩

def Olds (B : Nat) (w : World) (v : Value) (xss : List (List Int)) : Prop := ∃ w0 : World, w0.heap.size ≤ B ∧ Below B w0 w ∧ Rds w0 v xss
theorem Olds.rds {B : Nat} {w : World} {v : Value} {zs : List (List Int)} (h : Olds B w v zs) : Rds w v zs := by
  obtain ⟨w0, h1, h2, h3⟩ := h
  exact h3.kept (Below.mono h2 h1)
theorem Olds.below {B : Nat} {w w' : World} {v : Value} {zs : List (List Int)} (h : Olds B w v zs) (k : Below B w w') : Olds B w' v zs := by
  obtain ⟨w0, h1, h2, h3⟩ := h
  exact ⟨w0, h1, h2.trans k, h3⟩
theorem Rds.olds {w : World} {v : Value} {zs : List (List Int)} (h : Rds w v zs) : Olds w.heap.size w v zs := ⟨w, Nat.le_refl _, Below.refl _ _, h⟩

theorem Rds.len {w : World} {v : Value} {xss : List (List Int)} (h : Rds w v xss) : ∃ a cap, v = .slice a xss.length cap ∧ xss.length ≤ cap ∧ cap ≤ maxLen ∧ (a = none → cap = 0) := by
  obtain ⟨vs, _, ⟨a, cap, rfl, _, h2, h3, h4, _⟩, _⟩ := h
  exact ⟨a, cap, rfl, h2, h3, h4⟩

theorem Rds.nil (w : World) : Rds w (.slice none 0 0) [] := ⟨[], rfl, ⟨none, 0, rfl, rfl, Nat.le_refl _, Nat.zero_le _, fun _ => rfl, fun _ h => by cases h⟩, fun i hi => by simp at hi⟩

/-- A slice of slices that is not empty: its address, its cells, and what each reads as. -/
theorem Rds.addr {w : World} {v : Value} {xss : List (List Int)} (h : Rds w v xss) (hp : 0 < xss.length) :
    ∃ b off cap, ∃ vs : List Value, v = .slice (some ⟨b, off, none⟩) xss.length cap ∧ xss.length ≤ cap ∧ cap ≤ maxLen ∧ b < w.heap.size ∧
      (∀ i, i < xss.length → w.cell? ⟨b, off + i, none⟩ = some (vs.getD i undef)) ∧ ∀ i, i < xss.length → Rd w (vs.getD i undef) (xss.getD i []) := by
  obtain ⟨vs, hvs, ⟨ao, cap, rfl, hl, hc, hm, hno, hcell⟩, hr⟩ := h
  cases ao with
  | none => have := hno rfl; omega
  | some ad =>
    obtain ⟨b, off, spot⟩ := ad
    have hg : ∀ i, i < xss.length → w.cell? ((⟨b, off, spot⟩ : Addr).add i) = some (vs.getD i undef) := by
      intro i hi
      refine hcell _ rfl i _ ?_
      simp [List.getD, List.getElem?_eq_getElem (show i < vs.length by omega)]
    have h0 := hg 0 hp
    obtain rfl : spot = none := by simpa [Addr.add] using World.cell?_spot h0
    refine ⟨b, off, cap, vs, rfl, hc, hm, World.block_lt_of_cell? _ _ h0, fun i hi => ?_, hr⟩
    have := hg i hi
    rwa [Addr.add_lit] at this

/-- A literal list of slices of bytes. -/
theorem Rds.lit {w : World} (e : TypeId) (vs : List Value) (xss : List (List Int)) (hl : vs.length = xss.length) (hm : vs.length ≤ 1000000) (hr : ∀ i, i < xss.length → Rd w (vs.getD i undef) (xss.getD i [])) :
    Rds (w.alloc (.cells vs.toArray e)) (.slice (some ⟨w.heap.size, 0, none⟩) vs.length vs.length) xss := by
  have h0 := (Ownv.lit (B := w.heap.size) e (w := w) vs (Nat.le_refl _) (by unfold maxLen; omega)).rdv
  refine ⟨vs, hl, by rw [← hl]; exact h0, fun i hi => (hr i hi).kept ((Kept.refl w).alloc _)⟩
theorem Rds.lit1 {w : World} (e : TypeId) {v : Value} {zs : List Int} (h : Rd w v zs) : Rds (w.alloc (.cells #[v] e)) (.slice (some ⟨w.heap.size, 0, none⟩) 1 1) [zs] :=
  Rds.lit e [v] [zs] rfl (by simp) (fun i hi => by obtain rfl : i = 0 := by simp at hi; omega
                                                   exact h)

/-- Sums over lists. -/
def lsum (f : List Int → Int) : List (List Int) → Int
  | [] => 0
  | x :: r => f x + lsum f r

theorem lsum_append (f : List Int → Int) (a b : List (List Int)) : lsum f (a ++ b) = lsum f a + lsum f b := by
  induction a with
  | nil => simp [lsum]
  | cons x r ih => simp only [List.cons_append, lsum, ih]; omega
theorem lsum_take (f : List Int → Int) (l : List (List Int)) (k : Nat) (h : k < l.length) : lsum f (l.take (k + 1)) = lsum f (l.take k) + f (l.getD k []) := by
  rw [List.take_succ_eq_append_getElem h, lsum_append]
  simp [lsum, List.getD, List.getElem?_eq_getElem h]
theorem lsum_nonneg (f : List Int → Int) (hf : ∀ x, 0 ≤ f x) (l : List (List Int)) : 0 ≤ lsum f l := by
  induction l with
  | nil => simp [lsum]
  | cons x r ih => have := hf x; simp only [lsum]; omega
theorem lsum_take_le (f : List Int → Int) (hf : ∀ x, 0 ≤ f x) (l : List (List Int)) (k : Nat) : lsum f (l.take k) ≤ lsum f l := by
  have h := lsum_append f (l.take k) (l.drop k)
  rw [List.take_append_drop] at h
  have := lsum_nonneg f hf (l.drop k)
  omega

/-- What 'big' counts. -/
def bigN (x : List Int) : Int := x.length + 1
theorem bigN_nonneg (x : List Int) : 0 ≤ bigN x := by unfold bigN; omega

/-- Bytes' numbers are 0 to 255. -/
def By (zs : List Int) : Prop := ∀ z ∈ zs, 0 ≤ z ∧ z ≤ 255

theorem By.at {zs : List Int} (h : By zs) (i : Nat) : 0 ≤ zs.getD i 0 ∧ zs.getD i 0 ≤ 255 := by
  by_cases hi : i < zs.length
  · have : zs.getD i 0 = zs[i] := by simp [List.getD, List.getElem?_eq_getElem hi]
    rw [this]; exact h _ (List.getElem_mem hi)
  · have : zs.getD i 0 = 0 := by simp [List.getD, List.getElem?_eq_none (Nat.le_of_not_lt hi)]
    rw [this]; omega

theorem strs {w : World} {v : Value} {zs : List Int} (h : Rd w v zs) : ∀ n, (convert 78 9 v).run Tryd.prog (w.drewN n) = .ok (.string (strOfNums zs)) (w.drewN n) := fun n =>
  go_str_run (P := Tryd.prog) Tryd.underlying78 Tryd.underlying5 (h.kept ((Kept.refl w).drewN n)) 9 Tryd.underlying9
theorem strs0 {w : World} {v : Value} {zs : List Int} (h : Rd w v zs) : (convert 78 9 v).run Tryd.prog w = .ok (.string (strOfNums zs)) w :=
  go_str_run (P := Tryd.prog) Tryd.underlying78 Tryd.underlying5 h 9 Tryd.underlying9

theorem u8_eq (a b : Int) (ha : 0 ≤ a ∧ a ≤ 255) (hb : 0 ≤ b ∧ b ≤ 255) : (UInt8.ofNat a.toNat = UInt8.ofNat b.toNat) ↔ a = b := by
  rw [← UInt8.toNat_inj, UInt8.toNat_ofNat_of_lt' (by simp; omega), UInt8.toNat_ofNat_of_lt' (by simp; omega)]; omega

theorem strOf_toList (zs : List Int) : (strOfNums zs).toList = zs.map fun n => UInt8.ofNat n.toNat := by
  rw [ByteArray.toList_eq]
  rfl


theorem By.append {x y : List Int} (h : By x) (k : By y) : By (x ++ y) := fun z hz => (List.mem_append.1 hz).elim (h z) (k z)
theorem By.take {x : List Int} (h : By x) (n : Nat) : By (x.take n) := fun z hz => h z (List.mem_of_mem_take hz)
theorem By.drop {x : List Int} (h : By x) (n : Nat) : By (x.drop n) := fun z hz => h z (List.mem_of_mem_drop hz)
theorem By.nil : By [] := fun z hz => by cases hz
theorem By.cons {a : Int} {x : List Int} (h0 : 0 ≤ a ∧ a ≤ 255) (h : By x) : By (a :: x) := fun z hz => by
  rcases List.mem_cons.1 hz with rfl | hz
  · exact h0
  · exact h z hz

theorem map_inj {x y : List Int} (hx : By x) (hy : By y) (h : (x.map fun n => UInt8.ofNat n.toNat) = y.map fun n => UInt8.ofNat n.toNat) : x = y := by
  induction x generalizing y with
  | nil => cases y with
    | nil => rfl
    | cons b y => simp at h
  | cons a x ih =>
    cases y with
    | nil => simp at h
    | cons b y =>
      simp only [List.map_cons, List.cons.injEq] at h
      obtain ⟨h1, h2⟩ := h
      rw [(u8_eq a b (hx a List.mem_cons_self) (hy b List.mem_cons_self)).1 h1, ih (fun z hz => hx z (List.mem_cons_of_mem _ hz)) (fun z hz => hy z (List.mem_cons_of_mem _ hz)) h2]

/-- Two strings of bytes are the same, just if their numbers are. -/
theorem strOf_inj {x y : List Int} (hx : By x) (hy : By y) (h : strOfNums x = strOfNums y) : x = y := by
  have h' := congrArg ByteArray.toList h
  rw [strOf_toList, strOf_toList] at h'
  exact map_inj hx hy h'
theorem bytes_beq (a b : ByteArray) : (a == b) = (a.data == b.data) := rfl
theorem strOf_beq {x y : List Int} (hx : By x) (hy : By y) : (strOfNums x == strOfNums y) = decide (x = y) := by
  rw [bytes_beq]
  by_cases h : x = y
  · subst h; simp
  · rw [decide_eq_false h, beq_eq_false_iff_ne]
    exact fun e => h (strOf_inj hx hy (by cases hX : strOfNums x; cases hY : strOfNums y; rw [hX, hY] at e; simp only at e; rw [e]))

/-- Block g is a row of the call's own, known whole. -/
def Blk (w : World) (g : Nat) (e : TypeId) (xs : List Value) : Prop := w.heap[g]? = some (.cells xs.toArray e (0, 0))

theorem Blk.lt {w : World} {g : Nat} {e : TypeId} {xs : List Value} (h : Blk w g e xs) : g < w.heap.size := (Array.getElem?_eq_some_iff.1 h).1
theorem Blk.cell {w : World} {g : Nat} {e : TypeId} {xs : List Value} (h : Blk w g e xs) (i : Nat) : w.cell? ⟨g, i, none⟩ = xs[i]? := by
  unfold Blk at h
  simp [World.cell?, h]
theorem Blk.frozen {w : World} {g : Nat} {e : TypeId} {xs : List Value} (h : Blk w g e xs) (i : Nat) : w.frozen? ⟨g, i, none⟩ = false := by
  unfold Blk at h
  simp [World.frozen?, h]
theorem Blk.set {w : World} {g : Nat} {e : TypeId} {xs : List Value} (h : Blk w g e xs) (i : Nat) (v : Value) : Blk (w.setCell ⟨g, i, none⟩ v) g e (xs.set i v) := by
  unfold Blk at h ⊢
  simp [World.setCell, Array.getElem?_modify, h]
theorem Blk.below {B : Nat} {w w' : World} {g : Nat} {e : TypeId} {xs : List Value} (h : Blk w g e xs) (k : Below B w w') (hg : g < B) : Blk w' g e xs := by
  unfold Blk at h ⊢
  rw [k.block g hg]; exact h
theorem Blk.ownv {B : Nat} {w : World} {g : Nat} {e : TypeId} {xs : List Value} (h : Blk w g e xs) (hB : B ≤ g) (hm : xs.length ≤ maxLen) : Ownv B e 1 w (.slice (some ⟨g, 0, none⟩) xs.length xs.length) xs.length xs :=
  ⟨by simp, .inr ⟨g, xs.length, xs.toArray, rfl, hB, h, Nat.le_refl _, hm, by simp, by simp⟩⟩
theorem Ownv.blk {B : Nat} {w : World} {g n : Nat} {e : TypeId} {xs : List Value} (h : Ownv B e 1 w (.slice (some ⟨g, 0, none⟩) n n) n xs) : Blk w g e xs ∧ B ≤ g := by
  rcases h.2 with ⟨hh, _⟩ | ⟨g', cap, cur, hv, hb, hg, hn, hm, hs, ht⟩
  · cases hh
  · simp only [Value.slice.injEq, Option.some.injEq, Addr.mk.injEq] at hv
    obtain ⟨⟨rfl, _⟩, _, rfl⟩ := hv
    refine ⟨?_, hb⟩
    unfold Blk
    rw [hg]
    have : cur.toList = xs := by rw [← ht]; exact (List.take_of_length_le (by simp; omega)).symm
    rw [← this]
theorem Blk.own {B : Nat} {w : World} {g n : Nat} {e : TypeId} {zs : List Int} (h : Blk w g e (zs.map (Value.int .u8))) (hB : B ≤ g) (hn : n = zs.length) (hm : zs.length ≤ maxLen) : Own B e w (.slice (some ⟨g, 0, none⟩) n n) zs := by
  subst hn
  have := h.ownv hB (by simpa using hm)
  simp only [List.length_map] at this
  exact this

/-- copy of bytes into a row of the call's own, known whole. -/
theorem go_copyb {w : World} {ops : Array Oper} {rest : List Oper} {a : Act} {Q : Exit → Act → World → Prop} {d : Option Tmp} {ty : TypeId} {ps : String} {af : Array Edge} {s x : Operand}
    (B g n : Nat) (cur : List Value) (hd : a.eval s = .slice (some ⟨g, 0, none⟩) n n) (hg : Blk w g 5 cur) (hBg : B ≤ g) (hn : cur.length = n) (u : Value) (zs : List Int) (hx : a.eval x = u) (hr : Rd w u zs) (hl : zs.length ≤ n)
    (hK : ∀ w', Hid (Blk w' g 5 (splice cur 0 (zs.map (Value.int .u8)))) → Below B w w' → wpList Tryd.prog ops Q rest (a.put d (goInt (zs.map (Value.int .u8)).length)) w') :
    wpList Tryd.prog ops Q (⟨d, .call { callee := .builtin .copy, args := #[s, x], argTypes := #[78, 78] }, ty, ps, af, none⟩ :: rest) a w := by
  obtain ⟨ao, cap, rfl, hl2, hc, hm, hno, hcell⟩ := hr
  refine wpList_copy_splice rfl s x 78 78 rfl 5 Tryd.underlying78 (by kernel_rfl) (some ⟨g, 0, none⟩) ao n n zs.length cap hd hx g 0 cur 5 hg (zs.map (Value.int .u8)) (by rw [List.length_map]; exact (Nat.min_eq_left hl).symm) ?_ (by simp; omega) (ones_int .u8 zs) B w (Below.refl _ _) hBg ?_
  · intro hp
    refine ⟨rfl, ?_⟩
    cases ao with
    | none => have := hno rfl; simp at hp; omega
    | some ad => exact ⟨ad, rfl, hcell ad rfl⟩
  · intro w' h1 h2
    exact hK w' h1 h2
theorem alloc_size (w : World) (o : Obj) : (w.alloc o).heap.size = w.heap.size + 1 := by simp

theorem Rd.marked {w : World} (zs : List Int) (fr : Nat × Nat) (hl : zs.length ≤ 1000000) : Rd (w.alloc (.cells (zs.map (Value.int .u8)).toArray 5 fr)) (.slice (some ⟨w.heap.size, 0, none⟩) zs.length zs.length) zs := by
  refine ⟨_, zs.length, rfl, by simp, Nat.le_refl _, by unfold maxLen; omega, (fun h => by cases h), fun ad had j u hj => ?_⟩
  cases had
  have e : (⟨w.heap.size, 0, none⟩ : Addr).add j = ⟨w.heap.size, j, none⟩ := by rw [Addr.add_lit, Nat.zero_add]
  rw [e, cell_of_row _ w.heap.size j _ _ fr (heap_alloc_new w _)]
  simpa using hj
end Go.Proofs.YtihagkeljhgomaaDoor

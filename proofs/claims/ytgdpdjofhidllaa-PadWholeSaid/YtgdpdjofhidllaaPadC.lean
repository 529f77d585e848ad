/- Walk of package pad: where the filling begins (a range over slices.Backward). -/
import Derived.Test.YtgdpdjofhidllaaPadS
import Derived.RangeFuncBox
import Derived.RangeFuncLeaves
import Derived.Shelf.Abstract
import Derived.OwnWalkIn
import Derived.TacticsInMore
import Derived.LoopNIn
import Derived.LoopIn
set_option linter.unusedSimpArgs false
set_option linter.unusedVariables false
namespace Go.Proofs.Ytgdpdjofhidllaa
open Go.RowKit Go.Shelf

attribute [local go_sem] Oper.semAt_some

/-- What has come when k rounds are over: from behind. -/
def back (zs : List Int) (len k : Nat) : List (Nat × Int) := (List.range k).map fun j => (len - 1 - j, zs[len - 1 - j]?.getD 0)
theorem back_succ (zs : List Int) (len k : Nat) : back zs len (k + 1) = back zs len k ++ [(len - 1 - k, zs[len - 1 - k]?.getD 0)] := by simp [back, List.range_succ]
theorem back_length (zs : List Int) (len k : Nat) : (back zs len k).length = k := by simp [back]

/-- What a round keeps: what lay below n₀, and the box of the slice. -/
def KeepB (n₀ Bs : Nat) (W W' : World) : Prop := Below n₀ W W' ∧ W'.heap[Bs]? = W.heap[Bs]?
theorem KeepB.trans {n₀ Bs : Nat} {A B C : World} (h : KeepB n₀ Bs A B) (k : KeepB n₀ Bs B C) : KeepB n₀ Bs A C := ⟨h.1.trans k.1, k.2.trans h.2⟩
theorem KeepB.refl (n₀ Bs : Nat) (W : World) : KeepB n₀ Bs W W := ⟨Below.refl _ _, rfl⟩
theorem KeepB.turn {n₀ Bs : Nat} {w : World} (hn : n₀ ≤ w.heap.size) (hb : Bs < w.heap.size) (W : World) (l : Nat) (o o' : Obj) (hl : w.heap.size ≤ l) (h : W.heap[l]? = some o) (h1 : o.isCells = false) (h2 : o.isWalk = false) : KeepB n₀ Bs W (W.putObj l o') :=
  ⟨belowK_b hn W l o o' hl h h1 h2, by
    have := (grownBy_putObj' W l o').block Bs (by have := (Array.getElem?_eq_some_iff.1 h).1; omega) (by simp; omega)
    exact this⟩

set_option maxRecDepth 100000 in
set_option maxHeartbeats 2000000 in
/-- slices.Backward's closure: for every loop body that keeps what lay below n₀. -/
theorem backward1_in (F : Fence) (n : Nat) (h8 : F.fn 20) (hro : F.round = none) (hn : 1 ≤ n) (l Bs n₀ b off len cap : Nat) (zs : List Int) (hreach : len ≤ 140737488351232) (hb : b < n₀) (J Jx : List (Nat × Int) → World → Prop)
    (hY : ∀ pre x W, J pre W → pre.length < len → YieldAt F (n - 1) Try.prog l #[.int .i64 (x.1 : Int), .int .u8 x.2] W fun e W' =>
      (e = .returned (.bool true) ∧ J (pre ++ [x]) W' ∧ KeepB n₀ Bs W W') ∨ (e = .returned (.bool false) ∧ Jx (pre ++ [x]) W'))
    (W : World) (hBs : W.cell? ⟨Bs, 0, none⟩ = some (.slice (some ⟨b, off, none⟩) len cap)) (hc : ∀ j, j < len → W.cell? ⟨b, off + j, none⟩ = some (.int .u8 (zs[j]?.getD 0))) (h0 : J [] W) :
    CallsIn F n Try.prog 20 #[.func (.yield l) #[] #[], .pointer (some ⟨Bs, 0, none⟩)] W fun e W' => (∃ v, e = .returned v) ∧
      ((∃ ys, ys = back zs len len ∧ J ys W') ∨ (∃ pre, (∃ k, k ≤ len ∧ pre = back zs len k) ∧ Jx pre W')) := by
  refine callsIn_of_wp Try.func20 rfl h8 ?_ hro
  simp only [Try.ntmps20, List.size_toArray, List.length_cons, List.length_nil, Nat.reduceAdd, Nat.reduceSub, Array.replicate_succ, Array.replicate_zero, List.push_toArray, List.append_toArray, List.nil_append, List.cons_append]
  gi_wp2
  gi_loopw [3] (fun i wr => ∃ m : Nat, m ≤ len ∧ i = .int .i64 ((m : Int) - 1) ∧ J (back zs len (len - m)) wr ∧ KeepB n₀ Bs W wr)
    (fun i _ => (intOf i + 1).toNat)
  case atStart => exact ⟨len, Nat.le_refl _, rfl, by rw [Nat.sub_self]; exact h0, KeepB.refl _ _ _⟩
  case round =>
    obtain ⟨m, hm, rfl, hJs, hnx⟩ := hrel
    have hbx : wr.cell? ⟨Bs, 0, none⟩ = some (.slice (some ⟨b, off, none⟩) len cap) := (World.cell?_of_block hnx.2).trans hBs
    cases m with
    | succ m =>
      have hcx : wr.cell? ⟨b, off + m, none⟩ = some (.int .u8 (zs[m]?.getD 0)) := (hnx.1.cell (p := ⟨b, off + m, none⟩) hb).trans (hc m (by omega))
      have e1 : len - 1 - (len - (m + 1)) = m := by omega
      have hbs := back_succ zs len (len - (m + 1))
      rw [e1, show len - (m + 1) + 1 = len - m by omega] at hbs
      have HBS := Lib.hid hbs
      clear hbs e1
      have hlt : m < len := by omega
      obtain ⟨fn, tmps, assign, body, hy, hR⟩ := hY _ (m, zs[m]?.getD 0) wr hJs (by rw [back_length]; omega)
      dsimp only at hy
      have em : ((m + 1 : Nat) : Int) - 1 = (m : Int) := by omega
      rw [em]
      clear em hm
      gi_wp2
      refine hR.mono ?_
      rintro e W3 (⟨rfl, hJ3, hk3⟩ | ⟨rfl, hJx3⟩)
      · gi_wp2
        go_roundw
        case rel => exact ⟨m, by omega, rfl, by rw [HBS.out]; exact hJ3, hnx.trans hk3⟩
        case measure => simp [intOf]
      · gi_wp2
        refine bodyPost_ret (results_none rfl _ _ _) rfl ?_
        exact ⟨⟨_, rfl⟩, .inr ⟨_, ⟨len - m, by omega, HBS.out.symm⟩, hJx3⟩⟩
    | zero =>
      gi_wp2
      go_end0
      exact ⟨⟨_, rfl⟩, .inl ⟨_, rfl, hJs⟩⟩

set_option maxRecDepth 100000 in
set_option maxHeartbeats 1000000 in
theorem backward1_nil_in (F : Fence) (n : Nat) (h8 : F.fn 20) (hro : F.round = none) (l Bs : Nat) (J : List (Nat × Int) → World → Prop) (W : World) (a : Option Addr) (cap : Nat) (hBs : W.cell? ⟨Bs, 0, none⟩ = some (.slice a 0 cap)) (h0 : J [] W) :
    CallsIn F n Try.prog 20 #[.func (.yield l) #[] #[], .pointer (some ⟨Bs, 0, none⟩)] W fun e W' => (∃ v, e = .returned v) ∧ J [] W' := by
  refine callsIn_of_wp Try.func20 rfl h8 ?_ hro
  simp only [Try.ntmps20, List.size_toArray, List.length_cons, List.length_nil, Nat.reduceAdd, Nat.reduceSub, Array.replicate_succ, Array.replicate_zero, List.push_toArray, List.append_toArray, List.nil_append, List.cons_append]
  gi_wp2
  gi_loopw [3] (fun i wr => i = .int .i64 (-1) ∧ J [] wr) (fun _ _ => 0)
  case atStart => exact ⟨rfl, h0⟩
  case round =>
    obtain ⟨rfl, hJs⟩ := hrel
    gi_wp2
    go_end0
    exact ⟨⟨_, rfl⟩, hJs⟩

set_option maxHeartbeats 1000000 in
theorem backward_in (F : Fence) (n : Nat) (h6 : F.fn 19) (hro : F.round = none) (a : Option Addr) (len cap : Nat) (w : World) :
    CallsIn F n Try.prog 19 #[.slice a len cap] w fun e w' => e = .returned (.func (.func 20) #[] #[.pointer (some ⟨w.heap.size, 0, none⟩)]) ∧ w' = w.alloc (.cells #[.slice a len cap] 22) := by
  refine callsIn_of_wp Try.func19 rfl h6 ?_ hro
  simp only [Try.ntmps19, List.size_toArray, List.length_cons, List.length_nil, Nat.reduceAdd, Nat.reduceSub, Array.replicate_succ, Array.replicate_zero, List.push_toArray, List.append_toArray, List.nil_append, List.cons_append]
  gi_wp2
  go_ret
  exact ⟨rfl, rfl⟩

/-- The slice value holds these bytes in a block below n₀, or it has none. -/
def BytesAt (n₀ : Nat) (W : World) (sv : Value) (zs : List Int) : Prop :=
  (∃ a cap, sv = .slice a 0 cap ∧ zs = []) ∨ ∃ b off cap, sv = .slice (some ⟨b, off, none⟩) zs.length cap ∧ b < n₀ ∧ ∀ j, j < zs.length → W.cell? ⟨b, off + j, none⟩ = some (.int .u8 (zs[j]?.getD 0))
theorem BytesAt.below {n₀ : Nat} {A B : World} (h : Below n₀ A B) {sv : Value} {zs : List Int} : BytesAt n₀ A sv zs → BytesAt n₀ B sv zs
  | .inl e => .inl e
  | .inr ⟨b, off, cap, e, hb, hc⟩ => .inr ⟨b, off, cap, e, hb, fun j hj => (h.cell (p := ⟨b, off + j, none⟩) hb).trans (hc j hj)⟩
theorem Rd.bytesAt {w : World} {v : Value} {zs : List Int} (h : Rd w v zs) : BytesAt w.heap.size w v zs := by
  by_cases hp : 0 < zs.length
  · obtain ⟨b, off, cap, e, h1, h2, h3, h4⟩ := h.addr hp
    exact .inr ⟨b, off, cap, e, h3, h4⟩
  · have : zs = [] := List.eq_nil_of_length_eq_zero (by omega)
    subst this
    obtain ⟨a, cap, e, _⟩ := h.len
    exact .inl ⟨a, cap, e, rfl⟩

theorem backward_stops (F : Fence) (n : Nat) (h8 : F.fn 20) (hro : F.round = none) (hn : 1 ≤ n) (Bs n₀ : Nat) (sv : Value) (zs : List Int) (hreach : zs.length ≤ 140737488351232) (w : World) (hBs : Bs < w.heap.size) (hn₀ : n₀ ≤ w.heap.size)
    (hc : w.cell? ⟨Bs, 0, none⟩ = some sv) (hI : BytesAt n₀ w sv zs) :
    SeqStopsK F n Try.prog 20 #[.pointer (some ⟨Bs, 0, none⟩)] (fun x : Nat × Int => #[Value.int .i64 (x.1 : Int), Value.int .u8 x.2]) (KeepB n₀ Bs) (fun ys => ys = back zs zs.length zs.length)
      (fun pre => ∃ k, k ≤ zs.length ∧ pre = back zs zs.length k) zs.length w := fun l J Jx W hW _ _ hY h0 => by
  have hc' := (hW.cell (p := ⟨Bs, 0, none⟩) hBs).trans hc
  rcases hI.below (hW.mono hn₀) with ⟨a, cap, rfl, rfl⟩ | ⟨b, off, cap, rfl, hb, hcs⟩
  · exact (backward1_nil_in F n h8 hro l Bs J W a cap hc' h0).mono fun e W' ⟨he, hj⟩ => ⟨he, .inl ⟨_, rfl, hj⟩⟩
  · exact backward1_in F n h8 hro hn l Bs n₀ b off zs.length cap zs hreach hb J Jx hY W hc' hcs h0

theorem back_all_zero {zs : List Int} (h : ∀ p ∈ back zs zs.length zs.length, p.2 = 0) : trimN zs = 0 := by
  symm
  refine trimN_uniq zs 0 (Nat.zero_le _) (fun i _ hi => ?_) (.inl rfl)
  have := h (i, zs[i]?.getD 0) (by
    simp only [back, List.mem_map, List.mem_range]
    exact ⟨zs.length - 1 - i, by omega, by rw [show zs.length - 1 - (zs.length - 1 - i) = i by omega]⟩)
  simpa [List.getD] using this
theorem back_stop {zs : List Int} {k : Nat} (hk : k < zs.length) (h : ∀ p ∈ back zs zs.length k, p.2 = 0) (hz : zs[zs.length - 1 - k]?.getD 0 ≠ 0) : trimN zs = zs.length - k := by
  symm
  refine trimN_uniq zs _ (by omega) (fun i hi hl => ?_) (.inr (by rw [show zs.length - k - 1 = zs.length - 1 - k by omega]; simpa [List.getD] using hz))
  have := h (i, zs[i]?.getD 0) (by
    simp only [back, List.mem_map, List.mem_range]
    exact ⟨zs.length - 1 - i, by omega, by rw [show zs.length - 1 - (zs.length - 1 - i) = i by omega]⟩)
  simpa [List.getD] using this

/-- What filling tells. -/
def FillPost (zs : List Int) (e : Ending) : Prop :=
  (∃ n : Nat, fillS zs = some n ∧ e = .returned (.tuple #[.int .i64 n, .bool true])) ∨ (fillS zs = none ∧ e = .returned (.tuple #[.int .i64 0, .bool false]))

theorem two_cells {W : World} {b : Nat} {u0 v0 : Value} (u v : Value) (h0 : W.cell? ⟨b, 0, none⟩ = some u0) (h1 : W.cell? ⟨b + 1, 0, none⟩ = some v0) :
    ((W.setCell ⟨b, 0, none⟩ u).setCell ⟨b + 1, 0, none⟩ v).cell? ⟨b, 0, none⟩ = some u ∧ ((W.setCell ⟨b, 0, none⟩ u).setCell ⟨b + 1, 0, none⟩ v).cell? ⟨b + 1, 0, none⟩ = some v := by
  constructor
  · rw [World.cell?_setCell_other _ _ _ _ (by simp)]
    exact World.cell?_setCell_same' _ _ _ (by rw [h0]; rfl)
  · refine World.cell?_setCell_same' _ _ _ ?_
    rw [World.cell?_setCell_other _ _ _ _ (by simp), h1]; rfl
theorem two_keep (W : World) (a b : Addr) (u v : Value) : KeepsOthers W ((W.setCell a u).setCell b v) := (KeepsOthers.setCell _ _ _).trans (KeepsOthers.setCell _ _ _)

/-- What the results hold behind the last that came. -/
def FillAt (last : Nat × Int) (u v : Value) : Prop := last.2 ≠ 0 ∧ ((last.2 = 128 ∧ u = .int .i64 last.1 ∧ v = .bool true) ∨ (last.2 ≠ 128 ∧ u = .int .i64 0 ∧ v = .bool false))

set_option maxRecDepth 100000 in
set_option maxHeartbeats 2000000 in
theorem filling_in (F : Fence) (n : Nat) (h4 : F.fn 17) (h6 : F.fn 19) (h8 : F.fn 20) (hro : F.round = none) (hn : 3 ≤ n) (a : Option Addr) (len cap : Nat) (zs : List Int) (hreach : zs.length ≤ 140737488351232) (w : World) (hI : BytesAt w.heap.size w (.slice a len cap) zs) :
    CallsIn F n Try.prog 17 #[.slice a len cap] w fun e W' => FillPost zs e ∧ Below w.heap.size w W' := by
  have h1 : 1 ≤ n := by omega
  refine callsIn_of_wp_marks Try.func17 rfl h4 ?_ hro
  simp only [Try.ntmps17, List.size_toArray, List.length_cons, List.length_nil, Nat.reduceAdd, Nat.reduceSub, Array.replicate_succ, Array.replicate_zero, List.push_toArray, List.append_toArray, List.nil_append, List.cons_append]
  gi_wp2_with (gi_at_call 19; refine (backward_in F (n - 1) h6 hro _ _ _ _).mono ?_; rintro e w' ⟨rfl, rfl⟩)
  have bR := Boxed.new w 3 (.int .i64 0)
  have bS := Boxed.new (w.alloc (.cells #[.int .i64 0] 3)) 4 (.bool false)
  have bN := Boxed.new ((w.alloc (.cells #[.int .i64 0] 3)).alloc (.cells #[.bool false] 4)) 22 (.slice a len cap)
  rw [World.size_alloc] at bS
  rw [World.size_alloc, World.size_alloc] at bN
  have hB0 : Below w.heap.size w (((w.alloc (.cells #[.int .i64 0] 3)).alloc (.cells #[.bool false] 4)).alloc (.cells #[.slice a len cap] 22)) := (((Below.refl _ w).alloc (Nat.le_refl _) _).alloc (by simp) _).alloc (by simp; omega) _
  refine wpIn_rangeFunc_ownG hro h1 (gf := 20) (lb := #[.pointer (some ⟨w.heap.size + 1 + 1, 0, none⟩)]) rfl h8 (enters_of Try.func20 (by kernel_rfl) rfl)
    (backward_stops F (n - 1) h8 hro (by omega) (w.heap.size + 1 + 1) w.heap.size _ zs hreach _ (by simp) (by simp; omega) bN.cell (hI.below hB0)) KeepB.trans (KeepB.turn (by simp; omega) (by simp)) (Below.refl _ _) (fun _ => rfl)
    (fun pre W => ((∀ p ∈ pre, p.2 = 0) ∧ W.cell? ⟨w.heap.size, 0, none⟩ = some (.int .i64 0) ∧ W.frozen? ⟨w.heap.size, 0, none⟩ = false ∧ W.cell? ⟨w.heap.size + 1, 0, none⟩ = some (.bool false) ∧ W.frozen? ⟨w.heap.size + 1, 0, none⟩ = false) ∧ Below w.heap.size w W)
    (fun c pre W => (c = .ret ∧ ∃ ini last u v, pre = ini ++ [last] ∧ (∀ p ∈ ini, p.2 = 0) ∧ FillAt last u v ∧ W.cell? ⟨w.heap.size, 0, none⟩ = some u ∧ W.cell? ⟨w.heap.size + 1, 0, none⟩ = some v) ∧ Below w.heap.size w W)
    (OwnFrom.and (Own.from (fun s A B row hs hg hr => ⟨hs.1, cell_kept hs.2.1 hg hr, (frozen_kept hs.2.1 hg hr).trans hs.2.2.1, cell_kept hs.2.2.2.1 hg hr, (frozen_kept hs.2.2.2.1 hg hr).trans hs.2.2.2.2⟩) _) (ownFrom_below (Nat.le_refl _) (by simp; omega)))
    (fun c => OwnFrom.and (Own.from (fun s A B row hs hg hr => by obtain ⟨hc, ini, last, u, v, e1, e2, e3, e4, e5⟩ := hs; exact ⟨hc, ini, last, u, v, e1, e2, e3, cell_kept e4 hg hr, cell_kept e5 hg hr⟩) _) (ownFrom_below (Nat.le_refl _) (by simp; omega)))
    ⟨⟨by simp, ((bR.alloc _).alloc _).cell, ((bR.alloc _).alloc _).frozen, (bS.alloc _).cell, (bS.alloc _).frozen⟩, hB0⟩
    (fun x => { tmps := #[.slice a len cap, undef, .pointer (some ⟨w.heap.size, 0, none⟩), .pointer (some ⟨w.heap.size + 1, 0, none⟩), .int .i64 (x.1 : Int), .int .u8 x.2, .slice a len cap, .func (.func 20) #[] #[.pointer (some ⟨w.heap.size + 1 + 1, 0, none⟩)], .int .i64 (x.1 : Int), .int .u8 x.2, undef, undef, undef, undef, undef, undef], defers := [] }) ?assign ?body ?done ?stop
  case assign =>
    intro l x W K hK
    gi_wp2
    exact hK
  case body =>
    rintro l pre x W ⟨⟨hp, hcr, hfr, hcs, hfs⟩, hB⟩ _
    have ne1 : w.heap.size ≠ w.heap.size + 1 + 1 := by omega
    have ne2 : w.heap.size + 1 ≠ w.heap.size + 1 + 1 := by omega
    by_cases hz : x.2 = 0
    · have hb0 : (x.2 == 0) = true := by rw [beq_iff_eq]; exact hz
      have HZ := Lib.hid hz; clear hz
      gi_wp2
      exact ⟨KeepsFrom.refl _ _, KeepB.refl _ _ _, ⟨fun p hp' => (List.mem_append.1 hp').elim (hp p) (fun e => by simp at e; subst e; exact HZ.out), hcr, hfr, hcs, hfs⟩, hB⟩
    · have hb0 : (x.2 == 0) = false := by rw [beq_eq_false_iff_ne]; exact hz
      have HZ := Lib.hid hz; clear hz
      by_cases hm : x.2 = 128
      · have hb1 : (x.2 == 128) = true := by rw [beq_iff_eq]; exact hm
        have HM := Lib.hid hm; clear hm
        gi_wp2
        obtain ⟨c1, c2⟩ := two_cells (.int .i64 (x.1 : Int)) (.bool true) hcr hcs
        exact ⟨(two_keep _ _ _ _ _).from _, ⟨rfl, pre, x, _, _, rfl, hp, ⟨HZ.out, .inl ⟨HM.out, rfl, rfl⟩⟩, c1, c2⟩, (hB.setCell (p := ⟨w.heap.size, 0, none⟩) (Nat.le_refl _) _).setCell (p := ⟨w.heap.size + 1, 0, none⟩) (by simp) _⟩
      · have hb1 : (x.2 == 128) = false := by rw [beq_eq_false_iff_ne]; exact hm
        have HM := Lib.hid hm; clear hm
        gi_wp2
        obtain ⟨c1, c2⟩ := two_cells (.int .i64 0) (.bool false) hcr hcs
        exact ⟨(two_keep _ _ _ _ _).from _, ⟨rfl, pre, x, _, _, rfl, hp, ⟨HZ.out, .inr ⟨HM.out, rfl, rfl⟩⟩, c1, c2⟩, (hB.setCell (p := ⟨w.heap.size, 0, none⟩) (Nat.le_refl _) _).setCell (p := ⟨w.heap.size + 1, 0, none⟩) (by simp) _⟩
  case done =>
    rintro D ys W hD rfl ⟨⟨hne, hcr, hfr, hcs, hfs⟩, hB⟩ hK
    gi_wp2
    obtain ⟨c1, c2⟩ := two_cells (.int .i64 0) (.bool false) hcr hcs
    have hK' := (two_keep W ⟨w.heap.size, 0, none⟩ ⟨w.heap.size + 1, 0, none⟩ (.int .i64 0) (.bool false)).same D _ hK rfl
    refine ⟨by simp, .inl ⟨_, _, rfl, run_takeDeferred hK', ?_⟩⟩
    have hc5 := cell_kept c1 (grownBy_putObj' _ D (.deferred none)) (fun r e => by cases e; exact ⟨_, hK', rfl⟩)
    have hc6 := cell_kept c2 (grownBy_putObj' _ D (.deferred none)) (fun r e => by cases e; exact ⟨_, hK', rfl⟩)
    refine ⟨.tuple #[.int .i64 0, .bool false], ?_, .inr ⟨?_, rfl⟩, ((hB.setCell (p := ⟨w.heap.size, 0, none⟩) (Nat.le_refl _) _).setCell (p := ⟨w.heap.size + 1, 0, none⟩) (by simp) _).trans (belowK_b (w := w) (Nat.le_refl _) _ D _ _ (by simp at hD; omega) hK' rfl rfl)⟩
    · simp [results, Try.f17, go_sem, hc5, hc6]
    · unfold fillS; rw [back_all_zero hne]; rfl
  case stop =>
    rintro D c pre W hD ⟨k, hk, rfl⟩ ⟨⟨rfl, ini, last, u, v, e1, e2, e3, hcr, hcs⟩, hB⟩ hK
    obtain ⟨k', rfl⟩ : ∃ k', k = k' + 1 := by
      cases k with
      | zero => simp [back] at e1
      | succ k' => exact ⟨k', rfl⟩
    rw [back_succ] at e1
    obtain ⟨rfl, e5⟩ := List.append_inj' e1 rfl
    obtain rfl : (zs.length - 1 - k', zs[zs.length - 1 - k']?.getD 0) = last := by simpa using e5
    have ht := Lib.hid (back_stop (by omega) e2 e3.1)
    clear e1 e5 e2
    gi_wp2
    refine ⟨by simp, .inl ⟨_, _, rfl, run_takeDeferred hK, ?_⟩⟩
    have hc5 := cell_kept hcr (grownBy_putObj' _ D (.deferred none)) (fun r e => by cases e; exact ⟨_, hK, rfl⟩)
    have hc6 := cell_kept hcs (grownBy_putObj' _ D (.deferred none)) (fun r e => by cases e; exact ⟨_, hK, rfl⟩)
    refine ⟨.tuple #[u, v], ?_, ?_, hB.trans (belowK_b (w := w) (Nat.le_refl _) W D _ _ (by simp at hD; omega) hK rfl rfl)⟩
    · simp [results, Try.f17, go_sem, hc5, hc6]
    · obtain ⟨hz, ⟨hm, rfl, rfl⟩ | ⟨hm, rfl, rfl⟩⟩ := e3
      · refine .inl ⟨zs.length - 1 - k', ?_, rfl⟩
        unfold fillS
        rw [ht.out, if_neg (by omega), show zs.length - k' - 1 = zs.length - 1 - k' by omega, if_pos (by simpa [List.getD] using hm)]
      · refine .inr ⟨?_, rfl⟩
        unfold fillS
        rw [ht.out, if_neg (by omega), show zs.length - k' - 1 = zs.length - 1 - k' by omega, if_neg (by simpa [List.getD] using hm)]

theorem filling_any (v : Value) (zs : List Int) (w : World) (h : Rd w v zs) (hl : zs.length ≤ 140737488351232) :
    Calls Try.prog 17 #[v] w fun e w' => FillPost zs e ∧ Kept w w' := by
  have hb := h.bytesAt
  obtain ⟨a, cap, rfl, _, _, _⟩ := h.len
  refine (callsIn_wide (n := 3)).1 ?_
  exact filling_in Fence.wide 3 trivial trivial trivial rfl (by omega) a zs.length cap zs hl w hb
end Go.Proofs.Ytgdpdjofhidllaa

/- Texts of one proof, put together: LightP, LightW, NameP, NamesT. -/
import Derived.Test.YtangbnmgkcmhbaaDoorMg06
import Derived.Test.YtangbnmgkcmhbaaDoorMg08
section
/- How long patterns are: plain facts. -/
set_option linter.unusedSimpArgs false
set_option linter.unusedVariables false
namespace Go.Proofs.YtangbnmgkcmhbaaDoor
open Go

/-- A sum that goes no further than 100000. -/
def csum (f : Int → Nat) (a : Nat) (l : List Int) : Nat := l.foldl (fun a x => min (a + f x) 100000) a
theorem csum_le (f : Int → Nat) {a : Nat} (h : a ≤ 100000) (l : List Int) : csum f a l ≤ 100000 := by
  induction l generalizing a with
  | nil => exact h
  | cons x l ih => exact ih (Nat.min_le_right _ _)
theorem csum_ge (f : Int → Nat) {a : Nat} (h : a ≤ 100000) (l : List Int) : a ≤ csum f a l := by
  induction l generalizing a with
  | nil => exact Nat.le_refl _
  | cons x l ih =>
    have := ih (a := min (a + f x) 100000) (Nat.min_le_right _ _)
    show a ≤ csum f (min (a + f x) 100000) l
    omega
theorem csum_eq (f : Int → Nat) {a : Nat} (h : a ≤ 100000) (l : List Int) (hl : csum f a l < 100000) : csum f a l = a + (l.map f).sum := by
  induction l generalizing a with
  | nil => simp [csum]
  | cons x l ih =>
    have h1 : csum f a (x :: l) = csum f (min (a + f x) 100000) l := rfl
    have h2 := csum_ge f (a := min (a + f x) 100000) (Nat.min_le_right _ _) l
    rw [h1] at hl ⊢
    have h3 : min (a + f x) 100000 = a + f x := by omega
    rw [ih (Nat.min_le_right _ _) hl, h3]
    simp
    omega
theorem csum_congr {f g : Int → Nat} {l : List Int} (h : ∀ x ∈ l, f x = g x) (a : Nat) : csum f a l = csum g a l := by
  induction l generalizing a with
  | nil => rfl
  | cons x l ih =>
    show csum f (min (a + f x) 100000) l = csum g (min (a + g x) 100000) l
    rw [h x List.mem_cons_self, ih (fun y hy => h y (List.mem_cons_of_mem _ hy))]
theorem csum_snoc (f : Int → Nat) (a : Nat) (l : List Int) (x : Int) : csum f a (l ++ [x]) = min (csum f a l + f x) 100000 := by
  unfold csum
  rw [List.foldl_append]
  rfl

/-- How heavy a term is. -/
def wtF (ds : List Nd) : Nat → Int → Nat
  | 0, _ => 0
  | f + 1, t => csum (wtF ds f) 1 (nd ds t).l
def wt (ds : List Nd) (t : Int) : Nat := wtF ds (t.toNat + 1) t
theorem wtF_fuel {ds : List Nd} (hg : Good ds) : ∀ (n f g : Nat) (t : Int), IsT ds t → t.toNat < n → t.toNat < f → t.toNat < g → wtF ds f t = wtF ds g t := by
  intro n
  induction n with
  | zero => intro f g t _ h; omega
  | succ n ih =>
    intro f g t ht hn hf hgg
    obtain ⟨f, rfl⟩ : ∃ k, f = k + 1 := ⟨f - 1, by omega⟩
    obtain ⟨g, rfl⟩ : ∃ k, g = k + 1 := ⟨g - 1, by omega⟩
    refine csum_congr (fun x hx => ?_) 1
    have hl := hg.lessT ht x hx
    have := ht.1
    exact ih f g x (hg.partT ht x hx) (by omega) (by omega) (by omega)
theorem wt_eq {ds : List Nd} (hg : Good ds) {t : Int} (ht : IsT ds t) : wt ds t = csum (wt ds) 1 (nd ds t).l := by
  show csum (wtF ds t.toNat) 1 (nd ds t).l = _
  refine csum_congr (fun x hx => ?_) 1
  have hl := hg.lessT ht x hx
  exact wtF_fuel hg (t.toNat + 1) _ _ x (hg.partT ht x hx) (by omega) (by omega) (by omega)
theorem wt_le {ds : List Nd} (hg : Good ds) {t : Int} (ht : IsT ds t) : wt ds t ≤ 100000 := by
  rw [wt_eq hg ht]; exact csum_le _ (by decide) _
theorem mem_sum_le {l : List Nat} {x : Nat} (h : x ∈ l) : x ≤ l.sum := by
  induction l with
  | nil => cases h
  | cons y l ih =>
    rw [List.sum_cons]
    rcases List.mem_cons.1 h with rfl | h
    · omega
    · have := ih h; omega
theorem sum_drop_le (l : List Nat) (k : Nat) : (l.drop k).sum ≤ l.sum := by
  have h : l.sum = (l.take k).sum + (l.drop k).sum := by rw [← List.sum_append, List.take_append_drop]
  omega
theorem sum_take_le (l : List Nat) (k : Nat) : (l.take k).sum ≤ l.sum := by
  have h : l.sum = (l.take k).sum + (l.drop k).sum := by rw [← List.sum_append, List.take_append_drop]
  omega
theorem tParts_sum {ds : List Nd} {kn : Int → Bool} {t : Int} {l : List Int} (h : tParts ds kn t = some l) (f : Int → Nat) : (l.map f).sum ≤ ((nd ds t).l.map f).sum := by
  unfold tParts at h
  split at h
  · cases h
  split at h
  · obtain rfl := Option.some.inj h
    exact Nat.le_refl _
  · unfold shownOf at h
    split at h
    · obtain rfl := Option.some.inj h
      rw [List.map_drop]; exact sum_drop_le _ _
    · split at h
      · split at h
        · obtain rfl := Option.some.inj h
          rw [List.map_take, List.map_drop]
          exact Nat.le_trans (sum_take_le _ _) (sum_drop_le _ _)
        · cases h
      · cases h
theorem pts_len {ds : List Nd} {one : PO} {g : Int → Nat} {l : List Int} (h : ∀ a, Nums ds a → ∀ x ∈ l, (one a x).1.length + 1 ≤ 63 * g x) (hn : ∀ a, Nums ds a → ∀ x ∈ l, Nums ds (one a x).2) (f : Bool) {a : List Int} (ha : Nums ds a) :
    (pts one f a l).1.length ≤ 63 * (l.map g).sum := by
  induction l generalizing f a with
  | nil => simp [pts]
  | cons x l ih =>
    have h1 := h a ha x List.mem_cons_self
    have h2 := ih (fun a ha y hy => h a ha y (List.mem_cons_of_mem _ hy)) (fun a ha y hy => hn a ha y (List.mem_cons_of_mem _ hy)) false (hn a ha x List.mem_cons_self)
    simp only [pts, List.map_cons, List.sum_cons, List.length_append]
    cases f
    · simp only [Bool.false_eq_true, if_false, List.length_cons, List.length_nil]; omega
    · simp only [if_true, List.length_nil]; omega
theorem tHead_len60 {ds : List Nd} (hg : Good ds) (hl : ds.length ≤ 100000) (hs : ∀ t, IsT ds t → (nd ds t).s.length ≤ 60) (kn : Int → Bool) {a : List Int} (ha : Nums ds a) {t : Int} (ht : IsT ds t) :
    (tHead ds kn a t).length ≤ 62 ∧ ((nd ds t).op ≠ 2 → (tHead ds kn a t).length ≤ 60) := by
  unfold tHead
  have h1 := hs t ht
  have hm := hg.mayT ht
  have hp : (nd ds t).op ≠ 2 → (pName (nd ds t).op).length ≤ 5 := fun h2 => by
    have := hm.op1
    have := hm.op12
    have : (nd ds t).op = 1 ∨ (nd ds t).op = 3 ∨ (nd ds t).op = 4 ∨ (nd ds t).op = 5 ∨ (nd ds t).op = 6 ∨ (nd ds t).op = 7 ∨ (nd ds t).op = 8 ∨ (nd ds t).op = 9 ∨ (nd ds t).op = 10 ∨ (nd ds t).op = 11 ∨ (nd ds t).op = 12 := by omega
    rcases this with c | c | c | c | c | c | c | c | c | c | c <;> rw [c] <;> decide
  split
  · exact ⟨by simp; omega, fun c => absurd (by assumption) c⟩
  · rename_i h2
    have := hp h2
    split
    · exact ⟨by omega, fun _ => by omega⟩
    · unfold headOf
      have hi := itoa_len (i := (numAt a t : Int)) ⟨by omega, by have := numAt_le a t; have := ha.len; omega⟩
      refine ⟨?_, fun _ => ?_⟩ <;> (simp; omega)
theorem pat_len {ds : List Nd} (hg : Good ds) (hl : ds.length ≤ 100000) (hs : ∀ t, IsT ds t → (nd ds t).s.length ≤ 60) (kn : Int → Bool) : ∀ (n : Nat) (t : Int), t.toNat < n → IsT ds t → wt ds t < 100000 → ∀ a, Nums ds a → (pat ds kn a t).1.length + 1 ≤ 63 * wt ds t := by
  intro n
  induction n with
  | zero => intro t h; omega
  | succ n ih =>
    intro t hn ht hw a ha
    have hwe := wt_eq hg ht
    rw [hwe] at hw
    have hsum := csum_eq (wt ds) (by decide) _ hw
    rw [← hwe] at hsum hw
    obtain ⟨h62, h60⟩ := tHead_len60 hg hl hs kn ha ht
    rw [pat_eq hg kn ht, pstep_told]
    cases hp : tParts ds kn t with
    | none => simp only; omega
    | some l =>
      have hsub := tParts_sub hp
      have hle := tParts_sum hp (wt ds)
      have h2 : (nd ds t).op ≠ 2 := fun e => by
        unfold tParts at hp
        rw [if_pos e] at hp
        cases hp
      have h60 := h60 h2
      have hna : Nums ds (tNums ds kn a t) := by
        unfold tNums
        split
        · exact ha
        split
        · exact ha
        · exact ha.add ht
      have hh : ∀ a, Nums ds a → ∀ x ∈ l, (pat ds kn a x).1.length + 1 ≤ 63 * wt ds x := fun a ha x hx => by
        have hx' := hsub x hx
        have hlt := hg.lessT ht x hx'
        have := ht.1
        have : wt ds x ≤ ((nd ds t).l.map (wt ds)).sum := mem_sum_le (List.mem_map.2 ⟨x, hx', rfl⟩)
        exact ih x (by omega) (hg.partT ht x hx') (by omega) a ha
      have hp2 := pts_len (g := wt ds) hh (fun a ha x hx => pat_nums hg kn _ x (Nat.lt_succ_self _) (hg.partT ht x (hsub x hx)) a ha) true hna
      simp only [br, List.length_append, List.length_cons, List.length_nil]
      omega
/-- How heavy some numbers are. -/
def lightN (ds : List Nd) (l : List Int) : Nat := (l.map fun x => if 0 ≤ x ∧ x < (ds.length : Int) then wt ds x else 0).sum
theorem lightN_le {ds : List Nd} (hg : Good ds) (l : List Int) : lightN ds l ≤ 100000 * l.length := by
  unfold lightN
  induction l with
  | nil => simp
  | cons x l ih =>
    simp only [List.map_cons, List.sum_cons, List.length_cons]
    by_cases c : 0 ≤ x ∧ x < (ds.length : Int)
    · rw [if_pos c]
      have := wt_le hg (t := x) c
      omega
    · rw [if_neg c]; omega
theorem lightN_snoc (ds : List Nd) (l : List Int) (x : Int) : lightN ds (l ++ [x]) = lightN ds l + if 0 ≤ x ∧ x < (ds.length : Int) then wt ds x else 0 := by
  unfold lightN
  simp
theorem patL_flat {ds : List Nd} {one : PO} {g : Int → Nat} {l : List Int} (h : ∀ a, Nums ds a → ∀ x ∈ l, (one a x).1.length + 1 ≤ 63 * g x) (hn : ∀ a, Nums ds a → ∀ x ∈ l, Nums ds (one a x).2) {a : List Int} (ha : Nums ds a) :
    (patL one a l).1.flatten.length ≤ 63 * (l.map g).sum := by
  induction l generalizing a with
  | nil => simp [patL]
  | cons x l ih =>
    have h1 := h a ha x List.mem_cons_self
    have h2 := ih (fun a ha y hy => h a ha y (List.mem_cons_of_mem _ hy)) (fun a ha y hy => hn a ha y (List.mem_cons_of_mem _ hy)) (hn a ha x List.mem_cons_self)
    simp only [patL, List.map_cons, List.sum_cons, List.flatten_cons, List.length_append]
    omega
theorem light_flat {ds : List Nd} (hg : Good ds) (hl : ds.length ≤ 100000) (hs : ∀ t, IsT ds t → (nd ds t).s.length ≤ 60) (kn : Int → Bool) {l : List Int} (hT : ∀ x ∈ l, IsT ds x) (hw : lightN ds l < 3000) :
    (patL (pat ds kn) [] l).1.flatten.length ≤ 1000000 := by
  have e : l.map (fun x => if 0 ≤ x ∧ x < (ds.length : Int) then wt ds x else 0) = l.map (wt ds) := List.map_congr_left fun x hx => if_pos (hT x hx)
  unfold lightN at hw
  rw [e] at hw
  have := patL_flat (g := wt ds) (one := pat ds kn) (l := l) (fun a ha x hx => pat_len hg hl hs kn _ x (Nat.lt_succ_self _) (hT x hx) (by
    have : wt ds x ≤ (l.map (wt ds)).sum := mem_sum_le (List.mem_map.2 ⟨x, hx, rfl⟩)
    omega) a ha) (fun a ha x hx => pat_nums hg kn _ x (Nat.lt_succ_self _) (hT x hx) a ha) (Nums.nil ds)
  omega
theorem mkAll_mem (ls : List Nd) : ∀ d ∈ mkAll ls, d ∈ ls := by
  have : ∀ (n : Nat), n ≤ ls.length → ∀ d ∈ mkAll (ls.take n), d ∈ ls := by
    intro n
    induction n with
    | zero => intro _ d hd; simp [mkAll] at hd
    | succ n ih =>
      intro h d hd
      rw [mkAll_take ls (by omega)] at hd
      have hmem : ls.getD n nd0 ∈ ls := by
        rw [List.getD_eq_getElem?_getD, List.getElem?_eq_getElem (by omega)]
        exact List.getElem_mem _
      by_cases hm : May (mkAll (ls.take n)) (ls.getD n nd0)
      · cases hf : find (mkAll (ls.take n)) (ls.getD n nd0) with
        | some i => rw [mk_old hm hf] at hd; exact ih (by omega) d hd
        | none =>
          by_cases hl : 100000 ≤ (mkAll (ls.take n)).length
          · rw [mk_full hm hf hl] at hd; exact ih (by omega) d hd
          · rw [mk_new hm hf hl] at hd
            rcases List.mem_append.1 hd with c | c
            · exact ih (by omega) d c
            · rw [List.mem_singleton.1 c]; exact hmem
      · have e : mk (mkAll (ls.take n)) (ls.getD n nd0) = (mkAll (ls.take n), 0, 1) := by unfold mk; rw [if_neg hm]
        rw [e] at hd
        exact ih (by omega) d hd
  intro d hd
  have h := this ls.length (Nat.le_refl _)
  rw [List.take_length] at h
  exact h d hd
theorem mkAll_s {ls : List Nd} (h : ∀ k, k < ls.length → (ls.getD k nd0).s.length ≤ 60) : ∀ t, IsT (mkAll ls) t → (nd (mkAll ls) t).s.length ≤ 60 := fun t ht => by
  obtain ⟨n, rfl, hn⟩ := isT_nat ht
  rw [nd_of, List.getD_eq_getElem?_getD, List.getElem?_eq_getElem hn]
  have hm := mkAll_mem ls _ (List.getElem_mem hn)
  obtain ⟨k, hk, he⟩ := List.getElem_of_mem hm
  have := h k hk
  rw [List.getD_eq_getElem?_getD, List.getElem?_eq_getElem hk] at this
  simp only [Option.getD_some] at this ⊢
  rw [← he]
  exact this
end Go.Proofs.YtangbnmgkcmhbaaDoor
end

section
/- Walks of the statements of layer 5: light. -/
set_option linter.unusedSimpArgs false
set_option linter.unusedVariables false
namespace Go.Proofs.YtangbnmgkcmhbaaDoor
open Go.RowKit Go.Maps

/-- The weights of the first k terms. -/
def wl (ds : List Nd) (k : Nat) : List Int := (List.range k).map fun t : Nat => (wt ds (t : Int) : Int)
theorem wl_len (ds : List Nd) (k : Nat) : (wl ds k).length = k := by simp [wl]
theorem wl_succ (ds : List Nd) (k : Nat) : wl ds (k + 1) = wl ds k ++ [(wt ds (k : Int) : Int)] := by simp [wl, List.range_succ]
theorem wl_get (ds : List Nd) {k i : Nat} (h : i < k) : (wl ds k).getD i 0 = (wt ds (i : Int) : Int) := by
  unfold wl
  rw [List.getD_eq_getElem?_getD, List.getElem?_map, List.getElem?_range h]
  rfl
theorem partX_set2 {xs : List Int} {n : Nat} (h : xs.length < n) (x y : Int) : (partX (xs ++ [x]) n).set xs.length y = partX (xs ++ [y]) n := by
  unfold partX
  have e : (xs ++ [x]).length = (xs ++ [y]).length := by simp
  rw [e, List.append_assoc, List.append_assoc, List.set_append_right _ _ (Nat.le_refl _), Nat.sub_self]
  rfl
theorem partX_get {xs : List Int} {n i : Nat} (h : i < xs.length) : (partX xs n).getD i 0 = xs.getD i 0 := by
  unfold partX
  rw [List.getD_eq_getElem?_getD, List.getElem?_append_left h, ← List.getD_eq_getElem?_getD]
/-- One of the numbers is written anew. -/
theorem partX_put2 {B : Nat} {w : World} {g n cap : Nat} {xs : List Int} {x : Int} (h : OwnI B w (.slice (some ⟨g, 0, none⟩) n cap) (partX (xs ++ [x]) n)) (hx : xs.length < n) (y : Int) :
    OwnI B (w.setCell ⟨g, xs.length, none⟩ (.int .i64 y)) (.slice (some ⟨g, 0, none⟩) n cap) (partX (xs ++ [y]) n) := by
  have hl : (partX (xs ++ [x]) n).length = n := partX_len (by simp; omega)
  have h' : Ownv B 3 1 w (.slice (some ⟨g, 0, none⟩) n cap) n ((partX (xs ++ [x]) n).map (Value.int .i64)) := by
    have := h
    unfold OwnI at this
    rw [hl] at this
    exact this
  have := Ownv.put h' xs.length (by omega) (.int .i64 y)
  unfold OwnI
  rw [← partX_set2 hx x y, List.length_set, hl, List.map_set]
  exact this
/-- A number's cell. -/
theorem partX_cell {B : Nat} {w : World} {g n cap : Nat} {xs : List Int} (h : OwnI B w (.slice (some ⟨g, 0, none⟩) n cap) (partX xs n)) (hx : xs.length ≤ n) {i : Nat} (hi : i < n) :
    w.frozen? ⟨g, i, none⟩ = false ∧ w.cell? ⟨g, i, none⟩ = some (.int .i64 ((partX xs n).getD i 0)) := by
  have hl := partX_len hx
  obtain ⟨g', cap', hv, _, _, _, _, hc, hf⟩ := OwnI.row h (by omega)
  simp only [Value.slice.injEq, Option.some.injEq, Addr.mk.injEq] at hv
  obtain ⟨⟨rfl, _⟩, _⟩ := hv
  exact ⟨hf i, hc i (by omega)⟩

set_option maxHeartbeats 8000000 in
set_option maxRecDepth 100000 in
theorem light_any {G : Nat → Prop} {w : World} {q : Value} {ds : List Nd} (h : ArR G w q ds) {v : Value} {l : List Int} (hd : RdI w v l) (hl64 : ∀ x ∈ l, I64 x) (hll : l.length ≤ 1000) (hds : ds.length ≤ 1000) :
    Calls Tryd.prog 16 #[q, v] w fun e w' => e = .returned (.bool (decide (lightN ds l < 3000))) ∧ Kept w w' := by
  have hln := lenR h
  have hg := h.good
  obtain ⟨pb, mb, nv, rfl, c0, c1, hr⟩ := ArG.nodes h
  obtain ⟨na, ncap, rfl, _, _, _⟩ := hr.len
  obtain ⟨la, lc, rfl, _, _, _⟩ := hd.len
  have d63 : ((ds.length : Nat) : Int) ≤ 9223372036854775807 := by omega
  have l63 : ((l.length : Nat) : Int) ≤ 9223372036854775807 := by omega
  clear h c1
  go_enter Tryd.func16, Tryd.ntmps16
  go_wp2_with (first
    | (go_at_call 23; refine hln.mono ?_; rintro e w1 ⟨rfl, rfl⟩)
    | (at_make; refine go_mkints ds.length _ rfl rfl rfl (by omega) ?_; intro w5 o5 k5 q5; have c05 := k5.cell (p := ⟨pb, 0, none⟩) (World.block_lt_of_cell? _ _ c0) |>.trans c0))
  have e0 : List.replicate ds.length (0 : Int) = partX (wl ds 0) ds.length := by simp [partX, wl]
  rw [e0] at o5
  clear e0 hln
  generalize hgg : w.heap.size = g at o5 q5 ⊢
  have HG := Shut.mk hgg
  clear hgg
  go_loopw [21] (fun i wr => ∃ k : Nat, k ≤ ds.length ∧ i = .int .i64 k ∧ OwnI g wr (.slice (some ⟨g, 0, none⟩) ds.length ds.length) (partX (wl ds k) ds.length) ∧ Kept w wr) (fun i _ => ds.length - (intOf i).toNat)
  case atStart => exact ⟨0, Nat.zero_le _, rfl, o5, k5⟩
  case round =>
    clear o5 k5 q5 c05
    obtain ⟨k, hk0, rfl, ho, hk⟩ := hrel
    by_cases hlt : k < ds.length
    · obtain ⟨nb, noff, ncap', la', lc', hv, hcl, hlr⟩ := hr.at hlt
      simp only [Value.slice.injEq] at hv
      obtain ⟨rfl, _, rfl⟩ := hv
      obtain ⟨y0, y1, y2, y3⟩ := hcl wr hk
      have HW := Shut.mk (wl_succ ds k)
      have hwe := wt_eq hg (t := (k : Int)) ⟨by omega, by omega⟩
      have hles := hg.lessT (t := (k : Int)) ⟨by omega, by omega⟩
      rw [nd_of] at hwe hles
      have HWE := Shut.mk hwe
      clear hcl hwe
      generalize hdd : ds.getD k nd0 = d at y0 y1 y2 y3 hlr HWE hles
      have HLS := Shut.mk hles
      clear hdd hles
      obtain ⟨op, n, s, nl⟩ := d
      simp only at y0 y1 y2 y3 hlr HWE HLS
      generalize strB s = S at y2
      obtain ⟨_, _, _, nl1, nl2, _⟩ := hlr.len
      have nl63 : ((nl.length : Nat) : Int) ≤ 9223372036854775807 := by unfold maxLen at nl2; omega
      have ka : Kept wr (wr.alloc (.cells #[.int .i64 op, .int .i64 n, .string S, .slice la' nl.length lc'] 51)) := (Kept.refl wr).alloc _
      have bl := Blk.new wr [.int .i64 op, .int .i64 n, .string S, .slice la' nl.length lc'] 51
      have oa := Ownv.kept ho ka
      have hkI : (k : Int) < (ds.length : Int) := by omega
      obtain ⟨f1, z1⟩ := partX_cell oa (by rw [wl_len]; omega) hlt
      have glt : g < wr.heap.size := (Ownv.lt ho (b := g) rfl).1
      have hgw : w.heap.size ≤ g := by rw [HG.out]; exact Nat.le_refl _
      have hput0 := partX_put ho (by rw [wl_len]; exact hlt) 1
      rw [wl_len] at hput0
      have hput := Ownv.kept hput0 ((Kept.refl _).alloc (.cells #[.int .i64 op, .int .i64 n, .string S, .slice la' nl.length lc'] 51))
      have k1 : Kept w ((wr.setCell ⟨g, k, none⟩ (.int .i64 1)).alloc (.cells #[.int .i64 op, .int .i64 n, .string S, .slice la' nl.length lc'] 51)) := (hk.setCell (ad := ⟨g, k, none⟩) hgw _).trans ((Kept.refl _).alloc _)
      have q3 : True := trivial
      have b1 : True := trivial
      clear bl b1 oa
      go_wp2
      go_loopw [32] (fun i wx => ∃ j : Nat, j ≤ nl.length ∧ i = .int .i64 j ∧ OwnI g wx (.slice (some ⟨g, 0, none⟩) ds.length ds.length) (partX (wl ds k ++ [(csum (wt ds) 1 (nl.take j) : Int)]) ds.length) ∧ Kept w wx) (fun i _ => nl.length - (intOf i).toNat)
      case atStart => exact ⟨0, Nat.zero_le _, rfl, hput, k1⟩
      case round =>
        clear hput k1 q3 f1 z1 ka y0 y1 y2 y3
        obtain ⟨j, hj0, rfl, hox, hkx⟩ := hrel
        by_cases hjl : j < nl.length
        · obtain ⟨rb, ro, rc, hrv, _, _, hrb, hcl⟩ := (hlr.kept hkx).addr (by omega)
          simp only [Value.slice.injEq] at hrv
          obtain ⟨rfl, _, rfl⟩ := hrv
          have hcw := hcl j hjl
          clear hcl
          have hxl := HLS.out _ (getD_mem hjl)
          have hst : csum (wt ds) 1 (nl.take (j + 1)) = min (csum (wt ds) 1 (nl.take j) + wt ds (nl.getD j 0)) 100000 := by
            have hx : nl.getD j 0 = nl[j] := by rw [List.getD_eq_getElem?_getD, List.getElem?_eq_getElem hjl]; rfl
            rw [List.take_succ_eq_append_getElem hjl, csum_snoc, hx]
          have HST := Shut.mk hst
          have ha := csum_le (wt ds) (a := 1) (by decide) (nl.take j)
          clear hst
          generalize csum (wt ds) 1 (nl.take j) = acc at HST hox ha
          generalize nl.getD j 0 = x at hcw hxl HST
          obtain ⟨x0, x1⟩ := hxl
          obtain ⟨xn, rfl⟩ := Int.eq_ofNat_of_zero_le x0
          have hxn : xn < k := by omega
          have hb := wt_le hg (t := (xn : Int)) ⟨by omega, by omega⟩
          obtain ⟨f1, z1⟩ := partX_cell hox (by simp [wl_len]; omega) hlt
          obtain ⟨_, z2⟩ := partX_cell hox (by simp [wl_len]; omega) (show xn < ds.length by omega)
          have e1 : (partX (wl ds k ++ [(acc : Int)]) ds.length).getD k 0 = (acc : Int) := by
            rw [partX_get (by simp [wl_len])]
            simp [wl_len]
          have e2 : (partX (wl ds k ++ [(acc : Int)]) ds.length).getD xn 0 = (wt ds (xn : Int) : Int) := by
            rw [partX_get (by simp [wl_len]; omega), List.getD_eq_getElem?_getD, List.getElem?_append_left (by rw [wl_len]; exact hxn), ← List.getD_eq_getElem?_getD, wl_get ds hxn]
          rw [e1] at z1
          rw [e2] at z2
          clear e1 e2
          generalize wt ds (xn : Int) = b at z2 HST hb
          have i1 : (0 : Int) ≤ (k : Int) := by omega
          have i2 : (xn : Int) < (ds.length : Int) := by omega
          have i3 : (0 : Int) ≤ (xn : Int) := by omega
          have HJ := Shut.mk hjl
          have HP2 : Shut (∀ (W : World) (y : Int), Kept wr W → OwnI g (W.setCell ⟨g, k, none⟩ (.int .i64 y)) (.slice (some ⟨g, 0, none⟩) ds.length ds.length) (partX (wl ds k ++ [y]) ds.length)) := ⟨fun W y kW => by
            have := partX_put2 (Ownv.kept hox kW) (by rw [wl_len]; exact hlt) y
            rwa [wl_len] at this⟩
          have HP3 : Shut (∀ (W : World) (x y : Int), OwnI g W (.slice (some ⟨g, 0, none⟩) ds.length ds.length) (partX (wl ds k ++ [x]) ds.length) → OwnI g (W.setCell ⟨g, k, none⟩ (.int .i64 y)) (.slice (some ⟨g, 0, none⟩) ds.length ds.length) (partX (wl ds k ++ [y]) ds.length)) := ⟨fun W x y oW => by
            have := partX_put2 oW (by rw [wl_len]; exact hlt) y
            rwa [wl_len] at this⟩
          have a1 : (acc : Int) ≤ 100000 := by omega
          have b1 : (b : Int) ≤ 100000 := by omega
          by_cases hc : 100000 < acc + b
          · have hcd : decide ((acc : Int) + (b : Int) > 100000) = true := decide_eq_true (by omega)
            have hcd2 : decide ((100000 : Int) < (acc : Int) + (b : Int)) = true := decide_eq_true (by omega)
            have HC : Shut (((min (acc + b) 100000 : Nat) : Int) = 100000) := ⟨by omega⟩
            clear hc
            go_wp2
            go_region
            all_goals
              go_wp2
              go_roundw
              case rel =>
                refine ⟨j + 1, HJ.out, rfl, ?_, ?_⟩
                · rw [HST.out, HC.out]
                  first | exact HP3.out _ _ _ (HP2.out _ _ (Kept.refl _)) | exact Ownv.kept (HP3.out _ _ _ (HP2.out _ _ (Kept.refl _))) ((Kept.refl _).drew) | exact Ownv.kept (HP3.out _ _ _ (HP2.out _ _ (Kept.refl _))) ((Kept.refl _).drewN _)
                · first | exact (hkx.setCell (ad := ⟨g, k, none⟩) hgw _).setCell (ad := ⟨g, k, none⟩) hgw _ | exact ((hkx.setCell (ad := ⟨g, k, none⟩) hgw _).setCell (ad := ⟨g, k, none⟩) hgw _).drew | exact ((hkx.setCell (ad := ⟨g, k, none⟩) hgw _).setCell (ad := ⟨g, k, none⟩) hgw _).drewN _
              case measure => simp [intOf]; omega
          · have hcd : decide ((acc : Int) + (b : Int) > 100000) = false := decide_eq_false (by omega)
            have hcd2 : decide ((100000 : Int) < (acc : Int) + (b : Int)) = false := decide_eq_false (by omega)
            have HC : Shut (((min (acc + b) 100000 : Nat) : Int) = (acc : Int) + (b : Int)) := ⟨by omega⟩
            clear hc
            go_wp2
            go_region
            all_goals
              go_wp2
              go_roundw
              case rel =>
                refine ⟨j + 1, HJ.out, rfl, ?_, ?_⟩
                · rw [HST.out, HC.out]
                  first | exact HP2.out _ _ (Kept.refl _) | exact Ownv.kept (HP2.out _ _ (Kept.refl _)) ((Kept.refl _).drew) | exact Ownv.kept (HP2.out _ _ (Kept.refl _)) ((Kept.refl _).drewN _)
                · first | exact hkx.setCell (ad := ⟨g, k, none⟩) hgw _ | exact (hkx.setCell (ad := ⟨g, k, none⟩) hgw _).drew | exact (hkx.setCell (ad := ⟨g, k, none⟩) hgw _).drewN _
              case measure => simp [intOf]; omega
        · obtain rfl : j = nl.length := by omega
          rw [List.take_length, ← HWE.out, ← HW.out] at hox
          go_wp2
          go_roundw
          case rel => exact ⟨k + 1, hlt, rfl, hox, hkx⟩
          case measure => simp [intOf]; omega
    · obtain rfl : k = ds.length := by omega
      have hfull : partX (wl ds ds.length) ds.length = wl ds ds.length := by
        have := partX_all (wl ds ds.length)
        rwa [wl_len] at this
      have hcell : ∀ i : Nat, i < ds.length → wr.cell? ⟨g, i, none⟩ = some (.int .i64 (wt ds (i : Int) : Int)) := fun i hi => by
        have := (partX_cell ho (by rw [wl_len]; exact Nat.le_refl _) hi).2
        rwa [hfull, wl_get ds hi] at this
      have HCL := Shut.mk hcell
      clear hcell hfull ho hlt hk0
      go_wp2
      go_loopw [10, 58] (fun n i wx => ∃ j : Nat, j ≤ l.length ∧ i = .int .i64 j ∧ n = .int .i64 (lightN ds (l.take j)) ∧ wr = wx) (fun _ i _ => l.length - (intOf i).toNat)
      case atStart => exact ⟨0, Nat.zero_le _, rfl, by simp [lightN], rfl⟩
      case round =>
        obtain ⟨j, hj0, rfl, rfl, rfl⟩ := hrel
        by_cases hjl : j < l.length
        · obtain ⟨rb, ro, rc, hrv, _, _, hrb, hcl⟩ := (hd.kept hk).addr (by omega)
          simp only [Value.slice.injEq] at hrv
          obtain ⟨rfl, _, rfl⟩ := hrv
          have hcw := hcl j hjl
          clear hcl
          have hx64 := hl64 _ (getD_mem hjl)
          have hst : lightN ds (l.take (j + 1)) = lightN ds (l.take j) + if 0 ≤ l.getD j 0 ∧ l.getD j 0 < (ds.length : Int) then wt ds (l.getD j 0) else 0 := by
            have hx : l.getD j 0 = l[j] := by rw [List.getD_eq_getElem?_getD, List.getElem?_eq_getElem hjl]; rfl
            rw [List.take_succ_eq_append_getElem hjl, lightN_snoc, hx]
          have HST := Shut.mk hst
          have ha := lightN_le hg (l.take j)
          have hlt2 : (l.take j).length ≤ 1000 := by rw [List.length_take]; omega
          clear hst
          generalize lightN ds (l.take j) = acc at HST ha
          generalize l.getD j 0 = x at hcw hx64 HST
          have acc1 : acc ≤ 100000000 := by omega
          have acc2 : (acc : Int) ≤ 100000000 := by omega
          have hjI : (j : Int) < (l.length : Int) := by omega
          have HJ := Shut.mk hjl
          clear ha hlt2
          by_cases hx : 0 ≤ x ∧ x < (ds.length : Int)
          · have HS2 := HST.out
            rw [if_pos hx] at HS2
            have HS := Shut.mk HS2
            clear HS2
            obtain ⟨x0, x1⟩ := hx
            obtain ⟨xn, rfl⟩ := Int.eq_ofNat_of_zero_le x0
            have z2 := HCL.out xn (by omega)
            have hb := wt_le hg (t := (xn : Int)) ⟨by omega, by omega⟩
            generalize wt ds (xn : Int) = b at z2 HS hb
            have b1 : (b : Int) ≤ 100000 := by omega
            go_wp2
            go_roundw
            case rel => exact ⟨j + 1, HJ.out, rfl, by rw [HS.out]; rfl, by first | rfl | trivial⟩
            case measure => simp [intOf]; omega
          · have HS2 := HST.out
            rw [if_neg hx, Nat.add_zero] at HS2
            have HS := Shut.mk HS2
            clear HS2
            by_cases x0 : 0 ≤ x
            · have x1 : ¬ x < (ds.length : Int) := fun c => hx ⟨x0, c⟩
              clear hx
              go_wp2
              go_roundw
              case rel => exact ⟨j + 1, HJ.out, rfl, by rw [HS.out]; rfl, by first | rfl | trivial⟩
              case measure => simp [intOf]; omega
            · clear hx
              go_wp2
              go_roundw
              case rel => exact ⟨j + 1, HJ.out, rfl, by rw [HS.out]; rfl, by first | rfl | trivial⟩
              case measure => simp [intOf]; omega
        · obtain rfl : j = l.length := by omega
          rw [List.take_length]
          generalize hn : lightN ds l = n
          have HN := Shut.mk hn
          clear hn
          have hdec : decide ((n : Int) < 3000) = decide (n < 3000) := by
            by_cases c : n < 3000
            · rw [decide_eq_true c, decide_eq_true (by omega)]
            · rw [decide_eq_false c, decide_eq_false (by omega)]
          have HD := Shut.mk hdec
          clear hdec
          go_wp2
          go_ret
          exact ⟨by rw [HN.out, ← HD.out]; rfl, hk⟩
end Go.Proofs.YtangbnmgkcmhbaaDoor
end

section
/- Atoms that are renamed: plain facts. -/
set_option linter.unusedSimpArgs false
set_option linter.unusedVariables false
namespace Go.Proofs.YtangbnmgkcmhbaaDoor
open Go

/-- An Atom's new name. -/
def tau (z : Int) (d : Nd) : Nd := if d.op = 1 then ⟨d.op, 2 * d.n + z, d.s, d.l⟩ else d
theorem tau_op (z : Int) (d : Nd) : (tau z d).op = d.op := by unfold tau; split <;> rfl
theorem tau_s (z : Int) (d : Nd) : (tau z d).s = d.s := by unfold tau; split <;> rfl
theorem tau_l (z : Int) (d : Nd) : (tau z d).l = d.l := by unfold tau; split <;> rfl
theorem tau_n (z : Int) (d : Nd) : (tau z d).n = if d.op = 1 then 2 * d.n + z else d.n := by unfold tau; split <;> rfl
theorem tau_fix (z : Int) {d : Nd} (h : d.op ≠ 1) : tau z d = d := if_neg h
theorem tau_inj (z : Int) {c d : Nd} (h : tau z c = tau z d) : c = d := by
  have h1 := congrArg Nd.op h
  have h2 := congrArg Nd.n h
  have h3 := congrArg Nd.s h
  have h4 := congrArg Nd.l h
  rw [tau_op, tau_op] at h1
  rw [tau_n, tau_n, h1] at h2
  rw [tau_s, tau_s] at h3
  rw [tau_l, tau_l] at h4
  obtain ⟨co, cn, cs, cl⟩ := c
  obtain ⟨o, n, s, l⟩ := d
  simp only at h1 h2 h3 h4
  subst h1 h3 h4
  split at h2
  · obtain rfl : cn = n := by omega
    rfl
  · rw [h2]
theorem tau_nd0 (z : Int) : tau z nd0 = nd0 := rfl
theorem getD_tau (z : Int) (ds : List Nd) (i : Nat) : (ds.map (tau z)).getD i nd0 = tau z (ds.getD i nd0) := by
  simp only [List.getD_eq_getElem?_getD, List.getElem?_map]
  cases ds[i]? <;> rfl
theorem nd_tau (z : Int) (ds : List Nd) (t : Int) : nd (ds.map (tau z)) t = tau z (nd ds t) := getD_tau z ds _
theorem find_tau (z : Int) (ds : List Nd) (d : Nd) : find (ds.map (tau z)) (tau z d) = find ds d := by
  unfold find
  rw [List.findIdx?_map]
  congr 1
  funext e
  show decide (tau z e = tau z d) = decide (e = d)
  by_cases h : e = d
  · rw [h]; simp
  · have : ¬ tau z e = tau z d := fun c => h (tau_inj z c)
    rw [decide_eq_false h, decide_eq_false this]
theorem may_tau {z : Int} (hz : 0 ≤ z) {ds : List Nd} {d : Nd} (hd : d.op = 1 → 0 ≤ d.n) : May (ds.map (tau z)) (tau z d) ↔ May ds d := by
  constructor
  · intro h
    refine ⟨by rw [← tau_op z d]; exact h.op1, by rw [← tau_op z d]; exact h.op12, ?_, ?_, by rw [← tau_s z d]; exact h.s0, by rw [← tau_s z d, ← tau_op z d]; exact h.s1, by rw [← tau_l z d, ← tau_op z d]; exact h.least, by rw [← tau_l z d, ← tau_op z d]; exact h.most,
      fun x hx => by have := h.all x (by rw [tau_l]; exact hx); rwa [List.length_map] at this, fun ho => by have := h.key (by rw [tau_op]; exact ho); rwa [tau_l, getD_tau, tau_op] at this⟩
    · by_cases c : d.op = 1
      · exact hd c
      · have := h.n0; rwa [tau_fix z c] at this
    · by_cases c : d.op = 1
      · exact .inr c
      · have := h.n1; rwa [tau_fix z c] at this
  · intro h
    refine ⟨by rw [tau_op]; exact h.op1, by rw [tau_op]; exact h.op12, ?_, ?_, by rw [tau_s]; exact h.s0, by rw [tau_s, tau_op]; exact h.s1, by rw [tau_l, tau_op]; exact h.least, by rw [tau_l, tau_op]; exact h.most,
      fun x hx => by rw [tau_l] at hx; rw [List.length_map]; exact h.all x hx, fun ho => by rw [tau_op] at ho; rw [tau_l, getD_tau, tau_op]; exact h.key ho⟩
    · rw [tau_n]
      split
      · rename_i c
        have := hd c
        omega
      · exact h.n0
    · rw [tau_op]
      by_cases c : d.op = 1
      · exact .inr c
      · have := h.n1; rwa [tau_fix z c]
theorem mk_tau {z : Int} (hz : 0 ≤ z) {ds : List Nd} {d : Nd} (hd : d.op = 1 → 0 ≤ d.n) : mk (ds.map (tau z)) (tau z d) = ((mk ds d).1.map (tau z), (mk ds d).2.1, (mk ds d).2.2) := by
  by_cases hm : May ds d
  · have hm' := (may_tau hz hd).2 hm
    have hff := find_tau z ds d
    cases hf : find ds d with
    | some i =>
      rw [hf] at hff
      rw [mk_old hm hf, mk_old hm' hff]
    | none =>
      rw [hf] at hff
      by_cases hl : 100000 ≤ ds.length
      · rw [mk_full hm hf hl, mk_full hm' hff (by rw [List.length_map]; exact hl)]
      · rw [mk_new hm hf hl, mk_new hm' hff (by rw [List.length_map]; exact hl)]
        simp
  · have hm' : ¬ May (ds.map (tau z)) (tau z d) := fun h => hm ((may_tau hz hd).1 h)
    have e1 : mk ds d = (ds, 0, 1) := by unfold mk; rw [if_neg hm]
    have e2 : mk (ds.map (tau z)) (tau z d) = (ds.map (tau z), 0, 1) := by unfold mk; rw [if_neg hm']
    rw [e1, e2]
theorem mkAll_tau {z : Int} (hz : 0 ≤ z) {ls : List Nd} (h : ∀ d ∈ ls, d.op = 1 → 0 ≤ d.n) : mkAll (ls.map (tau z)) = (mkAll ls).map (tau z) := by
  unfold mkAll
  have key : ∀ (ls : List Nd) (ds : List Nd), (∀ d ∈ ls, d.op = 1 → 0 ≤ d.n) → (ls.map (tau z)).foldl (fun ds d => (mk ds d).1) (ds.map (tau z)) = (ls.foldl (fun ds d => (mk ds d).1) ds).map (tau z) := by
    intro ls
    induction ls with
    | nil => intro ds _; rfl
    | cons d ls ih =>
      intro ds h
      simp only [List.map_cons, List.foldl_cons]
      rw [mk_tau hz (h d List.mem_cons_self)]
      exact ih _ (fun e he => h e (List.mem_cons_of_mem _ he))
  exact key ls [] h

/-! ## what is derived, what is shown hangs on no name -/
theorem sealed_tau (z : Int) (ds : List Nd) (d : Nd) : sealedTo (ds.map (tau z)) (tau z d) = sealedTo ds d := by
  unfold sealedTo
  rw [tau_op, tau_l, nd_tau, tau_op, tau_l]
theorem sigAt_tau (z : Int) (ds : List Nd) (k m : Int) : sigAt (ds.map (tau z)) k m = sigAt ds k m := by
  unfold sigAt
  have h := find_tau z ds ⟨10, 0, [], [k, m]⟩
  rw [tau_fix z (by simp)] at h
  rw [h]
theorem openRules_tau (z : Int) (ds : List Nd) (t : Int) (d : Nd) : openRules (ds.map (tau z)) t (tau z d) = openRules ds t d := by
  unfold openRules
  rw [sealed_tau, tau_op, tau_l, nd_tau, tau_op, tau_l, sigAt_tau]
theorem rules_tau (z : Int) (ds : List Nd) : rules (ds.map (tau z)) = rules ds := by
  unfold rules
  rw [List.length_map]
  congr 1
  funext t
  unfold rulesAt
  rw [getD_tau, tau_op, tau_l, openRules_tau]
theorem der_tau (z : Int) (ds : List Nd) (l : List Int) (t : Int) : Der (ds.map (tau z)) l t ↔ Der ds l t := by
  have hr := rules_tau z ds
  constructor
  · intro h
    induction h with
    | base h1 => exact .base h1
    | step r h1 _ h3 ih => exact .step r (by rw [← hr]; exact h1) ih h3
  · intro h
    induction h with
    | base h1 => exact .base h1
    | step r h1 _ h3 ih => exact .step r (by rw [hr]; exact h1) ih h3
theorem derB_tau (z : Int) (ds : List Nd) (l : List Int) (t : Int) : derB (ds.map (tau z)) l t = derB ds l t := by
  have h1 := @derB_true ds l t
  have h2 := @derB_true (ds.map (tau z)) l t
  have h3 := der_tau z ds l t
  cases ha : derB ds l t <;> cases hb : derB (ds.map (tau z)) l t <;> simp_all
theorem knL_tau (z : Int) (ds : List Nd) (l : List Int) : knL (ds.map (tau z)) l = knL ds l := by
  unfold knL
  rw [List.length_map]
  exact List.map_congr_left fun t _ => derB_tau z ds l t
theorem pstep_tau (z : Int) (ds : List Nd) (kn : Int → Bool) (one : PO) (a : List Int) (t : Int) : pstep (ds.map (tau z)) kn one a t = pstep ds kn one a t := by
  unfold pstep
  rw [nd_tau]
  have e1 : compound kn (tau z (nd ds t)) = compound kn (nd ds t) := by unfold compound; rw [tau_op, tau_l]
  have e2 : shownOf (ds.map (tau z)) kn (tau z (nd ds t)) = shownOf ds kn (nd ds t) := by unfold shownOf; rw [tau_op, tau_l, sealed_tau]
  have e3 : headOf a (tau z (nd ds t)) t = headOf a (nd ds t) t := by unfold headOf; rw [tau_op]
  rw [tau_op, tau_s, tau_l, e1, e2, e3]
theorem pt_tau (z : Int) (ds : List Nd) (kn : Int → Bool) (f : Nat) : pt (ds.map (tau z)) kn f = pt ds kn f := by
  induction f with
  | zero => rfl
  | succ f ih =>
    funext a t
    show pstep (ds.map (tau z)) kn (pt (ds.map (tau z)) kn f) a t = pstep ds kn (pt ds kn f) a t
    rw [ih, pstep_tau]
theorem pat_tau (z : Int) (ds : List Nd) (kn : Int → Bool) : pat (ds.map (tau z)) kn = pat ds kn := by
  funext a t
  show pt (ds.map (tau z)) kn (t.toNat + 1) a t = pt ds kn (t.toNat + 1) a t
  rw [pt_tau]
theorem looks_tau (z : Int) (ds : List Nd) (l : List Int) : looks (ds.map (tau z)) l = looks ds l := by
  unfold looks
  rw [knL_tau, pat_tau]
theorem isT_tau (z : Int) (ds : List Nd) (t : Int) : IsT (ds.map (tau z)) t ↔ IsT ds t := by
  unfold IsT
  rw [List.length_map]
theorem termsB_tau (z : Int) (ds : List Nd) (l : List Int) : termsB (ds.map (tau z)) l = termsB ds l := by
  unfold termsB
  congr 1
  funext t
  exact decide_eq_decide.2 (isT_tau z ds t)
end Go.Proofs.YtangbnmgkcmhbaaDoor
end

section
/- The walk of DeduceNames. -/
set_option linter.unusedSimpArgs false
set_option linter.unusedVariables false
namespace Go.Proofs.YtangbnmgkcmhbaaDoor
open Go.RowKit Go.Maps

theorem rowL1 (w : World) (la : Option Addr) (a lc : Nat) (ha : (a : Int) ≤ 9223372036854775807) : RowL (w.alloc (.cells #[.slice la a lc] 23)) w.heap.size [a] := by
  have bl := Blk.new w [.slice la a lc] 23
  refine ⟨bl.lt, fun j hj => ?_⟩
  have hj' : j < 1 := hj
  obtain rfl : j = 0 := by omega
  exact ⟨la, lc, bl.cell 0, by simp; omega⟩

theorem names_step {z : Int} {ls : List Nd} {k : Nat} (hlt : k < ls.length) {d : Nd} (hd : ls.getD k nd0 = d) {lvs : List Value} (hlv : lvs.length = k) (lv : Value) :
    flat ((ls.take (k + 1)).map (tau z)) (lvs ++ [lv]) = flat ((ls.take k).map (tau z)) lvs ++ ndCells (tau z d) lv := by
  have hx : ls[k] = d := by rw [← hd, List.getD_eq_getElem?_getD, List.getElem?_eq_getElem hlt]; rfl
  rw [List.take_succ_eq_append_getElem hlt, List.map_append, hx, List.map_cons, List.map_nil, flat_snoc _ _ (by rw [List.length_map, List.length_take]; omega)]
theorem getD_snoc_lv (lvs : List Value) (lv : Value) (j : Nat) : (lvs ++ [lv]).getD j undef = if j < lvs.length then lvs.getD j undef else if j = lvs.length then lv else undef := by
  simp only [List.getD_eq_getElem?_getD]
  by_cases h : j < lvs.length
  · rw [if_pos h, List.getElem?_append_left h]
  · rw [if_neg h, List.getElem?_append_right (by omega)]
    by_cases h2 : j = lvs.length
    · simp [h2]
    · rw [if_neg h2, List.getElem?_eq_none (by simp; omega)]; rfl
theorem nodes_of {w : World} {tv : Value} {B : Nat} {ls : List Nd} {lvs : List Value} {z : Int} (hl : lvs.length = ls.length) (ho : Ownv B 51 4 w tv ls.length (flat (ls.map (tau z)) lvs)) (hr : ∀ j, j < ls.length → RdI w (lvs.getD j undef) (ls.getD j nd0).l) :
    RdNs w tv (ls.map (tau z)) :=
  ⟨lvs, by rw [List.length_map]; exact hl, by rw [List.length_map]; exact ho.rdv, fun i hi => by rw [getD_tau, tau_l]; exact hr i (by rw [List.length_map] at hi; exact hi)⟩
theorem ok_tau {z : Int} (z1 : 0 ≤ z) (z2 : z < 1000) {ls : List Nd} (hok : ∀ d ∈ ls, NdOk d) (hat : ∀ j, j < ls.length → (ls.getD j nd0).op = 1 → 0 ≤ (ls.getD j nd0).n ∧ (ls.getD j nd0).n < 1000000) : ∀ d ∈ ls.map (tau z), NdOk d := fun d hd => by
  obtain ⟨c, hc, rfl⟩ := List.mem_map.1 hd
  obtain ⟨j, hj, he⟩ := List.getElem_of_mem hc
  have ha := hat j hj
  rw [List.getD_eq_getElem?_getD, List.getElem?_eq_getElem hj, Option.getD_some, he] at ha
  have ho := hok c hc
  unfold tau
  split
  · rename_i e
    have := ha e
    exact ⟨ho.op, ⟨by simp only; omega, by simp only; omega⟩, ho.s, ho.l⟩
  · exact ho
theorem atoms_of {ls : List Nd} (hat : ∀ j, j < ls.length → (ls.getD j nd0).op = 1 → 0 ≤ (ls.getD j nd0).n ∧ (ls.getD j nd0).n < 1000000) : ∀ d ∈ ls, d.op = 1 → 0 ≤ d.n := fun d hd => by
  obtain ⟨j, hj, he⟩ := List.getElem_of_mem hd
  have ha := hat j hj
  rw [List.getD_eq_getElem?_getD, List.getElem?_eq_getElem hj, Option.getD_some, he] at ha
  exact fun e => (ha e).1

set_option maxHeartbeats 8000000 in
set_option maxRecDepth 100000 in
theorem names_walk {w : World} {v u : Value} {ls : List Nd} {l : List Int} (hv : RdNs w v ls) (hok : ∀ d ∈ ls, NdOk d) (hl : RdI w u l) (hl64 : ∀ x ∈ l, I64 x) {z0 : Int} (hz : I64 z0) (ht : TabsD w) :
    Calls Tryd.prog 6 #[v, u, .int .i64 z0] w fun e w' => e = .returned (.bool true) ∧ Kept w w' := by
  obtain ⟨na, ncap, rfl, n1, n2, _⟩ := hv.len
  obtain ⟨la, lc, rfl, l1, l2, _⟩ := hl.len
  have l63 : ((l.length : Nat) : Int) ≤ 9223372036854775807 := by unfold maxLen at l2; omega
  have n63 : ((ls.length : Nat) : Int) ≤ 9223372036854775807 := by unfold maxLen at n2; omega
  have HV := Shut.mk hv
  have HL := Shut.mk hl
  have HT := Shut.mk ht
  have HOK := Shut.mk hok
  have HL64 := Shut.mk hl64
  have t1 := Int.lt_tmod_of_pos z0 (show (0 : Int) < 1000 by omega)
  have t2 := Int.tmod_lt_of_pos z0 (show (0 : Int) < 1000 by omega)
  have hw : wrap64 (z0.tmod 1000 + 1000) = z0.tmod 1000 + 1000 := IntWalk.wrap64_in _ ⟨by omega, by omega⟩
  have z1 : 0 ≤ (z0.tmod 1000 + 1000).tmod 1000 := Int.tmod_nonneg _ (by omega)
  have z2 : (z0.tmod 1000 + 1000).tmod 1000 < 1000 := Int.tmod_lt_of_pos _ (by omega)
  obtain ⟨hz1, hz2⟩ := hz
  clear hv hl ht hok hl64 n1 n2 l1 l2
  go_enter Tryd.func6, Tryd.ntmps6
  go_wp2_with fail
  (with_reducible refine (live5_any HT.out).mono ?_)
  rintro e w1 ⟨rfl, k1⟩
  have kb : Kept w1 (w1.alloc (.cells #[.slice la l.length lc] 23)) := (Kept.refl w1).alloc _
  have hfew := few5_any ((HV.out.kept k1).kept kb) (cap := 1) (rowL1 w1 la l.length lc l63) (by simp)
  simp only [List.length_cons, List.length_nil, Nat.zero_add, Nat.reduceAdd] at hfew
  have HK1 := Shut.mk (k1.trans kb)
  clear k1 kb
  go_wp2_with fail
  (with_reducible refine hfew.mono ?_)
  clear hfew
  rintro e w2 ⟨b, rfl, hfew, k2⟩
  have HK2 := Shut.mk (HK1.out.trans k2)
  clear k2
  cases b with
  | false =>
    go_wp2
    go_ret
    exact ⟨rfl, HK2.out⟩
  | true =>
  have HF := Shut.mk (hfew rfl)
  have hl20 : l.length ≤ 20 := HF.out.2.2 0 (by simp)
  have hls := HF.out.1
  clear hfew
  have h2 := two_any (HV.out.kept HK2.out) HOK.out (HT.out.kept HK2.out).tabs
  have zz1 : 0 ≤ (z0.tmod 1000 + 1000) % 1000 := by omega
  have zz2 : (z0.tmod 1000 + 1000) % 1000 < 1000 := by omega
  go_wp2_with fail
  generalize (z0.tmod 1000 + 1000) % 1000 = z at zz1 zz2 ⊢
  clear t1 t2 hw z1 z2
  (with_reducible refine h2.mono ?_)
  clear h2
  rintro e w3 ⟨F, G, aa, q, rfl, ha, hb, _, hF, hG, k3⟩
  have hdl := mkAll_len ls
  have HSL := Shut.mk (mkAll_s (fun k hk => (HF.out.2.1 k hk).1))
  generalize hds : mkAll ls = ds at ha hb hdl HSL
  have HDS := Shut.mk hds
  clear hds
  have HK3 := Shut.mk (HK2.out.trans k3)
  have HA := Shut.mk ha
  have HGD := Shut.mk ha.good
  have hlg := light_any hb (HL.out.kept HK3.out) HL64.out (by omega) (by omega)
  clear ha hb hF hG k3
  by_cases c : lightN ds l < 3000
  · rw [decide_eq_true c] at hlg
    have HC := Shut.mk c
    clear c
    go_wp2_with fail
    (with_reducible refine hlg.mono ?_)
    clear hlg
    rintro e w4 ⟨rfl, k4⟩
    have HK4 := Shut.mk (HK3.out.trans k4)
    have HA4 : Shut (Ar F w4 (.pointer (some aa)) ds) := ⟨ArG.kept HA.out k4⟩
    clear k4
    go_wp2
    obtain ⟨wq, rfl⟩ : ∃ wq : World, wq = w4 := ⟨_, rfl⟩
    go_loopw [10, 42] (fun tv i wr => ∃ (k : Nat) (lvs : List Value), k ≤ ls.length ∧ i = .int .i64 k ∧ lvs.length = k ∧ Ownv wq.heap.size 51 4 wr tv k (flat ((ls.take k).map (tau z)) lvs) ∧ (∀ j, j < k → RdI w (lvs.getD j undef) (ls.getD j nd0).l) ∧ (∀ j, j < k → (ls.getD j nd0).op = 1 → 0 ≤ (ls.getD j nd0).n ∧ (ls.getD j nd0).n < 1000000) ∧ Kept wq wr) (fun _ i _ => ls.length - (intOf i).toNat)
    case atStart => exact ⟨0, [], Nat.zero_le _, rfl, rfl, World.ownsRow_nil _ _ _ _, (fun j hj => absurd hj (Nat.not_lt_zero _)), (fun j hj => absurd hj (Nat.not_lt_zero _)), Kept.refl _⟩
    case round =>
      obtain ⟨k, lvs, hk0, rfl, hlv, ho, hrs, hat, hk⟩ := hrel
      have HRS := Shut.mk hrs
      have HAT := Shut.mk hat
      have HLV := Shut.mk hlv
      have HO := Shut.mk ho
      clear hrs hat hlv
      by_cases hlt : k < ls.length
      · obtain ⟨nb, noff, ncap', la', lc', hv', hcl, hlr⟩ := HV.out.at hlt
        simp only [Value.slice.injEq] at hv'
        obtain ⟨rfl, _, rfl⟩ := hv'
        obtain ⟨y0, y1, y2, y3⟩ := hcl wr (HK4.out.trans hk)
        clear hcl
        generalize hdd : ls.getD k nd0 = d at y0 y1 y2 y3 hlr
        have HDD := Shut.mk hdd
        clear hdd
        obtain ⟨op, n, s, nl⟩ := d
        simp only at y0 y1 y2 y3 hlr
        generalize hS : strB s = S at y2
        have HS := Shut.mk hS
        clear hS
        have HLR := Shut.mk hlr
        have HLT := Shut.mk hlt
        by_cases c1 : op = 1
        · subst c1
          by_cases c2 : 0 ≤ n
          · by_cases c3 : n < 1000000
            · have HN1 := Shut.mk c2
              have HN2 := Shut.mk c3
              have bl := Blk.new (wr.alloc (.cells #[.int .i64 1, .int .i64 (2 * n + z), .string S, .slice la' nl.length lc'] 51)) [.int .i64 1, .int .i64 (2 * n + z), .string S, .slice la' nl.length lc'] 51
              rw [alloc_size] at bl
              have kk : Kept wr ((wr.alloc (.cells #[.int .i64 1, .int .i64 (2 * n + z), .string S, .slice la' nl.length lc'] 51)).alloc (.cells #[.int .i64 1, .int .i64 (2 * n + z), .string S, .slice la' nl.length lc'] 51)) := ((Kept.refl wr).alloc _).alloc _
              have hko := Ownv.kept HO.out kk
              have hsz := Nat.le_trans hk.size kk.size
              obtain ⟨i0, hi, hz0, hz1, hz2'⟩ := info_parts Tryd.infoNode4
              go_wp2_with (at_builtin; refine go_app_at wq.heap.size 51 4 56 i0 (.agg #[.int .i64 0, .int .i64 0, .string ⟨#[]⟩, .slice none 0 0]) Tryd.underlying22 hi hz0 hz1 hz2' rfl (by decide) _ k _ rfl hko _ 1 [.int .i64 1, .int .i64 (2 * n + z), .string S, .slice la' nl.length lc'] rfl (Rdv.blk bl rfl (by unfold maxLen; decide)) (by intro u hu; simp only [List.mem_cons, List.not_mem_nil, or_false] at hu; rcases hu with rfl | rfl | rfl | rfl <;> rfl) (by unfold maxLen; omega) (by omega) hsz ?_; intro v6 w6 o6 t6 l6)
              go_roundw
              case rel =>
                have k6 : Kept wq w6 := Turn.keptOf (hk.trans kk) t6 (fun b hb => (Ownv.lt HO.out hb).2)
                refine ⟨k + 1, lvs ++ [.slice la' nl.length lc'], HLT.out, rfl, by rw [List.length_append, HLV.out]; rfl, ?_, fun j hj => ?_, fun j hj => ?_, k6⟩
                · rw [names_step HLT.out HDD.out HLV.out]
                  have e : ndCells (tau z ⟨1, n, s, nl⟩) (.slice la' nl.length lc') = [.int .i64 1, .int .i64 (2 * n + z), .string S, .slice la' nl.length lc'] := by
                    rw [← HS.out]
                    rfl
                  rw [e]
                  exact o6
                · rw [getD_snoc_lv, HLV.out]
                  by_cases cj : j < k
                  · rw [if_pos cj]; exact HRS.out j cj
                  · obtain rfl : j = k := by omega
                    rw [if_neg cj, if_pos rfl, HDD.out]; exact HLR.out
                · by_cases cj : j < k
                  · exact HAT.out j cj
                  · obtain rfl : j = k := by omega
                    rw [HDD.out]; exact fun _ => ⟨HN1.out, HN2.out⟩
              case measure => simp [intOf]; omega
            · go_wp2
              go_ret
              exact ⟨rfl, (HK4.out.trans hk).trans ((Kept.refl _).alloc _)⟩
          · go_wp2
            go_ret
            exact ⟨rfl, (HK4.out.trans hk).trans ((Kept.refl _).alloc _)⟩
        · have c1b : (op == 1) = false := by simpa using c1
          have HNE := Shut.mk c1
          clear c1
          have bl := Blk.new (wr.alloc (.cells #[.int .i64 op, .int .i64 n, .string S, .slice la' nl.length lc'] 51)) [.int .i64 op, .int .i64 n, .string S, .slice la' nl.length lc'] 51
          rw [alloc_size] at bl
          have kk : Kept wr ((wr.alloc (.cells #[.int .i64 op, .int .i64 n, .string S, .slice la' nl.length lc'] 51)).alloc (.cells #[.int .i64 op, .int .i64 n, .string S, .slice la' nl.length lc'] 51)) := ((Kept.refl wr).alloc _).alloc _
          have hko := Ownv.kept HO.out kk
          have hsz := Nat.le_trans hk.size kk.size
          obtain ⟨i0, hi, hz0, hz1, hz2'⟩ := info_parts Tryd.infoNode4
          go_wp2_with (at_builtin; refine go_app_at wq.heap.size 51 4 56 i0 (.agg #[.int .i64 0, .int .i64 0, .string ⟨#[]⟩, .slice none 0 0]) Tryd.underlying22 hi hz0 hz1 hz2' rfl (by decide) _ k _ rfl hko _ 1 [.int .i64 op, .int .i64 n, .string S, .slice la' nl.length lc'] rfl (Rdv.blk bl rfl (by unfold maxLen; decide)) (by intro u hu; simp only [List.mem_cons, List.not_mem_nil, or_false] at hu; rcases hu with rfl | rfl | rfl | rfl <;> rfl) (by unfold maxLen; omega) (by omega) hsz ?_; intro v6 w6 o6 t6 l6)
          go_roundw
          case rel =>
            have k6 : Kept wq w6 := Turn.keptOf (hk.trans kk) t6 (fun b hb => (Ownv.lt HO.out hb).2)
            refine ⟨k + 1, lvs ++ [.slice la' nl.length lc'], HLT.out, rfl, by rw [List.length_append, HLV.out]; rfl, ?_, fun j hj => ?_, fun j hj => ?_, k6⟩
            · rw [names_step HLT.out HDD.out HLV.out]
              have e : ndCells (tau z ⟨op, n, s, nl⟩) (.slice la' nl.length lc') = [.int .i64 op, .int .i64 n, .string S, .slice la' nl.length lc'] := by
                rw [← HS.out]
                rw [tau_fix z HNE.out]; rfl
              rw [e]
              exact o6
            · rw [getD_snoc_lv, HLV.out]
              by_cases cj : j < k
              · rw [if_pos cj]; exact HRS.out j cj
              · obtain rfl : j = k := by omega
                rw [if_neg cj, if_pos rfl, HDD.out]; exact HLR.out
            · by_cases cj : j < k
              · exact HAT.out j cj
              · obtain rfl : j = k := by omega
                rw [HDD.out]; exact fun e => absurd e HNE.out
          case measure => simp [intOf]; omega
      · obtain rfl : k = ls.length := by omega
        have ho := HO.out
        rw [List.take_length] at ho
        have hrn := nodes_of HLV.out ho (fun j hj => (HRS.out j hj).kept (HK4.out.trans hk))
        have h2 := two_any hrn (ok_tau zz1 zz2 HOK.out HAT.out) (HT.out.kept (HK4.out.trans hk)).tabs
        have HM := Shut.mk (mkAll_tau zz1 (atoms_of HAT.out))
        have hform := hrn.len
        rw [List.length_map] at hform
        obtain ⟨ta, tc, rfl, _, _, _⟩ := hform
        clear ho hrn hlt hk0
        go_wp2_with fail
        (with_reducible refine h2.mono ?_)
        clear h2
        rintro e w5 ⟨F5, G5, a5, q5, rfl, ha5, hb5, _, hF5, hG5, k5⟩
        rw [HM.out, HDS.out] at ha5
        have HK5 := Shut.mk ((HK4.out.trans hk).trans k5)
        have HA5 : Shut (Ar F w5 (.pointer (some aa)) ds) := ⟨ArG.kept HA4.out (hk.trans k5)⟩
        have HC5 := Shut.mk ha5
        have hlx := HL.out.kept HK5.out
        clear ha5 hb5 hF5 hG5 k5 hk
        by_cases hT : termsB ds l = true
        · have hsum : (looks ds l).flatten.length ≤ 1000000 := light_flat HGD.out (by omega) HSL.out _ (termsB_all hT) HC.out
          have hp1 := patternA (HT.out.kept HK5.out) HA5.out hlx hT (by omega) hsum
          have hT2 : termsB (ds.map (tau z)) l = true := by rw [termsB_tau]; exact hT
          have hp2 := fun W (kW : Kept w5 W) => patternA (HT.out.kept (HK5.out.trans kW)) (ArG.kept HC5.out kW) (hlx.kept kW) hT2 (by omega) (by rw [looks_tau]; exact hsum)
          rw [looks_tau] at hp2
          clear hT hT2 hsum
          generalize looks ds l = tt at hp1 hp2
          go_wp2_with fail
          (with_reducible refine hp1.mono ?_)
          rintro e w6 ⟨u6, rfl, o6, k6⟩
          have hp3 := hp2 w6 k6
          clear hp1 hp2
          go_wp2_with fail
          (with_reducible refine hp3.mono ?_)
          clear hp3
          rintro e w7 ⟨u7, rfl, o7, k7⟩
          have hs := sameTexts_any ((OwnT.rd o6).kept k7) (OwnT.rd o7)
          rw [decide_eq_true rfl] at hs
          go_wp2_with (go_at_call 21; (with_reducible refine hs.mono ?_); rintro e w8 ⟨rfl, k8⟩)
          go_ret
          exact ⟨rfl, HK5.out.trans ((k6.trans k7).trans k8)⟩
        · have hT1 : termsB ds l = false := by simpa using hT
          have hp1 := pattern_bad HA5.out hlx hT1
          have hT2 : termsB (ds.map (tau z)) l = false := by rw [termsB_tau]; exact hT1
          have hp2 := fun W (kW : Kept w5 W) => pattern_bad (ArG.kept HC5.out kW) (hlx.kept kW) hT2
          clear hT hT2 hT1
          go_wp2_with fail
          (with_reducible refine hp1.mono ?_)
          rintro e w6 ⟨rfl, k6⟩
          have hp3 := hp2 w6 k6
          clear hp1 hp2
          go_wp2_with fail
          (with_reducible refine hp3.mono ?_)
          clear hp3
          rintro e w7 ⟨rfl, k7⟩
          have hnil : RdT w7 (.slice none 0 0) [] := ⟨none, 0, rfl, rfl, Nat.le_refl _, Nat.zero_le _, fun _ => rfl, fun _ h => by cases h⟩
          have hs := sameTexts_any hnil hnil
          rw [decide_eq_true rfl] at hs
          go_wp2_with (go_at_call 21; (with_reducible refine hs.mono ?_); rintro e w8 ⟨rfl, k8⟩)
          go_ret
          exact ⟨rfl, HK5.out.trans ((k6.trans k7).trans k8)⟩
  · rw [decide_eq_false c] at hlg
    clear c
    go_wp2_with fail
    (with_reducible refine hlg.mono ?_)
    clear hlg
    rintro e w4 ⟨rfl, k4⟩
    go_wp2
    go_ret
    exact ⟨rfl, HK3.out.trans k4⟩
end Go.Proofs.YtangbnmgkcmhbaaDoor
end

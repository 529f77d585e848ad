/- Texts of one proof, put together: BiS, BiA, BiB, HhN, TermH, TermT, TermI, TermJ, OpenA. -/
import Derived.Test.YtdjfdobcjakmhaaDoorMg01
import Derived.Test.YtdjfdobcjakmhaaDoorMg04
import Derived.Test.YtdjfdobcjakmhaaDoorMg03
import Derived.StillTailTactics
import Derived.Test.YtdjfdobcjakmhaaDoorMg02
import Derived.Lib.Builder
import Derived.Lib.UnsafeStr
import Derived.Laws.Externs
import Derived.Lib.ConvBytes
import Derived.Laws.Pointers
import Derived.Laws.IdiomArrays
section
/- Plain facts of terms of two arenas; a map of pairs in memory. -/
set_option linter.unusedSimpArgs false
set_option linter.unusedVariables false
namespace Go.Proofs.YtdjfdobcjakmhaaDoor
open Go.RowKit Go.Maps

/-- Terms of two arenas that are the same tree are made of the same. -/
structure SameP (es ds : List Nd) (x y : Nat) : Prop where
  op : (es.getD x nd0).op = (ds.getD y nd0).op
  n : (es.getD x nd0).n = (ds.getD y nd0).n
  s : (es.getD x nd0).s = (ds.getD y nd0).s
  len : (es.getD x nd0).l.length = (ds.getD y nd0).l.length
  parts : ∀ i, i < (es.getD x nd0).l.length → ∃ a b : Nat, (es.getD x nd0).l.getD i 0 = (a : Int) ∧ (ds.getD y nd0).l.getD i 0 = (b : Int) ∧ a < x ∧ b < y ∧ den es a = den ds b
theorem same_p {es ds : List Nd} (hg : Good es) (hd : Good ds) {x y : Nat} (hx : x < es.length) (hy : y < ds.length) (h : den es x = den ds y) : SameP es ds x y := by
  rw [den_eq hg (by omega) (by omega), den_eq hd (by omega) (by omega)] at h
  simp only [Int.toNat_natCast] at h
  have m1 := hg.lesser hx
  have m2 := hd.lesser hy
  obtain ⟨d, hd1⟩ : ∃ d, es.getD x nd0 = d := ⟨_, rfl⟩
  obtain ⟨e, he1⟩ : ∃ e, ds.getD y nd0 = e := ⟨_, rfl⟩
  rw [hd1] at h m1
  rw [he1] at h m2
  unfold trN at h
  injection h with h1 h2 h3 h4
  have hl : d.l.length = e.l.length := by simpa using congrArg List.length h4
  refine ⟨by rw [hd1, he1]; exact h1, by rw [hd1, he1]; exact h2, by rw [hd1, he1]; exact h3, by rw [hd1, he1]; exact hl, fun i hi => ?_⟩
  rw [hd1] at hi ⊢
  rw [he1]
  have hi2 : i < e.l.length := by omega
  have h5 : den es d.l[i] = den ds e.l[i] := by
    have := congrArg (·[i]?) h4
    simp only [List.getElem?_map, List.getElem?_eq_getElem hi, List.getElem?_eq_getElem hi2, Option.map_some, Option.some.injEq] at this
    exact this
  obtain ⟨a0, a1⟩ := m1 d.l[i] (List.getElem_mem hi)
  obtain ⟨b0, b1⟩ := m2 e.l[i] (List.getElem_mem hi2)
  refine ⟨d.l[i].toNat, e.l[i].toNat, ?_, ?_, by omega, by omega, ?_⟩
  · rw [List.getD_eq_getElem?_getD, List.getElem?_eq_getElem hi, Option.getD_some]; omega
  · rw [List.getD_eq_getElem?_getD, List.getElem?_eq_getElem hi2, Option.getD_some]; omega
  · rw [Int.toNat_of_nonneg a0, Int.toNat_of_nonneg b0]; exact h5

/-- What was met: pairs, each once, that are the same. -/
structure Met (es ds : List Nd) (n : Nat) (D : DataW Unit) (ks : List (Nat × Nat)) : Prop where
  nd : ks.Nodup
  len : n = ks.length
  ok : ∀ p ∈ ks, p.1 < es.length ∧ p.2 < ds.length ∧ den es p.1 = den ds p.2
  no : ∀ a b : Nat, a < es.length → b < ds.length → (a, b) ∉ ks → D.atKey (.string (k2 a b)) (.lit (.bool false)) = .lit (.bool false)
  val : ∀ p ∈ ks, D.atKey (.string (k2 p.1 p.2)) (.lit (.bool false)) = .lit (.bool true)
/-- No more pairs are met than terms are there. -/
theorem Met.le {es ds : List Nd} (hd : Good ds) {n : Nat} {D : DataW Unit} {ks : List (Nat × Nat)} (h : Met es ds n D ks) : n ≤ es.length := by
  rw [h.len]
  have h1 : (ks.map (·.1)).Nodup := by
    refine List.pairwise_map.2 ((List.Pairwise.and_mem.1 h.nd).imp fun {a b} q => ?_)
    obtain ⟨ha, hb, hne⟩ := q
    intro he
    apply hne
    obtain ⟨a1, a2, a3⟩ := h.ok a ha
    obtain ⟨b1, b2, b3⟩ := h.ok b hb
    rw [he, b3] at a3
    have := den_inj hd (b.2 + 1) (b.2 : Int) (a.2 : Int) (by omega) ⟨by omega, by omega⟩ ⟨by omega, by omega⟩ a3
    exact Prod.ext he (by omega)
  have h2 : (ks.map (·.1)) ⊆ List.range es.length := fun x hx => by
    obtain ⟨p, hp, rfl⟩ := List.mem_map.1 hx
    exact List.mem_range.2 (h.ok p hp).1
  have := h1.length_le_of_subset h2
  simpa using this
theorem Met.nil (es ds : List Nd) : Met es ds 0 (.map []) [] := ⟨List.Pairwise.nil, rfl, fun _ h => absurd h List.not_mem_nil, fun _ _ _ _ _ => by rfl, fun _ h => absurd h List.not_mem_nil⟩
theorem Met.put {es ds : List Nd} (le : es.length ≤ 100000) (ld : ds.length ≤ 100000) {n : Nat} {D : DataW Unit} {ks : List (Nat × Nat)} (h : Met es ds n D ks) (hm : IsMap D) {x y : Nat} (hx : x < es.length) (hy : y < ds.length) (he : den es x = den ds y) (hnew : (x, y) ∉ ks) : Met es ds (n + 1) (D.put (.string (k2 x y)) (.lit (.bool true))) ((x, y) :: ks) := by
  refine ⟨List.nodup_cons.2 ⟨hnew, h.nd⟩, by rw [h.len]; rfl, fun p hp => ?_, fun a b ha hb hab => ?_, fun p hp => ?_⟩
  · rcases List.mem_cons.1 hp with rfl | hp
    · exact ⟨hx, hy, he⟩
    · exact h.ok p hp
  · have hne : (Lit.string (k2 a b)) ≠ .string (k2 x y) := fun e => by
      injection e with e
      obtain ⟨e1, e2⟩ := k2_inj (a := (a : Int)) (b := b) (c := x) (d := y) ⟨by omega, by omega⟩ ⟨by omega, by omega⟩ ⟨by omega, by omega⟩ ⟨by omega, by omega⟩ e
      exact hab (List.mem_cons.2 (.inl (Prod.ext (by omega) (by omega))))
    rw [atKey_put_other hne]
    exact h.no a b ha hb (fun q => hab (List.mem_cons_of_mem _ q))
  · rcases List.mem_cons.1 hp with rfl | hp
    · exact atKey_put_same hm (by first | trivial | exact (by decide) | simp [WideAt.IsKeyLit]) _ _
    · obtain ⟨a1, a2, _⟩ := h.ok p hp
      have hne : (Lit.string (k2 p.1 p.2)) ≠ .string (k2 x y) := fun e => by
        injection e with e
        obtain ⟨e1, e2⟩ := k2_inj (a := (p.1 : Int)) (b := p.2) (c := x) (d := y) ⟨by omega, by omega⟩ ⟨by omega, by omega⟩ ⟨by omega, by omega⟩ ⟨by omega, by omega⟩ e
        exact hnew (by rw [show (x, y) = p from Prod.ext (by omega) (by omega)]; exact hp)
      rw [atKey_put_other hne]
      exact h.val p hp
/-- The map of pairs, in block mb. -/
def MetM (w : World) (mb : Nat) (es ds : List Nd) (ks : List (Nat × Nat)) : Prop := ∃ (n : Nat) (D : DataW Unit), w.ownsMap Tryd.prog 101 (plainElem Tryd.prog 4) mb n D ∧ Met es ds n D ks
theorem MetM.turn {F : Nat → Prop} {w w' : World} {mb : Nat} {es ds : List Nd} {ks : List (Nat × Nat)} (h : MetM w mb es ds ks) (k : Turn F w w') (hn : ¬ F mb) : MetM w' mb es ds ks := by
  obtain ⟨n, D, h1, h2⟩ := h
  exact ⟨n, D, ownsMap_turn h1 k hn, h2⟩
theorem MetM.kept {w w' : World} {mb : Nat} {es ds : List Nd} {ks : List (Nat × Nat)} (h : MetM w mb es ds ks) (k : Kept w w') : MetM w' mb es ds ks := h.turn (k.turn (fun _ => False)) id
theorem MetM.lt {w : World} {mb : Nat} {es ds : List Nd} {ks : List (Nat × Nat)} (h : MetM w mb es ds ks) : mb < w.heap.size := by
  obtain ⟨n, D, ⟨es, clock, hb, _⟩, _⟩ := h
  exact (Array.getElem?_eq_some_iff.1 hb).1
/-- 'm[k]' of a map of bools. -/
theorem wpList_lookup_own_bool {H : Type} {P : Program} (w : World) {ops : Array Oper} {rest : List Oper} {o : Oper} {a : Act} {Q : Exit → Act → World → Prop}
    (hg : o.guard = none) (m x : Operand) (t : TypeId) (hop : o.op = Op.lookup t m x false)
    (k e : TypeId) (K : Keyed P k) (ht : P.underlying t = some (.map k e)) (he : P.underlying e = some .bool) (hz : (zeroValue e).run P w = .ok (.bool false) w) (b n : Nat) (D : DataW H)
    (hm : a.eval m = .map (some b)) (hown : w.ownsMap P k (plainElem P e) b n D) (key : Value) (kl : Lit) (hx : a.eval x = key) (hkey : keyOf P k key = some kl)
    (hK : ∀ c : Bool, D.atKey kl (.lit (.bool false)) = .lit (.bool c) → wpList P ops Q rest (a.put o.dst (.bool c)) w) :
    wpList P ops Q (o :: rest) a w := by
  refine wpList_plain hg fun K' hK' => ?_
  obtain ⟨v, ps, hrun, hv⟩ := hown.lookup K ht hz (plainElem_bool he false) hkey
  have hvb : ∃ c, v = .bool c ∧ D.atKey kl (.lit (.bool false)) = .lit (.bool c) := by
    unfold plainElem at hv
    rw [he] at hv
    cases v <;> simp at hv
    exact ⟨_, rfl, hv.1.symm⟩
  obtain ⟨c, rfl, hat⟩ := hvb
  unfold Oper.wp
  simp [execOp, hop, hm, hx, hrun, Result.andThen]
  exact hK' _ _ (hK c hat)
theorem zeroBool (w : World) : (zeroValue 4).run Tryd.prog w = .ok (.bool false) w := by kernel_rfl
end Go.Proofs.YtdjfdobcjakmhaaDoor
end

section
/- The document's Bisim: terms of two arenas that are the same. -/
set_option linter.unusedSimpArgs false
set_option linter.unusedVariables false
namespace Go.Proofs.YtdjfdobcjakmhaaDoor
open Go.RowKit Go.Maps

/-- v is a slice of nodes, and stays so where F turns. -/
def RdNsU (F : Nat → Prop) (w : World) (v : Value) (ds : List Nd) : Prop :=
  ∃ lvs : List Value, lvs.length = ds.length ∧ ∀ W, Turn F w W → Rdv 4 W v ds.length (flat ds lvs) ∧ ∀ i, i < ds.length → RdI W (lvs.getD i undef) (ds.getD i nd0).l
theorem RdNsU.rd {F : Nat → Prop} {w : World} {v : Value} {ds : List Nd} (h : RdNsU F w v ds) : RdNs w v ds := by
  obtain ⟨lvs, h1, h2⟩ := h
  obtain ⟨a, b⟩ := h2 w (Turn.refl _ _)
  exact ⟨lvs, h1, a, b⟩
theorem RdNsU.turn {F : Nat → Prop} {w w' : World} {v : Value} {ds : List Nd} (h : RdNsU F w v ds) (k : Turn F w w') : RdNsU F w' v ds := by
  obtain ⟨lvs, h1, h2⟩ := h
  exact ⟨lvs, h1, fun W t => h2 W (Turn.trans k t (fun x hx => .inl hx))⟩
theorem RdNsU.at {F : Nat → Prop} {w : World} {v : Value} {ds : List Nd} (h : RdNsU F w v ds) {k : Nat} (hk : k < ds.length) : ∃ nb noff ncap la lc, v = .slice (some ⟨nb, noff, none⟩) ds.length ncap ∧
    ∀ W, Turn F w W → (W.cell? ⟨nb, noff + k * 4, none⟩ = some (.int .i64 (ds.getD k nd0).op) ∧ W.cell? ⟨nb, noff + k * 4 + 1, none⟩ = some (.int .i64 (ds.getD k nd0).n) ∧ W.cell? ⟨nb, noff + k * 4 + 2, none⟩ = some (.string (strB (ds.getD k nd0).s)) ∧ W.cell? ⟨nb, noff + k * 4 + 3, none⟩ = some (.slice la (ds.getD k nd0).l.length lc)) ∧
    RdI W (.slice la (ds.getD k nd0).l.length lc) (ds.getD k nd0).l := by
  obtain ⟨lvs, h1, h2⟩ := h
  obtain ⟨⟨ao, cap, rfl, hl, hc, hm, hno, hcell⟩, hr⟩ := h2 w (Turn.refl _ _)
  obtain ⟨la, lc, hlv, _, _, _⟩ := (hr k hk).len
  cases ao with
  | none => have := hno rfl; omega
  | some ad =>
    obtain ⟨b, off, spot⟩ := ad
    have h0 := hcell _ rfl 0 (.int .i64 (ds.getD 0 nd0).op) (by have := flat_at ds lvs 0 0 (by omega) (by omega); simpa [ndCells] using this)
    obtain rfl : spot = none := by simpa [Addr.add] using World.cell?_spot h0
    refine ⟨b, off, cap, la, lc, rfl, fun W t => ?_⟩
    obtain ⟨⟨ao', cap', e, _, _, _, _, hcell'⟩, hr'⟩ := h2 W t
    simp only [Value.slice.injEq] at e
    obtain ⟨rfl, _, rfl⟩ := e
    have hg : ∀ j u, j < 4 → (ndCells (ds.getD k nd0) (lvs.getD k undef))[j]? = some u → W.cell? ⟨b, off + k * 4 + j, none⟩ = some u := by
      intro j u hj hu
      have := hcell' _ rfl (k * 4 + j) u ((flat_at ds lvs k j hk hj).trans hu)
      rw [Addr.add_lit] at this
      rwa [Nat.add_assoc]
    have h3 := hr' k hk
    rw [hlv] at h3
    exact ⟨⟨hg 0 _ (by omega) rfl, hg 1 _ (by omega) rfl, hg 2 _ (by omega) rfl, by rw [← hlv]; exact hg 3 _ (by omega) rfl⟩, h3⟩
/-- An arena's nodes stay where F turns, if its memory is apart. -/
theorem ArG.nodesU {T : TypeId} {key : Nd → List UInt8} {F G : Nat → Prop} {w : World} {p : Value} {ds : List Nd} (h : ArG T key G w p ds) (hd : ∀ b, G b → ¬ F b) :
    ∃ (pb mb : Nat) (nv : Value), p = .pointer (some ⟨pb, 0, none⟩) ∧ (∀ W, Turn F w W → W.cell? ⟨pb, 0, none⟩ = some nv) ∧ RdNsU F w nv ds := by
  obtain ⟨pb, mb, n, nv, lvs, D, h1, h2, h3, h4, h5, h6, h7, h8, h9, h10, h11, h12⟩ := h.rep
  exact ⟨pb, mb, nv, h1, fun W t => (h2.turn t (hd _ h9)).cell 0, lvs, h4, fun W t => ⟨(Ownv.turn h3 t fun b hb => hd b (h11 b hb)).rdv, fun i hi => (Ownv.turn (h5 i hi) t fun b hb => hd b (h12 i hi b hb)).rdv⟩⟩
/-- What Bisim is handed. -/
structure BiIn (G : Nat → Prop) (w : World) (p lv : Value) (mb : Nat) (es ds : List Nd) : Prop where
  ar : ArR G w p es
  apart : ¬ G mb
  l : RdNsU (fun b => b = mb) w lv ds
theorem BiIn.turn {G : Nat → Prop} {w w' : World} {p lv : Value} {mb : Nat} {es ds : List Nd} (h : BiIn G w p lv mb es ds) (k : Turn (fun b => b = mb) w w') : BiIn G w' p lv mb es ds :=
  ⟨ArG.turn h.ar k (fun b hb e => h.apart (e ▸ hb)), h.apart, h.l.turn k⟩
def BiPost (w : World) (mb : Nat) (es ds : List Nd) (ks : List (Nat × Nat)) (x : Nat) (e : Ending) (w' : World) : Prop :=
  e = .returned (.bool true) ∧ Turn (fun b => b = mb) w w' ∧ ∃ ks', MetM w' mb es ds ks' ∧ ∀ q ∈ ks', q ∈ ks ∨ q.1 ≤ x

set_option maxHeartbeats 8000000 in
set_option maxRecDepth 100000 in
theorem bisim_any {G : Nat → Prop} {p lv : Value} {mb : Nat} {es ds : List Nd} (hg : Good es) (hd : Good ds) (le : es.length ≤ 100000) (ld : ds.length ≤ 100000) : ∀ (k x y : Nat), x < k → x < es.length → y < ds.length → den es x = den ds y →
    ∀ (w : World) (ks : List (Nat × Nat)), BiIn G w p lv mb es ds → MetM w mb es ds ks →
    Calls Tryd.prog 40 #[p, lv, .int .i64 (x : Int), .int .i64 (y : Int), .map (some mb)] w (BiPost w mb es ds ks x) := by
  intro k
  induction k with
  | zero => intro x y h; omega
  | succ k ih =>
    intro x y hxk hx hy he w ks hin hm
    have sp := same_p hg hd hx hy he
    have IH := Lib.hid (fun (a b : Nat) (h1 : a < x) (h2 : b < y) (h3 : den es a = den ds b) => ih a b (by omega) (by omega) (by omega) h3)
    have hmlt := hm.lt
    obtain ⟨nq, D, own, met⟩ := hm
    have hml := met.le hd
    have HKEY := Shut.mk (keyPair (a := (x : Int)) (b := (y : Int)) ⟨by omega, by omega⟩ ⟨by omega, by omega⟩)
    have HLen := Lib.hid (lenR hin.ar)
    have HIN := Lib.hid hin
    obtain ⟨pb, mb', nv, rfl, hc0, hn⟩ := hin.ar.nodesU (F := fun b => b = mb) (fun b hb e => hin.apart (e ▸ hb))
    obtain ⟨nb, noff, ncap, la, lc, rfl, hcl⟩ := hn.at hx
    obtain ⟨mb2, moff, mcap, la2, lc2, rfl, hcl2⟩ := hin.l.at hy
    have q0 := hc0 w (Turn.refl _ _)
    obtain ⟨⟨a0, a1, a2, a3⟩, hr1⟩ := hcl w (Turn.refl _ _)
    obtain ⟨⟨b0, b1, b2, b3⟩, hr2⟩ := hcl2 w (Turn.refl _ _)
    have HC1 := Shut.mk (fun W (t : Turn (fun b => b = mb) w W) => (hcl W t).2)
    have HC2 := Shut.mk (fun W (t : Turn (fun b => b = mb) w W) => (hcl2 W t).2)
    have l64 : (es.getD x nd0).l.length ≤ 64 := (hg.may' hx).len64
    obtain ⟨sop, sn, ss, sl, spt⟩ := sp
    have HP := Shut.mk spt
    have x0 : (0 : Int) ≤ (x : Int) := by omega
    have x1 : (x : Int) < (es.length : Int) := by omega
    have y0 : (0 : Int) ≤ (y : Int) := by omega
    have y1 : (y : Int) < (ds.length : Int) := by omega
    clear hcl hcl2 hc0 hn hin ih spt hr1 hr2
    rw [← sop] at b0
    rw [← sn] at b1
    rw [← ss] at b2
    rw [← sl] at b3 HC2
    have HDE := Shut.mk he
    have HX := Shut.mk (And.intro hx hy)
    have HSL := Shut.mk sl
    clear he hx hy sop sn ss sl
    generalize (es.getD x nd0) = dx at *
    generalize (ds.getD y nd0) = dy at *
    obtain ⟨op, n, s, l⟩ := dx
    simp only at a0 a1 a2 a3 b0 b1 b2 b3 HC1 HC2 HP l64
    generalize strB s = X at *
    by_cases hmem : (x, y) ∈ ks
    · have hv := met.val _ hmem
      go_enter Tryd.func40, Tryd.ntmps40
      go_wp2_with (at_lookup; refine wpList_lookup_own_bool _ rfl _ _ 72 rfl 101 4 pair_keyed Tryd.underlying72 Tryd.underlying4 (zeroBool _) mb nq D rfl own _ _ rfl HKEY.out ?_; intro c hat; rw [hv] at hat; obtain rfl : c = true := by (injection hat with hat; injection hat with hat; exact hat.symm))
      go_ret
      exact ⟨rfl, Turn.refl _ _, ks, ⟨nq, D, own, met⟩, fun q hq => .inl hq⟩
    · have hv := met.no x y HX.out.1 HX.out.2 hmem
      have HNEW := Shut.mk hmem
      clear hmem
      have k1 : Kept w (w.alloc (.cells #[.int .i64 op, .int .i64 n, .string X, .slice la l.length lc] 65)) := (Kept.refl w).alloc _
      have d0 := (k1.cell (p := ⟨mb2, moff + y * 4, none⟩) (World.block_lt_of_cell? _ _ b0)).trans b0
      have d1 := (k1.cell (p := ⟨mb2, moff + y * 4 + 1, none⟩) (World.block_lt_of_cell? _ _ b1)).trans b1
      have d2 := (k1.cell (p := ⟨mb2, moff + y * 4 + 2, none⟩) (World.block_lt_of_cell? _ _ b2)).trans b2
      have d3 := (k1.cell (p := ⟨mb2, moff + y * 4 + 3, none⟩) (World.block_lt_of_cell? _ _ b3)).trans b3
      clear b0 b1 b2 b3
      go_enter Tryd.func40, Tryd.ntmps40
      go_wp2_with (at_lookup; refine wpList_lookup_own_bool _ rfl _ _ 72 rfl 101 4 pair_keyed Tryd.underlying72 Tryd.underlying4 (zeroBool _) mb nq D rfl own _ _ rfl HKEY.out ?_; intro c hat; rw [hv] at hat; obtain rfl : c = false := by (injection hat with hat; injection hat with hat; exact hat.symm))
      (with_reducible refine HLen.out.mono ?_); rintro e w1 ⟨rfl, rfl⟩
      go_wp2
      rename_i u3 u2 u1 uK uA
      clear u1 u2 u3 x0 x1 y0 y1
      have bA : Blk ((w.alloc (.cells #[.int .i64 op, .int .i64 n, .string X, .slice la l.length lc] 65)).alloc (.cells #[.int .i64 op, .int .i64 n, .string X, .slice la2 l.length lc2] 65)) w.heap.size 65 [.int .i64 op, .int .i64 n, .string X, .slice la l.length lc] := (Blk.new w _ _).kept ((Kept.refl _).alloc _)
      have bB := Blk.new (w.alloc (.cells #[.int .i64 op, .int .i64 n, .string X, .slice la l.length lc] 65)) [.int .i64 op, .int .i64 n, .string X, .slice la2 l.length lc2] 65
      rw [World.size_alloc] at bB
      have kw2 : Kept w ((w.alloc (.cells #[.int .i64 op, .int .i64 n, .string X, .slice la l.length lc] 65)).alloc (.cells #[.int .i64 op, .int .i64 n, .string X, .slice la2 l.length lc2] 65)) := k1.alloc _
      have m2 : MetM ((w.alloc (.cells #[.int .i64 op, .int .i64 n, .string X, .slice la l.length lc] 65)).alloc (.cells #[.int .i64 op, .int .i64 n, .string X, .slice la2 l.length lc2] 65)) mb es ds ks := MetM.kept ⟨nq, D, own, met⟩ kw2
      clear own met d0 d1 d2 d3 a0 a1 a2 a3 k1 HLen q0
      have HA := Lib.hid bA
      have HB := Lib.hid bB
      clear bA bB
      generalize ((w.alloc (.cells #[.int .i64 op, .int .i64 n, .string X, .slice la l.length lc] 65)).alloc (.cells #[.int .i64 op, .int .i64 n, .string X, .slice la2 l.length lc2] 65)) = w2 at *
      have l63 : ((l.length : Nat) : Int) ≤ 9223372036854775807 := by omega
      go_loopw [79] (fun i wr => ∃ (j : Nat) (ks' : List (Nat × Nat)), j ≤ l.length ∧ i = .int .i64 j ∧ MetM wr mb es ds ks' ∧ (∀ q ∈ ks', q ∈ ks ∨ q.1 < x) ∧ Turn (fun b => b = mb) w2 wr) (fun i _ => l.length - (intOf i).toNat)
      case atStart => exact ⟨0, ks, Nat.zero_le _, rfl, m2, fun q hq => .inl hq, Turn.refl _ _⟩
      case round =>
        obtain ⟨j, ks', hj0, rfl, hmr, hks, htr⟩ := hrel
        have HKS := Shut.mk hks
        clear hks
        have c3 := (HA.out.turn htr (fun e => Nat.ne_of_gt hmlt e)).cell 3
        have e3 := (HB.out.turn htr (fun e => absurd hmlt (by omega))).cell 3
        simp only [List.getElem?_cons_succ, List.getElem?_cons_zero] at c3 e3
        have tw : Turn (fun b => b = mb) w wr := Turn.trans (kw2.turn _) htr (fun x hx => .inl hx)
        by_cases hlt : j < l.length
        · obtain ⟨a, b, ha, hb, hax, hby, hab⟩ := HP.out j hlt
          obtain ⟨rb, ro, rc, hrv, _, _, hrb, hcl⟩ := (HC1.out wr tw).addr (by omega)
          simp only [Value.slice.injEq] at hrv
          obtain ⟨rfl, hdrop, rfl⟩ := hrv
          clear hdrop
          have f1 := hcl j hlt
          rw [ha] at f1
          clear hcl
          have hsl := HSL.out
          obtain ⟨sb, so, sc, hsv, _, _, hsb, hcl⟩ := (HC2.out wr tw).addr (by omega)
          simp only [Value.slice.injEq] at hsv
          obtain ⟨rfl, hdrop, rfl⟩ := hsv
          clear hdrop
          have g1 := hcl j (by omega)
          rw [hb] at g1
          clear hcl hsl
          have HCall := Lib.hid (fun W (kd : Kept wr W) => IH.out a b hax hby hab W ks' (HIN.out.turn (Turn.trans tw (kd.turn (fun b => b = mb)) (fun x hx => .inl hx))) (hmr.kept kd))
          have HQ := Shut.mk (And.intro hax hlt)
          clear ha hb hax hby hab hmr
          go_wp2
          go_still_tail 13, (by kernel_rfl)
          change wpList _ _ _ _ _ wr.drew
          have kd : Kept wr wr.drew := (Kept.refl wr).drew
          generalize wr.drew = w3 at kd ⊢
          go_wp2_with fail
          (with_reducible refine (HCall.out _ kd).mono ?_); rintro e w4 ⟨rfl, t4, ks4, m4, hs4⟩
          go_wp2
          go_roundw
          case rel =>
            refine ⟨j + 1, ks4, hlt, rfl, m4, fun q hq => ?_, Turn.trans htr (Turn.trans (kd.turn _) t4 (fun x hx => .inl hx)) (fun x hx => .inl hx)⟩
            rcases hs4 q hq with c | c
            · exact HKS.out q c
            · have := HQ.out.1
              exact .inr (by omega)
          case measure => simp [intOf]; omega
        · obtain rfl : j = l.length := by omega
          obtain ⟨n3, D3, own3, met3⟩ := hmr
          have h3l := met3.le hd
          have hnew : (x, y) ∉ ks' := fun h => by
            rcases HKS.out _ h with c | c
            · exact HNEW.out c
            · simp only at c; omega
          have hput := met3.put le ld own3.isMap HX.out.1 HX.out.2 HDE.out hnew
          clear hnew met3
          go_wp2_with (at_mapUpdate; (refine wpList_mapUpdate_own _ rfl _ _ _ 72 rfl 101 4 pair_keyed Tryd.underlying72 (plainElem Tryd.prog 4) mb n3 D3 rfl own3 (by unfold maxLen; omega) _ _ (.string (k2 x y)) rfl rfl HKEY.out (.lit (.bool true)) [] (plainElem_bool Tryd.underlying4 true) ?_); intro w8 own8 hg8)
          go_ret
          refine ⟨rfl, Turn.trans tw ((Grown.turn hg8).mono fun b hb => by simpa using hb) (fun x hx => .inl hx), (x, y) :: ks', ⟨_, _, own8, hput⟩, fun q hq => ?_⟩
          rcases List.mem_cons.1 hq with rfl | hq
          · exact .inr (Nat.le_refl _)
          · rcases HKS.out q hq with c | c
            · exact .inl c
            · exact .inr (by omega)
end Go.Proofs.YtdjfdobcjakmhaaDoor
end

section
/- A list of nodes of the call's own; the law's dump. -/
set_option linter.unusedSimpArgs false
set_option linter.unusedVariables false
namespace Go.Proofs.YtdjfdobcjakmhaaDoor
open Go.RowKit Go.Maps

/-- v is a slice of nodes of the call's own (blocks from B on). -/
def OwnNs (B : Nat) (w : World) (v : Value) (ds : List Nd) : Prop :=
  ∃ lvs : List Value, lvs.length = ds.length ∧ Ownv B 65 4 w v ds.length (flat ds lvs) ∧ ∀ i, i < ds.length → OwnI B w (lvs.getD i undef) (ds.getD i nd0).l ∧ ∀ b, Blks (lvs.getD i undef) b → ¬ Blks v b
theorem OwnNs.nil (B : Nat) (w : World) : OwnNs B w (.slice none 0 0) [] := ⟨[], rfl, World.ownsRow_nil w B _ 4, fun i h => absurd h (Nat.not_lt_zero _)⟩
theorem OwnNs.turn {B : Nat} {w w' : World} {v : Value} {ds : List Nd} {F : Nat → Prop} (h : OwnNs B w v ds) (k : Turn F w w') (hn : ∀ b, B ≤ b → b < w.heap.size → ¬ F b) : OwnNs B w' v ds := by
  obtain ⟨lvs, h1, h2, h3⟩ := h
  exact ⟨lvs, h1, Ownv.turn h2 k (fun b hb => hn b (Ownv.lt h2 hb).2 (Ownv.lt h2 hb).1), fun i hi => ⟨Ownv.turn (h3 i hi).1 k (fun b hb => hn b (Ownv.lt (h3 i hi).1 hb).2 (Ownv.lt (h3 i hi).1 hb).1), (h3 i hi).2⟩⟩
theorem OwnNs.kept {B : Nat} {w w' : World} {v : Value} {ds : List Nd} (h : OwnNs B w v ds) (k : Kept w w') : OwnNs B w' v ds := h.turn (k.turn (fun _ => False)) (fun _ _ _ q => q)
theorem OwnNs.rdU {B : Nat} {w : World} {v : Value} {ds : List Nd} {F : Nat → Prop} (h : OwnNs B w v ds) (hF : ∀ b, F b → b < B) : RdNsU F w v ds := by
  obtain ⟨lvs, h1, h2, h3⟩ := h
  exact ⟨lvs, h1, fun W t => ⟨(Ownv.turn h2 t fun b hb hf => by have := (Ownv.lt h2 hb).2; have := hF b hf; omega).rdv, fun i hi => (Ownv.turn (h3 i hi).1 t fun b hb hf => by have := (Ownv.lt (h3 i hi).1 hb).2; have := hF b hf; omega).rdv⟩⟩
/-- append of one node to nodes of the call's own. -/
theorem go_app_node {w : World} {ops : Array Oper} {rest : List Oper} {a : Act} {Q : Exit → Act → World → Prop} {d : Option Tmp} {ty : TypeId} {ps : String} {af : Array Edge} {s x : Operand}
    (B : Nat) (v : Value) (ds : List Nd) (hs : a.eval s = v) (ho : OwnNs B w v ds) (g : Nat) (dd : Nd) (lv : Value) (hx : a.eval x = .slice (some ⟨g, 0, none⟩) 1 1) (hb : Blk w g 65 (ndCells dd lv)) (hl : OwnI B w lv dd.l)
    (h63 : ds.length ≤ 200000) (hB : B ≤ w.heap.size)
    (hK : ∀ v' w', OwnNs B w' v' (ds ++ [dd]) → Turn (Blks v) w w' → (∀ b, Blks v' b → Blks v b ∨ w.heap.size ≤ b) → wpList Tryd.prog ops Q rest (a.put d v') w') :
    wpList Tryd.prog ops Q (⟨d, .call { callee := .builtin .append, args := #[s, x], argTypes := #[70, 70] }, ty, ps, af, none⟩ :: rest) a w := by
  obtain ⟨i0, hi, hz0, hz1, hz2⟩ := info_parts Tryd.infoNode
  obtain ⟨lvs, h1, h2, h3⟩ := ho
  have hap : ∀ b, Blks lv b → ¬ Blks v b := fun b hb => Ownv.apart hl h2 (by decide) hb
  obtain ⟨la, lc, rfl, _, _, _⟩ := (OwnI.rd hl).len
  refine go_app_at B 65 4 56 i0 _ Tryd.underlying70 hi hz0 hz1 hz2 rfl (by decide) v ds.length (flat ds lvs) hs h2 _ 1 (ndCells dd (.slice la dd.l.length lc)) hx (RdvBlk hb rfl (by unfold maxLen; decide)) (by simp [ndCells, Value.oneCell']) (by unfold maxLen; omega) (by omega) hB ?_
  intro v' w' ho' ht hloc
  refine hK v' w' ⟨lvs ++ [.slice la dd.l.length lc], by simp [h1], by rw [flat_snoc ds lvs h1, List.length_append, List.length_singleton]; exact ho', fun i hi => ?_⟩ ht hloc
  rw [List.length_append, List.length_singleton] at hi
  by_cases c : i < ds.length
  · rw [List.getD_eq_getElem?_getD, List.getElem?_append_left (by omega), ← List.getD_eq_getElem?_getD, List.getD_eq_getElem?_getD (l := ds ++ [dd]), List.getElem?_append_left c, ← List.getD_eq_getElem?_getD]
    refine ⟨Ownv.turn (h3 i c).1 ht fun b hb => (h3 i c).2 b hb, fun b hb hv => ?_⟩
    rcases hloc b hv with q | q
    · exact (h3 i c).2 b hb q
    · have := (Ownv.lt (h3 i c).1 hb).1; omega
  · obtain rfl : i = ds.length := by omega
    have e1 : (lvs ++ [Value.slice la dd.l.length lc]).getD ds.length undef = .slice la dd.l.length lc := by
      rw [List.getD_eq_getElem?_getD, List.getElem?_append_right (by omega), h1]; simp
    have e2 : (ds ++ [dd]).getD ds.length nd0 = dd := by
      rw [List.getD_eq_getElem?_getD, List.getElem?_append_right (by omega)]; simp
    rw [e1, e2]
    refine ⟨Ownv.turn hl ht hap, fun b hb hv => ?_⟩
    rcases hloc b hv with q | q
    · exact hap b hb q
    · have := (Ownv.lt hl hb).1; omega

def DumpPost (w : World) (ds : List Nd) (e : Ending) (w' : World) : Prop := ∃ v, e = .returned v ∧ OwnNs w.heap.size w' v ds ∧ Kept w w'
end Go.Proofs.YtdjfdobcjakmhaaDoor
end

section
/- The statements' helpers of layer 9: two. -/
set_option linter.unusedSimpArgs false
set_option linter.unusedVariables false
namespace Go.Proofs.YtdjfdobcjakmhaaDoor
open Go.RowKit Go.Maps

/-- The Atoms below k. -/
def atomsL (k : Nat) : List Nd := (List.range k).map fun n : Nat => ⟨1, (n : Int), [], []⟩
theorem atomsL_len (k : Nat) : (atomsL k).length = k := by simp [atomsL]
theorem atomsL_succ (k : Nat) : atomsL (k + 1) = atomsL k ++ [⟨1, (k : Int), [], []⟩] := by simp [atomsL, List.range_succ]
theorem mk_atoms {k : Nat} (h : k < 100000) : mk (atomsL k) ⟨1, (k : Int), [], []⟩ = (atomsL (k + 1), (k : Int), 0) := by
  have hf : find (atomsL k) ⟨1, (k : Int), [], []⟩ = none := by
    unfold find
    rw [List.findIdx?_eq_none_iff]
    intro e he
    obtain ⟨n, hn, rfl⟩ := List.mem_map.1 he
    have := List.mem_range.1 hn
    rw [decide_eq_false]
    intro c
    injection c with _ c _ _
    omega
  rw [mk_new (may_atom _ (by omega)) hf (by rw [atomsL_len]; omega), atomsL_succ, atomsL_len]
theorem atoms_is {k n : Nat} (h : n < k) : Is (atomsL k) (n : Int) ⟨1, (n : Int), [], []⟩ :=
  ⟨by omega, by rw [atomsL_len]; omega, by
    rw [Int.toNat_natCast, List.getD_eq_getElem?_getD]
    simp [atomsL, h]⟩
theorem nd_atom_ok {n : Int} (h : I64 n) : NdOk ⟨1, n, [], []⟩ := ⟨i64_lit (by simp), h, by simp, fun x hx => by cases hx⟩

set_option maxHeartbeats 4000000 in
theorem atomR_any {F : Nat → Prop} {w : World} {p : Value} {ds : List Nd} (h : ArR F w p ds) {n : Int} (hn : I64 n) :
    Calls Tryd.prog 37 #[p, .int .i64 n] w fun e w' => ∃ F' : Nat → Prop, e = .returned (.tuple #[.int .i64 (mk ds ⟨1, n, [], []⟩).2.1, .int .i64 (mk ds ⟨1, n, [], []⟩).2.2]) ∧ ArR F' w' p (mk ds ⟨1, n, [], []⟩).1 ∧ Turn F w w' ∧ ∀ b, F' b → F b ∨ w.heap.size ≤ b := by
  have hm := makeR_any h (v := .agg #[.int .i64 1, .int .i64 n, .string ⟨#[]⟩, .slice none 0 0]) (d := ⟨1, n, [], []⟩) ⟨_, rfl, RdI.nil _⟩ (nd_atom_ok hn)
  obtain ⟨pb, mb, nv, rfl, _, _, _⟩ := ArG.nodes h
  generalize mk ds ⟨1, n, [], []⟩ = m at hm ⊢
  have HM := Lib.hid hm
  clear hm h
  go_enter Tryd.func37, Tryd.ntmps37
  go_wp2_with fail
  (with_reducible refine HM.out.mono ?_); rintro e w1 ⟨F', rfl, h1, h2, h3⟩
  go_wp2
  go_ret2
  exact ⟨F', rfl, h1, h2, h3⟩

/-- Both arenas, apart from one another, in memory of their own. -/
def TwoS (w : World) (p q : Value) (k : Nat) (wr : World) : Prop := ∃ F G : Nat → Prop, Ar F wr p (atomsL k) ∧ ArR G wr q (atomsL k) ∧ (∀ b, F b → ¬ G b) ∧ (∀ b, F b → w.heap.size ≤ b) ∧ (∀ b, G b → w.heap.size ≤ b) ∧ Kept w wr
def TwoPost9 (w : World) (e : Ending) (w' : World) : Prop := ∃ p q a, e = .returned (.tuple #[p, q]) ∧ p = .pointer (some a) ∧ TwoS w p q 10 w'
end Go.Proofs.YtdjfdobcjakmhaaDoor
end

section
/- A strings.Builder that is the first field of term's writer: its methods. -/
set_option linter.unusedSimpArgs false
set_option linter.unusedVariables false
namespace Go.Proofs.YtdjfdobcjakmhaaDoor
open Go.RowKit Go.Maps

theorem Tryd.sizeBuilder : (Tryd.prog.info? 93).map (·.size) = some 2 := by kernel_rfl
theorem Tryd.liesBuilder : liesAt Tryd.prog Tryd.prog.depth 95 (3 / Tryd.prog.cellsOf 95) 0 93 1 = true := by kernel_rfl
theorem Tryd.cellsByte : Tryd.prog.cellsOf 5 = 1 := by kernel_rfl

/-- b is a writer of the call's own (blocks from B on, none of N), with the bytes bs, over the nodes nv. -/
def BldN (N : Nat → Prop) (B b : Nat) (nv : Value) (bs : List UInt8) (w : World) : Prop :=
  B ≤ b ∧ ∃ av bv, Blk w b 95 [av, bv, nv] ∧ (av = .pointer none ∨ av = .pointer (some ⟨b, 0, none⟩)) ∧ OwnU B w bv bs ∧ ¬ N b ∧ ∀ x, Blks bv x → ¬ N x
def No : Nat → Prop := fun _ => False
/-- The same, where nothing is to be kept. -/
def Bld (B b : Nat) (nv : Value) (bs : List UInt8) (w : World) : Prop := BldN No B b nv bs w
theorem BldN.no {N : Nat → Prop} {B b : Nat} {nv : Value} {bs : List UInt8} {w : World} (h : BldN N B b nv bs w) : Bld B b nv bs w := by
  obtain ⟨h1, av, bv, h2, h3, h4, _, _⟩ := h
  exact ⟨h1, av, bv, h2, h3, h4, fun x => x, fun _ _ x => x⟩
theorem Bld.new {B b : Nat} {nv : Value} {bs : List UInt8} {w : World} (h : Bld B b nv bs w) : BldN (fun x => w.heap.size ≤ x) B b nv bs w := by
  obtain ⟨h1, av, bv, h2, h3, h4, _, _⟩ := h
  refine ⟨h1, av, bv, h2, h3, h4, fun x => ?_, fun x hx c => ?_⟩
  · have := h2.lt; omega
  · have := (Ownv.lt h4 hx).1; omega
theorem BldN.mono {N M : Nat → Prop} {B b : Nat} {nv : Value} {bs : List UInt8} {w : World} (h : BldN N B b nv bs w) (hs : ∀ x, M x → N x) : BldN M B b nv bs w := by
  obtain ⟨h1, av, bv, h2, h3, h4, h5, h6⟩ := h
  exact ⟨h1, av, bv, h2, h3, h4, fun x => h5 (hs _ x), fun x hx c => h6 x hx (hs x c)⟩
theorem BldN.kept {N : Nat → Prop} {B b : Nat} {nv : Value} {bs : List UInt8} {w w' : World} (h : BldN N B b nv bs w) (k : Kept w w') : BldN N B b nv bs w' := by
  obtain ⟨h1, av, bv, h2, h3, h4, h5, h6⟩ := h
  exact ⟨h1, av, bv, h2.kept k, h3, Own.kept h4 k, h5, h6⟩

theorem Blk.shape {w : World} {g : Nat} {e : TypeId} {xs : List Value} (h : Blk w g e xs) : w.shape? g = some (e, xs.length) := by
  unfold Blk at h
  simp [World.shape?, h]

theorem Bld.kept {B b : Nat} {nv : Value} {bs : List UInt8} {w w' : World} (h : Bld B b nv bs w) (k : Kept w w') : Bld B b nv bs w' := BldN.kept h k
theorem Bld.lt {B b : Nat} {nv : Value} {bs : List UInt8} {w : World} (h : Bld B b nv bs w) : b < w.heap.size := by
  obtain ⟨h1, av, bv, h2, h3, h4, _, _⟩ := h
  exact h2.lt
theorem Bld.cell2 {B b : Nat} {nv : Value} {bs : List UInt8} {w : World} (h : Bld B b nv bs w) : w.cell? ⟨b, 2, none⟩ = some nv := by
  obtain ⟨h1, av, bv, h2, h3, h4, _, _⟩ := h
  exact h2.cell 2

set_option maxHeartbeats 1000000 in
set_option maxRecDepth 100000 in
theorem copyCheck_used (b : Nat) (w : World) (h0 : w.cell? ⟨b, 0, none⟩ = some (.pointer (some ⟨b, 0, none⟩))) :
    Calls Tryd.prog 78 #[.pointer (some ⟨b, 0, none⟩)] w fun e w' => e = .returned (.tuple #[]) ∧ w' = w := by
  obtain ⟨j, hj, _⟩ := Option.map_eq_some_iff.1 Tryd.sizeBuilder
  go_enter Tryd.func78, Tryd.ntmps78
  go_wp2
  rw [Lib.run_neq_ptr_same w _ Tryd.underlying90 hj]
  go_wp2
  go_end0
  exact ⟨rfl, rfl⟩

set_option maxHeartbeats 1000000 in
set_option maxRecDepth 100000 in
theorem copyCheck_fresh (b : Nat) (w : World) (h0 : w.cell? ⟨b, 0, none⟩ = some (.pointer none)) (hsh : w.shape? b = some (95, 3)) (hfz : w.frozen? ⟨b, 0, none⟩ = false) :
    Calls Tryd.prog 78 #[.pointer (some ⟨b, 0, none⟩)] w fun e w' => e = .returned (.tuple #[]) ∧ w' = w.setCell ⟨b, 0, none⟩ (.pointer (some ⟨b, 0, none⟩)) := by
  obtain ⟨j, hj, hjs⟩ := Option.map_eq_some_iff.1 Tryd.sizeBuilder
  go_enter Tryd.func78, Tryd.ntmps78
  go_wp2
  rw [Lib.run_to_unsafe w ⟨b, 0, none⟩ Tryd.underlying90 Tryd.underlying133 hj (by rw [hjs]; decide) hsh (by show 0 < 3; decide)]
  simp only [Result.andThen]
  rw [Oper.upon_value]
  go_wp2
  rw [run_callFunc_extern Tryd.func90 (by kernel_rfl) (by kernel_rfl) (by kernel_rfl) (e := Extern.AbiNoEscape.same) (by kernel_rfl)]
  rw [Lib.run_noEscape]
  simp only [Result.andThen]
  rw [Oper.upon_value]
  go_wp2
  rw [Lib.run_from_unsafe w ⟨b, 0, none⟩ Tryd.underlying133 Tryd.underlying90 hj hsh Tryd.liesBuilder]
  simp only [Result.andThen]
  rw [Oper.upon_value]
  go_wp2
  go_end0
  exact ⟨rfl, rfl⟩

theorem copyCheck_any {N : Nat → Prop} {B b : Nat} {nv : Value} {bs : List UInt8} {w : World} (h : BldN N B b nv bs w) :
    Calls Tryd.prog 78 #[.pointer (some ⟨b, 0, none⟩)] w fun e w' => e = .returned (.tuple #[]) ∧ (∃ bv, Blk w' b 95 [.pointer (some ⟨b, 0, none⟩), bv, nv] ∧ OwnU B w' bv bs ∧ ∀ x, Blks bv x → ¬ N x) ∧ Turn (fun x => B ≤ x ∧ ¬ N x) w w' := by
  obtain ⟨h1, av, bv, h2, h3, h4, h5, h6⟩ := h
  rcases h3 with rfl | rfl
  · refine (copyCheck_fresh b w (h2.cell 0) h2.shape (h2.frozen 0)).mono ?_
    rintro e w' ⟨rfl, rfl⟩
    exact ⟨rfl, ⟨bv, h2.set 0 _, Ownv.setCell h4 (Ownv.notBlk h4 h2 (by decide)) _, h6⟩, (turn_setCell w _ _).mono fun x hx => by
      subst hx
      exact ⟨h1, h5⟩⟩
  · refine (copyCheck_used b w (h2.cell 0)).mono ?_
    rintro e w' ⟨rfl, rfl⟩
    exact ⟨rfl, ⟨bv, h2, h4, h6⟩, Turn.refl _ _⟩

theorem blen_any {B b : Nat} {nv : Value} {bs : List UInt8} {w : World} (h : Bld B b nv bs w) :
    Calls Tryd.prog 57 #[.pointer (some ⟨b, 0, none⟩)] w fun e w' => e = .returned (.int .i64 bs.length) ∧ w = w' := by
  obtain ⟨h1, av, bv, h2, h3, h4, _, _⟩ := h
  obtain ⟨ao, cap, rfl, _, _, _⟩ := (Own.rd h4).len
  have c1 := h2.cell 1
  rw [toI_length] at c1
  simp only [List.getElem?_cons_succ, List.getElem?_cons_zero] at c1
  go_enter Tryd.func57, Tryd.ntmps57
  go_wp2
  go_ret
  exact ⟨rfl, rfl⟩

theorem Turn.toBelow {N : Nat → Prop} {B : Nat} {w w' : World} (h : Turn (fun x => B ≤ x ∧ ¬ N x) w w') (hB : B ≤ w.heap.size) : Below B w w' :=
  Turn.below (Below.refl B w) h (fun b hb => hb.1) hB

set_option maxHeartbeats 2000000 in
set_option maxRecDepth 100000 in
theorem bbyteN_any {N : Nat → Prop} {B b : Nat} {nv : Value} {bs : List UInt8} {w : World} (h : BldN N B b nv bs w) (hB : B ≤ w.heap.size) (hN : ∀ x, N x → x < w.heap.size) (hl : bs.length ≤ 1000000) (c : UInt8) (z : Int) (hz : z = c.toNat) :
    Calls Tryd.prog 68 #[.pointer (some ⟨b, 0, none⟩), .int .u8 z] w fun e w' => e = .returned .nilIface ∧ BldN N B b nv (bs ++ [c]) w' ∧ Turn (fun x => B ≤ x ∧ ¬ N x) w w' := by
  have hBb := h.1
  have hNb : ¬ N b := by
    obtain ⟨_, _, _, _, _, _, h5, _⟩ := h
    exact h5
  subst hz
  go_enter Tryd.func68, Tryd.ntmps68
  go_wp2_with fail
  refine (copyCheck_any h).mono ?_
  rintro e w1 ⟨rfl, ⟨bv, hk, ho, hnb⟩, hb1⟩
  have hB1 : B ≤ w1.heap.size := Nat.le_trans hB hb1.size
  have c1 := hk.cell 1
  simp only [List.getElem?_cons_succ, List.getElem?_cons_zero] at c1
  go_wp2_with (at_builtin; refine go_app1 B bv bs rfl w1 c c.toNat rfl rfl ho rfl hl hB1 ?_; intro v2 w2 ho2 ht2 hb2 hloc; refine Hid.out ?_)
  refine Lib.hid ?_
  have hk2 : Blk w2 b 95 [.pointer (some ⟨b, 0, none⟩), bv, nv] := hk.turn ht2 (Ownv.notBlk ho hk (by decide))
  have hnv : ∀ x, Blks v2 x → ¬ N x := fun x hx c => by
    rcases hloc x hx with hh | hh
    · exact hnb x hh c
    · have := hN x c
      have := hb1.size
      omega
  obtain ⟨ao, cap, rfl, _, _, _⟩ := (Own.rd ho2).len
  have d1 := hk2.cell 1
  have f1 := hk2.frozen 1
  simp only [List.getElem?_cons_succ, List.getElem?_cons_zero] at d1
  have hfin : BldN N B b nv (bs ++ [c]) (w2.setCell ⟨b, 1, none⟩ (.slice ao (toI (bs ++ [c])).length cap)) := ⟨hBb, _, _, hk2.set 1 _, .inr rfl, Ownv.setCell ho2 (Ownv.notBlk ho2 hk2 (by decide)) _, hNb, hnv⟩
  have hbel : Turn (fun x => B ≤ x ∧ ¬ N x) w (w2.setCell ⟨b, 1, none⟩ (.slice ao (toI (bs ++ [c])).length cap)) := (hb1.trans (ht2.mono fun x hx => ⟨(Ownv.lt ho hx).2, hnb x hx⟩) (fun x hx => .inl hx)).trans (turn_setCell w2 _ _) (fun x hx => .inl (by subst hx; exact ⟨hBb, hNb⟩))
  generalize (toI (bs ++ [c])).length = len at hfin hbel d1 f1 ⊢
  clear ho2 hnv hloc
  go_wp2
  go_ret
  exact ⟨rfl, hfin, hbel⟩
theorem bbyte_any {B b : Nat} {nv : Value} {bs : List UInt8} {w : World} (h : Bld B b nv bs w) (hB : B ≤ w.heap.size) (hl : bs.length ≤ 1000000) (c : UInt8) (z : Int) (hz : z = c.toNat) :
    Calls Tryd.prog 68 #[.pointer (some ⟨b, 0, none⟩), .int .u8 z] w fun e w' => e = .returned .nilIface ∧ Bld B b nv (bs ++ [c]) w' ∧ Below B w w' :=
  (bbyteN_any h hB (fun _ x => x.elim) hl c z hz).mono fun e w' ⟨a, b, c⟩ => ⟨a, b, c.toBelow hB⟩

set_option maxHeartbeats 2000000 in
set_option maxRecDepth 100000 in
theorem bstrN_any {N : Nat → Prop} {B b : Nat} {nv : Value} {bs : List UInt8} {w : World} (h : BldN N B b nv bs w) (hB : B ≤ w.heap.size) (hN : ∀ x, N x → ∃ e cs, Blk w x e cs ∧ 5 ≠ e) (hl : bs.length ≤ 1000000) (s : List UInt8) (hs : s.length ≤ 1000000) :
    Calls Tryd.prog 69 #[.pointer (some ⟨b, 0, none⟩), .string (strB s)] w fun e w' => e = .returned (.tuple #[.int .i64 s.length, .nilIface]) ∧ BldN N B b nv (bs ++ s) w' ∧ Turn (fun x => B ≤ x ∧ ¬ N x) w w' := by
  have hBb := h.1
  have hNb : ¬ N b := by
    obtain ⟨_, _, _, _, _, _, h5, _⟩ := h
    exact h5
  obtain ⟨i0, hi, hz0, hz1, hz2⟩ := info_parts Tryd.info5
  have e1 := strB_size s
  have hcs : Lib.strCells (strB s) = Lib.byteCells s := rfl
  generalize strB s = S at e1 hcs
  go_enter Tryd.func69, Tryd.ntmps69
  go_wp2_with fail
  refine (copyCheck_any h).mono ?_
  rintro e w1 ⟨rfl, ⟨bv, hk, ho, hnb⟩, hb1⟩
  have hB1 : B ≤ w1.heap.size := Nat.le_trans hB hb1.size
  have c1 := hk.cell 1
  simp only [List.getElem?_cons_succ, List.getElem?_cons_zero] at c1
  go_wp2_with (at_builtin; refine Lib.wpList_append_own_string _ rfl _ _ 91 9 rfl B 5 i0 Tryd.underlying91 Tryd.underlying9 hi hz0 hz1 hz2 bv (toI bs).length _ rfl ho S rfl (by rw [e1, toI_length]; unfold maxLen; omega) (by rw [e1, toI_length]; omega) hB1 ?_; intro v2 w2 ho2 hg2 _; refine Hid.out ?_)
  refine Lib.hid ?_
  have ht2 : Turn (Blks bv) w1 w2 := (Grown.turn hg2).mono fun b hb => hb.symm
  have ho3 : OwnU B w2 v2 (bs ++ s) := by
    unfold OwnU Own Ownv
    rw [toI_cells, toI_length, List.length_append]
    rw [hcs, toI_cells, e1, toI_length] at ho2
    simpa [Lib.byteCells] using ho2
  have hb2 : Turn (fun x => B ≤ x ∧ ¬ N x) w1 w2 := ht2.mono fun x hx => ⟨(Ownv.lt ho hx).2, hnb x hx⟩
  have hk2 : Blk w2 b 95 [.pointer (some ⟨b, 0, none⟩), bv, nv] := hk.turn ht2 (Ownv.notBlk ho hk (by decide))
  have hnv : ∀ x, Blks v2 x → ¬ N x := fun x hx c => by
    obtain ⟨e, cs, hb, hne⟩ := hN x c
    exact Ownv.notBlk ho3 ((hb.turn hb1 (fun y => y.2 c)).turn hb2 (fun y => y.2 c)) hne hx
  clear ho2 hg2
  obtain ⟨ao, cap, rfl, _, _, _⟩ := (Own.rd ho3).len
  have d1 := hk2.cell 1
  have f1 := hk2.frozen 1
  simp only [List.getElem?_cons_succ, List.getElem?_cons_zero] at d1
  have hfin : BldN N B b nv (bs ++ s) (w2.setCell ⟨b, 1, none⟩ (.slice ao (toI (bs ++ s)).length cap)) := ⟨hBb, _, _, hk2.set 1 _, .inr rfl, Ownv.setCell ho3 (Ownv.notBlk ho3 hk2 (by decide)) _, hNb, hnv⟩
  have hbel : Turn (fun x => B ≤ x ∧ ¬ N x) w (w2.setCell ⟨b, 1, none⟩ (.slice ao (toI (bs ++ s)).length cap)) := (hb1.trans hb2 (fun x hx => .inl hx)).trans (turn_setCell w2 _ _) (fun x hx => .inl (by subst hx; exact ⟨hBb, hNb⟩))
  generalize (toI (bs ++ s)).length = len at hfin hbel d1 f1 ⊢
  clear ho3 hcs hnv
  go_wp2
  go_ret2
  exact ⟨rfl, hfin, hbel⟩
theorem bstr_any {B b : Nat} {nv : Value} {bs : List UInt8} {w : World} (h : Bld B b nv bs w) (hB : B ≤ w.heap.size) (hl : bs.length ≤ 1000000) (s : List UInt8) (hs : s.length ≤ 1000000) :
    Calls Tryd.prog 69 #[.pointer (some ⟨b, 0, none⟩), .string (strB s)] w fun e w' => e = .returned (.tuple #[.int .i64 s.length, .nilIface]) ∧ Bld B b nv (bs ++ s) w' ∧ Below B w w' :=
  (bstrN_any h hB (fun _ x => x.elim) hl s hs).mono fun e w' ⟨a, b, c⟩ => ⟨a, b, c.toBelow hB⟩

set_option maxHeartbeats 2000000 in
set_option maxRecDepth 100000 in
theorem bstring_any {B b : Nat} {nv : Value} {bs : List UInt8} {w : World} (h : Bld B b nv bs w) (hne : bs ≠ []) :
    Calls Tryd.prog 58 #[.pointer (some ⟨b, 0, none⟩)] w fun e w' => e = .returned (.string (strB bs)) ∧ Below B w w' := by
  obtain ⟨hB, av, bv, hbk, _, ho, _, _⟩ := h
  have hl0 : bs.length ≠ 0 := by simpa using hne
  unfold OwnU Own Ownv at ho
  rw [toI_cells, toI_length] at ho
  obtain ⟨g, cap, cur, rfl, hbg, hg, hnc, hcm, hcs, htake⟩ : ∃ g cap cur, bv = .slice (some ⟨g, 0, none⟩) bs.length cap ∧ B ≤ g ∧ w.heap[g]? = some (.cells cur 5 (0, 0)) ∧ bs.length ≤ cap ∧ cap ≤ maxLen ∧ cur.size = cap * 1 ∧ cur.toList.take (bs.length * 1) = Lib.byteCells bs := by
    rcases ho.2 with ⟨_, hz⟩ | ⟨g, cap, cur, hv, r⟩
    · exact absurd hz hl0
    · exact ⟨g, cap, cur, hv, r⟩
  have c1 : w.drew.cell? ⟨b, 1, none⟩ = some (.slice (some ⟨g, 0, none⟩) bs.length cap) := hbk.cell 1
  have hSD : (Builtin.unsafeSliceData_ #[91] 115 #[.slice (some ⟨g, 0, none⟩) bs.length cap]).run Tryd.prog w.drew = .ok (.pointer (some ⟨g, 0, none⟩)) w.drew :=
    Lib.run_unsafeSliceData_row _ _ _ _ _ _ (by omega)
  have hUS : (Builtin.unsafeString_ #[115, 3] 9 #[.pointer (some ⟨g, 0, none⟩), .int .i64 bs.length]).run Tryd.prog w.drew = .ok (.string (strB bs)) (w.drew.freeze ⟨g, 0, none⟩ bs.length) := by
    refine Lib.run_unsafeString_row w.drew 115 3 9 5 Tryd.underlying115 Tryd.cellsByte g cur.size (by have hg' : w.drew.heap[g]? = some (.cells cur 5 (0, 0)) := hg; simp [World.shape?, hg']) bs hne (by omega) (by unfold maxLen at hcm; omega) ?_
    intro j x hx
    have := ho.cells (g := g) rfl j (.int .u8 x.toNat) (by simp [Lib.byteCells, hx])
    exact this
  generalize strB bs = S at hUS ⊢
  go_enter Tryd.func58, Tryd.ntmps58
  go_wp2
  go_region
  all_goals (go_wp2; go_ret; exact ⟨rfl, Lib.below_freeze (Below.drew (Below.refl B w)) (p := ⟨g, 0, none⟩) hbg _⟩)
end Go.Proofs.YtdjfdobcjakmhaaDoor
end

section
/- A term's text: what Show is to write. Nothing here names a program. -/
set_option linter.unusedSimpArgs false
set_option linter.unusedVariables false
namespace Go.Proofs.YtdjfdobcjakmhaaDoor
open Go

def esc (s : List UInt8) : List UInt8 := s.flatMap fun c => if c = 34 ∨ c = 92 then [92, c] else [c]
def joinC : List (List UInt8) → List UInt8
  | [] => []
  | [x] => x
  | x :: y :: r => x ++ 44 :: joinC (y :: r)
/-- A node's text, where f tells its parts'. -/
def one (f : Int → List UInt8) (d : Nd) : List UInt8 :=
  if d.op = 1 then 35 :: Lib.itoa d.n else if d.op = 2 then 34 :: (esc d.s ++ [34]) else kName d.op ++ 40 :: (joinC (d.l.map f) ++ [41])
def stepS (acc : List (List UInt8)) (d : Nd) : List (List UInt8) := acc ++ [one (fun x => acc.getD x.toNat []) d]
/-- All terms' texts. -/
def shws (ds : List Nd) : List (List UInt8) := ds.foldl stepS []
/-- The text of a term. -/
def shw (ds : List Nd) (t : Int) : List UInt8 := (shws ds).getD t.toNat []

theorem shws_pre (ds : List Nd) : ∀ acc : List (List UInt8), ∃ r, ds.foldl stepS acc = acc ++ r ∧ r.length = ds.length := by
  induction ds with
  | nil => exact fun acc => ⟨[], by simp, rfl⟩
  | cons d ds ih =>
    intro acc
    obtain ⟨r, h1, h2⟩ := ih (stepS acc d)
    refine ⟨one (fun x => acc.getD x.toNat []) d :: r, ?_, by simp [h2]⟩
    rw [List.foldl_cons, h1]
    simp [stepS]
theorem shws_append (a b : List Nd) : ∃ r, shws (a ++ b) = shws a ++ r ∧ r.length = b.length := by
  unfold shws
  rw [List.foldl_append]
  exact shws_pre b _
theorem shws_length (ds : List Nd) : (shws ds).length = ds.length := by
  obtain ⟨r, h1, h2⟩ := shws_pre ds []
  unfold shws
  rw [h1]
  simpa using h2
theorem shw_more {ds : List Nd} (es : List Nd) {t : Int} (h : t.toNat < ds.length) : shw (ds ++ es) t = shw ds t := by
  obtain ⟨r, h1, _⟩ := shws_append ds es
  unfold shw
  rw [h1]
  simp only [List.getD_eq_getElem?_getD]
  rw [List.getElem?_append_left (by rw [shws_length]; exact h)]
theorem one_congr {f g : Int → List UInt8} {d : Nd} (h : ∀ x ∈ d.l, f x = g x) : one f d = one g d := by
  unfold one
  rw [List.map_congr_left h]
/-- What a term's text is. -/
theorem shw_eq {ds : List Nd} (hg : Good ds) {t : Int} (h0 : 0 ≤ t) (h1 : t < ds.length) : shw ds t = one (shw ds) (ds.getD t.toNat nd0) := by
  obtain ⟨i, rfl⟩ := Int.eq_ofNat_of_zero_le h0
  have hi : i < ds.length := by omega
  simp only [Int.toNat_natCast]
  have hsplit : ds = ds.take i ++ (ds.getD i nd0 :: ds.drop (i + 1)) := by
    rw [List.getD_eq_getElem?_getD, List.getElem?_eq_getElem hi, Option.getD_some, List.getElem_cons_drop hi, List.take_append_drop]
  have htl : (ds.take i).length = i := by rw [List.length_take]; omega
  have key1 : shw ds (i : Int) = one (fun x => (shws (ds.take i)).getD x.toNat []) (ds.getD i nd0) := by
    have e : shws ds = (ds.drop (i + 1)).foldl stepS (stepS (shws (ds.take i)) (ds.getD i nd0)) := by
      conv => lhs; rw [hsplit]
      unfold shws
      rw [List.foldl_append, List.foldl_cons]
    obtain ⟨r, h2, _⟩ := shws_pre (ds.drop (i + 1)) (stepS (shws (ds.take i)) (ds.getD i nd0))
    unfold shw
    rw [e, h2]
    simp only [Int.toNat_natCast, stepS, List.append_assoc, List.getD_eq_getElem?_getD]
    rw [List.getElem?_append_right (by rw [shws_length, htl]; omega), shws_length, htl]
    simp
  rw [key1]
  refine one_congr fun x hx => ?_
  obtain ⟨x0, x1⟩ := hg.lesser hi x hx
  have : shw (ds.take i ++ ds.drop i) x = shw (ds.take i) x := shw_more _ (by rw [htl]; omega)
  rw [List.take_append_drop] at this
  rw [this]
  rfl

theorem joinC_snoc (l : List (List UInt8)) (x : List UInt8) : joinC (l ++ [x]) = if l = [] then x else joinC l ++ 44 :: x := by
  induction l with
  | nil => rfl
  | cons a l ih =>
    cases l with
    | nil => rfl
    | cons b l =>
      simp only [List.cons_append, joinC] at ih ⊢
      rw [ih]
      simp
theorem joinC_take_le (l : List (List UInt8)) (k : Nat) : (joinC (l.take k)).length ≤ (joinC l).length := by
  induction l generalizing k with
  | nil => simp [joinC]
  | cons a l ih =>
    cases k with
    | zero => simp [joinC]
    | succ k =>
      cases l with
      | nil => simp [joinC]
      | cons b l =>
        cases k with
        | zero => simp [joinC]
        | succ k =>
          have := ih (k + 1)
          simp only [List.take_succ_cons, joinC, List.length_append, List.length_cons] at this ⊢
          omega
theorem joinC_step (l : List Int) (f : Int → List UInt8) {k : Nat} (h : k < l.length) :
    joinC ((l.take (k + 1)).map f) = joinC ((l.take k).map f) ++ ((if k = 0 then [] else [44]) ++ f (l.getD k 0)) := by
  rw [List.take_succ_eq_append_getElem h, List.map_append, List.map_cons, List.map_nil, joinC_snoc, List.getD_eq_getElem?_getD, List.getElem?_eq_getElem h]
  by_cases c : k = 0
  · subst c
    simp [joinC]
  · have : ¬ (l.take k).map f = [] := by
      intro e
      have := congrArg List.length e
      rw [List.length_map, List.length_take, List.length_nil] at this
      omega
    rw [if_neg this, if_neg c]
    simp

/-- What is written behind old: all of x, or more than may be shown, where all of x is more, too. -/
def Out (old x new : List UInt8) : Prop := new = old ++ x ∨ (4000 < new.length ∧ 4000 < old.length + x.length)
theorem esc_snoc (s : List UInt8) (c : UInt8) : esc (s ++ [c]) = esc s ++ (if c = 34 ∨ c = 92 then [92, c] else [c]) := by simp [esc]
theorem esc_len (s : List UInt8) : (esc s).length ≤ 2 * s.length := by
  induction s with
  | nil => simp [esc]
  | cons c s ih =>
    have e : esc (c :: s) = (if c = 34 ∨ c = 92 then [92, c] else [c]) ++ esc s := by simp [esc]
    rw [e, List.length_append]
    have : (if c = 34 ∨ c = 92 then [92, c] else [c]).length ≤ 2 := by split <;> simp
    simp
    omega
theorem kName_len (o : Int) : (kName o).length ≤ 5 := by
  unfold kName
  rcases Nat.lt_or_ge o.toNat 13 with h | h
  · generalize o.toNat = n at h
    have : n = 0 ∨ n = 1 ∨ n = 2 ∨ n = 3 ∨ n = 4 ∨ n = 5 ∨ n = 6 ∨ n = 7 ∨ n = 8 ∨ n = 9 ∨ n = 10 ∨ n = 11 ∨ n = 12 := by omega
    rcases this with e | e | e | e | e | e | e | e | e | e | e | e | e <;> subst e <;> simp [kTab]
  · rw [List.getD_eq_getElem?_getD, List.getElem?_eq_none (by simp [kTab]; omega)]
    simp
end Go.Proofs.YtdjfdobcjakmhaaDoor
end

section
/- Walks of package term: the writer. -/
set_option linter.unusedSimpArgs false
set_option linter.unusedVariables false
namespace Go.Proofs.YtdjfdobcjakmhaaDoor
open Go.RowKit Go.Maps

theorem u8_eq_lit (c : UInt8) (k : Nat) (hk : k < 256) : ((c.toNat : Int) = (k : Int)) ↔ c = UInt8.ofNat k := by
  rw [← UInt8.toNat_inj, ofNat_small hk]; omega
theorem bytesWorld_kept (w : World) (e : TypeId) (s : ByteArray) : Kept w (Lib.bytesWorld w e s) :=
  ⟨rfl, rfl, rfl, by rw [Lib.bytesWorld_size]; omega, fun j hj => Lib.bytesWorld_at_old w e s j hj⟩

set_option maxHeartbeats 4000000 in
set_option maxRecDepth 100000 in
theorem quoted_any {B b : Nat} {nv : Value} {bs : List UInt8} {w : World} (h : Bld B b nv bs w) (hB : B ≤ w.heap.size) (hl : bs.length ≤ 100000) (s : List UInt8) (hs : s.length ≤ 200) :
    Calls Tryd.prog 70 #[.pointer (some ⟨b, 0, none⟩), .string (strB s)] w fun e w' => e = .returned (.tuple #[]) ∧ Bld B b nv (bs ++ (34 :: (esc s ++ [34]))) w' ∧ Below B w w' := by
  have e1 := strB_size s
  have e2 := strB_toList s
  generalize strB s = S at e1 e2
  go_enter Tryd.func70, Tryd.ntmps70
  go_wp2_with fail
  refine (bbyte_any h hB (by omega) 34 34 rfl).mono ?_
  rintro e w1 ⟨rfl, h1, k1⟩
  have hB1 : B ≤ w1.heap.size := Nat.le_trans hB k1.size
  have hcv := Lib.run_convert_string_bytes (P := Tryd.prog) w1 9 91 5 S Tryd.underlying9 Tryd.underlying91 Tryd.underlying5
  have hq : ∀ j, j < s.length → (Lib.bytesWorld w1 5 S).cell? ⟨w1.heap.size, j, none⟩ = some (.int .u8 (s.getD j 0).toNat) := fun j hj => by
    rw [Lib.bytesWorld_cell w1 5 S j (by omega), e2]
  have hk := bytesWorld_kept w1 5 S
  have hsz := Lib.bytesWorld_size w1 5 S
  have hbn := (h1.new).mono (M := fun x => x = w1.heap.size) (fun x hx => by subst hx; exact Nat.le_refl _)
  have hbn2 := hbn.kept hk
  generalize Lib.bytesWorld w1 5 S = w2 at hcv hq hk hsz hbn2
  generalize grownCap w1 S.size 0 5 = cap at hcv
  rw [e1] at hcv
  clear e1 e2
  go_wp2
  go_loopw [13] (fun i wr => ∃ k : Nat, k ≤ s.length ∧ i = .int .i64 k ∧ BldN (fun x => x = w1.heap.size) B b nv (bs ++ 34 :: esc (s.take k)) wr ∧ Turn (fun x => B ≤ x ∧ ¬ x = w1.heap.size) w2 wr) (fun i _ => s.length - (intOf i).toNat)
  case atStart => exact ⟨0, Nat.zero_le _, rfl, by simpa [esc] using hbn2, Turn.refl _ _⟩
  case round =>
    obtain ⟨k, hk0, rfl, hr, ht⟩ := hrel
    have hwB : Below B w wr := (k1.trans (Below.mono hk hB1)).trans (Turn.toBelow ht (by omega))
    have hBr : B ≤ wr.heap.size := Nat.le_trans hB hwB.size
    have hel := esc_len (s.take k)
    rw [List.length_take] at hel
    by_cases hlt : k < s.length
    · have hc : wr.cell? ⟨w1.heap.size, k, none⟩ = some (.int .u8 (s.getD k 0).toNat) := by
        rw [World.cell?_of_block (ht.block _ (show w1.heap.size < w2.heap.size by omega) (fun x => x.2 rfl))]; exact hq k hlt
      have hstep : esc (s.take (k + 1)) = esc (s.take k) ++ (if s.getD k 0 = 34 ∨ s.getD k 0 = 92 then [92, s.getD k 0] else [s.getD k 0]) := by
        rw [List.take_succ_eq_append_getElem hlt, esc_snoc, List.getD_eq_getElem?_getD, List.getElem?_eq_getElem hlt]; rfl
      have HS := Shut.mk hstep
      clear hstep hq
      generalize s.getD k 0 = c at hc HS
      have hNr : ∀ x, x = w1.heap.size → x < wr.heap.size := fun x hx => by have := ht.size; omega
      have hbl : (bs ++ 34 :: esc (s.take k)).length ≤ 200000 := by simp; omega
      have hcases : (((c.toNat : Int) == 34) = true ∧ (c = 34 ∨ c = 92)) ∨ (((c.toNat : Int) == 34) = false ∧ ((c.toNat : Int) == 92) = true ∧ (c = 34 ∨ c = 92)) ∨ (((c.toNat : Int) == 34) = false ∧ ((c.toNat : Int) == 92) = false ∧ ¬ (c = 34 ∨ c = 92)) := by
        have q1 := u8_eq_lit c 34 (by decide)
        have q2 := u8_eq_lit c 92 (by decide)
        by_cases c1 : (c.toNat : Int) = 34
        · exact .inl ⟨by simpa using c1, .inl (q1.1 c1)⟩
        · by_cases c2 : (c.toNat : Int) = 92
          · exact .inr (.inl ⟨by simpa using c1, by simpa using c2, .inr (q2.1 c2)⟩)
          · exact .inr (.inr ⟨by simpa using c1, by simpa using c2, fun h => h.elim (fun e => c1 (q1.2 e)) (fun e => c2 (q2.2 e))⟩)
      clear hel
      rcases hcases with ⟨d1, hcc⟩ | ⟨d1, d2, hcc⟩ | ⟨d1, d2, hcc⟩
      · have hst := HS.out
        rw [if_pos hcc] at hst
        have HS2 := Shut.mk hst
        clear hst HS hcc
        go_wp2_with fail
        refine (bbyteN_any hr hBr hNr (by omega) 92 92 rfl).mono ?_
        rintro e w3 ⟨rfl, h3, t3⟩
        go_wp2_with fail
        refine (bbyteN_any h3 (Nat.le_trans hBr t3.size) (fun x hx => Nat.lt_of_lt_of_le (hNr x hx) t3.size) (by rw [List.length_append]; show _ + 1 ≤ 1000000; omega) c c.toNat rfl).mono ?_
        rintro e w4 ⟨rfl, h4, t4⟩
        go_wp2
        go_roundw
        case rel =>
          refine ⟨k + 1, hlt, rfl, ?_, (ht.trans t3 (fun x hx => .inl hx)).trans t4 (fun x hx => .inl hx)⟩
          rw [HS2.out]
          simpa using h4
        case measure => simp [intOf]; omega
      · have hst := HS.out
        rw [if_pos hcc] at hst
        have HS2 := Shut.mk hst
        clear hst HS hcc
        go_wp2_with fail
        refine (bbyteN_any hr hBr hNr (by omega) 92 92 rfl).mono ?_
        rintro e w3 ⟨rfl, h3, t3⟩
        go_wp2_with fail
        refine (bbyteN_any h3 (Nat.le_trans hBr t3.size) (fun x hx => Nat.lt_of_lt_of_le (hNr x hx) t3.size) (by rw [List.length_append]; show _ + 1 ≤ 1000000; omega) c c.toNat rfl).mono ?_
        rintro e w4 ⟨rfl, h4, t4⟩
        go_wp2
        go_roundw
        case rel =>
          refine ⟨k + 1, hlt, rfl, ?_, (ht.trans t3 (fun x hx => .inl hx)).trans t4 (fun x hx => .inl hx)⟩
          rw [HS2.out]
          simpa using h4
        case measure => simp [intOf]; omega
      · have hst := HS.out
        rw [if_neg hcc] at hst
        have HS2 := Shut.mk hst
        clear hst HS hcc
        go_wp2_with fail
        refine (bbyteN_any hr hBr hNr (by omega) c c.toNat rfl).mono ?_
        rintro e w3 ⟨rfl, h3, t3⟩
        go_wp2
        go_roundw
        case rel =>
          refine ⟨k + 1, hlt, rfl, ?_, ht.trans t3 (fun x hx => .inl hx)⟩
          rw [HS2.out]
          simpa using h3
        case measure => simp [intOf]; omega
    · obtain rfl : k = s.length := by omega
      rw [List.take_length] at hr hel
      go_wp2_with fail
      refine (bbyte_any hr.no hBr (by simp; omega) 34 34 rfl).mono ?_
      rintro e w3 ⟨rfl, h3, k3⟩
      go_wp2
      go_end0
      exact ⟨rfl, by simpa using h3, hwB.trans k3⟩

/-- What writing a term does. -/
def TermOk (w0 : World) (nv : Value) (ds : List Nd) (t : Nat) : Prop := ∀ (b : Nat) (bs : List UInt8) (w : World), Kept w0 w → Bld w0.heap.size b nv bs w → bs.length ≤ 4001 →
  Calls Tryd.prog 56 #[.pointer (some ⟨b, 0, none⟩), .int .i64 t] w fun e w' => e = .returned (.tuple #[]) ∧ (∃ bs', Bld w0.heap.size b nv bs' w' ∧ Out bs (shw ds t) bs' ∧ bs'.length ≤ 4501 + t) ∧ Kept w0 w'

theorem out_trans {a x b y c : List UInt8} (h : b = a ++ x) (k : Out b y c) : Out a (x ++ y) c := by
  subst h
  rcases k with k | ⟨k1, k2⟩
  · exact .inl (by rw [k, List.append_assoc])
  · exact .inr ⟨k1, by simp only [List.length_append] at k2 ⊢; omega⟩

set_option maxHeartbeats 4000000 in
set_option maxRecDepth 100000 in
theorem parts_any {w0 : World} {nv : Value} {ds : List Nd} {T : Nat} {lv : Value} {l : List Int} (hr : RdI w0 lv l) (hl : l.length ≤ 64) (hT : ∀ x ∈ l, 0 ≤ x ∧ x < T) (ih : ∀ x, x < T → TermOk w0 nv ds x) {b : Nat} {bs : List UInt8} {w : World} (hk : Kept w0 w) (h : Bld w0.heap.size b nv bs w) (hbs : bs.length ≤ 4008) :
    Calls Tryd.prog 71 #[.pointer (some ⟨b, 0, none⟩), lv] w fun e w' => e = .returned (.tuple #[]) ∧ (∃ bs', Bld w0.heap.size b nv bs' w' ∧ Out bs (joinC (l.map (shw ds))) bs' ∧ bs'.length ≤ 4500 + T) ∧ Kept w0 w' := by
  obtain ⟨la, lc, rfl, l1, l2, l3⟩ := hr.len
  go_enter Tryd.func71, Tryd.ntmps71
  go_wp2
  go_loopw [8] (fun i wr => ∃ (k : Nat) (bk : List UInt8), k ≤ l.length ∧ i = .int .i64 k ∧ Bld w0.heap.size b nv bk wr ∧ Out bs (joinC ((l.take k).map (shw ds))) bk ∧ bk.length ≤ 4500 + T ∧ Kept w0 wr) (fun i _ => l.length - (intOf i).toNat)
  case atStart => exact ⟨0, bs, Nat.zero_le _, rfl, h, .inl (by simp [joinC]), by omega, hk⟩
  case round =>
    obtain ⟨k, bk, hk0, rfl, hb, hout, hbl, hkr⟩ := hrel
    by_cases hlt : k < l.length
    · obtain ⟨rb, ro, rc, hrv, _, _, hrb, hcell⟩ := hr.addr (by omega)
      simp only [Value.slice.injEq] at hrv
      obtain ⟨rfl, _, rfl⟩ := hrv
      have hcw : wr.cell? ⟨rb, ro + k, none⟩ = some (.int .i64 (l.getD k 0)) := hkr.cell (p := ⟨rb, ro + k, none⟩) hrb |>.trans (hcell k hlt)
      clear hcell
      have hmem : l.getD k 0 ∈ l := by
        rw [List.getD_eq_getElem?_getD, List.getElem?_eq_getElem hlt]; exact List.getElem_mem _
      obtain ⟨x0, xT⟩ := hT _ hmem
      have hstep := joinC_step l (shw ds) hlt
      have hple : (joinC ((l.take k).map (shw ds))).length ≤ (joinC (l.map (shw ds))).length := by
        rw [List.map_take]; exact joinC_take_le _ _
      have HO := Shut.mk hout
      have HS := Shut.mk hstep
      have HP := Shut.mk hple
      clear hout hstep hple hmem
      generalize hxv : l.getD k 0 = xv at hcw x0 xT HS
      have HXV := Shut.mk hxv
      clear hxv
      obtain ⟨x, rfl⟩ := Int.eq_ofNat_of_zero_le x0
      have hxT : x < T := by omega
      by_cases hbig : 4000 < bk.length
      · have hd : decide (4000 < (bk.length : Int)) = true := decide_eq_true (by omega)
        go_wp2_with (go_at_call 57; refine (blen_any hb).mono ?_; rintro e w' ⟨rfl, rfl⟩)
        refine bodyPost_ret (results_none rfl _ _ _) rfl ?_
        refine ⟨rfl, ⟨bk, hb, .inr ⟨hbig, ?_⟩, hbl⟩, hkr⟩
        have hp := HP.out
        rcases HO.out with e | ⟨_, e⟩
        · have := congrArg List.length e
          rw [List.length_append] at this
          omega
        · omega
      · have hex : bk = bs ++ joinC ((l.take k).map (shw ds)) := HO.out.resolve_right (fun e => hbig e.1)
        have HE := Shut.mk hex
        have hd : decide (4000 < (bk.length : Int)) = false := decide_eq_false (by omega)
        clear hex
        by_cases hk1 : k = 0
        · subst hk1
          rw [Nat.add_zero] at hcw
          go_wp2_with (first | (go_at_call 57; refine (blen_any hb).mono ?_; rintro e w' ⟨rfl, rfl⟩) | fail)
          refine (ih x hxT b bk _ hkr hb (by omega)).mono ?_
          rintro e w3 ⟨rfl, ⟨b3, h3, o3, n3⟩, k3⟩
          go_wp2
          go_roundw
          case rel =>
            refine ⟨1, b3, hlt, rfl, h3, ?_, by omega, k3⟩
            rw [HS.out]
            exact out_trans HE.out (by simpa using o3)
          case measure => simp [intOf]; omega
        · go_wp2_with (first | (go_at_call 57; refine (blen_any hb).mono ?_; rintro e w' ⟨rfl, rfl⟩) | fail)
          refine (bbyte_any hb hkr.size (by omega) 44 44 rfl).mono ?_
          rintro e w2 ⟨rfl, h2, k2⟩
          have hk2 : Kept w0 w2 := Below.trans hkr k2
          go_wp2_with fail
          refine (ih x hxT b _ _ hk2 h2 (by rw [List.length_append]; show _ + 1 ≤ 4001; omega)).mono ?_
          rintro e w3 ⟨rfl, ⟨b3, h3, o3, n3⟩, k3⟩
          go_wp2
          go_roundw
          case rel =>
            refine ⟨k + 1, b3, hlt, rfl, h3, ?_, by omega, k3⟩
            rw [HS.out, if_neg hk1]
            refine out_trans HE.out ?_
            exact out_trans rfl o3
          case measure => simp [intOf]; omega
    · obtain rfl : k = l.length := by omega
      rw [List.take_length] at hout
      go_wp2
      go_end0
      exact ⟨rfl, ⟨bk, hb, hout, hbl⟩, hkr⟩
end Go.Proofs.YtdjfdobcjakmhaaDoor
end

section
/- Walks of package term: a term's text, Show. -/
set_option linter.unusedSimpArgs false
set_option linter.unusedVariables false
namespace Go.Proofs.YtdjfdobcjakmhaaDoor
open Go.RowKit Go.Maps

theorem itoa_any (n : Int) (hn : I64 n) (w : World) (ht : Lib.TabIs Tryd.prog w "internal/strconv.uint64pow10" .u64 Lib.pow10Tab) :
    Calls Tryd.prog 45 #[.int .i64 n] w fun e w' => e = .returned (.string (strB (Lib.itoa n))) ∧ Kept w w' :=
  (Tryd.strconv_Itoa n hn.1 hn.2 w ht).mono fun e w' ⟨a, k, os, c⟩ => ⟨a, by rw [c]; exact Lib.below_grow w.heap.size w (Nat.le_refl _) k os⟩

set_option maxHeartbeats 4000000 in
set_option maxRecDepth 100000 in
theorem term_ok {w0 : World} {nv : Value} {ds : List Nd} (hg : Good ds) (hns : RdNs w0 nv ds) (ht : Tabs w0) (hn : ∀ d ∈ ds, NdOk d) (HD : Shut (ds.length ≤ 100000)) (t : Nat) : t < ds.length → TermOk w0 nv ds t := by
  induction t using Nat.strongRecOn with
  | ind t ih =>
    intro htl b bs w hk h hbs
    obtain ⟨nb, noff, ncap, lvs, rfl, _, _, hnb, hnc, hnl⟩ := hns.addr (by omega)
    obtain ⟨y0, y1, y2, y3⟩ := hnc t htl
    have z0 := hk.cell (p := ⟨nb, noff + t * 4, none⟩) hnb |>.trans y0
    have z1 := hk.cell (p := ⟨nb, noff + t * 4 + 1, none⟩) hnb |>.trans y1
    have z2 := hk.cell (p := ⟨nb, noff + t * 4 + 2, none⟩) hnb |>.trans y2
    have z3 := hk.cell (p := ⟨nb, noff + t * 4 + 3, none⟩) hnb |>.trans y3
    have hlr := hnl t htl
    have hbc := h.cell2
    have hmay := hg.may' htl
    have hless := hg.lesser htl
    have heq := shw_eq hg (t := (t : Int)) (by omega) (by omega)
    rw [Int.toNat_natCast] at heq
    have hok : NdOk (ds.getD t nd0) := hn _ (by rw [List.getD_eq_getElem?_getD, List.getElem?_eq_getElem htl]; exact List.getElem_mem _)
    have HE := Shut.mk heq
    have HN := Shut.mk hnc
    clear y0 y1 y2 y3 hnc heq
    generalize ds.getD t nd0 = d at z0 z1 z2 z3 hlr hmay hless HE hok
    obtain ⟨op, n, s, l⟩ := d
    simp only at z0 z1 z2 z3 hlr hless
    obtain ⟨la, lc, hlv, l1, l2, l3⟩ := hlr.len
    rw [hlv] at z3 hlr
    clear hlv
    have htl' : (t : Int) < (ds.length : Int) := by omega
    have ht0 : (0 : Int) ≤ (t : Int) := by omega
    have hlt := h.lt
    have hn64 := hok.n
    simp only at hn64
    have hil := itoa_len hok.n
    simp only at hil
    go_enter Tryd.func56, Tryd.ntmps56
    by_cases c1 : op = 1
    · subst c1
      go_wp2_with fail
      have k1 : Kept w (w.alloc (.cells #[.int .i64 1, .int .i64 n, .string (strB s), .slice la l.length lc] 65)) := (Kept.refl w).alloc _
      have b1 := Blk.new w [.int .i64 1, .int .i64 n, .string (strB s), .slice la l.length lc] 65
      have h1 := (h.new.mono (M := fun x => x = w.heap.size) (fun x hx => by subst hx; exact Nat.le_refl _)).kept k1
      generalize w.alloc (.cells #[.int .i64 1, .int .i64 n, .string (strB s), .slice la l.length lc] 65) = w1 at k1 b1 h1 ⊢
      have hB1 : w0.heap.size ≤ w1.heap.size := Nat.le_trans hk.size k1.size
      refine (bbyteN_any h1 hB1 (fun x hx => by subst hx; exact b1.lt) (by omega) 35 35 rfl).mono ?_
      rintro e w2 ⟨rfl, h2, t2⟩
      have b2 := b1.turn t2 (fun x => x.2 rfl)
      have k2 : Kept w0 w2 := (hk.trans k1).trans' (t2.toBelow hB1)
      have hB2 := k2.size
      have q1 := b2.cell 1
      simp only [List.getElem?_cons_succ, List.getElem?_cons_zero] at q1
      go_wp2_with fail
      go_region_with (first
        | (go_at_call 45; refine (itoa_any n hn64 _ (ht.kept (k2.drew)).pow).mono ?_; rintro e w3 ⟨rfl, k3⟩; have k3' : Kept w2 w3 := (Kept.refl w2).drew.trans k3; have h3 := BldN.no (BldN.kept h2 k3'))
        | (go_at_call 69; refine (bstr_any h3 (Nat.le_trans hB2 k3'.size) (by simp; omega) (Lib.itoa n) (by omega)).mono ?_; rintro e w4 ⟨rfl, h4, k4⟩))
      go_wp2
      go_end0
      refine ⟨rfl, ⟨_, h4, .inl ?_, ?_⟩, (k2.trans k3').trans' k4⟩
      · rw [HE.out]; simp [one]
      · simp; omega
    · by_cases c2 : op = 2
      · subst c2
        have k1 : Kept w (w.alloc (.cells #[.int .i64 2, .int .i64 n, .string (strB s), .slice la l.length lc] 65)) := (Kept.refl w).alloc _
        have h1 := BldN.kept h k1
        have hB1 : w0.heap.size ≤ _ := Nat.le_trans hk.size k1.size
        have hs0 := hmay.s0
        have hel := esc_len s
        simp only at hs0
        go_wp2_with fail
        refine (quoted_any h1 hB1 (by omega) s hs0).mono ?_
        rintro e w2 ⟨rfl, h2, k2⟩
        go_wp2
        go_end0
        refine ⟨rfl, ⟨_, h2, .inl ?_, ?_⟩, (hk.trans k1).trans' k2⟩
        · rw [HE.out]; simp [one]
        · simp; omega
      · have d1 : ¬ op = 1 := c1
        have o1 := hmay.op1
        have o2 := hmay.op12
        simp only at o1 o2
        obtain ⟨o, rfl⟩ := Int.eq_ofNat_of_zero_le (show 0 ≤ op by omega)
        have e1 : ((o : Int) == 1) = false := by simpa using c1
        have e2 : ((o : Int) == 2) = false := by simpa using c2
        obtain ⟨g0, _, _⟩ := (ht.kept hk).kinds o (by omega)
        have hone : one (shw ds) ⟨(o : Int), n, s, l⟩ = kName o ++ 40 :: (joinC (l.map (shw ds)) ++ [41]) := by unfold one; rw [if_neg c1, if_neg c2]
        rw [hone] at HE
        have hll := hmay.len64
        simp only at hll
        have hkn := kName_len (o : Int)
        clear c1 c2 d1 hone
        have b1 := Blk.new w [.int .i64 (o : Int), .int .i64 n, .string (strB s), .slice la l.length lc] 65
        have k1 : Kept w (w.alloc (.cells #[.int .i64 (o : Int), .int .i64 n, .string (strB s), .slice la l.length lc] 65)) := (Kept.refl w).alloc _
        have h1 := (h.new.mono (M := fun x => x = w.heap.size) (fun x hx => by subst hx; exact Nat.le_refl _)).kept k1
        have g1 := k1.cell (p := ⟨0, o * 3, none⟩) (World.block_lt_of_cell? _ _ g0) |>.trans g0
        have o13 : (o : Int) < 13 := by omega
        have o00 : (0 : Int) ≤ (o : Int) := by omega
        go_wp2_with fail
        generalize w.alloc (.cells #[.int .i64 (o : Int), .int .i64 n, .string (strB s), .slice la l.length lc] 65) = w1 at k1 b1 h1 g1 ⊢
        have q0 := b1.cell 0
        simp only [List.getElem?_cons_succ, List.getElem?_cons_zero] at q0
        have hB1 : w0.heap.size ≤ w1.heap.size := Nat.le_trans hk.size k1.size
        have hdr : ∀ x : Nat, x = w.heap.size → ∃ e cs, Blk w1.drew x e cs ∧ 5 ≠ e := fun x hx => by subst hx; exact ⟨_, _, b1, by decide⟩
        have h1d : BldN (fun x => x = w.heap.size) w0.heap.size b (.slice (some ⟨nb, noff, none⟩) ds.length ncap) bs w1.drew := h1.kept (Kept.refl w1).drew
        go_region_with (first
          | (go_at_call 69; refine (bstrN_any h1d hB1 hdr (by omega) (kName o) (by omega)).mono ?_; rintro e w2 ⟨rfl, h2, t2⟩))
        all_goals
          have t2' : Turn (fun x => w0.heap.size ≤ x ∧ ¬ x = w.heap.size) w1 w2 := ((Kept.refl w1).drew.turn _).trans t2 (fun x hx => .inl hx)
          have b2 := b1.turn t2' (fun x => x.2 rfl)
          have k2 : Kept w0 w2 := (hk.trans k1).trans' (t2'.toBelow hB1)
          go_wp2_with fail
          refine (bbyteN_any h2 k2.size (fun x hx => by subst hx; exact b2.lt) (by rw [List.length_append]; omega) 40 40 rfl).mono ?_
          rintro e w3 ⟨rfl, h3, t3⟩
          have b3 := b2.turn t3 (fun x => x.2 rfl)
          have k3 : Kept w0 w3 := k2.trans' (t3.toBelow k2.size)
          have q3 := b3.cell 3
          simp only [List.getElem?_cons_succ, List.getElem?_cons_zero] at q3
          go_wp2_with fail
          refine (parts_any hlr hll hless (fun x hx => ih x hx (by omega)) k3 h3.no (by simp only [List.length_append, List.length_cons, List.length_nil]; omega)).mono ?_
          rintro e w4 ⟨rfl, ⟨b4, h4, o4, n4⟩, k4⟩
          go_wp2_with fail
          refine (bbyte_any h4 k4.size (by have := HD.out; omega) 41 41 rfl).mono ?_
          rintro e w5 ⟨rfl, h5, k5⟩
          go_wp2
          go_end0
          refine ⟨rfl, ⟨_, h5, ?_, ?_⟩, k4.trans' k5⟩
          · rw [HE.out]
            rcases o4 with e | ⟨e1, e2⟩
            · exact .inl (by rw [e]; simp)
            · refine .inr ⟨?_, ?_⟩
              · rw [List.length_append]; omega
              · simp only [List.length_append, List.length_cons, List.length_nil] at e2 ⊢; omega
          · rw [List.length_append]
            show _ + 1 ≤ _
            omega

/-- What Show tells of a term, and its error. -/
def shE (ds : List Nd) (t : Int) : Int := if 0 ≤ t ∧ t < ds.length then (if 4000 < (shw ds t).length then 2 else 0) else 4
def shT (ds : List Nd) (t : Int) : List UInt8 := if shE ds t = 0 then shw ds t else []

theorem one_pos (f : Int → List UInt8) (d : Nd) : one f d ≠ [] := by
  unfold one
  split
  · simp
  · split <;> simp

set_option maxHeartbeats 4000000 in
set_option maxRecDepth 100000 in
theorem show_any {F : Nat → Prop} {w : World} {p : Value} {ds : List Nd} (h : Ar F w p ds) (ht : Tabs w) (t : Int) :
    Calls Tryd.prog 33 #[p, .int .i64 t] w fun e w' => e = .returned (.tuple #[.string (strB (shT ds t)), .int .i64 (shE ds t)]) ∧ Kept w w' := by
  have HH := Shut.mk h
  by_cases hin : 0 ≤ t ∧ t < ds.length
  · have hE : shE ds t = (if 4000 < (shw ds t).length then 2 else 0) := by unfold shE; rw [if_pos hin]
    obtain ⟨t0, t1⟩ := hin
    obtain ⟨pb, mb, nv, rfl, q0, q1, hns⟩ := ArG.nodes h
    obtain ⟨na, ncap, rfl, _, _, _⟩ := hns.len
    have hq := World.block_lt_of_cell? _ _ q0
    have hterm := term_ok h.good hns ht h.oks ⟨h.few⟩ t.toNat (by omega)
    have hsh := shw_eq h.good t0 t1
    have HE := Shut.mk hE
    have HSH := Shut.mk hsh
    clear hE hsh hns
    have htt : ((t.toNat : Nat) : Int) = t := by omega
    clear h
    go_enter Tryd.func33, Tryd.ntmps33
    go_wp2_with (first | (go_at_call 55; refine (arg_has_t HH.out t0 t1).mono ?_; rintro e w' ⟨rfl, rfl⟩) | fail)
    have k1 : Kept w (w.alloc (.cells #[.pointer none, .slice none 0 0, .slice na ds.length ncap] 95)) := (Kept.refl w).alloc _
    have h1 : Bld w.heap.size w.heap.size (.slice na ds.length ncap) [] (w.alloc (.cells #[.pointer none, .slice none 0 0, .slice na ds.length ncap] 95)) :=
      ⟨Nat.le_refl _, _, _, Blk.new w [.pointer none, .slice none 0 0, .slice na ds.length ncap] 95, .inl rfl, Own.nil _ _ _, fun x => x, fun _ _ x => x⟩
    have hc := hterm _ [] _ k1 h1 (by simp)
    rw [htt] at hc
    refine hc.mono ?_
    rintro e w2 ⟨rfl, ⟨bs, h2, o2, n2⟩, k2⟩
    have HO := Shut.mk o2
    clear o2 hterm
    by_cases hbig : 4000 < bs.length
    · have hd : decide (4000 < (bs.length : Int)) = true := decide_eq_true (by omega)
      have hS : 4000 < (shw ds t).length := by
        rcases HO.out with e | ⟨_, e⟩
        · rw [List.nil_append] at e; rw [← e]; exact hbig
        · simpa using e
      have hE : shE ds t = 2 := by rw [HE.out, if_pos hS]
      have hT : shT ds t = [] := by unfold shT; rw [if_neg (by rw [hE]; decide)]
      have HE2 := Shut.mk hE
      have HT2 := Shut.mk hT
      clear hE hT hS
      go_wp2_with (go_at_call 57; refine (blen_any h2).mono ?_; rintro e w' ⟨rfl, rfl⟩)
      go_ret2
      exact ⟨by rw [HE2.out, HT2.out]; rfl, k2⟩
    · have hd : decide (4000 < (bs.length : Int)) = false := decide_eq_false (by omega)
      have hS : bs = shw ds t := by
        rcases HO.out with e | ⟨e, _⟩
        · simpa using e
        · exact absurd e hbig
      have hE : shE ds t = 0 := by rw [HE.out, if_neg (by rw [← hS]; exact hbig)]
      have hT : shT ds t = bs := by unfold shT; rw [if_pos hE, hS]
      have hne : bs ≠ [] := by rw [hS, HSH.out]; exact one_pos _ _
      have HE2 := Shut.mk hE
      have HT2 := Shut.mk hT
      have HS2 := Shut.mk hS
      clear hE hT hS
      go_wp2_with (first | (go_at_call 57; refine (blen_any h2).mono ?_; rintro e w' ⟨rfl, rfl⟩) | (go_at_call 58; refine (bstring_any h2 hne).mono ?_; rintro e w3 ⟨rfl, k3⟩))
      go_ret2
      exact ⟨by rw [HE2.out, HT2.out]; rfl, Below.trans k2 k3⟩
  · have hE : shE ds t = 4 := by unfold shE; rw [if_neg hin]
    have hT : shT ds t = [] := by unfold shT; rw [if_neg (by rw [hE]; decide)]
    rw [hE, hT]
    clear h hE hT
    go_enter Tryd.func33, Tryd.ntmps33
    go_wp2_with (go_at_call 55; refine (arg_has_f HH.out hin).mono ?_; rintro e w' ⟨rfl, rfl⟩)
    go_ret2
    exact ⟨rfl, Kept.refl _⟩
end Go.Proofs.YtdjfdobcjakmhaaDoor
end

section
/- What comes in: an array of three numbers. -/
set_option linter.unusedSimpArgs false
set_option linter.unusedVariables false
set_option maxRecDepth 100000
namespace Go.Proofs.YtdjfdobcjakmhaaDoor
open Go.RowKit Go.ChangeShapes Go.WideShapes Go.ChangeAt

theorem open_arr3 {H : Type} {enc : TypeId × Value → H} {W : World} {base : Nat} {v : Value} {d : DataW H} {p : List MemPlace} (hv : Value.okWide Tryd.prog W .any base 50 v)
    (h : DataW.Trod enc Tryd.prog W 0 (fun _ => true) true 50 v d p) : ∃ a b c : Int, v = .agg #[.int .i64 a, .int .i64 b, .int .i64 c] ∧ I64 a ∧ I64 b ∧ I64 c := by
  have hc3 : Tryd.prog.cellsOf 50 = 3 := by kernel_rfl
  have hc1 : Tryd.prog.cellsOf 3 = 1 := by kernel_rfl
  simp only [Value.okWide, Tryd.underlying50] at hv
  obtain ⟨cs, rfl, h2, _⟩ := hv
  rw [hc3] at h2
  obtain ⟨l⟩ := cs
  have hl : l.length = 3 := h2
  match l, hl with
  | [c0, c1, c2], _ =>
    obtain ⟨fuel, hf⟩ := h
    obtain ⟨y0, y1, y2, n, _, t0, t1, t2⟩ := trod_array3 Tryd.underlying50 hc1 (c0 := c0) (c1 := c1) (c2 := c2) hf
    obtain ⟨n0, q0, _, w0⟩ := DataW.trod_int Tryd.underlying3 t0
    obtain ⟨n1, q1, _, w1⟩ := DataW.trod_int Tryd.underlying3 t1
    obtain ⟨n2, q2, _, w2⟩ := DataW.trod_int Tryd.underlying3 t2
    simp only [List.cons.injEq, and_true] at q0 q1 q2
    subst q0 q1 q2
    exact ⟨n0, n1, n2, rfl, bounds_i64 w0, bounds_i64 w1, bounds_i64 w2⟩
end Go.Proofs.YtdjfdobcjakmhaaDoor
end

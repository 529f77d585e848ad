/- Texts of one proof, put together: BiS, BiA, BiB, ArB, HrE, HrF. -/
import Derived.Test.YtekieioffaafaaaDoorMg14
import Derived.Test.YtekieioffaafaaaDoorMg03
import Derived.Test.YtekieioffaafaaaDoorMg02
import Derived.Test.YtekieioffaafaaaDoorMg11
import Derived.StillTailTactics
import Derived.Test.YtekieioffaafaaaDoorMg15
section
/- Plain facts of terms of two arenas; a map of pairs in memory. -/
set_option linter.unusedSimpArgs false
set_option linter.unusedVariables false
namespace Go.Proofs.YtekieioffaafaaaDoor
open Go.RowKit Go.Maps

/-- Terms of two arenas that are the same tree are made of the same. -/
structure SameP (es ds : List Nd) (x y : Nat) : Prop where
  op : (es.getD x nd0).op = (ds.getD y nd0).op
  n : (es.getD x nd0).n = (ds.getD y nd0).n
  s : (es.getD x nd0).s = (ds.getD y nd0).s
  len : (es.getD x nd0).l.length = (ds.getD y nd0).l.length
  parts : ∀ i, i < (es.getD x nd0).l.length → ∃ a b : Nat, (es.getD x nd0).l.getD i 0 = (a : Int) ∧ (ds.getD y nd0).l.getD i 0 = (b : Int) ∧ a < x ∧ b < y ∧ den es a = den ds b
theorem same_p {es ds : List Nd} (hg : Good es) (hd : Good ds) {x y : Nat} (hx : x < es.length) (hy : y < ds.length) (h : den es x = den ds y) : SameP es ds x y := by
  rw [den_eq hg (by omega) (by omega), den_eq hd (by omega) (by omega)] at h
  simp only [Int.toNat_natCast] at h
  have m1 := hg.lesser hx
  have m2 := hd.lesser hy
  obtain ⟨d, hd1⟩ : ∃ d, es.getD x nd0 = d := ⟨_, rfl⟩
  obtain ⟨e, he1⟩ : ∃ e, ds.getD y nd0 = e := ⟨_, rfl⟩
  rw [hd1] at h m1
  rw [he1] at h m2
  unfold trN at h
  injection h with h1 h2 h3 h4
  have hl : d.l.length = e.l.length := by simpa using congrArg List.length h4
  refine ⟨by rw [hd1, he1]; exact h1, by rw [hd1, he1]; exact h2, by rw [hd1, he1]; exact h3, by rw [hd1, he1]; exact hl, fun i hi => ?_⟩
  rw [hd1] at hi ⊢
  rw [he1]
  have hi2 : i < e.l.length := by omega
  have h5 : den es d.l[i] = den ds e.l[i] := by
    have := congrArg (·[i]?) h4
    simp only [List.getElem?_map, List.getElem?_eq_getElem hi, List.getElem?_eq_getElem hi2, Option.map_some, Option.some.injEq] at this
    exact this
  obtain ⟨a0, a1⟩ := m1 d.l[i] (List.getElem_mem hi)
  obtain ⟨b0, b1⟩ := m2 e.l[i] (List.getElem_mem hi2)
  refine ⟨d.l[i].toNat, e.l[i].toNat, ?_, ?_, by omega, by omega, ?_⟩
  · rw [List.getD_eq_getElem?_getD, List.getElem?_eq_getElem hi, Option.getD_some]; omega
  · rw [List.getD_eq_getElem?_getD, List.getElem?_eq_getElem hi2, Option.getD_some]; omega
  · rw [Int.toNat_of_nonneg a0, Int.toNat_of_nonneg b0]; exact h5

/-- What was met: pairs, each once, that are the same. -/
structure Met (es ds : List Nd) (n : Nat) (D : DataW Unit) (ks : List (Nat × Nat)) : Prop where
  nd : ks.Nodup
  len : n = ks.length
  ok : ∀ p ∈ ks, p.1 < es.length ∧ p.2 < ds.length ∧ den es p.1 = den ds p.2
  no : ∀ a b : Nat, a < es.length → b < ds.length → (a, b) ∉ ks → D.atKey (.string (k2 a b)) (.lit (.bool false)) = .lit (.bool false)
  val : ∀ p ∈ ks, D.atKey (.string (k2 p.1 p.2)) (.lit (.bool false)) = .lit (.bool true)
/-- No more pairs are met than terms are there. -/
theorem Met.le {es ds : List Nd} (hd : Good ds) {n : Nat} {D : DataW Unit} {ks : List (Nat × Nat)} (h : Met es ds n D ks) : n ≤ es.length := by
  rw [h.len]
  have h1 : (ks.map (·.1)).Nodup := by
    refine List.pairwise_map.2 ((List.Pairwise.and_mem.1 h.nd).imp fun {a b} q => ?_)
    obtain ⟨ha, hb, hne⟩ := q
    intro he
    apply hne
    obtain ⟨a1, a2, a3⟩ := h.ok a ha
    obtain ⟨b1, b2, b3⟩ := h.ok b hb
    rw [he, b3] at a3
    have := den_inj hd (b.2 + 1) (b.2 : Int) (a.2 : Int) (by omega) ⟨by omega, by omega⟩ ⟨by omega, by omega⟩ a3
    exact Prod.ext he (by omega)
  have h2 : (ks.map (·.1)) ⊆ List.range es.length := fun x hx => by
    obtain ⟨p, hp, rfl⟩ := List.mem_map.1 hx
    exact List.mem_range.2 (h.ok p hp).1
  have := h1.length_le_of_subset h2
  simpa using this
theorem Met.nil (es ds : List Nd) : Met es ds 0 (.map []) [] := ⟨List.Pairwise.nil, rfl, fun _ h => absurd h List.not_mem_nil, fun _ _ _ _ _ => by rfl, fun _ h => absurd h List.not_mem_nil⟩
theorem Met.put {es ds : List Nd} (le : es.length ≤ 100000) (ld : ds.length ≤ 100000) {n : Nat} {D : DataW Unit} {ks : List (Nat × Nat)} (h : Met es ds n D ks) (hm : IsMap D) {x y : Nat} (hx : x < es.length) (hy : y < ds.length) (he : den es x = den ds y) (hnew : (x, y) ∉ ks) : Met es ds (n + 1) (D.put (.string (k2 x y)) (.lit (.bool true))) ((x, y) :: ks) := by
  refine ⟨List.nodup_cons.2 ⟨hnew, h.nd⟩, by rw [h.len]; rfl, fun p hp => ?_, fun a b ha hb hab => ?_, fun p hp => ?_⟩
  · rcases List.mem_cons.1 hp with rfl | hp
    · exact ⟨hx, hy, he⟩
    · exact h.ok p hp
  · have hne : (Lit.string (k2 a b)) ≠ .string (k2 x y) := fun e => by
      injection e with e
      obtain ⟨e1, e2⟩ := k2_inj (a := (a : Int)) (b := b) (c := x) (d := y) ⟨by omega, by omega⟩ ⟨by omega, by omega⟩ ⟨by omega, by omega⟩ ⟨by omega, by omega⟩ e
      exact hab (List.mem_cons.2 (.inl (Prod.ext (by omega) (by omega))))
    rw [atKey_put_other hne]
    exact h.no a b ha hb (fun q => hab (List.mem_cons_of_mem _ q))
  · rcases List.mem_cons.1 hp with rfl | hp
    · exact atKey_put_same hm (by first | trivial | exact (by decide) | simp [WideAt.IsKeyLit]) _ _
    · obtain ⟨a1, a2, _⟩ := h.ok p hp
      have hne : (Lit.string (k2 p.1 p.2)) ≠ .string (k2 x y) := fun e => by
        injection e with e
        obtain ⟨e1, e2⟩ := k2_inj (a := (p.1 : Int)) (b := p.2) (c := x) (d := y) ⟨by omega, by omega⟩ ⟨by omega, by omega⟩ ⟨by omega, by omega⟩ ⟨by omega, by omega⟩ e
        exact hnew (by rw [show (x, y) = p from Prod.ext (by omega) (by omega)]; exact hp)
      rw [atKey_put_other hne]
      exact h.val p hp
/-- The map of pairs, in block mb. -/
def MetM (w : World) (mb : Nat) (es ds : List Nd) (ks : List (Nat × Nat)) : Prop := ∃ (n : Nat) (D : DataW Unit), w.ownsMap Tryd.prog 73 (plainElem Tryd.prog 4) mb n D ∧ Met es ds n D ks
theorem MetM.turn {F : Nat → Prop} {w w' : World} {mb : Nat} {es ds : List Nd} {ks : List (Nat × Nat)} (h : MetM w mb es ds ks) (k : Turn F w w') (hn : ¬ F mb) : MetM w' mb es ds ks := by
  obtain ⟨n, D, h1, h2⟩ := h
  exact ⟨n, D, ownsMap_turn h1 k hn, h2⟩
theorem MetM.kept {w w' : World} {mb : Nat} {es ds : List Nd} {ks : List (Nat × Nat)} (h : MetM w mb es ds ks) (k : Kept w w') : MetM w' mb es ds ks := h.turn (k.turn (fun _ => False)) id
theorem MetM.lt {w : World} {mb : Nat} {es ds : List Nd} {ks : List (Nat × Nat)} (h : MetM w mb es ds ks) : mb < w.heap.size := by
  obtain ⟨n, D, ⟨es, clock, hb, _⟩, _⟩ := h
  exact (Array.getElem?_eq_some_iff.1 hb).1
/-- 'm[k]' of a map of bools. -/
theorem wpList_lookup_own_bool {H : Type} {P : Program} (w : World) {ops : Array Oper} {rest : List Oper} {o : Oper} {a : Act} {Q : Exit → Act → World → Prop}
    (hg : o.guard = none) (m x : Operand) (t : TypeId) (hop : o.op = Op.lookup t m x false)
    (k e : TypeId) (K : Keyed P k) (ht : P.underlying t = some (.map k e)) (he : P.underlying e = some .bool) (hz : (zeroValue e).run P w = .ok (.bool false) w) (b n : Nat) (D : DataW H)
    (hm : a.eval m = .map (some b)) (hown : w.ownsMap P k (plainElem P e) b n D) (key : Value) (kl : Lit) (hx : a.eval x = key) (hkey : keyOf P k key = some kl)
    (hK : ∀ c : Bool, D.atKey kl (.lit (.bool false)) = .lit (.bool c) → wpList P ops Q rest (a.put o.dst (.bool c)) w) :
    wpList P ops Q (o :: rest) a w := by
  refine wpList_plain hg fun K' hK' => ?_
  obtain ⟨v, ps, hrun, hv⟩ := hown.lookup K ht hz (plainElem_bool he false) hkey
  have hvb : ∃ c, v = .bool c ∧ D.atKey kl (.lit (.bool false)) = .lit (.bool c) := by
    unfold plainElem at hv
    rw [he] at hv
    cases v <;> simp at hv
    exact ⟨_, rfl, hv.1.symm⟩
  obtain ⟨c, rfl, hat⟩ := hvb
  unfold Oper.wp
  simp [execOp, hop, hm, hx, hrun, Result.andThen]
  exact hK' _ _ (hK c hat)
theorem zeroBool (w : World) : (zeroValue 4).run Tryd.prog w = .ok (.bool false) w := by kernel_rfl
end Go.Proofs.YtekieioffaafaaaDoor
end

section
/- The document's Bisim: terms of two arenas that are the same. -/
set_option linter.unusedSimpArgs false
set_option linter.unusedVariables false
namespace Go.Proofs.YtekieioffaafaaaDoor
open Go.RowKit Go.Maps

/-- v is a slice of nodes, and stays so where F turns. -/
def RdNsU (F : Nat → Prop) (w : World) (v : Value) (ds : List Nd) : Prop :=
  ∃ lvs : List Value, lvs.length = ds.length ∧ ∀ W, Turn F w W → Rdv 4 W v ds.length (flat ds lvs) ∧ ∀ i, i < ds.length → RdI W (lvs.getD i undef) (ds.getD i nd0).l
theorem RdNsU.rd {F : Nat → Prop} {w : World} {v : Value} {ds : List Nd} (h : RdNsU F w v ds) : RdNs w v ds := by
  obtain ⟨lvs, h1, h2⟩ := h
  obtain ⟨a, b⟩ := h2 w (Turn.refl _ _)
  exact ⟨lvs, h1, a, b⟩
theorem RdNsU.turn {F : Nat → Prop} {w w' : World} {v : Value} {ds : List Nd} (h : RdNsU F w v ds) (k : Turn F w w') : RdNsU F w' v ds := by
  obtain ⟨lvs, h1, h2⟩ := h
  exact ⟨lvs, h1, fun W t => h2 W (Turn.trans k t (fun x hx => .inl hx))⟩
theorem RdNsU.at {F : Nat → Prop} {w : World} {v : Value} {ds : List Nd} (h : RdNsU F w v ds) {k : Nat} (hk : k < ds.length) : ∃ nb noff ncap la lc, v = .slice (some ⟨nb, noff, none⟩) ds.length ncap ∧
    ∀ W, Turn F w W → (W.cell? ⟨nb, noff + k * 4, none⟩ = some (.int .i64 (ds.getD k nd0).op) ∧ W.cell? ⟨nb, noff + k * 4 + 1, none⟩ = some (.int .i64 (ds.getD k nd0).n) ∧ W.cell? ⟨nb, noff + k * 4 + 2, none⟩ = some (.string (strB (ds.getD k nd0).s)) ∧ W.cell? ⟨nb, noff + k * 4 + 3, none⟩ = some (.slice la (ds.getD k nd0).l.length lc)) ∧
    RdI W (.slice la (ds.getD k nd0).l.length lc) (ds.getD k nd0).l := by
  obtain ⟨lvs, h1, h2⟩ := h
  obtain ⟨⟨ao, cap, rfl, hl, hc, hm, hno, hcell⟩, hr⟩ := h2 w (Turn.refl _ _)
  obtain ⟨la, lc, hlv, _, _, _⟩ := (hr k hk).len
  cases ao with
  | none => have := hno rfl; omega
  | some ad =>
    obtain ⟨b, off, spot⟩ := ad
    have h0 := hcell _ rfl 0 (.int .i64 (ds.getD 0 nd0).op) (by have := flat_at ds lvs 0 0 (by omega) (by omega); simpa [ndCells] using this)
    obtain rfl : spot = none := by simpa [Addr.add] using World.cell?_spot h0
    refine ⟨b, off, cap, la, lc, rfl, fun W t => ?_⟩
    obtain ⟨⟨ao', cap', e, _, _, _, _, hcell'⟩, hr'⟩ := h2 W t
    simp only [Value.slice.injEq] at e
    obtain ⟨rfl, _, rfl⟩ := e
    have hg : ∀ j u, j < 4 → (ndCells (ds.getD k nd0) (lvs.getD k undef))[j]? = some u → W.cell? ⟨b, off + k * 4 + j, none⟩ = some u := by
      intro j u hj hu
      have := hcell' _ rfl (k * 4 + j) u ((flat_at ds lvs k j hk hj).trans hu)
      rw [Addr.add_lit] at this
      rwa [Nat.add_assoc]
    have h3 := hr' k hk
    rw [hlv] at h3
    exact ⟨⟨hg 0 _ (by omega) rfl, hg 1 _ (by omega) rfl, hg 2 _ (by omega) rfl, by rw [← hlv]; exact hg 3 _ (by omega) rfl⟩, h3⟩
/-- An arena's nodes stay where F turns, if its memory is apart. -/
theorem ArG.nodesU {T : TypeId} {key : Nd → List UInt8} {F G : Nat → Prop} {w : World} {p : Value} {ds : List Nd} (h : ArG T key G w p ds) (hd : ∀ b, G b → ¬ F b) :
    ∃ (pb mb : Nat) (nv : Value), p = .pointer (some ⟨pb, 0, none⟩) ∧ (∀ W, Turn F w W → W.cell? ⟨pb, 0, none⟩ = some nv) ∧ RdNsU F w nv ds := by
  obtain ⟨pb, mb, n, nv, lvs, D, h1, h2, h3, h4, h5, h6, h7, h8, h9, h10, h11, h12⟩ := h.rep
  exact ⟨pb, mb, nv, h1, fun W t => (h2.turn t (hd _ h9)).cell 0, lvs, h4, fun W t => ⟨(Ownv.turn h3 t fun b hb => hd b (h11 b hb)).rdv, fun i hi => (Ownv.turn (h5 i hi) t fun b hb => hd b (h12 i hi b hb)).rdv⟩⟩
/-- What Bisim is handed. -/
structure BiIn (G : Nat → Prop) (w : World) (p lv : Value) (mb : Nat) (es ds : List Nd) : Prop where
  ar : ArR G w p es
  apart : ¬ G mb
  l : RdNsU (fun b => b = mb) w lv ds
theorem BiIn.turn {G : Nat → Prop} {w w' : World} {p lv : Value} {mb : Nat} {es ds : List Nd} (h : BiIn G w p lv mb es ds) (k : Turn (fun b => b = mb) w w') : BiIn G w' p lv mb es ds :=
  ⟨ArG.turn h.ar k (fun b hb e => h.apart (e ▸ hb)), h.apart, h.l.turn k⟩
def BiPost (w : World) (mb : Nat) (es ds : List Nd) (ks : List (Nat × Nat)) (x : Nat) (e : Ending) (w' : World) : Prop :=
  e = .returned (.bool true) ∧ Turn (fun b => b = mb) w w' ∧ ∃ ks', MetM w' mb es ds ks' ∧ ∀ q ∈ ks', q ∈ ks ∨ q.1 ≤ x

set_option maxHeartbeats 8000000 in
set_option maxRecDepth 100000 in
theorem bisim_any {G : Nat → Prop} {p lv : Value} {mb : Nat} {es ds : List Nd} (hg : Good es) (hd : Good ds) (le : es.length ≤ 100000) (ld : ds.length ≤ 100000) : ∀ (k x y : Nat), x < k → x < es.length → y < ds.length → den es x = den ds y →
    ∀ (w : World) (ks : List (Nat × Nat)), BiIn G w p lv mb es ds → MetM w mb es ds ks →
    Calls Tryd.prog 16 #[p, lv, .int .i64 (x : Int), .int .i64 (y : Int), .map (some mb)] w (BiPost w mb es ds ks x) := by
  intro k
  induction k with
  | zero => intro x y h; omega
  | succ k ih =>
    intro x y hxk hx hy he w ks hin hm
    have sp := same_p hg hd hx hy he
    have IH := Lib.hid (fun (a b : Nat) (h1 : a < x) (h2 : b < y) (h3 : den es a = den ds b) => ih a b (by omega) (by omega) (by omega) h3)
    have hmlt := hm.lt
    obtain ⟨nq, D, own, met⟩ := hm
    have hml := met.le hd
    have HKEY := Shut.mk (keyPair (a := (x : Int)) (b := (y : Int)) ⟨by omega, by omega⟩ ⟨by omega, by omega⟩)
    have HLen := Lib.hid (lenR hin.ar)
    have HIN := Lib.hid hin
    obtain ⟨pb, mb', nv, rfl, hc0, hn⟩ := hin.ar.nodesU (F := fun b => b = mb) (fun b hb e => hin.apart (e ▸ hb))
    obtain ⟨nb, noff, ncap, la, lc, rfl, hcl⟩ := hn.at hx
    obtain ⟨mb2, moff, mcap, la2, lc2, rfl, hcl2⟩ := hin.l.at hy
    have q0 := hc0 w (Turn.refl _ _)
    obtain ⟨⟨a0, a1, a2, a3⟩, hr1⟩ := hcl w (Turn.refl _ _)
    obtain ⟨⟨b0, b1, b2, b3⟩, hr2⟩ := hcl2 w (Turn.refl _ _)
    have HC1 := Shut.mk (fun W (t : Turn (fun b => b = mb) w W) => (hcl W t).2)
    have HC2 := Shut.mk (fun W (t : Turn (fun b => b = mb) w W) => (hcl2 W t).2)
    have l64 : (es.getD x nd0).l.length ≤ 64 := (hg.may' hx).len64
    obtain ⟨sop, sn, ss, sl, spt⟩ := sp
    have HP := Shut.mk spt
    have x0 : (0 : Int) ≤ (x : Int) := by omega
    have x1 : (x : Int) < (es.length : Int) := by omega
    have y0 : (0 : Int) ≤ (y : Int) := by omega
    have y1 : (y : Int) < (ds.length : Int) := by omega
    clear hcl hcl2 hc0 hn hin ih spt hr1 hr2
    rw [← sop] at b0
    rw [← sn] at b1
    rw [← ss] at b2
    rw [← sl] at b3 HC2
    have HDE := Shut.mk he
    have HX := Shut.mk (And.intro hx hy)
    have HSL := Shut.mk sl
    clear he hx hy sop sn ss sl
    generalize (es.getD x nd0) = dx at *
    generalize (ds.getD y nd0) = dy at *
    obtain ⟨op, n, s, l⟩ := dx
    simp only at a0 a1 a2 a3 b0 b1 b2 b3 HC1 HC2 HP l64
    generalize strB s = X at *
    by_cases hmem : (x, y) ∈ ks
    · have hv := met.val _ hmem
      go_enter Tryd.func16, Tryd.ntmps16
      go_wp2_with (at_lookup; refine wpList_lookup_own_bool _ rfl _ _ 42 rfl 73 4 pair_keyed Tryd.underlying42 Tryd.underlying4 (zeroBool _) mb nq D rfl own _ _ rfl HKEY.out ?_; intro c hat; rw [hv] at hat; obtain rfl : c = true := by (injection hat with hat; injection hat with hat; exact hat.symm))
      go_ret
      exact ⟨rfl, Turn.refl _ _, ks, ⟨nq, D, own, met⟩, fun q hq => .inl hq⟩
    · have hv := met.no x y HX.out.1 HX.out.2 hmem
      have HNEW := Shut.mk hmem
      clear hmem
      have k1 : Kept w (w.alloc (.cells #[.int .i64 op, .int .i64 n, .string X, .slice la l.length lc] 64)) := (Kept.refl w).alloc _
      have d0 := (k1.cell (p := ⟨mb2, moff + y * 4, none⟩) (World.block_lt_of_cell? _ _ b0)).trans b0
      have d1 := (k1.cell (p := ⟨mb2, moff + y * 4 + 1, none⟩) (World.block_lt_of_cell? _ _ b1)).trans b1
      have d2 := (k1.cell (p := ⟨mb2, moff + y * 4 + 2, none⟩) (World.block_lt_of_cell? _ _ b2)).trans b2
      have d3 := (k1.cell (p := ⟨mb2, moff + y * 4 + 3, none⟩) (World.block_lt_of_cell? _ _ b3)).trans b3
      clear b0 b1 b2 b3
      go_enter Tryd.func16, Tryd.ntmps16
      go_wp2_with (at_lookup; refine wpList_lookup_own_bool _ rfl _ _ 42 rfl 73 4 pair_keyed Tryd.underlying42 Tryd.underlying4 (zeroBool _) mb nq D rfl own _ _ rfl HKEY.out ?_; intro c hat; rw [hv] at hat; obtain rfl : c = false := by (injection hat with hat; injection hat with hat; exact hat.symm))
      (with_reducible refine HLen.out.mono ?_); rintro e w1 ⟨rfl, rfl⟩
      go_wp2
      rename_i u3 u2 u1 uK uA
      clear u1 u2 u3 x0 x1 y0 y1
      have bA : Blk ((w.alloc (.cells #[.int .i64 op, .int .i64 n, .string X, .slice la l.length lc] 64)).alloc (.cells #[.int .i64 op, .int .i64 n, .string X, .slice la2 l.length lc2] 64)) w.heap.size 64 [.int .i64 op, .int .i64 n, .string X, .slice la l.length lc] := (Blk.new w _ _).kept ((Kept.refl _).alloc _)
      have bB := Blk.new (w.alloc (.cells #[.int .i64 op, .int .i64 n, .string X, .slice la l.length lc] 64)) [.int .i64 op, .int .i64 n, .string X, .slice la2 l.length lc2] 64
      rw [World.size_alloc] at bB
      have kw2 : Kept w ((w.alloc (.cells #[.int .i64 op, .int .i64 n, .string X, .slice la l.length lc] 64)).alloc (.cells #[.int .i64 op, .int .i64 n, .string X, .slice la2 l.length lc2] 64)) := k1.alloc _
      have m2 : MetM ((w.alloc (.cells #[.int .i64 op, .int .i64 n, .string X, .slice la l.length lc] 64)).alloc (.cells #[.int .i64 op, .int .i64 n, .string X, .slice la2 l.length lc2] 64)) mb es ds ks := MetM.kept ⟨nq, D, own, met⟩ kw2
      clear own met d0 d1 d2 d3 a0 a1 a2 a3 k1 HLen q0
      have HA := Lib.hid bA
      have HB := Lib.hid bB
      clear bA bB
      generalize ((w.alloc (.cells #[.int .i64 op, .int .i64 n, .string X, .slice la l.length lc] 64)).alloc (.cells #[.int .i64 op, .int .i64 n, .string X, .slice la2 l.length lc2] 64)) = w2 at *
      have l63 : ((l.length : Nat) : Int) ≤ 9223372036854775807 := by omega
      go_loopw [79] (fun i wr => ∃ (j : Nat) (ks' : List (Nat × Nat)), j ≤ l.length ∧ i = .int .i64 j ∧ MetM wr mb es ds ks' ∧ (∀ q ∈ ks', q ∈ ks ∨ q.1 < x) ∧ Turn (fun b => b = mb) w2 wr) (fun i _ => l.length - (intOf i).toNat)
      case atStart => exact ⟨0, ks, Nat.zero_le _, rfl, m2, fun q hq => .inl hq, Turn.refl _ _⟩
      case round =>
        obtain ⟨j, ks', hj0, rfl, hmr, hks, htr⟩ := hrel
        have HKS := Shut.mk hks
        clear hks
        have c3 := (HA.out.turn htr (fun e => Nat.ne_of_gt hmlt e)).cell 3
        have e3 := (HB.out.turn htr (fun e => absurd hmlt (by omega))).cell 3
        simp only [List.getElem?_cons_succ, List.getElem?_cons_zero] at c3 e3
        have tw : Turn (fun b => b = mb) w wr := Turn.trans (kw2.turn _) htr (fun x hx => .inl hx)
        by_cases hlt : j < l.length
        · obtain ⟨a, b, ha, hb, hax, hby, hab⟩ := HP.out j hlt
          obtain ⟨rb, ro, rc, hrv, _, _, hrb, hcl⟩ := (HC1.out wr tw).addr (by omega)
          simp only [Value.slice.injEq] at hrv
          obtain ⟨rfl, hdrop, rfl⟩ := hrv
          clear hdrop
          have f1 := hcl j hlt
          rw [ha] at f1
          clear hcl
          have hsl := HSL.out
          obtain ⟨sb, so, sc, hsv, _, _, hsb, hcl⟩ := (HC2.out wr tw).addr (by omega)
          simp only [Value.slice.injEq] at hsv
          obtain ⟨rfl, hdrop, rfl⟩ := hsv
          clear hdrop
          have g1 := hcl j (by omega)
          rw [hb] at g1
          clear hcl hsl
          have HCall := Lib.hid (fun W (kd : Kept wr W) => IH.out a b hax hby hab W ks' (HIN.out.turn (Turn.trans tw (kd.turn (fun b => b = mb)) (fun x hx => .inl hx))) (hmr.kept kd))
          have HQ := Shut.mk (And.intro hax hlt)
          clear ha hb hax hby hab hmr
          go_wp2
          go_still_tail 13, (by kernel_rfl)
          change wpList _ _ _ _ _ wr.drew
          have kd : Kept wr wr.drew := (Kept.refl wr).drew
          generalize wr.drew = w3 at kd ⊢
          go_wp2_with fail
          (with_reducible refine (HCall.out _ kd).mono ?_); rintro e w4 ⟨rfl, t4, ks4, m4, hs4⟩
          go_wp2
          go_roundw
          case rel =>
            refine ⟨j + 1, ks4, hlt, rfl, m4, fun q hq => ?_, Turn.trans htr (Turn.trans (kd.turn _) t4 (fun x hx => .inl hx)) (fun x hx => .inl hx)⟩
            rcases hs4 q hq with c | c
            · exact HKS.out q c
            · have := HQ.out.1
              exact .inr (by omega)
          case measure => simp [intOf]; omega
        · obtain rfl : j = l.length := by omega
          obtain ⟨n3, D3, own3, met3⟩ := hmr
          have h3l := met3.le hd
          have hnew : (x, y) ∉ ks' := fun h => by
            rcases HKS.out _ h with c | c
            · exact HNEW.out c
            · simp only at c; omega
          have hput := met3.put le ld own3.isMap HX.out.1 HX.out.2 HDE.out hnew
          clear hnew met3
          go_wp2_with (at_mapUpdate; (refine wpList_mapUpdate_own _ rfl _ _ _ 42 rfl 73 4 pair_keyed Tryd.underlying42 (plainElem Tryd.prog 4) mb n3 D3 rfl own3 (by unfold maxLen; omega) _ _ (.string (k2 x y)) rfl rfl HKEY.out (.lit (.bool true)) [] (plainElem_bool Tryd.underlying4 true) ?_); intro w8 own8 hg8)
          go_ret
          refine ⟨rfl, Turn.trans tw ((Grown.turn hg8).mono fun b hb => by simpa using hb) (fun x hx => .inl hx), (x, y) :: ks', ⟨_, _, own8, hput⟩, fun q hq => ?_⟩
          rcases List.mem_cons.1 hq with rfl | hq
          · exact .inr (Nat.le_refl _)
          · rcases HKS.out q hq with c | c
            · exact .inl c
            · exact .inr (by omega)
end Go.Proofs.YtekieioffaafaaaDoor
end

section
/- A list of nodes of the call's own; the law's dump. -/
set_option linter.unusedSimpArgs false
set_option linter.unusedVariables false
namespace Go.Proofs.YtekieioffaafaaaDoor
open Go.RowKit Go.Maps

/-- v is a slice of nodes of the call's own (blocks from B on). -/
def OwnNs (B : Nat) (w : World) (v : Value) (ds : List Nd) : Prop :=
  ∃ lvs : List Value, lvs.length = ds.length ∧ Ownv B 64 4 w v ds.length (flat ds lvs) ∧ ∀ i, i < ds.length → OwnI B w (lvs.getD i undef) (ds.getD i nd0).l ∧ ∀ b, Blks (lvs.getD i undef) b → ¬ Blks v b
theorem OwnNs.nil (B : Nat) (w : World) : OwnNs B w (.slice none 0 0) [] := ⟨[], rfl, World.ownsRow_nil w B _ 4, fun i h => absurd h (Nat.not_lt_zero _)⟩
theorem OwnNs.turn {B : Nat} {w w' : World} {v : Value} {ds : List Nd} {F : Nat → Prop} (h : OwnNs B w v ds) (k : Turn F w w') (hn : ∀ b, B ≤ b → b < w.heap.size → ¬ F b) : OwnNs B w' v ds := by
  obtain ⟨lvs, h1, h2, h3⟩ := h
  exact ⟨lvs, h1, Ownv.turn h2 k (fun b hb => hn b (Ownv.lt h2 hb).2 (Ownv.lt h2 hb).1), fun i hi => ⟨Ownv.turn (h3 i hi).1 k (fun b hb => hn b (Ownv.lt (h3 i hi).1 hb).2 (Ownv.lt (h3 i hi).1 hb).1), (h3 i hi).2⟩⟩
theorem OwnNs.kept {B : Nat} {w w' : World} {v : Value} {ds : List Nd} (h : OwnNs B w v ds) (k : Kept w w') : OwnNs B w' v ds := h.turn (k.turn (fun _ => False)) (fun _ _ _ q => q)
theorem OwnNs.rdU {B : Nat} {w : World} {v : Value} {ds : List Nd} {F : Nat → Prop} (h : OwnNs B w v ds) (hF : ∀ b, F b → b < B) : RdNsU F w v ds := by
  obtain ⟨lvs, h1, h2, h3⟩ := h
  exact ⟨lvs, h1, fun W t => ⟨(Ownv.turn h2 t fun b hb hf => by have := (Ownv.lt h2 hb).2; have := hF b hf; omega).rdv, fun i hi => (Ownv.turn (h3 i hi).1 t fun b hb hf => by have := (Ownv.lt (h3 i hi).1 hb).2; have := hF b hf; omega).rdv⟩⟩
/-- append of one node to nodes of the call's own. -/
theorem go_app_node {w : World} {ops : Array Oper} {rest : List Oper} {a : Act} {Q : Exit → Act → World → Prop} {d : Option Tmp} {ty : TypeId} {ps : String} {af : Array Edge} {s x : Operand}
    (B : Nat) (v : Value) (ds : List Nd) (hs : a.eval s = v) (ho : OwnNs B w v ds) (g : Nat) (dd : Nd) (lv : Value) (hx : a.eval x = .slice (some ⟨g, 0, none⟩) 1 1) (hb : Blk w g 64 (ndCells dd lv)) (hl : OwnI B w lv dd.l)
    (h63 : ds.length ≤ 200000) (hB : B ≤ w.heap.size)
    (hK : ∀ v' w', OwnNs B w' v' (ds ++ [dd]) → Turn (Blks v) w w' → (∀ b, Blks v' b → Blks v b ∨ w.heap.size ≤ b) → wpList Tryd.prog ops Q rest (a.put d v') w') :
    wpList Tryd.prog ops Q (⟨d, .call { callee := .builtin .append, args := #[s, x], argTypes := #[40, 40] }, ty, ps, af, none⟩ :: rest) a w := by
  obtain ⟨i0, hi, hz0, hz1, hz2⟩ := info_parts Tryd.infoNode
  obtain ⟨lvs, h1, h2, h3⟩ := ho
  have hap : ∀ b, Blks lv b → ¬ Blks v b := fun b hb => Ownv.apart hl h2 (by decide) hb
  obtain ⟨la, lc, rfl, _, _, _⟩ := (OwnI.rd hl).len
  refine go_app_at B 64 4 56 i0 _ Tryd.underlying40 hi hz0 hz1 hz2 rfl (by decide) v ds.length (flat ds lvs) hs h2 _ 1 (ndCells dd (.slice la dd.l.length lc)) hx (RdvBlk hb rfl (by unfold maxLen; decide)) (by simp [ndCells, Value.oneCell']) (by unfold maxLen; omega) (by omega) hB ?_
  intro v' w' ho' ht hloc
  refine hK v' w' ⟨lvs ++ [.slice la dd.l.length lc], by simp [h1], by rw [flat_snoc ds lvs h1, List.length_append, List.length_singleton]; exact ho', fun i hi => ?_⟩ ht hloc
  rw [List.length_append, List.length_singleton] at hi
  by_cases c : i < ds.length
  · rw [List.getD_eq_getElem?_getD, List.getElem?_append_left (by omega), ← List.getD_eq_getElem?_getD, List.getD_eq_getElem?_getD (l := ds ++ [dd]), List.getElem?_append_left c, ← List.getD_eq_getElem?_getD]
    refine ⟨Ownv.turn (h3 i c).1 ht fun b hb => (h3 i c).2 b hb, fun b hb hv => ?_⟩
    rcases hloc b hv with q | q
    · exact (h3 i c).2 b hb q
    · have := (Ownv.lt (h3 i c).1 hb).1; omega
  · obtain rfl : i = ds.length := by omega
    have e1 : (lvs ++ [Value.slice la dd.l.length lc]).getD ds.length undef = .slice la dd.l.length lc := by
      rw [List.getD_eq_getElem?_getD, List.getElem?_append_right (by omega), h1]; simp
    have e2 : (ds ++ [dd]).getD ds.length nd0 = dd := by
      rw [List.getD_eq_getElem?_getD, List.getElem?_append_right (by omega)]; simp
    rw [e1, e2]
    refine ⟨Ownv.turn hl ht hap, fun b hb hv => ?_⟩
    rcases hloc b hv with q | q
    · exact hap b hb q
    · have := (Ownv.lt hl hb).1; omega

def DumpPost (w : World) (ds : List Nd) (e : Ending) (w' : World) : Prop := ∃ v, e = .returned v ∧ OwnNs w.heap.size w' v ds ∧ Kept w w'
end Go.Proofs.YtekieioffaafaaaDoor
end

section
/- The document's arena, told as the program's is (At): Make. -/
set_option linter.unusedSimpArgs false
set_option linter.unusedVariables false
namespace Go.Proofs.YtekieioffaafaaaDoor
open Go.RowKit Go.Maps

/-- Since w0 nothing of it has turned; p is the document's arena with the terms ds, apart from S. -/
structure AtR (w0 : World) (S : Nat → Prop) (w : World) (p : Value) (ds : List Nd) : Prop where
  ar : ∃ F, ArR F w p ds ∧ ∀ b, F b → ¬ S b
  old : ∀ b, S b → b < w.heap.size
  base : ∀ b, b < w0.heap.size → S b
  kept : Kept w0 w
theorem AtR.good {w0 : World} {S : Nat → Prop} {w : World} {p : Value} {ds : List Nd} (h : AtR w0 S w p ds) : Good ds := by
  obtain ⟨F, h1, _⟩ := h.ar
  exact h1.good
theorem AtR.few {w0 : World} {S : Nat → Prop} {w : World} {p : Value} {ds : List Nd} (h : AtR w0 S w p ds) : ds.length ≤ 100000 := by
  obtain ⟨F, h1, _⟩ := h.ar
  exact h1.few
theorem AtR.step {w0 : World} {S : Nat → Prop} {w w' : World} {p : Value} {ds : List Nd} (h : AtR w0 S w p ds) (k : Kept w w') : AtR w0 S w' p ds := by
  obtain ⟨F, h1, h2⟩ := h.ar
  exact ⟨⟨F, ArG.kept h1 k, h2⟩, fun b hb => Nat.lt_of_lt_of_le (h.old b hb) k.size, h.base, h.kept.trans k⟩
theorem AtR.more {w0 : World} {S T : Nat → Prop} {w w' : World} {p : Value} {ds : List Nd} (h : AtR w0 S w p ds) (k : Kept w w') (hT : ∀ b, T b → (S b ∨ w.heap.size ≤ b) ∧ b < w'.heap.size) (hb : ∀ b, b < w0.heap.size → T b) : AtR w0 T w' p ds := by
  obtain ⟨F, h1, h2⟩ := h.ar
  refine ⟨⟨F, ArG.kept h1 k, fun b hF hTb => ?_⟩, fun b hTb => (hT b hTb).2, hb, h.kept.trans k⟩
  rcases (hT b hTb).1 with c | c
  · exact h2 b hF c
  · exact absurd (h1.lt b hF) (by omega)
theorem AtR.back {w0 : World} {S T : Nat → Prop} {w : World} {p : Value} {ds : List Nd} (h : AtR w0 T w p ds) (hs : ∀ b, S b → T b) (hb : ∀ b, b < w0.heap.size → S b) : AtR w0 S w p ds :=
  h.more (Kept.refl w) (fun b hb => ⟨.inl (hs b hb), h.old b (hs b hb)⟩) hb
theorem AtR.turn {w0 : World} {S G : Nat → Prop} {w w' : World} {p : Value} {ds : List Nd} (h : AtR w0 S w p ds) (k : Turn G w w') (hG : ∀ b, G b → S b ∧ w0.heap.size ≤ b) : AtR w0 S w' p ds := by
  obtain ⟨F, h1, h2⟩ := h.ar
  exact ⟨⟨F, ArG.turn h1 k (fun b hF hg => h2 b hF (hG b hg).1), h2⟩, fun b hb => Nat.lt_of_lt_of_le (h.old b hb) k.size, h.base, Turn.keptOf h.kept k (fun b hb => (hG b hb).2)⟩
/-- What a call answers that makes a term. -/
def MkPostR (w0 : World) (S : Nat → Prop) (w : World) (p : Value) (r : List Nd × Int × Int) (e : Ending) (w' : World) : Prop :=
  e = .returned (.tuple #[.int .i64 r.2.1, .int .i64 r.2.2]) ∧ AtR w0 S w' p r.1 ∧ Keep S w w'
theorem postR_of {w0 : World} {S F F' : Nat → Prop} {w w' : World} {p : Value} {ds es : List Nd} (h : AtR w0 S w p ds) (hF : ∀ b, F b → ¬ S b) (r1 : ArR F' w' p es) (r2 : Turn F w w') (r3 : ∀ b, F' b → F b ∨ w.heap.size ≤ b) :
    AtR w0 S w' p es ∧ Keep S w w' := by
  have hk : Keep S w w' := r2.mono fun b hb => hF b hb
  refine ⟨⟨⟨F', r1, fun b hb hs => ?_⟩, fun b hb => Nat.lt_of_lt_of_le (h.old b hb) r2.size, h.base, hk.of h.kept h.base⟩, hk⟩
  rcases r3 b hb with c | c
  · exact hF b c hs
  · exact absurd (h.old b hs) (by omega)
theorem makeAR {w0 : World} {S : Nat → Prop} {w : World} {p : Value} {ds : List Nd} (h : AtR w0 S w p ds) {v : Value} {d : Nd} (hd : RdN w v d) (hok : NdOk d) :
    Calls Tryd.prog 61 #[p, v] w (MkPostR w0 S w p (mk ds d)) := by
  obtain ⟨F, h1, h2⟩ := h.ar
  refine (makeR_any h1 hd hok).mono ?_
  rintro e w' ⟨F', rfl, r1, r2, r3⟩
  exact ⟨rfl, postR_of h h2 r1 r2 r3⟩
end Go.Proofs.YtekieioffaafaaaDoor
end

section
/- The document's terms and keys (layers 3 and 4), as trees: Of, List, Text, bad, Expand, Derive. -/
set_option linter.unusedSimpArgs false
set_option linter.unusedVariables false
namespace Go.Proofs.YtekieioffaafaaaDoor
open Go.RowKit Go.Maps

/-- What a call leaves that makes terms, no more than n, and of the one it answers Q. -/
def RMk (w0 : World) (S : Nat → Prop) (w : World) (p : Value) (ds : List Nd) (n : Nat) (Q : List Nd → Int → Prop) (e : Ending) (w' : World) : Prop :=
  ∃ (r : List Nd) (t : Int), e = .returned (.tuple #[.int .i64 t, .int .i64 0]) ∧ AtR w0 S w' p (ds ++ r) ∧ r.length ≤ n ∧ Q (ds ++ r) t ∧ Keep S w w'
set_option maxHeartbeats 4000000 in
set_option maxRecDepth 100000 in
theorem ofR_ok {w0 : World} {S : Nat → Prop} {w : World} {p v : Value} {ds : List Nd} {op : Int} {l : List Int} (h : AtR w0 S w p ds) (hr : RdI w v l) (hm : May ds ⟨op, 0, [], l⟩) (hl : ds.length < 100000) :
    Calls Tryd.prog 42 #[p, .int .i64 op, v] w (RMk w0 S w p ds 1 (fun es t => Is es t ⟨op, 0, [], l⟩)) := by
  have h1 := hm.op1
  have h12 := hm.op12
  have hall := hm.all
  simp only at h1 h12 hall
  obtain ⟨r, t, hmk, hr1, his⟩ := mk_is hm hl
  have HM := Lib.hid (makeAR h (v := .agg #[.int .i64 op, .int .i64 0, .string (strB []), v]) (d := ⟨op, 0, [], l⟩) ⟨_, rfl, hr⟩ ⟨⟨by simp only; omega, by simp only; omega⟩, ⟨by simp, by simp⟩, by simp, fun x hx => ⟨by have := hall x hx; omega, by have := hall x hx; omega⟩⟩)
  rw [hmk, show strB [] = ⟨#[]⟩ from rfl] at HM
  have HI := Lib.hid his
  have HR := Shut.mk hr1
  obtain ⟨va, vc, rfl, _, _, _⟩ := hr.len
  obtain ⟨F0, hF0, _⟩ := h.ar
  obtain ⟨qb, qm, nv, rfl, _, _, _⟩ := ArG.nodes hF0
  clear hmk his h hr hm hr1 hF0 hall
  go_enter Tryd.func42, Tryd.ntmps42
  go_wp2_with fail
  (with_reducible refine HM.out.mono ?_); rintro e w2 ⟨rfl, a2, t2⟩
  go_wp2
  go_ret2
  exact ⟨r, t, rfl, a2, HR.out, HI.out, t2⟩
set_option maxHeartbeats 4000000 in
set_option maxRecDepth 100000 in
theorem textAR_ok {w0 : World} {S : Nat → Prop} {w : World} {p : Value} {ds : List Nd} (h : AtR w0 S w p ds) (s : List UInt8) (hs : s.length ≤ 200) (hl : ds.length < 100000) :
    Calls Tryd.prog 62 #[p, .string (strB s)] w (RMk w0 S w p ds 1 (fun es t => Is es t ⟨2, 0, s, []⟩)) := by
  obtain ⟨r, t, hmk, hr1, his⟩ := mk_is (may_text ds hs) hl
  have HM := Lib.hid (makeAR h (v := .agg #[.int .i64 2, .int .i64 0, .string (strB s), .slice none 0 0]) (d := ⟨2, 0, s, []⟩) ⟨_, rfl, RdI.nil _⟩ ⟨⟨by simp, by simp⟩, ⟨by simp, by simp⟩, by unfold maxLen; simp; omega, fun x hx => by cases hx⟩)
  rw [hmk] at HM
  have HI := Lib.hid his
  have HR := Shut.mk hr1
  obtain ⟨F0, hF0, _⟩ := h.ar
  obtain ⟨qb, qm, nv, rfl, _, _, _⟩ := ArG.nodes hF0
  clear hmk his h hr1 hF0
  generalize strB s = X at HM ⊢
  go_enter Tryd.func62, Tryd.ntmps62
  go_wp2_with fail
  (with_reducible refine HM.out.mono ?_); rintro e w2 ⟨rfl, a2, t2⟩
  go_wp2
  go_ret2
  exact ⟨r, t, rfl, a2, HR.out, HI.out, t2⟩
set_option maxHeartbeats 4000000 in
set_option maxRecDepth 100000 in
theorem listAR_ok {w0 : World} {S : Nat → Prop} {w : World} {p v : Value} {ds : List Nd} {l : List Int} (h : AtR w0 S w p ds) (hr : RdI w v l) (h64 : l.length ≤ 64) (hi : ∀ x ∈ l, IsT ds x) (hl : ds.length < 100000) :
    Calls Tryd.prog 67 #[p, v] w (RMk w0 S w p ds 1 (fun es t => Is es t ⟨3, 0, [], l⟩)) := by
  have HM := Lib.hid (ofR_ok h hr (may_list ds h64 hi) hl)
  obtain ⟨va, vc, rfl, _, _, _⟩ := hr.len
  obtain ⟨F0, hF0, _⟩ := h.ar
  obtain ⟨qb, qm, nv, rfl, _, _, _⟩ := ArG.nodes hF0
  clear h hr hF0 hi
  go_enter Tryd.func67, Tryd.ntmps67
  go_wp2_with fail
  (with_reducible refine HM.out.mono ?_); rintro e w2 ⟨r, t, rfl, a2, hr1, hQ, t2⟩
  go_wp2
  go_ret2
  exact ⟨r, t, rfl, a2, hr1, hQ, t2⟩
set_option maxHeartbeats 4000000 in
set_option maxRecDepth 100000 in
/-- All are terms. -/
theorem badR_no {F : Nat → Prop} {w : World} {p v : Value} {ds : List Nd} {l : List Int} (h : ArR F w p ds) (hr : RdI w v l) (hi : ∀ x ∈ l, IsT ds x) :
    Calls Tryd.prog 66 #[p, v] w fun e w' => e = .returned (.bool false) ∧ w = w' := by
  have hfew := h.few
  have HLen := Lib.hid (lenR h)
  obtain ⟨la, lc, rfl, l1, l2, l3⟩ := hr.len
  obtain ⟨qb, qm, nv, rfl, _, _, _⟩ := ArG.nodes h
  have l63 : ((l.length : Nat) : Int) ≤ 9223372036854775807 := by unfold maxLen at l2; omega
  clear h
  go_enter Tryd.func66, Tryd.ntmps66
  go_wp2
  go_loop [9] (fun s => ∃ k : Nat, k ≤ l.length ∧ s = .int .i64 k) (fun s => l.length - (intOf s).toNat)
  case atStart => exact ⟨0, Nat.zero_le _, rfl⟩
  case round =>
    obtain ⟨k, hk0, rfl⟩ := hrel
    by_cases hlt : k < l.length
    · obtain ⟨rb, ro, rc, hrv, _, _, hrb, hcell⟩ := hr.addr (by omega)
      simp only [Value.slice.injEq] at hrv
      obtain ⟨rfl, hdrop, rfl⟩ := hrv
      clear hdrop
      have hcw := hcell k hlt
      have hx := hi (l.getD k 0) (by rw [List.getD_eq_getElem?_getD, List.getElem?_eq_getElem hlt]; exact List.getElem_mem _)
      clear hcell
      generalize l.getD k 0 = x at hcw hx
      obtain ⟨x0, x1⟩ := hx
      have c0 : (0 : Int) ≤ (k : Int) := by omega
      have c1 : (k : Int) < (l.length : Int) := by omega
      go_wp2_with fail
      (with_reducible refine HLen.out.mono ?_); rintro e w1 ⟨rfl, rfl⟩
      go_wp2
      go_round
      case rel => exact ⟨k + 1, hlt, rfl⟩
      case measure => simp [intOf]; omega
    · obtain rfl : k = l.length := by omega
      go_wp2
      go_ret
      exact ⟨rfl, rfl⟩
end Go.Proofs.YtekieioffaafaaaDoor
end

section
/- The document's Expand, Derive, as trees. -/
set_option linter.unusedSimpArgs false
set_option linter.unusedVariables false
namespace Go.Proofs.YtekieioffaafaaaDoor
open Go.RowKit Go.Maps

theorem RdI.lit2' (w : World) (a b : Int) : RdI (w.alloc (.cells #[.int .i64 a, .int .i64 b] 3)) (.slice (some ⟨w.heap.size, 0, none⟩) 2 2) [a, b] :=
  OwnI.rd (show OwnI w.heap.size _ _ [a, b] from Ownv.lit (B := w.heap.size) 3 (w := w) [.int .i64 a, .int .i64 b] (Nat.le_refl _) (by unfold maxLen; simp))
set_option maxHeartbeats 4000000 in
set_option maxRecDepth 100000 in
theorem expandR_ok {w0 : World} {S : Nat → Prop} {w : World} {p : Value} {ds : List Nd} {s c : Int} {T C : Tr} (h : AtR w0 S w p ds) (hs : Den T ds s) (hc : Den C ds c) (x : List UInt8) (hx : x.length ≤ 200) (hl : ds.length + 1 < 100000) :
    Calls Tryd.prog 38 #[p, .int .i64 s, .string (strB x), .int .i64 c] w (RMk w0 S w p ds 2 (Den (keyT T x C))) := by
  have k1 : Kept w (w.alloc (.cells #[.int .i64 s, .int .i64 c] 3)) := (Kept.refl w).alloc _
  have a1 := h.step k1
  have HT := Lib.hid (textAR_ok a1 x hx (by omega))
  have HDs := Shut.mk hs
  have HDc := Shut.mk hc
  have HB : Hid (Calls Tryd.prog 66 #[p, .slice (some ⟨w.heap.size, 0, none⟩) 2 2] (w.alloc (.cells #[.int .i64 s, .int .i64 c] 3)) fun e w' => e = .returned (.bool false) ∧ (w.alloc (.cells #[.int .i64 s, .int .i64 c] 3)) = w') := by
    obtain ⟨F1, hF1, _⟩ := a1.ar
    exact Lib.hid (badR_no hF1 (RdI.lit2' w s c) (fun y hy => by
      simp only [List.mem_cons, List.not_mem_nil, or_false] at hy
      rcases hy with rfl | rfl
      · exact hs.1
      · exact hc.1))
  obtain ⟨F0, hF0, _⟩ := h.ar
  obtain ⟨qb, qm, nv, rfl, _, _, _⟩ := ArG.nodes hF0
  clear h a1 hF0 hs hc
  generalize strB x = X at HT ⊢
  go_enter Tryd.func38, Tryd.ntmps38
  go_wp2_with fail
  (with_reducible refine HB.out.mono ?_); rintro e wx ⟨rfl, rfl⟩
  go_wp2_with fail
  (with_reducible refine HT.out.mono ?_); rintro e w2 ⟨r2, t, rfl, a2, hr2, hQ2, t2⟩
  have k3 : Kept w2 (w2.alloc (.cells #[.int .i64 s, .int .i64 t, .int .i64 c] 3)) := (Kept.refl w2).alloc _
  have HO := Lib.hid (ofR_ok (op := 6) (a2.step k3) (RdI.sl3 w2 s t c) (may_key (HDs.out.1.more r2) hQ2 (HDc.out.1.more r2)) (by rw [List.length_append]; omega))
  clear HT HB
  go_wp2_with fail
  (with_reducible refine HO.out.mono ?_); rintro e w4 ⟨r4, u, rfl, a4, hr4, hQ4, t4⟩
  go_wp2
  go_ret2
  refine ⟨r2 ++ r4, u, rfl, by rw [← List.append_assoc]; exact a4, by rw [List.length_append]; omega, by rw [← List.append_assoc]; exact den_key a4.good hQ4 ((HDs.out.more r2).more r4) (hQ2.more r4) ((HDc.out.more r2).more r4), ?_⟩
  exact ((k1.keep S).trans t2).trans ((k3.keep S).trans t4)
set_option maxHeartbeats 4000000 in
set_option maxRecDepth 100000 in
theorem deriveR_ok {w0 : World} {S : Nat → Prop} {w : World} {p : Value} {ds : List Nd} {s : Int} {T : Tr} (h : AtR w0 S w p ds) (hs : Den T ds s) (x : List UInt8) (hx : x.length ≤ 200) (hl : ds.length + 2 < 100000) :
    Calls Tryd.prog 37 #[p, .int .i64 s, .string (strB x)] w (RMk w0 S w p ds 3 (Den (derT T x))) := by
  have k1 : Kept w (w.alloc (.cells #[.int .i64 s] 3)) := (Kept.refl w).alloc _
  have a1 := h.step k1
  have HT := Lib.hid (listAR_ok a1 (RdI.nil _) (by simp) (fun y hy => by cases hy) (by omega))
  have HDs := Shut.mk hs
  have HB : Hid (Calls Tryd.prog 66 #[p, .slice (some ⟨w.heap.size, 0, none⟩) 1 1] (w.alloc (.cells #[.int .i64 s] 3)) fun e w' => e = .returned (.bool false) ∧ (w.alloc (.cells #[.int .i64 s] 3)) = w') := by
    obtain ⟨F1, hF1, _⟩ := a1.ar
    exact Lib.hid (badR_no hF1 (RdI.sl1 w s) (fun y hy => by rw [List.mem_singleton.1 hy]; exact hs.1))
  have HX := Lib.hid (fun (r2 : List Nd) (w2 : World) (t : Int) (a2 : AtR w0 S w2 p (ds ++ r2)) (hr2 : r2.length ≤ 1) (hQ : Is (ds ++ r2) t ⟨3, 0, [], []⟩) => expandR_ok a2 (hs.more r2) (den_list a2.good hQ (DenL.nil _)) x hx (by rw [List.length_append]; omega))
  obtain ⟨F0, hF0, _⟩ := h.ar
  obtain ⟨qb, qm, nv, rfl, _, _, _⟩ := ArG.nodes hF0
  clear h a1 hF0 hs
  generalize strB x = X at HX ⊢
  go_enter Tryd.func37, Tryd.ntmps37
  go_wp2_with fail
  (with_reducible refine HB.out.mono ?_); rintro e wx ⟨rfl, rfl⟩
  go_wp2_with fail
  (with_reducible refine HT.out.mono ?_); rintro e w2 ⟨r2, t, rfl, a2, hr2, hQ2, t2⟩
  have HX2 := Lib.hid (HX.out r2 w2 t a2 hr2 hQ2)
  clear HT HB HX
  go_wp2_with fail
  (with_reducible refine HX2.out.mono ?_); rintro e w4 ⟨r4, u, rfl, a4, hr4, hQ4, t4⟩
  go_wp2
  go_ret2
  refine ⟨r2 ++ r4, u, rfl, by rw [← List.append_assoc]; exact a4, by rw [List.length_append]; omega, by rw [← List.append_assoc]; exact hQ4, ?_⟩
  exact ((k1.keep S).trans t2).trans t4
end Go.Proofs.YtekieioffaafaaaDoor
end

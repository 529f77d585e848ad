/- Walks of package term: a node's text among others. -/
import Derived.Test.YtihagkeljhgomaaDoorTermB
import Derived.Test.YtihagkeljhgomaaDoorShelf
import Derived.Lib.ItoaLen
import Derived.Lib.AppendStr
set_option linter.unusedSimpArgs false
set_option linter.unusedVariables false
namespace Go.Proofs.YtihagkeljhgomaaDoor
open Go.RowKit Go.Maps

theorem clone_any {w : World} {v : Value} {zs : List Int} (h : RdI w v zs) (hl : zs.length ≤ 10000000000) :
    Calls Tryd.prog 44 #[v] w fun e w' => ∃ v', e = .returned v' ∧ OwnI w.heap.size w' v' zs ∧ Kept w w' := by
  by_cases hp : 0 < zs.length
  · obtain ⟨b, off, cap, rfl, hc, hm, hb, hcell⟩ := h.addr hp
    refine (Tryd.slices_Clone_int b off zs.length cap zs w (Nat.le_refl _) (by omega) hcell).mono ?_
    rintro e w' ⟨v', rfl, ho, _, hk⟩
    exact ⟨v', rfl, by rw [List.take_length] at ho; exact ho, hk⟩
  · obtain rfl : zs = [] := List.eq_nil_of_length_eq_zero (by omega)
    obtain ⟨a, cap, rfl, h1, h2, h3⟩ := h.len
    cases a with
    | none =>
      refine (Tryd.slices_Clone_int_nil _ _ w).mono ?_
      rintro e w' ⟨rfl, rfl⟩
      exact ⟨_, rfl, OwnI.nil _ _, Kept.refl _⟩
    | some a =>
      refine (Tryd.slices_Clone_int_zero a cap w).mono ?_
      rintro e w' ⟨v', rfl, ho, _, hk⟩
      exact ⟨v', rfl, ho, hk⟩

/-- Bytes as numbers. -/
def toI (bs : List UInt8) : List Int := bs.map fun b => (b.toNat : Int)
theorem toI_length (bs : List UInt8) : (toI bs).length = bs.length := by simp [toI]
theorem toI_append (a b : List UInt8) : toI (a ++ b) = toI a ++ toI b := by simp [toI]
theorem toI_cells (bs : List UInt8) : (toI bs).map (Value.int .u8) = Lib.byteCells bs := by simp [toI, Lib.byteCells, Function.comp_def]
theorem strOf_toI (bs : List UInt8) : strOfNums (toI bs) = strB bs := by
  have h : (toI bs).map (fun n => UInt8.ofNat n.toNat) = bs := by
    unfold toI
    rw [List.map_map]
    conv => rhs; rw [← List.map_id bs]
    apply List.map_congr_left
    intro b _
    simp
  have h2 := strOf_toList (toI bs)
  rw [h] at h2
  cases hs : strOfNums (toI bs) with
  | mk data =>
    rw [hs, ByteArray.toList_eq] at h2
    unfold strB
    simp only at h2
    congr 1
    rw [← h2]
/-- v is a row of bytes of the call's own. -/
def OwnU (B : Nat) (w : World) (v : Value) (bs : List UInt8) : Prop := Own B 5 w v (toI bs)
theorem OwnU.below {B : Nat} {w w' : World} {v : Value} {bs : List UInt8} (h : OwnU B w v bs) (k : Kept w w') : OwnU B w' v bs := Own.kept h k
theorem strU {B : Nat} {w : World} {v : Value} {bs : List UInt8} (h : OwnU B w v bs) : (convert 78 9 v).run Tryd.prog w = .ok (.string (strB bs)) w := by
  rw [← strOf_toI]; exact strs0 (Own.rd h)

theorem itoa_len {i : Int} (h : I64 i) : (Lib.itoa i).length ≤ 21 := Lib.itoa_length_le i h.1 h.2

theorem appendInt_any {B : Nat} {w : World} {v : Value} {bs : List UInt8} (ho : OwnU B w v bs) (hB : B ≤ w.heap.size) (hl : bs.length ≤ 1000000) {i : Int} (hi : I64 i) (ht : Lib.TabBelow Tryd.prog B w "internal/strconv.uint64pow10" .u64 Lib.pow10Tab) :
    Calls Tryd.prog 42 #[v, .int .i64 i, .int .i64 10] w fun e w' => ∃ v', e = .returned v' ∧ OwnU B w' v' (bs ++ Lib.itoa i) ∧ Below B w w' := by
  unfold OwnU Own Ownv at ho
  rw [toI_cells, toI_length] at ho
  refine (Tryd.strconv_AppendInt_10 B bs.length i hi.1 hi.2 v (Lib.byteCells bs) w ho hB (by omega) ht).mono ?_
  rintro e w' ⟨v', rfl, h1, h2, _⟩
  refine ⟨v', rfl, ?_, h2⟩
  unfold OwnU Own Ownv
  rw [toI_cells, toI_length, List.length_append]
  simpa [Lib.byteCells] using h1

/-- append of bytes to bytes of the call's own: which blocks may turn. -/
theorem go_appbt {w : World} {ops : Array Oper} {rest : List Oper} {a : Act} {Q : Exit → Act → World → Prop} {d : Option Tmp} {ty : TypeId} {ps : String} {af : Array Edge} {s x : Operand}
    (B : Nat) (v : Value) (zs : List Int) (hs : a.eval s = v) (ho : Own B 5 w v zs) (u : Value) (news : List Int) (hx : a.eval x = u) (hr : Rd w u news)
    (hl : zs.length + news.length ≤ 140737488355328) (hB : B ≤ w.heap.size)
    (hK : ∀ v' w', Own B 5 w' v' (zs ++ news) → Turn (Blks v) w w' → (∀ b, Blks v' b → Blks v b ∨ w.heap.size ≤ b) → wpList Tryd.prog ops Q rest (a.put d v') w') :
    wpList Tryd.prog ops Q (⟨d, .call { callee := .builtin .append, args := #[s, x], argTypes := #[78, 78] }, ty, ps, af, none⟩ :: rest) a w := by
  obtain ⟨i0, hi, hz0, hz1, hz2⟩ := info_parts Tryd.info5
  refine go_app_at B 5 1 1 i0 (.int .u8 0) Tryd.underlying78 hi hz0 hz1 hz2 rfl (by decide) v zs.length (zs.map (Value.int .u8)) hs ho u news.length (news.map (Value.int .u8)) hx hr (ones_int .u8 news) (by unfold maxLen; omega) (by omega) hB ?_
  intro v' w' h1 h2 h3
  exact hK v' w' (by unfold Own; simpa using h1) h2 h3

/-- append of one byte, of a literal that was just laid. -/
theorem go_app1 {w : World} {ops : Array Oper} {rest : List Oper} {a : Act} {Q : Exit → Act → World → Prop} {d : Option Tmp} {ty : TypeId} {ps : String} {af : Array Edge} {s x : Operand}
    (B : Nat) (v : Value) (bs : List UInt8) (hs : a.eval s = v) (w0 : World) (c : UInt8) (z : Int) (hz : z = c.toNat) (hw : w = w0.alloc (.cells #[.int .u8 z] 5)) (ho : OwnU B w0 v bs) (hx : a.eval x = .slice (some ⟨w0.heap.size, 0, none⟩) 1 1)
    (hl : bs.length ≤ 1000000) (hB : B ≤ w0.heap.size)
    (hK : ∀ v' w', OwnU B w' v' (bs ++ [c]) → Turn (Blks v) w0 w' → Below B w0 w' → (∀ b, Blks v' b → Blks v b ∨ w0.heap.size ≤ b) → wpList Tryd.prog ops Q rest (a.put d v') w') :
    wpList Tryd.prog ops Q (⟨d, .call { callee := .builtin .append, args := #[s, x], argTypes := #[78, 78] }, ty, ps, af, none⟩ :: rest) a w := by
  subst hw hz
  have hr : Rd (w0.alloc (.cells #[.int .u8 c.toNat] 5)) (.slice (some ⟨w0.heap.size, 0, none⟩) 1 1) [(c.toNat : Int)] := (Own.lit [(c.toNat : Int)] (by simp)).rd
  refine go_appbt B v (toI bs) hs (Own.kept ho ((Kept.refl w0).alloc _)) _ [(c.toNat : Int)] hx hr (by rw [toI_length]; simp; omega) (by rw [alloc_size]; omega) ?_
  intro v' w' h1 h2 h3
  have ht : Turn (Blks v) w0 w' := (((Kept.refl w0).alloc _).turn _).trans h2 (fun x hx => .inl hx)
  refine hK v' w' ?_ ht (Turn.below (Below.refl B w0) ht (fun b hb => (Ownv.lt ho hb).2) hB) (fun b hb => (h3 b hb).imp id (fun c => by rw [alloc_size] at c; omega))
  unfold OwnU
  rw [toI_append]
  exact h1

theorem cell0_alloc (w : World) (cs : Array Value) (e : TypeId) (i : Nat) : (w.alloc (.cells cs e)).cell? ⟨w.heap.size, i, none⟩ = cs[i]? := cell_of_row _ w.heap.size i _ _ _ (heap_alloc_new w _)

theorem partsKey_len (l : List Int) (h : ∀ x ∈ l, I64 x) : (partsKey l).length ≤ 22 * l.length := by
  induction l with
  | nil => simp [partsKey]
  | cons x l ih =>
    rw [partsKey_cons]
    have := ih fun y hy => h y (List.mem_cons_of_mem _ hy)
    have := itoa_len (h x List.mem_cons_self)
    simp
    omega

set_option maxRecDepth 100000 in
set_option maxHeartbeats 4000000 in
theorem text_any {w : World} (ht : Tabs w) {v : Value} {d : Nd} (hd : RdN w v d) (hop : 1 ≤ d.op ∧ d.op ≤ 12) (hok : NdOk d) (hs : d.s.length ≤ 200) (hl : d.l.length ≤ 64) :
    Calls Tryd.prog 38 #[v] w fun e w' => e = .returned (.string (strB (key d))) ∧ Kept w w' := by
  obtain ⟨lv, rfl, hr⟩ := hd
  obtain ⟨op, n, s, l⟩ := d
  simp only at hr hop hs hl ⊢
  obtain ⟨h1, h2⟩ := hop
  have hn := hok.n
  have hll := hok.l
  simp only at hn hll
  have hT := Lib.tabBelow_of_tabIs ht.pow
  obtain ⟨o, rfl⟩ := Int.eq_ofNat_of_zero_le (show 0 ≤ op by omega)
  have hb8 : ((UInt8.ofNat o).toNat : Int) = (o : Int) := by rw [ofNat_small (by omega)]
  have hlit : ∀ W : World, OwnU W.heap.size (W.alloc (.cells #[.int .u8 (o : Int)] 5)) (.slice (some ⟨W.heap.size, 0, none⟩) 1 1) [UInt8.ofNat o] := fun W => by
    have := Own.lit (w := W) (toI [UInt8.ofNat o]) (by simp [toI])
    unfold OwnU
    simp only [toI, List.map_cons, List.map_nil, hb8] at this ⊢
    exact this
  have hE : strOfNums (toI []) = strB [] := strOf_toI []
  by_cases c1 : (o : Int) = 1
  · obtain rfl : o = 1 := by omega
    have H1 := hlit (w.alloc (.cells #[.int .i64 1, .int .i64 n, .string (strB s), lv] 56))
    have hsz := alloc_size w (.cells #[.int .i64 1, .int .i64 n, .string (strB s), lv] 56)
    have K1 : Kept w ((w.alloc (.cells #[.int .i64 1, .int .i64 n, .string (strB s), lv] 56)).alloc (.cells #[.int .u8 1] 5)) := ((Kept.refl w).alloc _).alloc _
    go_enter Tryd.func38, Tryd.ntmps38
    go_wp2_with fail
    rw [hsz] at H1
    refine (appendInt_any (bs := [UInt8.ofNat 1]) (B := w.heap.size) (Own.mono H1 (by omega)) K1.size (by simp) hn (hT.on K1)).mono ?_
    rintro e w1 ⟨v1, rfl, ho1, hb1⟩
    have hstr := strU ho1
    go_wp2
    go_ret
    exact ⟨rfl, Below.trans K1 hb1⟩
  · by_cases c2 : (o : Int) = 2
    · obtain rfl : o = 2 := by omega
      have H1 := hlit (w.alloc (.cells #[.int .i64 2, .int .i64 n, .string (strB s), lv] 56))
      have hsz := alloc_size w (.cells #[.int .i64 2, .int .i64 n, .string (strB s), lv] 56)
      have K1 : Kept w ((w.alloc (.cells #[.int .i64 2, .int .i64 n, .string (strB s), lv] 56)).alloc (.cells #[.int .u8 2] 5)) := ((Kept.refl w).alloc _).alloc _
      obtain ⟨i0, hi, hz0, hz1, hz2⟩ := info_parts Tryd.info5
      go_enter Tryd.func38, Tryd.ntmps38
      rw [hsz] at H1
      go_wp2_with (at_builtin; refine Lib.wpList_append_own_string _ rfl _ _ 78 9 rfl w.heap.size 5 i0 Tryd.underlying78 Tryd.underlying9 hi hz0 hz1 hz2 _ 1 _ rfl (Own.mono H1 (by omega)) (strB s) rfl (by rw [strB_size]; unfold maxLen; omega) (by rw [strB_size]; omega) K1.size ?_; intro v1 w1 ho1 hg1 _; refine Hid.out ?_)
      refine Lib.hid ?_
      have hb1 : Below w.heap.size w w1 := Below.grown K1 hg1 K1.size (fun k hk => by cases hk; show w.heap.size ≤ w.heap.size + 1; omega)
      have ho2 : OwnU w.heap.size w1 v1 (UInt8.ofNat 2 :: s) := by
        unfold OwnU Own Ownv
        rw [toI_cells, toI_length]
        have e1 : (UInt8.ofNat 2 :: s).length = 1 + (strB s).size := by rw [strB_size]; simp; omega
        rw [e1]
        exact ho1
      have hstr := strU ho2
      go_wp2
      go_ret
      exact ⟨rfl, hb1⟩
    · have hk : key ⟨(o : Int), n, s, l⟩ = UInt8.ofNat o :: partsKey l := by unfold key; rw [if_neg c1, if_neg c2]; rfl
      rw [hk]
      clear hk
      have d1 : ((o : Int) == 1) = false := by simpa using c1
      have d2 : ((o : Int) == 2) = false := by simpa using c2
      have hm : (o : Int) % 256 = (o : Int) := by omega
      have K0 : Kept w ((w.alloc (.cells #[.int .i64 (o : Int), .int .i64 n, .string (strB s), lv] 56)).alloc (.cells #[.int .u8 ((o : Int) % 256)] 5)) := ((Kept.refl w).alloc _).alloc _
      have H1 := hlit (w.alloc (.cells #[.int .i64 (o : Int), .int .i64 n, .string (strB s), lv] 56))
      have hsz := alloc_size w (.cells #[.int .i64 (o : Int), .int .i64 n, .string (strB s), lv] 56)
      rw [hsz] at H1
      have H2 : OwnU w.heap.size ((w.alloc (.cells #[.int .i64 (o : Int), .int .i64 n, .string (strB s), lv] 56)).alloc (.cells #[.int .u8 ((o : Int) % 256)] 5)) (.slice (some ⟨w.heap.size + 1, 0, none⟩) 1 1) [UInt8.ofNat o] := by rw [hm]; exact Own.mono H1 (Nat.le_succ _)
      clear hm
      obtain ⟨la, lc, rfl, l1, l2, l3⟩ := hr.len
      have HO := Shut.mk h2
      clear h2 c1 c2
      go_enter Tryd.func38, Tryd.ntmps38
      go_wp2
      go_loopw [3, 15] (fun b i wr => ∃ k : Nat, k ≤ l.length ∧ i = .int .i64 k ∧ OwnU w.heap.size wr b (UInt8.ofNat o :: partsKey (l.take k)) ∧ Kept w wr) (fun _ i _ => l.length - (intOf i).toNat)
      case atStart => exact ⟨0, Nat.zero_le _, rfl, H2, K0⟩
      case round =>
        obtain ⟨k, hk0, rfl, hown, hkept⟩ := hrel
        by_cases hlt : k < l.length
        · obtain ⟨rb, ro, rc, hrv, _, _, hrb, hcell⟩ := hr.addr (by omega)
          simp only [Value.slice.injEq] at hrv
          obtain ⟨rfl, _, rfl⟩ := hrv
          have hcw : wr.cell? ⟨rb, ro + k, none⟩ = some (.int .i64 (l.getD k 0)) := hkept.cell (p := ⟨rb, ro + k, none⟩) hrb |>.trans (hcell k hlt)
          clear hcell
          have hx64 : I64 (l.getD k 0) := hll _ (by rw [List.getD_eq_getElem?_getD, List.getElem?_eq_getElem hlt]; exact List.getElem_mem _)
          have hstep : partsKey (l.take (k + 1)) = partsKey (l.take k) ++ (Lib.itoa (l.getD k 0) ++ [44]) := by
            rw [List.take_succ_eq_append_getElem hlt, partsKey_snoc, List.getD_eq_getElem?_getD, List.getElem?_eq_getElem hlt]; rfl
          have hpl : (partsKey (l.take k)).length ≤ 22 * k := by
            have := partsKey_len (l.take k) (fun x hx => hll x (List.mem_of_mem_take hx))
            rw [List.length_take] at this
            omega
          have HS := Shut.mk hstep
          clear hstep
          generalize l.getD k 0 = x at hcw hx64 HS
          have hil := itoa_len hx64
          have hT1 := hT.on hkept
          go_wp2_with fail
          refine (appendInt_any hown hkept.size (by simp; omega) hx64 hT1).mono ?_
          rintro e w1 ⟨v1, rfl, ho1, hb1⟩
          have hk1 : Kept w w1 := Below.trans hkept hb1
          go_wp2_with (at_builtin; refine go_app1 w.heap.size v1 _ rfl w1 44 44 rfl rfl ho1 rfl (by simp; omega) hk1.size ?_; intro v2 w2 ho2 _ hb2 _)
          go_roundw
          case rel =>
            refine ⟨k + 1, hlt, rfl, ?_, Below.trans hk1 hb2⟩
            rw [HS.out]
            simpa using ho2
          case measure => simp [intOf]; omega
        · obtain rfl : k = l.length := by omega
          rw [List.take_length] at hown
          have hstr := strU hown
          go_wp2
          go_ret
          exact ⟨rfl, hkept⟩
end Go.Proofs.YtihagkeljhgomaaDoor

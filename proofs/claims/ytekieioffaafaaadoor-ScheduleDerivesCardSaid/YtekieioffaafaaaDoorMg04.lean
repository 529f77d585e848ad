/- Texts of one proof, put together: TermT, TermI, TermJ. -/
import Derived.Test.YtekieioffaafaaaDoorMg02
import Derived.Test.YtekieioffaafaaaDoorMg03
import Derived.StillTailTactics
import Derived.Lib.ConvBytes
import Derived.Laws.Pointers
section
/- A term's text: what Show is to write. Nothing here names a program. -/
set_option linter.unusedSimpArgs false
set_option linter.unusedVariables false
namespace Go.Proofs.YtekieioffaafaaaDoor
open Go

def esc (s : List UInt8) : List UInt8 := s.flatMap fun c => if c = 34 ∨ c = 92 then [92, c] else [c]
def joinC : List (List UInt8) → List UInt8
  | [] => []
  | [x] => x
  | x :: y :: r => x ++ 44 :: joinC (y :: r)
/-- A node's text, where f tells its parts'. -/
def one (f : Int → List UInt8) (d : Nd) : List UInt8 :=
  if d.op = 1 then 35 :: Lib.itoa d.n else if d.op = 2 then 34 :: (esc d.s ++ [34]) else kName d.op ++ 40 :: (joinC (d.l.map f) ++ [41])
def stepS (acc : List (List UInt8)) (d : Nd) : List (List UInt8) := acc ++ [one (fun x => acc.getD x.toNat []) d]
/-- All terms' texts. -/
def shws (ds : List Nd) : List (List UInt8) := ds.foldl stepS []
/-- The text of a term. -/
def shw (ds : List Nd) (t : Int) : List UInt8 := (shws ds).getD t.toNat []

theorem shws_pre (ds : List Nd) : ∀ acc : List (List UInt8), ∃ r, ds.foldl stepS acc = acc ++ r ∧ r.length = ds.length := by
  induction ds with
  | nil => exact fun acc => ⟨[], by simp, rfl⟩
  | cons d ds ih =>
    intro acc
    obtain ⟨r, h1, h2⟩ := ih (stepS acc d)
    refine ⟨one (fun x => acc.getD x.toNat []) d :: r, ?_, by simp [h2]⟩
    rw [List.foldl_cons, h1]
    simp [stepS]
theorem shws_append (a b : List Nd) : ∃ r, shws (a ++ b) = shws a ++ r ∧ r.length = b.length := by
  unfold shws
  rw [List.foldl_append]
  exact shws_pre b _
theorem shws_length (ds : List Nd) : (shws ds).length = ds.length := by
  obtain ⟨r, h1, h2⟩ := shws_pre ds []
  unfold shws
  rw [h1]
  simpa using h2
theorem shw_more {ds : List Nd} (es : List Nd) {t : Int} (h : t.toNat < ds.length) : shw (ds ++ es) t = shw ds t := by
  obtain ⟨r, h1, _⟩ := shws_append ds es
  unfold shw
  rw [h1]
  simp only [List.getD_eq_getElem?_getD]
  rw [List.getElem?_append_left (by rw [shws_length]; exact h)]
theorem one_congr {f g : Int → List UInt8} {d : Nd} (h : ∀ x ∈ d.l, f x = g x) : one f d = one g d := by
  unfold one
  rw [List.map_congr_left h]
/-- What a term's text is. -/
theorem shw_eq {ds : List Nd} (hg : Good ds) {t : Int} (h0 : 0 ≤ t) (h1 : t < ds.length) : shw ds t = one (shw ds) (ds.getD t.toNat nd0) := by
  obtain ⟨i, rfl⟩ := Int.eq_ofNat_of_zero_le h0
  have hi : i < ds.length := by omega
  simp only [Int.toNat_natCast]
  have hsplit : ds = ds.take i ++ (ds.getD i nd0 :: ds.drop (i + 1)) := by
    rw [List.getD_eq_getElem?_getD, List.getElem?_eq_getElem hi, Option.getD_some, List.getElem_cons_drop hi, List.take_append_drop]
  have htl : (ds.take i).length = i := by rw [List.length_take]; omega
  have key1 : shw ds (i : Int) = one (fun x => (shws (ds.take i)).getD x.toNat []) (ds.getD i nd0) := by
    have e : shws ds = (ds.drop (i + 1)).foldl stepS (stepS (shws (ds.take i)) (ds.getD i nd0)) := by
      conv => lhs; rw [hsplit]
      unfold shws
      rw [List.foldl_append, List.foldl_cons]
    obtain ⟨r, h2, _⟩ := shws_pre (ds.drop (i + 1)) (stepS (shws (ds.take i)) (ds.getD i nd0))
    unfold shw
    rw [e, h2]
    simp only [Int.toNat_natCast, stepS, List.append_assoc, List.getD_eq_getElem?_getD]
    rw [List.getElem?_append_right (by rw [shws_length, htl]; omega), shws_length, htl]
    simp
  rw [key1]
  refine one_congr fun x hx => ?_
  obtain ⟨x0, x1⟩ := hg.lesser hi x hx
  have : shw (ds.take i ++ ds.drop i) x = shw (ds.take i) x := shw_more _ (by rw [htl]; omega)
  rw [List.take_append_drop] at this
  rw [this]
  rfl

theorem joinC_snoc (l : List (List UInt8)) (x : List UInt8) : joinC (l ++ [x]) = if l = [] then x else joinC l ++ 44 :: x := by
  induction l with
  | nil => rfl
  | cons a l ih =>
    cases l with
    | nil => rfl
    | cons b l =>
      simp only [List.cons_append, joinC] at ih ⊢
      rw [ih]
      simp
theorem joinC_take_le (l : List (List UInt8)) (k : Nat) : (joinC (l.take k)).length ≤ (joinC l).length := by
  induction l generalizing k with
  | nil => simp [joinC]
  | cons a l ih =>
    cases k with
    | zero => simp [joinC]
    | succ k =>
      cases l with
      | nil => simp [joinC]
      | cons b l =>
        cases k with
        | zero => simp [joinC]
        | succ k =>
          have := ih (k + 1)
          simp only [List.take_succ_cons, joinC, List.length_append, List.length_cons] at this ⊢
          omega
theorem joinC_step (l : List Int) (f : Int → List UInt8) {k : Nat} (h : k < l.length) :
    joinC ((l.take (k + 1)).map f) = joinC ((l.take k).map f) ++ ((if k = 0 then [] else [44]) ++ f (l.getD k 0)) := by
  rw [List.take_succ_eq_append_getElem h, List.map_append, List.map_cons, List.map_nil, joinC_snoc, List.getD_eq_getElem?_getD, List.getElem?_eq_getElem h]
  by_cases c : k = 0
  · subst c
    simp [joinC]
  · have : ¬ (l.take k).map f = [] := by
      intro e
      have := congrArg List.length e
      rw [List.length_map, List.length_take, List.length_nil] at this
      omega
    rw [if_neg this, if_neg c]
    simp

/-- What is written behind old: all of x, or more than may be shown, where all of x is more, too. -/
def Out (old x new : List UInt8) : Prop := new = old ++ x ∨ (4000 < new.length ∧ 4000 < old.length + x.length)
theorem esc_snoc (s : List UInt8) (c : UInt8) : esc (s ++ [c]) = esc s ++ (if c = 34 ∨ c = 92 then [92, c] else [c]) := by simp [esc]
theorem esc_len (s : List UInt8) : (esc s).length ≤ 2 * s.length := by
  induction s with
  | nil => simp [esc]
  | cons c s ih =>
    have e : esc (c :: s) = (if c = 34 ∨ c = 92 then [92, c] else [c]) ++ esc s := by simp [esc]
    rw [e, List.length_append]
    have : (if c = 34 ∨ c = 92 then [92, c] else [c]).length ≤ 2 := by split <;> simp
    simp
    omega
theorem kName_len (o : Int) : (kName o).length ≤ 5 := by
  unfold kName
  rcases Nat.lt_or_ge o.toNat 13 with h | h
  · generalize o.toNat = n at h
    have : n = 0 ∨ n = 1 ∨ n = 2 ∨ n = 3 ∨ n = 4 ∨ n = 5 ∨ n = 6 ∨ n = 7 ∨ n = 8 ∨ n = 9 ∨ n = 10 ∨ n = 11 ∨ n = 12 := by omega
    rcases this with e | e | e | e | e | e | e | e | e | e | e | e | e <;> subst e <;> simp [kTab]
  · rw [List.getD_eq_getElem?_getD, List.getElem?_eq_none (by simp [kTab]; omega)]
    simp
end Go.Proofs.YtekieioffaafaaaDoor
end

section
/- Walks of package term: the writer. -/
set_option linter.unusedSimpArgs false
set_option linter.unusedVariables false
namespace Go.Proofs.YtekieioffaafaaaDoor
open Go.RowKit Go.Maps

theorem u8_eq_lit (c : UInt8) (k : Nat) (hk : k < 256) : ((c.toNat : Int) = (k : Int)) ↔ c = UInt8.ofNat k := by
  rw [← UInt8.toNat_inj, ofNat_small hk]; omega
theorem bytesWorld_kept (w : World) (e : TypeId) (s : ByteArray) : Kept w (Lib.bytesWorld w e s) :=
  ⟨rfl, rfl, rfl, by rw [Lib.bytesWorld_size]; omega, fun j hj => Lib.bytesWorld_at_old w e s j hj⟩

set_option maxHeartbeats 4000000 in
set_option maxRecDepth 100000 in
theorem quoted_any {B b : Nat} {nv : Value} {bs : List UInt8} {w : World} (h : Bld B b nv bs w) (hB : B ≤ w.heap.size) (hl : bs.length ≤ 100000) (s : List UInt8) (hs : s.length ≤ 200) :
    Calls Tryd.prog 73 #[.pointer (some ⟨b, 0, none⟩), .string (strB s)] w fun e w' => e = .returned (.tuple #[]) ∧ Bld B b nv (bs ++ (34 :: (esc s ++ [34]))) w' ∧ Below B w w' := by
  have e1 := strB_size s
  have e2 := strB_toList s
  generalize strB s = S at e1 e2
  go_enter Tryd.func73, Tryd.ntmps73
  go_wp2_with fail
  refine (bbyte_any h hB (by omega) 34 34 rfl).mono ?_
  rintro e w1 ⟨rfl, h1, k1⟩
  have hB1 : B ≤ w1.heap.size := Nat.le_trans hB k1.size
  have hcv := Lib.run_convert_string_bytes (P := Tryd.prog) w1 9 97 5 S Tryd.underlying9 Tryd.underlying97 Tryd.underlying5
  have hq : ∀ j, j < s.length → (Lib.bytesWorld w1 5 S).cell? ⟨w1.heap.size, j, none⟩ = some (.int .u8 (s.getD j 0).toNat) := fun j hj => by
    rw [Lib.bytesWorld_cell w1 5 S j (by omega), e2]
  have hk := bytesWorld_kept w1 5 S
  have hsz := Lib.bytesWorld_size w1 5 S
  have hbn := (h1.new).mono (M := fun x => x = w1.heap.size) (fun x hx => by subst hx; exact Nat.le_refl _)
  have hbn2 := hbn.kept hk
  generalize Lib.bytesWorld w1 5 S = w2 at hcv hq hk hsz hbn2
  generalize grownCap w1 S.size 0 5 = cap at hcv
  rw [e1] at hcv
  clear e1 e2
  go_wp2
  go_loopw [13] (fun i wr => ∃ k : Nat, k ≤ s.length ∧ i = .int .i64 k ∧ BldN (fun x => x = w1.heap.size) B b nv (bs ++ 34 :: esc (s.take k)) wr ∧ Turn (fun x => B ≤ x ∧ ¬ x = w1.heap.size) w2 wr) (fun i _ => s.length - (intOf i).toNat)
  case atStart => exact ⟨0, Nat.zero_le _, rfl, by simpa [esc] using hbn2, Turn.refl _ _⟩
  case round =>
    obtain ⟨k, hk0, rfl, hr, ht⟩ := hrel
    have hwB : Below B w wr := (k1.trans (Below.mono hk hB1)).trans (Turn.toBelow ht (by omega))
    have hBr : B ≤ wr.heap.size := Nat.le_trans hB hwB.size
    have hel := esc_len (s.take k)
    rw [List.length_take] at hel
    by_cases hlt : k < s.length
    · have hc : wr.cell? ⟨w1.heap.size, k, none⟩ = some (.int .u8 (s.getD k 0).toNat) := by
        rw [World.cell?_of_block (ht.block _ (show w1.heap.size < w2.heap.size by omega) (fun x => x.2 rfl))]; exact hq k hlt
      have hstep : esc (s.take (k + 1)) = esc (s.take k) ++ (if s.getD k 0 = 34 ∨ s.getD k 0 = 92 then [92, s.getD k 0] else [s.getD k 0]) := by
        rw [List.take_succ_eq_append_getElem hlt, esc_snoc, List.getD_eq_getElem?_getD, List.getElem?_eq_getElem hlt]; rfl
      have HS := Shut.mk hstep
      clear hstep hq
      generalize s.getD k 0 = c at hc HS
      have hNr : ∀ x, x = w1.heap.size → x < wr.heap.size := fun x hx => by have := ht.size; omega
      have hbl : (bs ++ 34 :: esc (s.take k)).length ≤ 200000 := by simp; omega
      have hcases : (((c.toNat : Int) == 34) = true ∧ (c = 34 ∨ c = 92)) ∨ (((c.toNat : Int) == 34) = false ∧ ((c.toNat : Int) == 92) = true ∧ (c = 34 ∨ c = 92)) ∨ (((c.toNat : Int) == 34) = false ∧ ((c.toNat : Int) == 92) = false ∧ ¬ (c = 34 ∨ c = 92)) := by
        have q1 := u8_eq_lit c 34 (by decide)
        have q2 := u8_eq_lit c 92 (by decide)
        by_cases c1 : (c.toNat : Int) = 34
        · exact .inl ⟨by simpa using c1, .inl (q1.1 c1)⟩
        · by_cases c2 : (c.toNat : Int) = 92
          · exact .inr (.inl ⟨by simpa using c1, by simpa using c2, .inr (q2.1 c2)⟩)
          · exact .inr (.inr ⟨by simpa using c1, by simpa using c2, fun h => h.elim (fun e => c1 (q1.2 e)) (fun e => c2 (q2.2 e))⟩)
      clear hel
      rcases hcases with ⟨d1, hcc⟩ | ⟨d1, d2, hcc⟩ | ⟨d1, d2, hcc⟩
      · have hst := HS.out
        rw [if_pos hcc] at hst
        have HS2 := Shut.mk hst
        clear hst HS hcc
        go_wp2_with fail
        refine (bbyteN_any hr hBr hNr (by omega) 92 92 rfl).mono ?_
        rintro e w3 ⟨rfl, h3, t3⟩
        go_wp2_with fail
        refine (bbyteN_any h3 (Nat.le_trans hBr t3.size) (fun x hx => Nat.lt_of_lt_of_le (hNr x hx) t3.size) (by rw [List.length_append]; show _ + 1 ≤ 1000000; omega) c c.toNat rfl).mono ?_
        rintro e w4 ⟨rfl, h4, t4⟩
        go_wp2
        go_roundw
        case rel =>
          refine ⟨k + 1, hlt, rfl, ?_, (ht.trans t3 (fun x hx => .inl hx)).trans t4 (fun x hx => .inl hx)⟩
          rw [HS2.out]
          simpa using h4
        case measure => simp [intOf]; omega
      · have hst := HS.out
        rw [if_pos hcc] at hst
        have HS2 := Shut.mk hst
        clear hst HS hcc
        go_wp2_with fail
        refine (bbyteN_any hr hBr hNr (by omega) 92 92 rfl).mono ?_
        rintro e w3 ⟨rfl, h3, t3⟩
        go_wp2_with fail
        refine (bbyteN_any h3 (Nat.le_trans hBr t3.size) (fun x hx => Nat.lt_of_lt_of_le (hNr x hx) t3.size) (by rw [List.length_append]; show _ + 1 ≤ 1000000; omega) c c.toNat rfl).mono ?_
        rintro e w4 ⟨rfl, h4, t4⟩
        go_wp2
        go_roundw
        case rel =>
          refine ⟨k + 1, hlt, rfl, ?_, (ht.trans t3 (fun x hx => .inl hx)).trans t4 (fun x hx => .inl hx)⟩
          rw [HS2.out]
          simpa using h4
        case measure => simp [intOf]; omega
      · have hst := HS.out
        rw [if_neg hcc] at hst
        have HS2 := Shut.mk hst
        clear hst HS hcc
        go_wp2_with fail
        refine (bbyteN_any hr hBr hNr (by omega) c c.toNat rfl).mono ?_
        rintro e w3 ⟨rfl, h3, t3⟩
        go_wp2
        go_roundw
        case rel =>
          refine ⟨k + 1, hlt, rfl, ?_, ht.trans t3 (fun x hx => .inl hx)⟩
          rw [HS2.out]
          simpa using h3
        case measure => simp [intOf]; omega
    · obtain rfl : k = s.length := by omega
      rw [List.take_length] at hr hel
      go_wp2_with fail
      refine (bbyte_any hr.no hBr (by simp; omega) 34 34 rfl).mono ?_
      rintro e w3 ⟨rfl, h3, k3⟩
      go_wp2
      go_end0
      exact ⟨rfl, by simpa using h3, hwB.trans k3⟩

/-- What writing a term does. -/
def TermOk (w0 : World) (nv : Value) (ds : List Nd) (t : Nat) : Prop := ∀ (b : Nat) (bs : List UInt8) (w : World), Kept w0 w → Bld w0.heap.size b nv bs w → bs.length ≤ 4001 →
  Calls Tryd.prog 55 #[.pointer (some ⟨b, 0, none⟩), .int .i64 t] w fun e w' => e = .returned (.tuple #[]) ∧ (∃ bs', Bld w0.heap.size b nv bs' w' ∧ Out bs (shw ds t) bs' ∧ bs'.length ≤ 4501 + t) ∧ Kept w0 w'

theorem out_trans {a x b y c : List UInt8} (h : b = a ++ x) (k : Out b y c) : Out a (x ++ y) c := by
  subst h
  rcases k with k | ⟨k1, k2⟩
  · exact .inl (by rw [k, List.append_assoc])
  · exact .inr ⟨k1, by simp only [List.length_append] at k2 ⊢; omega⟩

set_option maxHeartbeats 4000000 in
set_option maxRecDepth 100000 in
theorem parts_any {w0 : World} {nv : Value} {ds : List Nd} {T : Nat} {lv : Value} {l : List Int} (hr : RdI w0 lv l) (hl : l.length ≤ 64) (hT : ∀ x ∈ l, 0 ≤ x ∧ x < T) (ih : ∀ x, x < T → TermOk w0 nv ds x) {b : Nat} {bs : List UInt8} {w : World} (hk : Kept w0 w) (h : Bld w0.heap.size b nv bs w) (hbs : bs.length ≤ 4008) :
    Calls Tryd.prog 74 #[.pointer (some ⟨b, 0, none⟩), lv] w fun e w' => e = .returned (.tuple #[]) ∧ (∃ bs', Bld w0.heap.size b nv bs' w' ∧ Out bs (joinC (l.map (shw ds))) bs' ∧ bs'.length ≤ 4500 + T) ∧ Kept w0 w' := by
  obtain ⟨la, lc, rfl, l1, l2, l3⟩ := hr.len
  go_enter Tryd.func74, Tryd.ntmps74
  go_wp2
  go_loopw [8] (fun i wr => ∃ (k : Nat) (bk : List UInt8), k ≤ l.length ∧ i = .int .i64 k ∧ Bld w0.heap.size b nv bk wr ∧ Out bs (joinC ((l.take k).map (shw ds))) bk ∧ bk.length ≤ 4500 + T ∧ Kept w0 wr) (fun i _ => l.length - (intOf i).toNat)
  case atStart => exact ⟨0, bs, Nat.zero_le _, rfl, h, .inl (by simp [joinC]), by omega, hk⟩
  case round =>
    obtain ⟨k, bk, hk0, rfl, hb, hout, hbl, hkr⟩ := hrel
    by_cases hlt : k < l.length
    · obtain ⟨rb, ro, rc, hrv, _, _, hrb, hcell⟩ := hr.addr (by omega)
      simp only [Value.slice.injEq] at hrv
      obtain ⟨rfl, _, rfl⟩ := hrv
      have hcw : wr.cell? ⟨rb, ro + k, none⟩ = some (.int .i64 (l.getD k 0)) := hkr.cell (p := ⟨rb, ro + k, none⟩) hrb |>.trans (hcell k hlt)
      clear hcell
      have hmem : l.getD k 0 ∈ l := by
        rw [List.getD_eq_getElem?_getD, List.getElem?_eq_getElem hlt]; exact List.getElem_mem _
      obtain ⟨x0, xT⟩ := hT _ hmem
      have hstep := joinC_step l (shw ds) hlt
      have hple : (joinC ((l.take k).map (shw ds))).length ≤ (joinC (l.map (shw ds))).length := by
        rw [List.map_take]; exact joinC_take_le _ _
      have HO := Shut.mk hout
      have HS := Shut.mk hstep
      have HP := Shut.mk hple
      clear hout hstep hple hmem
      generalize hxv : l.getD k 0 = xv at hcw x0 xT HS
      have HXV := Shut.mk hxv
      clear hxv
      obtain ⟨x, rfl⟩ := Int.eq_ofNat_of_zero_le x0
      have hxT : x < T := by omega
      by_cases hbig : 4000 < bk.length
      · have hd : decide (4000 < (bk.length : Int)) = true := decide_eq_true (by omega)
        go_wp2_with (go_at_call 56; refine (blen_any hb).mono ?_; rintro e w' ⟨rfl, rfl⟩)
        refine bodyPost_ret (results_none rfl _ _ _) rfl ?_
        refine ⟨rfl, ⟨bk, hb, .inr ⟨hbig, ?_⟩, hbl⟩, hkr⟩
        have hp := HP.out
        rcases HO.out with e | ⟨_, e⟩
        · have := congrArg List.length e
          rw [List.length_append] at this
          omega
        · omega
      · have hex : bk = bs ++ joinC ((l.take k).map (shw ds)) := HO.out.resolve_right (fun e => hbig e.1)
        have HE := Shut.mk hex
        have hd : decide (4000 < (bk.length : Int)) = false := decide_eq_false (by omega)
        clear hex
        by_cases hk1 : k = 0
        · subst hk1
          rw [Nat.add_zero] at hcw
          go_wp2_with (first | (go_at_call 56; refine (blen_any hb).mono ?_; rintro e w' ⟨rfl, rfl⟩) | fail)
          refine (ih x hxT b bk _ hkr hb (by omega)).mono ?_
          rintro e w3 ⟨rfl, ⟨b3, h3, o3, n3⟩, k3⟩
          go_wp2
          go_roundw
          case rel =>
            refine ⟨1, b3, hlt, rfl, h3, ?_, by omega, k3⟩
            rw [HS.out]
            exact out_trans HE.out (by simpa using o3)
          case measure => simp [intOf]; omega
        · go_wp2_with (first | (go_at_call 56; refine (blen_any hb).mono ?_; rintro e w' ⟨rfl, rfl⟩) | fail)
          refine (bbyte_any hb hkr.size (by omega) 44 44 rfl).mono ?_
          rintro e w2 ⟨rfl, h2, k2⟩
          have hk2 : Kept w0 w2 := Below.trans hkr k2
          go_wp2_with fail
          refine (ih x hxT b _ _ hk2 h2 (by rw [List.length_append]; show _ + 1 ≤ 4001; omega)).mono ?_
          rintro e w3 ⟨rfl, ⟨b3, h3, o3, n3⟩, k3⟩
          go_wp2
          go_roundw
          case rel =>
            refine ⟨k + 1, b3, hlt, rfl, h3, ?_, by omega, k3⟩
            rw [HS.out, if_neg hk1]
            refine out_trans HE.out ?_
            exact out_trans rfl o3
          case measure => simp [intOf]; omega
    · obtain rfl : k = l.length := by omega
      rw [List.take_length] at hout
      go_wp2
      go_end0
      exact ⟨rfl, ⟨bk, hb, hout, hbl⟩, hkr⟩
end Go.Proofs.YtekieioffaafaaaDoor
end

section
/- Walks of package term: a term's text, Show. -/
set_option linter.unusedSimpArgs false
set_option linter.unusedVariables false
namespace Go.Proofs.YtekieioffaafaaaDoor
open Go.RowKit Go.Maps

theorem itoa_any (n : Int) (hn : I64 n) (w : World) (ht : Lib.TabIs Tryd.prog w "internal/strconv.uint64pow10" .u64 Lib.pow10Tab) :
    Calls Tryd.prog 72 #[.int .i64 n] w fun e w' => e = .returned (.string (strB (Lib.itoa n))) ∧ Kept w w' :=
  (Tryd.strconv_Itoa n hn.1 hn.2 w ht).mono fun e w' ⟨a, k, os, c⟩ => ⟨a, by rw [c]; exact Lib.below_grow w.heap.size w (Nat.le_refl _) k os⟩

set_option maxHeartbeats 4000000 in
set_option maxRecDepth 100000 in
theorem term_ok {w0 : World} {nv : Value} {ds : List Nd} (hg : Good ds) (hns : RdNs w0 nv ds) (ht : Tabs w0) (hn : ∀ d ∈ ds, NdOk d) (HD : Shut (ds.length ≤ 100000)) (t : Nat) : t < ds.length → TermOk w0 nv ds t := by
  induction t using Nat.strongRecOn with
  | ind t ih =>
    intro htl b bs w hk h hbs
    obtain ⟨nb, noff, ncap, lvs, rfl, _, _, hnb, hnc, hnl⟩ := hns.addr (by omega)
    obtain ⟨y0, y1, y2, y3⟩ := hnc t htl
    have z0 := hk.cell (p := ⟨nb, noff + t * 4, none⟩) hnb |>.trans y0
    have z1 := hk.cell (p := ⟨nb, noff + t * 4 + 1, none⟩) hnb |>.trans y1
    have z2 := hk.cell (p := ⟨nb, noff + t * 4 + 2, none⟩) hnb |>.trans y2
    have z3 := hk.cell (p := ⟨nb, noff + t * 4 + 3, none⟩) hnb |>.trans y3
    have hlr := hnl t htl
    have hbc := h.cell2
    have hmay := hg.may' htl
    have hless := hg.lesser htl
    have heq := shw_eq hg (t := (t : Int)) (by omega) (by omega)
    rw [Int.toNat_natCast] at heq
    have hok : NdOk (ds.getD t nd0) := hn _ (by rw [List.getD_eq_getElem?_getD, List.getElem?_eq_getElem htl]; exact List.getElem_mem _)
    have HE := Shut.mk heq
    have HN := Shut.mk hnc
    clear y0 y1 y2 y3 hnc heq
    generalize ds.getD t nd0 = d at z0 z1 z2 z3 hlr hmay hless HE hok
    obtain ⟨op, n, s, l⟩ := d
    simp only at z0 z1 z2 z3 hlr hless
    obtain ⟨la, lc, hlv, l1, l2, l3⟩ := hlr.len
    rw [hlv] at z3 hlr
    clear hlv
    have htl' : (t : Int) < (ds.length : Int) := by omega
    have ht0 : (0 : Int) ≤ (t : Int) := by omega
    have hlt := h.lt
    have hn64 := hok.n
    simp only at hn64
    have hil := itoa_len hok.n
    simp only at hil
    go_enter Tryd.func55, Tryd.ntmps55
    by_cases c1 : op = 1
    · subst c1
      go_wp2_with fail
      have k1 : Kept w (w.alloc (.cells #[.int .i64 1, .int .i64 n, .string (strB s), .slice la l.length lc] 64)) := (Kept.refl w).alloc _
      have b1 := Blk.new w [.int .i64 1, .int .i64 n, .string (strB s), .slice la l.length lc] 64
      have h1 := (h.new.mono (M := fun x => x = w.heap.size) (fun x hx => by subst hx; exact Nat.le_refl _)).kept k1
      generalize w.alloc (.cells #[.int .i64 1, .int .i64 n, .string (strB s), .slice la l.length lc] 64) = w1 at k1 b1 h1 ⊢
      have hB1 : w0.heap.size ≤ w1.heap.size := Nat.le_trans hk.size k1.size
      refine (bbyteN_any h1 hB1 (fun x hx => by subst hx; exact b1.lt) (by omega) 35 35 rfl).mono ?_
      rintro e w2 ⟨rfl, h2, t2⟩
      have b2 := b1.turn t2 (fun x => x.2 rfl)
      have k2 : Kept w0 w2 := (hk.trans k1).trans' (t2.toBelow hB1)
      have hB2 := k2.size
      have q1 := b2.cell 1
      simp only [List.getElem?_cons_succ, List.getElem?_cons_zero] at q1
      go_wp2_with fail
      go_region_with (first
        | (go_at_call 72; refine (itoa_any n hn64 _ (ht.kept (k2.drew)).pow).mono ?_; rintro e w3 ⟨rfl, k3⟩; have k3' : Kept w2 w3 := (Kept.refl w2).drew.trans k3; have h3 := BldN.no (BldN.kept h2 k3'))
        | (go_at_call 71; refine (bstr_any h3 (Nat.le_trans hB2 k3'.size) (by simp; omega) (Lib.itoa n) (by omega)).mono ?_; rintro e w4 ⟨rfl, h4, k4⟩))
      go_wp2
      go_end0
      refine ⟨rfl, ⟨_, h4, .inl ?_, ?_⟩, (k2.trans k3').trans' k4⟩
      · rw [HE.out]; simp [one]
      · simp; omega
    · by_cases c2 : op = 2
      · subst c2
        have k1 : Kept w (w.alloc (.cells #[.int .i64 2, .int .i64 n, .string (strB s), .slice la l.length lc] 64)) := (Kept.refl w).alloc _
        have h1 := BldN.kept h k1
        have hB1 : w0.heap.size ≤ _ := Nat.le_trans hk.size k1.size
        have hs0 := hmay.s0
        have hel := esc_len s
        simp only at hs0
        go_wp2_with fail
        refine (quoted_any h1 hB1 (by omega) s hs0).mono ?_
        rintro e w2 ⟨rfl, h2, k2⟩
        go_wp2
        go_end0
        refine ⟨rfl, ⟨_, h2, .inl ?_, ?_⟩, (hk.trans k1).trans' k2⟩
        · rw [HE.out]; simp [one]
        · simp; omega
      · have d1 : ¬ op = 1 := c1
        have o1 := hmay.op1
        have o2 := hmay.op12
        simp only at o1 o2
        obtain ⟨o, rfl⟩ := Int.eq_ofNat_of_zero_le (show 0 ≤ op by omega)
        have e1 : ((o : Int) == 1) = false := by simpa using c1
        have e2 : ((o : Int) == 2) = false := by simpa using c2
        obtain ⟨g0, _, _⟩ := (ht.kept hk).kinds o (by omega)
        have hone : one (shw ds) ⟨(o : Int), n, s, l⟩ = kName o ++ 40 :: (joinC (l.map (shw ds)) ++ [41]) := by unfold one; rw [if_neg c1, if_neg c2]
        rw [hone] at HE
        have hll := hmay.len64
        simp only at hll
        have hkn := kName_len (o : Int)
        clear c1 c2 d1 hone
        have b1 := Blk.new w [.int .i64 (o : Int), .int .i64 n, .string (strB s), .slice la l.length lc] 64
        have k1 : Kept w (w.alloc (.cells #[.int .i64 (o : Int), .int .i64 n, .string (strB s), .slice la l.length lc] 64)) := (Kept.refl w).alloc _
        have h1 := (h.new.mono (M := fun x => x = w.heap.size) (fun x hx => by subst hx; exact Nat.le_refl _)).kept k1
        have g1 := k1.cell (p := ⟨0, o * 3, none⟩) (World.block_lt_of_cell? _ _ g0) |>.trans g0
        have o13 : (o : Int) < 13 := by omega
        have o00 : (0 : Int) ≤ (o : Int) := by omega
        go_wp2_with fail
        generalize w.alloc (.cells #[.int .i64 (o : Int), .int .i64 n, .string (strB s), .slice la l.length lc] 64) = w1 at k1 b1 h1 g1 ⊢
        have q0 := b1.cell 0
        simp only [List.getElem?_cons_succ, List.getElem?_cons_zero] at q0
        have hB1 : w0.heap.size ≤ w1.heap.size := Nat.le_trans hk.size k1.size
        have hdr : ∀ x : Nat, x = w.heap.size → ∃ e cs, Blk w1.drew x e cs ∧ 5 ≠ e := fun x hx => by subst hx; exact ⟨_, _, b1, by decide⟩
        have h1d : BldN (fun x => x = w.heap.size) w0.heap.size b (.slice (some ⟨nb, noff, none⟩) ds.length ncap) bs w1.drew := h1.kept (Kept.refl w1).drew
        go_region_with (first
          | (go_at_call 71; refine (bstrN_any h1d hB1 hdr (by omega) (kName o) (by omega)).mono ?_; rintro e w2 ⟨rfl, h2, t2⟩))
        all_goals
          have t2' : Turn (fun x => w0.heap.size ≤ x ∧ ¬ x = w.heap.size) w1 w2 := ((Kept.refl w1).drew.turn _).trans t2 (fun x hx => .inl hx)
          have b2 := b1.turn t2' (fun x => x.2 rfl)
          have k2 : Kept w0 w2 := (hk.trans k1).trans' (t2'.toBelow hB1)
          go_wp2_with fail
          refine (bbyteN_any h2 k2.size (fun x hx => by subst hx; exact b2.lt) (by rw [List.length_append]; omega) 40 40 rfl).mono ?_
          rintro e w3 ⟨rfl, h3, t3⟩
          have b3 := b2.turn t3 (fun x => x.2 rfl)
          have k3 : Kept w0 w3 := k2.trans' (t3.toBelow k2.size)
          have q3 := b3.cell 3
          simp only [List.getElem?_cons_succ, List.getElem?_cons_zero] at q3
          go_wp2_with fail
          refine (parts_any hlr hll hless (fun x hx => ih x hx (by omega)) k3 h3.no (by simp only [List.length_append, List.length_cons, List.length_nil]; omega)).mono ?_
          rintro e w4 ⟨rfl, ⟨b4, h4, o4, n4⟩, k4⟩
          go_wp2_with fail
          refine (bbyte_any h4 k4.size (by have := HD.out; omega) 41 41 rfl).mono ?_
          rintro e w5 ⟨rfl, h5, k5⟩
          go_wp2
          go_end0
          refine ⟨rfl, ⟨_, h5, ?_, ?_⟩, k4.trans' k5⟩
          · rw [HE.out]
            rcases o4 with e | ⟨e1, e2⟩
            · exact .inl (by rw [e]; simp)
            · refine .inr ⟨?_, ?_⟩
              · rw [List.length_append]; omega
              · simp only [List.length_append, List.length_cons, List.length_nil] at e2 ⊢; omega
          · rw [List.length_append]
            show _ + 1 ≤ _
            omega

/-- What Show tells of a term, and its error. -/
def shE (ds : List Nd) (t : Int) : Int := if 0 ≤ t ∧ t < ds.length then (if 4000 < (shw ds t).length then 2 else 0) else 4
def shT (ds : List Nd) (t : Int) : List UInt8 := if shE ds t = 0 then shw ds t else []

theorem one_pos (f : Int → List UInt8) (d : Nd) : one f d ≠ [] := by
  unfold one
  split
  · simp
  · split <;> simp

set_option maxHeartbeats 4000000 in
set_option maxRecDepth 100000 in
theorem show_any {F : Nat → Prop} {w : World} {p : Value} {ds : List Nd} (h : Ar F w p ds) (ht : Tabs w) (t : Int) :
    Calls Tryd.prog 26 #[p, .int .i64 t] w fun e w' => e = .returned (.tuple #[.string (strB (shT ds t)), .int .i64 (shE ds t)]) ∧ Kept w w' := by
  have HH := Shut.mk h
  by_cases hin : 0 ≤ t ∧ t < ds.length
  · have hE : shE ds t = (if 4000 < (shw ds t).length then 2 else 0) := by unfold shE; rw [if_pos hin]
    obtain ⟨t0, t1⟩ := hin
    obtain ⟨pb, mb, nv, rfl, q0, q1, hns⟩ := ArG.nodes h
    obtain ⟨na, ncap, rfl, _, _, _⟩ := hns.len
    have hq := World.block_lt_of_cell? _ _ q0
    have hterm := term_ok h.good hns ht h.oks ⟨h.few⟩ t.toNat (by omega)
    have hsh := shw_eq h.good t0 t1
    have HE := Shut.mk hE
    have HSH := Shut.mk hsh
    clear hE hsh hns
    have htt : ((t.toNat : Nat) : Int) = t := by omega
    clear h
    go_enter Tryd.func26, Tryd.ntmps26
    go_wp2_with (first | (go_at_call 54; refine (arg_has_t HH.out t0 t1).mono ?_; rintro e w' ⟨rfl, rfl⟩) | fail)
    have k1 : Kept w (w.alloc (.cells #[.pointer none, .slice none 0 0, .slice na ds.length ncap] 101)) := (Kept.refl w).alloc _
    have h1 : Bld w.heap.size w.heap.size (.slice na ds.length ncap) [] (w.alloc (.cells #[.pointer none, .slice none 0 0, .slice na ds.length ncap] 101)) :=
      ⟨Nat.le_refl _, _, _, Blk.new w [.pointer none, .slice none 0 0, .slice na ds.length ncap] 101, .inl rfl, Own.nil _ _ _, fun x => x, fun _ _ x => x⟩
    have hc := hterm _ [] _ k1 h1 (by simp)
    rw [htt] at hc
    refine hc.mono ?_
    rintro e w2 ⟨rfl, ⟨bs, h2, o2, n2⟩, k2⟩
    have HO := Shut.mk o2
    clear o2 hterm
    by_cases hbig : 4000 < bs.length
    · have hd : decide (4000 < (bs.length : Int)) = true := decide_eq_true (by omega)
      have hS : 4000 < (shw ds t).length := by
        rcases HO.out with e | ⟨_, e⟩
        · rw [List.nil_append] at e; rw [← e]; exact hbig
        · simpa using e
      have hE : shE ds t = 2 := by rw [HE.out, if_pos hS]
      have hT : shT ds t = [] := by unfold shT; rw [if_neg (by rw [hE]; decide)]
      have HE2 := Shut.mk hE
      have HT2 := Shut.mk hT
      clear hE hT hS
      go_wp2_with (go_at_call 56; refine (blen_any h2).mono ?_; rintro e w' ⟨rfl, rfl⟩)
      go_ret2
      exact ⟨by rw [HE2.out, HT2.out]; rfl, k2⟩
    · have hd : decide (4000 < (bs.length : Int)) = false := decide_eq_false (by omega)
      have hS : bs = shw ds t := by
        rcases HO.out with e | ⟨e, _⟩
        · simpa using e
        · exact absurd e hbig
      have hE : shE ds t = 0 := by rw [HE.out, if_neg (by rw [← hS]; exact hbig)]
      have hT : shT ds t = bs := by unfold shT; rw [if_pos hE, hS]
      have hne : bs ≠ [] := by rw [hS, HSH.out]; exact one_pos _ _
      have HE2 := Shut.mk hE
      have HT2 := Shut.mk hT
      have HS2 := Shut.mk hS
      clear hE hT hS
      go_wp2_with (first | (go_at_call 56; refine (blen_any h2).mono ?_; rintro e w' ⟨rfl, rfl⟩) | (go_at_call 57; refine (bstring_any h2 hne).mono ?_; rintro e w3 ⟨rfl, k3⟩))
      go_ret2
      exact ⟨by rw [HE2.out, HT2.out]; rfl, Below.trans k2 k3⟩
  · have hE : shE ds t = 4 := by unfold shE; rw [if_neg hin]
    have hT : shT ds t = [] := by unfold shT; rw [if_neg (by rw [hE]; decide)]
    rw [hE, hT]
    clear h hE hT
    go_enter Tryd.func26, Tryd.ntmps26
    go_wp2_with (go_at_call 54; refine (arg_has_f HH.out hin).mono ?_; rintro e w' ⟨rfl, rfl⟩)
    go_ret2
    exact ⟨rfl, Kept.refl _⟩
end Go.Proofs.YtekieioffaafaaaDoor
end

/- Walks of package term: the writer. -/
import Derived.Test.YtdhdgbihalfgeaaDoorTermH
import Derived.Test.YtdhdgbihalfgeaaDoorTermT
import Derived.StillTailTactics
import Derived.Lib.ConvBytes
set_option linter.unusedSimpArgs false
set_option linter.unusedVariables false
namespace Go.Proofs.YtdhdgbihalfgeaaDoor
open Go.RowKit Go.Maps

theorem u8_eq_lit (c : UInt8) (k : Nat) (hk : k < 256) : ((c.toNat : Int) = (k : Int)) ↔ c = UInt8.ofNat k := by
  rw [← UInt8.toNat_inj, ofNat_small hk]; omega
theorem bytesWorld_kept (w : World) (e : TypeId) (s : ByteArray) : Kept w (Lib.bytesWorld w e s) :=
  ⟨rfl, rfl, rfl, by rw [Lib.bytesWorld_size]; omega, fun j hj => Lib.bytesWorld_at_old w e s j hj⟩

set_option maxHeartbeats 4000000 in
set_option maxRecDepth 100000 in
theorem quoted_any {B b : Nat} {nv : Value} {bs : List UInt8} {w : World} (h : Bld B b nv bs w) (hB : B ≤ w.heap.size) (hl : bs.length ≤ 100000) (s : List UInt8) (hs : s.length ≤ 200) :
    Calls Tryd.prog 51 #[.pointer (some ⟨b, 0, none⟩), .string (strB s)] w fun e w' => e = .returned (.tuple #[]) ∧ Bld B b nv (bs ++ (34 :: (esc s ++ [34]))) w' ∧ Below B w w' := by
  have e1 := strB_size s
  have e2 := strB_toList s
  generalize strB s = S at e1 e2
  go_enter Tryd.func51, Tryd.ntmps51
  go_wp2_with fail
  refine (bbyte_any h hB (by omega) 34 34 rfl).mono ?_
  rintro e w1 ⟨rfl, h1, k1⟩
  have hB1 : B ≤ w1.heap.size := Nat.le_trans hB k1.size
  have hcv := Lib.run_convert_string_bytes (P := Tryd.prog) w1 9 62 5 S Tryd.underlying9 Tryd.underlying62 Tryd.underlying5
  have hq : ∀ j, j < s.length → (Lib.bytesWorld w1 5 S).cell? ⟨w1.heap.size, j, none⟩ = some (.int .u8 (s.getD j 0).toNat) := fun j hj => by
    rw [Lib.bytesWorld_cell w1 5 S j (by omega), e2]
  have hk := bytesWorld_kept w1 5 S
  have hsz := Lib.bytesWorld_size w1 5 S
  have hbn := (h1.new).mono (M := fun x => x = w1.heap.size) (fun x hx => by subst hx; exact Nat.le_refl _)
  have hbn2 := hbn.kept hk
  generalize Lib.bytesWorld w1 5 S = w2 at hcv hq hk hsz hbn2
  generalize grownCap w1 S.size 0 5 = cap at hcv
  rw [e1] at hcv
  clear e1 e2
  go_wp2
  go_loopw [13] (fun i wr => ∃ k : Nat, k ≤ s.length ∧ i = .int .i64 k ∧ BldN (fun x => x = w1.heap.size) B b nv (bs ++ 34 :: esc (s.take k)) wr ∧ Turn (fun x => B ≤ x ∧ ¬ x = w1.heap.size) w2 wr) (fun i _ => s.length - (intOf i).toNat)
  case atStart => exact ⟨0, Nat.zero_le _, rfl, by simpa [esc] using hbn2, Turn.refl _ _⟩
  case round =>
    obtain ⟨k, hk0, rfl, hr, ht⟩ := hrel
    have hwB : Below B w wr := (k1.trans (Below.mono hk hB1)).trans (Turn.toBelow ht (by omega))
    have hBr : B ≤ wr.heap.size := Nat.le_trans hB hwB.size
    have hel := esc_len (s.take k)
    rw [List.length_take] at hel
    by_cases hlt : k < s.length
    · have hc : wr.cell? ⟨w1.heap.size, k, none⟩ = some (.int .u8 (s.getD k 0).toNat) := by
        rw [World.cell?_of_block (ht.block _ (show w1.heap.size < w2.heap.size by omega) (fun x => x.2 rfl))]; exact hq k hlt
      have hstep : esc (s.take (k + 1)) = esc (s.take k) ++ (if s.getD k 0 = 34 ∨ s.getD k 0 = 92 then [92, s.getD k 0] else [s.getD k 0]) := by
        rw [List.take_succ_eq_append_getElem hlt, esc_snoc, List.getD_eq_getElem?_getD, List.getElem?_eq_getElem hlt]; rfl
      have HS := Shut.mk hstep
      clear hstep hq
      generalize s.getD k 0 = c at hc HS
      have hNr : ∀ x, x = w1.heap.size → x < wr.heap.size := fun x hx => by have := ht.size; omega
      have hbl : (bs ++ 34 :: esc (s.take k)).length ≤ 200000 := by simp; omega
      have hcases : (((c.toNat : Int) == 34) = true ∧ (c = 34 ∨ c = 92)) ∨ (((c.toNat : Int) == 34) = false ∧ ((c.toNat : Int) == 92) = true ∧ (c = 34 ∨ c = 92)) ∨ (((c.toNat : Int) == 34) = false ∧ ((c.toNat : Int) == 92) = false ∧ ¬ (c = 34 ∨ c = 92)) := by
        have q1 := u8_eq_lit c 34 (by decide)
        have q2 := u8_eq_lit c 92 (by decide)
        by_cases c1 : (c.toNat : Int) = 34
        · exact .inl ⟨by simpa using c1, .inl (q1.1 c1)⟩
        · by_cases c2 : (c.toNat : Int) = 92
          · exact .inr (.inl ⟨by simpa using c1, by simpa using c2, .inr (q2.1 c2)⟩)
          · exact .inr (.inr ⟨by simpa using c1, by simpa using c2, fun h => h.elim (fun e => c1 (q1.2 e)) (fun e => c2 (q2.2 e))⟩)
      clear hel
      rcases hcases with ⟨d1, hcc⟩ | ⟨d1, d2, hcc⟩ | ⟨d1, d2, hcc⟩
      · have hst := HS.out
        rw [if_pos hcc] at hst
        have HS2 := Shut.mk hst
        clear hst HS hcc
        go_wp2_with fail
        refine (bbyteN_any hr hBr hNr (by omega) 92 92 rfl).mono ?_
        rintro e w3 ⟨rfl, h3, t3⟩
        go_wp2_with fail
        refine (bbyteN_any h3 (Nat.le_trans hBr t3.size) (fun x hx => Nat.lt_of_lt_of_le (hNr x hx) t3.size) (by rw [List.length_append]; show _ + 1 ≤ 1000000; omega) c c.toNat rfl).mono ?_
        rintro e w4 ⟨rfl, h4, t4⟩
        go_wp2
        go_roundw
        case rel =>
          refine ⟨k + 1, hlt, rfl, ?_, (ht.trans t3 (fun x hx => .inl hx)).trans t4 (fun x hx => .inl hx)⟩
          rw [HS2.out]
          simpa using h4
        case measure => simp [intOf]; omega
      · have hst := HS.out
        rw [if_pos hcc] at hst
        have HS2 := Shut.mk hst
        clear hst HS hcc
        go_wp2_with fail
        refine (bbyteN_any hr hBr hNr (by omega) 92 92 rfl).mono ?_
        rintro e w3 ⟨rfl, h3, t3⟩
        go_wp2_with fail
        refine (bbyteN_any h3 (Nat.le_trans hBr t3.size) (fun x hx => Nat.lt_of_lt_of_le (hNr x hx) t3.size) (by rw [List.length_append]; show _ + 1 ≤ 1000000; omega) c c.toNat rfl).mono ?_
        rintro e w4 ⟨rfl, h4, t4⟩
        go_wp2
        go_roundw
        case rel =>
          refine ⟨k + 1, hlt, rfl, ?_, (ht.trans t3 (fun x hx => .inl hx)).trans t4 (fun x hx => .inl hx)⟩
          rw [HS2.out]
          simpa using h4
        case measure => simp [intOf]; omega
      · have hst := HS.out
        rw [if_neg hcc] at hst
        have HS2 := Shut.mk hst
        clear hst HS hcc
        go_wp2_with fail
        refine (bbyteN_any hr hBr hNr (by omega) c c.toNat rfl).mono ?_
        rintro e w3 ⟨rfl, h3, t3⟩
        go_wp2
        go_roundw
        case rel =>
          refine ⟨k + 1, hlt, rfl, ?_, ht.trans t3 (fun x hx => .inl hx)⟩
          rw [HS2.out]
          simpa using h3
        case measure => simp [intOf]; omega
    · obtain rfl : k = s.length := by omega
      rw [List.take_length] at hr hel
      go_wp2_with fail
      refine (bbyte_any hr.no hBr (by simp; omega) 34 34 rfl).mono ?_
      rintro e w3 ⟨rfl, h3, k3⟩
      go_wp2
      go_end0
      exact ⟨rfl, by simpa using h3, hwB.trans k3⟩

/-- What writing a term does. -/
def TermOk (w0 : World) (nv : Value) (ds : List Nd) (t : Nat) : Prop := ∀ (b : Nat) (bs : List UInt8) (w : World), Kept w0 w → Bld w0.heap.size b nv bs w → bs.length ≤ 4001 →
  Calls Tryd.prog 37 #[.pointer (some ⟨b, 0, none⟩), .int .i64 t] w fun e w' => e = .returned (.tuple #[]) ∧ (∃ bs', Bld w0.heap.size b nv bs' w' ∧ Out bs (shw ds t) bs' ∧ bs'.length ≤ 4501 + t) ∧ Kept w0 w'

theorem out_trans {a x b y c : List UInt8} (h : b = a ++ x) (k : Out b y c) : Out a (x ++ y) c := by
  subst h
  rcases k with k | ⟨k1, k2⟩
  · exact .inl (by rw [k, List.append_assoc])
  · exact .inr ⟨k1, by simp only [List.length_append] at k2 ⊢; omega⟩

set_option maxHeartbeats 4000000 in
set_option maxRecDepth 100000 in
theorem parts_any {w0 : World} {nv : Value} {ds : List Nd} {T : Nat} {lv : Value} {l : List Int} (hr : RdI w0 lv l) (hl : l.length ≤ 64) (hT : ∀ x ∈ l, 0 ≤ x ∧ x < T) (ih : ∀ x, x < T → TermOk w0 nv ds x) {b : Nat} {bs : List UInt8} {w : World} (hk : Kept w0 w) (h : Bld w0.heap.size b nv bs w) (hbs : bs.length ≤ 4008) :
    Calls Tryd.prog 52 #[.pointer (some ⟨b, 0, none⟩), lv] w fun e w' => e = .returned (.tuple #[]) ∧ (∃ bs', Bld w0.heap.size b nv bs' w' ∧ Out bs (joinC (l.map (shw ds))) bs' ∧ bs'.length ≤ 4500 + T) ∧ Kept w0 w' := by
  obtain ⟨la, lc, rfl, l1, l2, l3⟩ := hr.len
  go_enter Tryd.func52, Tryd.ntmps52
  go_wp2
  go_loopw [8] (fun i wr => ∃ (k : Nat) (bk : List UInt8), k ≤ l.length ∧ i = .int .i64 k ∧ Bld w0.heap.size b nv bk wr ∧ Out bs (joinC ((l.take k).map (shw ds))) bk ∧ bk.length ≤ 4500 + T ∧ Kept w0 wr) (fun i _ => l.length - (intOf i).toNat)
  case atStart => exact ⟨0, bs, Nat.zero_le _, rfl, h, .inl (by simp [joinC]), by omega, hk⟩
  case round =>
    obtain ⟨k, bk, hk0, rfl, hb, hout, hbl, hkr⟩ := hrel
    by_cases hlt : k < l.length
    · obtain ⟨rb, ro, rc, hrv, _, _, hrb, hcell⟩ := hr.addr (by omega)
      simp only [Value.slice.injEq] at hrv
      obtain ⟨rfl, _, rfl⟩ := hrv
      have hcw : wr.cell? ⟨rb, ro + k, none⟩ = some (.int .i64 (l.getD k 0)) := hkr.cell (p := ⟨rb, ro + k, none⟩) hrb |>.trans (hcell k hlt)
      clear hcell
      have hmem : l.getD k 0 ∈ l := by
        rw [List.getD_eq_getElem?_getD, List.getElem?_eq_getElem hlt]; exact List.getElem_mem _
      obtain ⟨x0, xT⟩ := hT _ hmem
      have hstep := joinC_step l (shw ds) hlt
      have hple : (joinC ((l.take k).map (shw ds))).length ≤ (joinC (l.map (shw ds))).length := by
        rw [List.map_take]; exact joinC_take_le _ _
      have HO := Shut.mk hout
      have HS := Shut.mk hstep
      have HP := Shut.mk hple
      clear hout hstep hple hmem
      generalize hxv : l.getD k 0 = xv at hcw x0 xT HS
      have HXV := Shut.mk hxv
      clear hxv
      obtain ⟨x, rfl⟩ := Int.eq_ofNat_of_zero_le x0
      have hxT : x < T := by omega
      by_cases hbig : 4000 < bk.length
      · have hd : decide (4000 < (bk.length : Int)) = true := decide_eq_true (by omega)
        go_wp2_with (go_at_call 38; refine (blen_any hb).mono ?_; rintro e w' ⟨rfl, rfl⟩)
        refine bodyPost_ret (results_none rfl _ _ _) rfl ?_
        refine ⟨rfl, ⟨bk, hb, .inr ⟨hbig, ?_⟩, hbl⟩, hkr⟩
        have hp := HP.out
        rcases HO.out with e | ⟨_, e⟩
        · have := congrArg List.length e
          rw [List.length_append] at this
          omega
        · omega
      · have hex : bk = bs ++ joinC ((l.take k).map (shw ds)) := HO.out.resolve_right (fun e => hbig e.1)
        have HE := Shut.mk hex
        have hd : decide (4000 < (bk.length : Int)) = false := decide_eq_false (by omega)
        clear hex
        by_cases hk1 : k = 0
        · subst hk1
          rw [Nat.add_zero] at hcw
          go_wp2_with (first | (go_at_call 38; refine (blen_any hb).mono ?_; rintro e w' ⟨rfl, rfl⟩) | fail)
          refine (ih x hxT b bk _ hkr hb (by omega)).mono ?_
          rintro e w3 ⟨rfl, ⟨b3, h3, o3, n3⟩, k3⟩
          go_wp2
          go_roundw
          case rel =>
            refine ⟨1, b3, hlt, rfl, h3, ?_, by omega, k3⟩
            rw [HS.out]
            exact out_trans HE.out (by simpa using o3)
          case measure => simp [intOf]; omega
        · go_wp2_with (first | (go_at_call 38; refine (blen_any hb).mono ?_; rintro e w' ⟨rfl, rfl⟩) | fail)
          refine (bbyte_any hb hkr.size (by omega) 44 44 rfl).mono ?_
          rintro e w2 ⟨rfl, h2, k2⟩
          have hk2 : Kept w0 w2 := Below.trans hkr k2
          go_wp2_with fail
          refine (ih x hxT b _ _ hk2 h2 (by rw [List.length_append]; show _ + 1 ≤ 4001; omega)).mono ?_
          rintro e w3 ⟨rfl, ⟨b3, h3, o3, n3⟩, k3⟩
          go_wp2
          go_roundw
          case rel =>
            refine ⟨k + 1, b3, hlt, rfl, h3, ?_, by omega, k3⟩
            rw [HS.out, if_neg hk1]
            refine out_trans HE.out ?_
            exact out_trans rfl o3
          case measure => simp [intOf]; omega
    · obtain rfl : k = l.length := by omega
      rw [List.take_length] at hout
      go_wp2
      go_end0
      exact ⟨rfl, ⟨bk, hb, hout, hbl⟩, hkr⟩
end Go.Proofs.YtdhdgbihalfgeaaDoor

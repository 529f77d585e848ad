/- The document's terms: text. -/
import Derived.Test.YtdhdgbihalfgeaaDoorRefD
import Derived.Test.YtdhdgbihalfgeaaDoorTermE
set_option linter.unusedSimpArgs false
set_option linter.unusedVariables false
namespace Go.Proofs.YtdhdgbihalfgeaaDoor
open Go.RowKit Go.Maps

theorem partsKeyR_len (l : List Int) (h : ∀ x ∈ l, I64 x) : (partsKeyR l).length ≤ 22 * l.length := by
  induction l with
  | nil => simp [partsKeyR]
  | cons x l ih =>
    rw [partsKeyR_cons]
    have := ih fun y hy => h y (List.mem_cons_of_mem _ hy)
    have := itoa_len (h x List.mem_cons_self)
    simp
    omega
theorem drewKept (w : World) (n : Nat) : Kept w (w.drewN n) := (Kept.refl w).drewN n

set_option maxRecDepth 100000 in
set_option maxHeartbeats 4000000 in
theorem textR_any {w : World} {v : Value} {d : Nd} (hd : RdN w v d) (hop : 0 ≤ d.op) (hn : 0 ≤ d.n) (hok : NdOk d) (hs : d.s.length ≤ 200) (hl : d.l.length ≤ 64) (hpos : ∀ x ∈ d.l, 0 ≤ x) :
    Calls Tryd.prog 34 #[v] w fun e w' => e = .returned (.string (strB (keyR d))) ∧ Kept w w' := by
  obtain ⟨lv, rfl, hr⟩ := hd
  obtain ⟨op, n, s, l⟩ := d
  simp only at hr hop hs hl hn hpos ⊢
  have ho64 := hok.op
  have hn64 := hok.n
  have hll := hok.l
  simp only at ho64 hn64 hll
  obtain ⟨la, lc, rfl, l1, l2, l3⟩ := hr.len
  have h1 := fun W => itoaR op hop ho64.2 W
  have h2 := fun W => itoaR n hn hn64.2 W
  have h3 := fun W => itoaR (s.length : Int) (by omega) (by omega) W
  have g1 := itoa_len ho64
  have g2 := itoa_len hn64
  have g3 := itoa_len (i := (s.length : Int)) ⟨by omega, by omega⟩
  have e1 := strB_size (Lib.itoa op)
  have e2 := strB_size (Lib.itoa n)
  have e3 := strB_size (Lib.itoa (s.length : Int))
  have e4 := strB_size s
  have HK : Shut (strB (keyR ⟨op, n, s, []⟩) = strB (Lib.itoa op) ++ ⟨#[32]⟩ ++ strB (Lib.itoa n) ++ ⟨#[32]⟩ ++ strB (Lib.itoa (s.length : Int)) ++ ⟨#[32]⟩ ++ strB s) := ⟨by
    have e : (⟨#[32]⟩ : ByteArray) = strB [32] := rfl
    rw [e]
    simp only [strB_app]
    congr 1
    simp [keyR, partsKeyR]⟩
  generalize strB (Lib.itoa op) = A at *
  generalize strB (Lib.itoa n) = B at *
  generalize strB (Lib.itoa (s.length : Int)) = C at *
  generalize hS : strB s = S at *
  have HS := Shut.mk hS
  clear hS
  have f1 : A.size ≤ 21 := by omega
  have f2 : B.size ≤ 21 := by omega
  have f3 : C.size ≤ 21 := by omega
  have f4 : S.size ≤ 200 := by omega
  have F4 := Shut.mk e4
  clear e1 e2 e3 g1 g2 g3
  go_enter Tryd.func34, Tryd.ntmps34
  go_wp2
  refine wp_region_quiet_lit (by kernel_rfl) (by kernel_rfl) ?_
  repeat (go_big_quiet_step (fail))
  go_big_quiet_step ((go_at_call 47; exact Calls.quiet_of (h1 _)))
  repeat (go_big_quiet_step (fail))
  go_big_quiet_step ((go_at_call 47; exact Calls.quiet_of (h2 _)))
  repeat (go_big_quiet_step (fail))
  go_big_quiet_step ((go_at_call 47; exact Calls.quiet_of (h3 _)))
  repeat (go_big_quiet_step (fail))
  refine wpQuiet_nil ?_
  intro _ hw'
  obtain ⟨nq, hw''⟩ := hw'
  subst hw''
  rw [← HK.out]
  have k0 : Kept w ((w.alloc (.cells #[.int .i64 op, .int .i64 n, .string S, .slice la l.length lc] 31)).drewN nq) := ((Kept.refl w).alloc _).drewN _
  have hk0 : (keyR ⟨op, n, s, []⟩).length ≤ 300 := by
    have := congrArg ByteArray.size HK.out
    rw [strB_size] at this
    simp only [ByteArray.size_append] at this
    have e : (⟨#[32]⟩ : ByteArray).size = 1 := rfl
    omega
  have HE : Shut (keyR ⟨op, n, s, l⟩ = keyR ⟨op, n, s, []⟩ ++ partsKeyR l) := ⟨by simp [keyR, partsKeyR]⟩
  generalize keyR ⟨op, n, s, []⟩ = K0 at HK HE hk0
  clear h1 h2 h3 HK
  have l63 : ((l.length : Nat) : Int) ≤ 9223372036854775807 := by omega
  go_wp2
  go_loopw [3, 27] (fun b i wr => ∃ k : Nat, k ≤ l.length ∧ i = .int .i64 k ∧ b = .string (strB (K0 ++ partsKeyR (l.take k))) ∧ Kept w wr) (fun _ i _ => l.length - (intOf i).toNat)
  case atStart => exact ⟨0, Nat.zero_le _, rfl, by simp [partsKeyR], k0⟩
  case round =>
    obtain ⟨k, hk1, rfl, rfl, hkept⟩ := hrel
    by_cases hlt : k < l.length
    · obtain ⟨rb, ro, rc, hrv, _, _, hrb, hcell⟩ := hr.addr (by omega)
      simp only [Value.slice.injEq] at hrv
      obtain ⟨rfl, hdrop, rfl⟩ := hrv
      clear hdrop
      have hcw : wr.cell? ⟨rb, ro + k, none⟩ = some (.int .i64 (l.getD k 0)) := hkept.cell (p := ⟨rb, ro + k, none⟩) hrb |>.trans (hcell k hlt)
      clear hcell
      have hmem : l.getD k 0 ∈ l := by rw [List.getD_eq_getElem?_getD, List.getElem?_eq_getElem hlt]; exact List.getElem_mem _
      have hx64 : I64 (l.getD k 0) := hll _ hmem
      have hx0 := hpos _ hmem
      have hstep : partsKeyR (l.take (k + 1)) = partsKeyR (l.take k) ++ 32 :: Lib.itoa (l.getD k 0) := by
        rw [List.take_succ_eq_append_getElem hlt, partsKeyR_snoc, List.getD_eq_getElem?_getD, List.getElem?_eq_getElem hlt]; rfl
      have hpl : (partsKeyR (l.take k)).length ≤ 22 * k := by
        have := partsKeyR_len (l.take k) (fun x hx => hll x (List.mem_of_mem_take hx))
        rw [List.length_take] at this
        omega
      have HS2 := Shut.mk hstep
      clear hstep hmem
      generalize l.getD k 0 = x at hcw hx64 HS2 hx0
      have hil := itoa_len hx64
      have hd := itoaR x hx0 hx64.2 wr
      have HJ : Shut (strB (K0 ++ partsKeyR (l.take (k + 1))) = strB (K0 ++ partsKeyR (l.take k)) ++ ((⟨#[32]⟩ : ByteArray) ++ strB (Lib.itoa x))) := ⟨by
        have e : (⟨#[32]⟩ : ByteArray) = strB [32] := rfl
        rw [e, strB_app, strB_app, HS2.out]
        simp⟩
      have e1 : (strB (Lib.itoa x)).size ≤ 21 := by rw [strB_size]; exact hil
      have e2 : (strB (K0 ++ partsKeyR (l.take k))).size ≤ 3000 := by rw [strB_size]; simp; omega
      generalize strB (Lib.itoa x) = X at hd HJ e1
      generalize strB (K0 ++ partsKeyR (l.take k)) = Z at HJ e2
      go_wp2_with fail
      refine hd.mono ?_
      rintro e w1 ⟨rfl, m, rfl⟩
      go_wp2
      go_roundw
      case rel => exact ⟨k + 1, hlt, rfl, by rw [HJ.out], hkept.drewN _⟩
      case measure => simp [intOf]; omega
    · obtain rfl : k = l.length := by omega
      go_wp2
      go_ret
      exact ⟨by rw [List.take_length, ← HE.out]; rfl, hkept⟩
end Go.Proofs.YtdhdgbihalfgeaaDoor

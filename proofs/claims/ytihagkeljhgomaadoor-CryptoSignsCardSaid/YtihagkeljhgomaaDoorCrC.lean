/- Walks of package crypto: what is made of terms. -/
import Derived.Test.YtihagkeljhgomaaDoorCrB
set_option linter.unusedSimpArgs false
set_option linter.unusedVariables false
namespace Go.Proofs.YtihagkeljhgomaaDoor
open Go.RowKit Go.Maps

theorem RdI.lit (w : World) (zs : List Int) (hl : zs.length ≤ 1000000) : RdI (w.alloc (.cells (zs.map (Value.int .i64)).toArray 3)) (.slice (some ⟨w.heap.size, 0, none⟩) zs.length zs.length) zs := by
  have := (Ownv.lit (B := w.heap.size) 3 (w := w) (zs.map (Value.int .i64)) (Nat.le_refl _) (by unfold maxLen; simp; omega)).rdv
  simp only [List.length_map] at this
  exact this

set_option maxHeartbeats 4000000 in
set_option maxRecDepth 100000 in
theorem extractA {w0 : World} {S : Nat → Prop} {w : World} {p : Value} {ds : List Nd} (h : At w0 S w p ds) {a b : Int} (ha : I64 a) (hb : I64 b) :
    Calls Tryd.prog 25 #[p, .int .i64 a, .int .i64 b] w (MkPost w0 S w p (made ds 5 [a, b])) := by
  have k0 : Kept w (w.alloc (.cells #[.int .i64 a, .int .i64 b] 3)) := (Kept.refl w).alloc _
  have hr : RdI (w.alloc (.cells #[.int .i64 a, .int .i64 b] 3)) (.slice (some ⟨w.heap.size, 0, none⟩) 2 2) [a, b] := RdI.lit w [a, b] (by simp)
  have hm := madeA (h.step k0) hr (op := 5) (i64_lit (by simp)) (fun x hx => by
    simp only [List.mem_cons, List.not_mem_nil, or_false] at hx
    rcases hx with rfl | rfl
    · exact ha
    · exact hb)
  generalize made ds 5 [a, b] = m at hm ⊢
  clear hr
  go_enter Tryd.func25, Tryd.ntmps25
  go_wp2_with fail
  refine hm.mono ?_
  rintro e w' ⟨rfl, r1, r2⟩
  go_wp2
  go_ret2
  exact ⟨rfl, r1, (k0.keep S).trans r2⟩

set_option maxHeartbeats 4000000 in
set_option maxRecDepth 100000 in
theorem publicA {w0 : World} {S : Nat → Prop} {w : World} {p : Value} {ds : List Nd} (h : At w0 S w p ds) {a : Int} (ha : I64 a) :
    Calls Tryd.prog 13 #[p, .int .i64 a] w (MkPost w0 S w p (made ds 7 [a])) := by
  have k0 : Kept w (w.alloc (.cells #[.int .i64 a] 3)) := (Kept.refl w).alloc _
  have hr : RdI (w.alloc (.cells #[.int .i64 a] 3)) (.slice (some ⟨w.heap.size, 0, none⟩) 1 1) [a] := RdI.lit w [a] (by simp)
  have hm := madeA (h.step k0) hr (op := 7) (i64_lit (by simp)) (fun x hx => by
    simp only [List.mem_cons, List.not_mem_nil, or_false] at hx
    rcases hx with rfl
    · exact ha)
  generalize made ds 7 [a] = m at hm ⊢
  clear hr
  go_enter Tryd.func13, Tryd.ntmps13
  go_wp2_with fail
  refine hm.mono ?_
  rintro e w' ⟨rfl, r1, r2⟩
  go_wp2
  go_ret2
  exact ⟨rfl, r1, (k0.keep S).trans r2⟩

set_option maxHeartbeats 4000000 in
set_option maxRecDepth 100000 in
theorem lockA {w0 : World} {S : Nat → Prop} {w : World} {p : Value} {ds : List Nd} (h : At w0 S w p ds) {a b c d : Int} (ha : I64 a) (hb : I64 b) (hc : I64 c) (hd : I64 d) :
    Calls Tryd.prog 15 #[p, .int .i64 a, .int .i64 b, .int .i64 c, .int .i64 d] w (MkPost w0 S w p (made ds 9 [a, b, c, d])) := by
  have k0 : Kept w (w.alloc (.cells #[.int .i64 a, .int .i64 b, .int .i64 c, .int .i64 d] 3)) := (Kept.refl w).alloc _
  have hr : RdI (w.alloc (.cells #[.int .i64 a, .int .i64 b, .int .i64 c, .int .i64 d] 3)) (.slice (some ⟨w.heap.size, 0, none⟩) 4 4) [a, b, c, d] := RdI.lit w [a, b, c, d] (by simp)
  have hm := madeA (h.step k0) hr (op := 9) (i64_lit (by simp)) (fun x hx => by
    simp only [List.mem_cons, List.not_mem_nil, or_false] at hx
    rcases hx with rfl | rfl | rfl | rfl
    · exact ha
    · exact hb
    · exact hc
    · exact hd)
  generalize made ds 9 [a, b, c, d] = m at hm ⊢
  clear hr
  go_enter Tryd.func15, Tryd.ntmps15
  go_wp2_with fail
  refine hm.mono ?_
  rintro e w' ⟨rfl, r1, r2⟩
  go_wp2
  go_ret2
  exact ⟨rfl, r1, (k0.keep S).trans r2⟩

set_option maxHeartbeats 4000000 in
set_option maxRecDepth 100000 in
theorem signA {w0 : World} {S : Nat → Prop} {w : World} {p : Value} {ds : List Nd} (h : At w0 S w p ds) {a b : Int} (ha : I64 a) (hb : I64 b) :
    Calls Tryd.prog 18 #[p, .int .i64 a, .int .i64 b] w (MkPost w0 S w p (made ds 10 [a, b])) := by
  have k0 : Kept w (w.alloc (.cells #[.int .i64 a, .int .i64 b] 3)) := (Kept.refl w).alloc _
  have hr : RdI (w.alloc (.cells #[.int .i64 a, .int .i64 b] 3)) (.slice (some ⟨w.heap.size, 0, none⟩) 2 2) [a, b] := RdI.lit w [a, b] (by simp)
  have hm := madeA (h.step k0) hr (op := 10) (i64_lit (by simp)) (fun x hx => by
    simp only [List.mem_cons, List.not_mem_nil, or_false] at hx
    rcases hx with rfl | rfl
    · exact ha
    · exact hb)
  generalize made ds 10 [a, b] = m at hm ⊢
  clear hr
  go_enter Tryd.func18, Tryd.ntmps18
  go_wp2_with fail
  refine hm.mono ?_
  rintro e w' ⟨rfl, r1, r2⟩
  go_wp2
  go_ret2
  exact ⟨rfl, r1, (k0.keep S).trans r2⟩

set_option maxHeartbeats 4000000 in
set_option maxRecDepth 100000 in
theorem tagA {w0 : World} {S : Nat → Prop} {w : World} {p : Value} {ds : List Nd} (h : At w0 S w p ds) {a b : Int} (ha : I64 a) (hb : I64 b) :
    Calls Tryd.prog 19 #[p, .int .i64 a, .int .i64 b] w (MkPost w0 S w p (made ds 11 [a, b])) := by
  have k0 : Kept w (w.alloc (.cells #[.int .i64 a, .int .i64 b] 3)) := (Kept.refl w).alloc _
  have hr : RdI (w.alloc (.cells #[.int .i64 a, .int .i64 b] 3)) (.slice (some ⟨w.heap.size, 0, none⟩) 2 2) [a, b] := RdI.lit w [a, b] (by simp)
  have hm := madeA (h.step k0) hr (op := 11) (i64_lit (by simp)) (fun x hx => by
    simp only [List.mem_cons, List.not_mem_nil, or_false] at hx
    rcases hx with rfl | rfl
    · exact ha
    · exact hb)
  generalize made ds 11 [a, b] = m at hm ⊢
  clear hr
  go_enter Tryd.func19, Tryd.ntmps19
  go_wp2_with fail
  refine hm.mono ?_
  rintro e w' ⟨rfl, r1, r2⟩
  go_wp2
  go_ret2
  exact ⟨rfl, r1, (k0.keep S).trans r2⟩

set_option maxHeartbeats 4000000 in
set_option maxRecDepth 100000 in
theorem blindA {w0 : World} {S : Nat → Prop} {w : World} {p : Value} {ds : List Nd} (h : At w0 S w p ds) {a b : Int} (ha : I64 a) (hb : I64 b) :
    Calls Tryd.prog 20 #[p, .int .i64 a, .int .i64 b] w (MkPost w0 S w p (made ds 12 [a, b])) := by
  have k0 : Kept w (w.alloc (.cells #[.int .i64 a, .int .i64 b] 3)) := (Kept.refl w).alloc _
  have hr : RdI (w.alloc (.cells #[.int .i64 a, .int .i64 b] 3)) (.slice (some ⟨w.heap.size, 0, none⟩) 2 2) [a, b] := RdI.lit w [a, b] (by simp)
  have hm := madeA (h.step k0) hr (op := 12) (i64_lit (by simp)) (fun x hx => by
    simp only [List.mem_cons, List.not_mem_nil, or_false] at hx
    rcases hx with rfl | rfl
    · exact ha
    · exact hb)
  generalize made ds 12 [a, b] = m at hm ⊢
  clear hr
  go_enter Tryd.func20, Tryd.ntmps20
  go_wp2_with fail
  refine hm.mono ?_
  rintro e w' ⟨rfl, r1, r2⟩
  go_wp2
  go_ret2
  exact ⟨rfl, r1, (k0.keep S).trans r2⟩

set_option maxHeartbeats 4000000 in
set_option maxRecDepth 100000 in
theorem freshA {w0 : World} {S : Nat → Prop} {w : World} {p : Value} {ds : List Nd} (h : At w0 S w p ds) {n : Int} (hn : I64 n) :
    Calls Tryd.prog 12 #[p, .int .i64 n] w (MkPost w0 S w p (mk ds ⟨1, n, [], []⟩)) := by
  have hm := makeA h (v := .agg #[.int .i64 1, .int .i64 n, .string ⟨#[]⟩, .slice none 0 0]) (d := ⟨1, n, [], []⟩) ⟨_, rfl, RdI.nil _⟩ ⟨i64_lit (by simp), hn, by simp, fun x hx => by cases hx⟩
  generalize mk ds ⟨1, n, [], []⟩ = m at hm ⊢
  go_enter Tryd.func12, Tryd.ntmps12
  go_wp2_with fail
  refine hm.mono ?_
  rintro e w' ⟨rfl, r1, r2⟩
  go_wp2
  go_ret2
  exact ⟨rfl, r1, r2⟩

set_option maxHeartbeats 4000000 in
set_option maxRecDepth 100000 in
theorem allA {w0 : World} {S : Nat → Prop} {w : World} {p : Value} {ds : List Nd} (h : At w0 S w p ds) {v : Value} {l : List Int} (hd : RdI w v l) (hok : ∀ x ∈ l, I64 x) :
    Calls Tryd.prog 27 #[p, v] w (MkPost w0 S w p (mk ds ⟨3, 0, [], l⟩)) := by
  obtain ⟨la, lc, rfl, l1, l2, l3⟩ := hd.len
  have hm := listA h hd hok
  generalize mk ds ⟨3, 0, [], l⟩ = m at hm ⊢
  go_enter Tryd.func27, Tryd.ntmps27
  go_wp2_with fail
  refine hm.mono ?_
  rintro e w' ⟨rfl, r1, r2⟩
  go_wp2
  go_ret2
  exact ⟨rfl, r1, r2⟩

theorem mk_t64' (ds : List Nd) (d : Nd) (hl : ds.length ≤ 100000) : I64 (mk ds d).2.1 := by
  have := mk_t64 ds d hl
  exact ⟨by omega, by omega⟩
theorem mk_e64 (ds : List Nd) (d : Nd) : I64 (mk ds d).2.2 := by
  rcases mk_e ds d with e | e | e <;> rw [e] <;> exact i64_lit (by simp)

set_option maxHeartbeats 4000000 in
set_option maxRecDepth 100000 in
theorem expandA {w0 : World} {S : Nat → Prop} {w : World} {p : Value} {ds : List Nd} (h : At w0 S w p ds) {s c : Int} {x : List UInt8} (hs : I64 s) (hc : I64 c) (hx : x.length ≤ maxLen) :
    Calls Tryd.prog 24 #[p, .int .i64 s, .string (strB x), .int .i64 c] w (MkPost w0 S w p (expandM ds s x c)) := by
  have k0 : Kept w (w.alloc (.cells #[.int .i64 s, .int .i64 c] 3)) := (Kept.refl w).alloc _
  have hr : RdI (w.alloc (.cells #[.int .i64 s, .int .i64 c] 3)) (.slice (some ⟨w.heap.size, 0, none⟩) 2 2) [s, c] := RdI.lit w [s, c] (by simp)
  have h1 := termsA (h.step k0) hr
  have h2 := fun W (k : Kept w W) => textA (h.step k) x hx
  have h3 : ∀ (W : World) (_ : At w0 S W p (mk ds ⟨2, 0, x, []⟩).1) (v : Value) (hv : RdI W v [s, (mk ds ⟨2, 0, x, []⟩).2.1, c]), Calls Tryd.prog 30 #[p, .int .i64 6, v] W (MkPost w0 S W p (made (mk ds ⟨2, 0, x, []⟩).1 6 [s, (mk ds ⟨2, 0, x, []⟩).2.1, c])) := fun W hW v hv => madeA hW hv (i64_lit (by simp)) (fun y hy => by
    simp only [List.mem_cons, List.not_mem_nil, or_false] at hy
    rcases hy with rfl | rfl | rfl
    · exact hs
    · exact mk_t64' ds _ h.few
    · exact hc)
  have hM : expandM ds s x c = if termsB ds [s, c] then if (mk ds ⟨2, 0, x, []⟩).2.2 = 0 then made (mk ds ⟨2, 0, x, []⟩).1 6 [s, (mk ds ⟨2, 0, x, []⟩).2.1, c] else ((mk ds ⟨2, 0, x, []⟩).1, 0, (mk ds ⟨2, 0, x, []⟩).2.2) else ((mk ds ⟨2, 0, x, []⟩).1, 0, 1) := rfl
  generalize expandM ds s x c = m at hM ⊢
  generalize mk ds ⟨2, 0, x, []⟩ = t at h2 h3 hM
  obtain ⟨ds1, t1, e1⟩ := t
  simp only at h2 h3 hM
  generalize hmm : made ds1 6 [s, t1, c] = m3 at h3 hM
  generalize termsB ds [s, c] = b at h1 hM
  clear hr hmm hx
  generalize strB x = X at h2 ⊢
  have HX := Shut.mk hM
  clear hM
  go_enter Tryd.func24, Tryd.ntmps24
  go_wp2_with fail
  refine h1.mono ?_
  rintro e w1 ⟨rfl, k1⟩
  go_wp2_with fail
  refine (h2 w1 (k0.trans k1)).mono ?_
  rintro e w2 ⟨rfl, a2, k2⟩
  have kk2 : Keep S w w2 := ((k0.trans k1).keep S).trans k2
  cases b with
  | false =>
    have HM := Shut.mk (show m = (ds1, 0, 1) from HX.out)
    go_wp2
    go_ret2
    exact ⟨by rw [HM.out]; rfl, by rw [HM.out]; exact a2, kk2⟩
  | true =>
    by_cases he : e1 = 0
    · subst he
      have HM := Shut.mk (show m = m3 from HX.out)
      have k3 : Kept w2 (w2.alloc (.cells #[.int .i64 s, .int .i64 t1, .int .i64 c] 3)) := (Kept.refl w2).alloc _
      have hr3 : RdI (w2.alloc (.cells #[.int .i64 s, .int .i64 t1, .int .i64 c] 3)) (.slice (some ⟨w2.heap.size, 0, none⟩) 3 3) [s, t1, c] := RdI.lit w2 [s, t1, c] (by simp)
      have h3' := h3 _ (a2.step k3) _ hr3
      clear hr3 h3
      go_wp2_with fail
      refine h3'.mono ?_
      rintro e w4 ⟨rfl, a4, k4⟩
      go_wp2
      go_ret2
      exact ⟨by rw [HM.out]; rfl, by rw [HM.out]; exact a4, (kk2.kept k3).trans k4⟩
    · have HM := Shut.mk (show m = (ds1, 0, e1) by rw [HX.out, if_pos rfl, if_neg he])
      have hd : (e1 != 0) = true := by simpa using he
      clear he
      go_wp2
      go_ret2
      exact ⟨by rw [HM.out]; rfl, by rw [HM.out]; exact a2, kk2⟩
end Go.Proofs.YtihagkeljhgomaaDoor

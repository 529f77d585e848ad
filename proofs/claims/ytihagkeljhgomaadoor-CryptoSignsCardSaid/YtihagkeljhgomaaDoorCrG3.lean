/- Walks of the statements of layer 4: one thing that is done (part 3). -/
import Derived.Test.YtihagkeljhgomaaDoorCrG
import Derived.Deep.DeepCutAuto
set_option linter.unusedSimpArgs false
set_option linter.unusedVariables false
namespace Go.Proofs.YtihagkeljhgomaaDoor
open Go.RowKit Go.Maps

set_option maxHeartbeats 4000000 in
set_option maxRecDepth 100000 in
theorem body_12 {w0 : World} {S : Nat → Prop} {w : World} {p : Value} {ds : List Nd} (h : At w0 S w p ds) {a b c d : Int} {s : List UInt8} (ok : OpnOk ⟨12, a, b, c, d, s⟩) :
    Calls Tryd.prog 28 #[p, .agg #[.int .i64 12, .int .i64 a, .int .i64 b, .int .i64 c, .int .i64 d, .string (strB s)]] w (BodyPost w0 S w p ds) := by
  have k0 : Kept w ((w.alloc (.cells #[.int .i64 12, .int .i64 a, .int .i64 b, .int .i64 c, .int .i64 d, .string (strB s)] 46)).alloc (.cells #[.int .i64 0, .int .i64 0, .bool false] 48)) := ((Kept.refl w).alloc _).alloc _
  have hs2 : ((w.alloc (.cells #[.int .i64 12, .int .i64 a, .int .i64 b, .int .i64 c, .int .i64 d, .string (strB s)] 46)).alloc (.cells #[.int .i64 0, .int .i64 0, .bool false] 48)).heap.size = w.heap.size + 2 := by rw [alloc_size, alloc_size]
  have a0 : Blk ((w.alloc (.cells #[.int .i64 12, .int .i64 a, .int .i64 b, .int .i64 c, .int .i64 d, .string (strB s)] 46)).alloc (.cells #[.int .i64 0, .int .i64 0, .bool false] 48)) w.heap.size 46 [.int .i64 12, .int .i64 a, .int .i64 b, .int .i64 c, .int .i64 d, .string (strB s)] := (Blk.new w [.int .i64 12, .int .i64 a, .int .i64 b, .int .i64 c, .int .i64 d, .string (strB s)] 46).kept ((Kept.refl _).alloc _)
  have b0 := Blk.new (w.alloc (.cells #[.int .i64 12, .int .i64 a, .int .i64 b, .int .i64 c, .int .i64 d, .string (strB s)] 46)) [.int .i64 0, .int .i64 0, .bool false] 48
  rw [alloc_size] at b0
  generalize hW : (w.alloc (.cells #[.int .i64 12, .int .i64 a, .int .i64 b, .int .i64 c, .int .i64 d, .string (strB s)] 46)).alloc (.cells #[.int .i64 0, .int .i64 0, .bool false] 48) = w1 at k0 hs2 a0 b0
  have hT := body_at h k0 hs2
  have hc := blindA hT ok.a ok.b
  have he : Ext ds 3 (made ds 12 [a, b]).1 := Ext.mono (ext_mk _ _) (by omega)
  generalize made ds 12 [a, b] = m at hc he
  obtain ⟨es, t, e⟩ := m
  generalize strB s = X at *
  have o0 := a0.cell 0
  have o1 := a0.cell 1
  have o2 := a0.cell 2
  have o3 := a0.cell 3
  have o4 := a0.cell 4
  have o5 := a0.cell 5
  simp only [List.getElem?_cons_succ, List.getElem?_cons_zero] at o0 o1 o2 o3 o4 o5
  have HH := Shut.mk h
  have HT := Shut.mk hT
  have K0 := Shut.mk k0
  clear h hT k0 ok hs2 a0
  try simp only at hc
  go_enter Tryd.func28, Tryd.ntmps28
  go_upto_region 3 with fail
  try rw [hW]
  clear hW
  go_wp2_with fail
  refine hc.mono ?_
  rintro e' w2 ⟨rfl, a2, k2⟩
  have b2 := k2.blk b0 (.inr (.inr rfl))
  have z0 := b2.cell 0
  have z1 := b2.cell 1
  have z2 := b2.cell 2
  have f0 := b2.frozen 0
  have f1 := b2.frozen 1
  have f2 := b2.frozen 2
  simp only [List.getElem?_cons_succ, List.getElem?_cons_zero] at z0 z1 z2
  have g := ((b2.set 0 (.int .i64 t)).set 1 (.int .i64 e)).set 2 (.bool false)
  have d0 := g.cell 0
  have d1 := g.cell 1
  have d2 := g.cell 2
  simp only [List.set_cons_succ, List.set_cons_zero, List.getElem?_cons_succ, List.getElem?_cons_zero] at d0 d1 d2
  clear g b2
  go_wp2
  refine bodyPost_ret (v := .agg #[.int .i64 t, .int .i64 e, .bool false]) ?_ rfl ?_
  · have hr : Tryd.f28.results = #[.cell 4 48] := rfl
    simp [results, hr]
    go_simp
  · obtain ⟨A, K⟩ := body_fin HH.out K0.out a2 k2 (.int .i64 t) (.int .i64 e) (.bool false)
    exact ⟨_, es, rfl, he, A, K⟩

set_option maxHeartbeats 4000000 in
set_option maxRecDepth 100000 in
theorem body_13 {w0 : World} {S : Nat → Prop} {w : World} {p : Value} {ds : List Nd} (h : At w0 S w p ds) {a b c d : Int} {s : List UInt8} (ok : OpnOk ⟨13, a, b, c, d, s⟩) :
    Calls Tryd.prog 28 #[p, .agg #[.int .i64 13, .int .i64 a, .int .i64 b, .int .i64 c, .int .i64 d, .string (strB s)]] w (BodyPost w0 S w p ds) := by
  have k0 : Kept w ((w.alloc (.cells #[.int .i64 13, .int .i64 a, .int .i64 b, .int .i64 c, .int .i64 d, .string (strB s)] 46)).alloc (.cells #[.int .i64 0, .int .i64 0, .bool false] 48)) := ((Kept.refl w).alloc _).alloc _
  have hs2 : ((w.alloc (.cells #[.int .i64 13, .int .i64 a, .int .i64 b, .int .i64 c, .int .i64 d, .string (strB s)] 46)).alloc (.cells #[.int .i64 0, .int .i64 0, .bool false] 48)).heap.size = w.heap.size + 2 := by rw [alloc_size, alloc_size]
  have a0 : Blk ((w.alloc (.cells #[.int .i64 13, .int .i64 a, .int .i64 b, .int .i64 c, .int .i64 d, .string (strB s)] 46)).alloc (.cells #[.int .i64 0, .int .i64 0, .bool false] 48)) w.heap.size 46 [.int .i64 13, .int .i64 a, .int .i64 b, .int .i64 c, .int .i64 d, .string (strB s)] := (Blk.new w [.int .i64 13, .int .i64 a, .int .i64 b, .int .i64 c, .int .i64 d, .string (strB s)] 46).kept ((Kept.refl _).alloc _)
  have b0 := Blk.new (w.alloc (.cells #[.int .i64 13, .int .i64 a, .int .i64 b, .int .i64 c, .int .i64 d, .string (strB s)] 46)) [.int .i64 0, .int .i64 0, .bool false] 48
  rw [alloc_size] at b0
  generalize hW : (w.alloc (.cells #[.int .i64 13, .int .i64 a, .int .i64 b, .int .i64 c, .int .i64 d, .string (strB s)] 46)).alloc (.cells #[.int .i64 0, .int .i64 0, .bool false] 48) = w1 at k0 hs2 a0 b0
  have hT := body_at h k0 hs2
  have hc := unblindA hT a b
  have he : Ext ds 3 (unblindM ds a b).1 := Ext.mono (ext_unblind _ _ _) (by omega)
  generalize unblindM ds a b = m at hc he
  obtain ⟨es, t, e⟩ := m
  generalize strB s = X at *
  have o0 := a0.cell 0
  have o1 := a0.cell 1
  have o2 := a0.cell 2
  have o3 := a0.cell 3
  have o4 := a0.cell 4
  have o5 := a0.cell 5
  simp only [List.getElem?_cons_succ, List.getElem?_cons_zero] at o0 o1 o2 o3 o4 o5
  have HH := Shut.mk h
  have HT := Shut.mk hT
  have K0 := Shut.mk k0
  clear h hT k0 ok hs2 a0
  try simp only at hc
  go_enter Tryd.func28, Tryd.ntmps28
  go_upto_region 3 with fail
  try rw [hW]
  clear hW
  go_wp2_with fail
  refine hc.mono ?_
  rintro e' w2 ⟨rfl, a2, k2⟩
  have b2 := k2.blk b0 (.inr (.inr rfl))
  have z0 := b2.cell 0
  have z1 := b2.cell 1
  have z2 := b2.cell 2
  have f0 := b2.frozen 0
  have f1 := b2.frozen 1
  have f2 := b2.frozen 2
  simp only [List.getElem?_cons_succ, List.getElem?_cons_zero] at z0 z1 z2
  have g := ((b2.set 0 (.int .i64 t)).set 1 (.int .i64 e)).set 2 (.bool false)
  have d0 := g.cell 0
  have d1 := g.cell 1
  have d2 := g.cell 2
  simp only [List.set_cons_succ, List.set_cons_zero, List.getElem?_cons_succ, List.getElem?_cons_zero] at d0 d1 d2
  clear g b2
  go_wp2
  refine bodyPost_ret (v := .agg #[.int .i64 t, .int .i64 e, .bool false]) ?_ rfl ?_
  · have hr : Tryd.f28.results = #[.cell 4 48] := rfl
    simp [results, hr]
    go_simp
  · obtain ⟨A, K⟩ := body_fin HH.out K0.out a2 k2 (.int .i64 t) (.int .i64 e) (.bool false)
    exact ⟨_, es, rfl, he, A, K⟩

set_option maxHeartbeats 4000000 in
set_option maxRecDepth 100000 in
theorem body_14 {w0 : World} {S : Nat → Prop} {w : World} {p : Value} {ds : List Nd} (h : At w0 S w p ds) {a b c d : Int} {s : List UInt8} (ok : OpnOk ⟨14, a, b, c, d, s⟩) :
    Calls Tryd.prog 28 #[p, .agg #[.int .i64 14, .int .i64 a, .int .i64 b, .int .i64 c, .int .i64 d, .string (strB s)]] w (BodyPost w0 S w p ds) := by
  have k0 : Kept w ((w.alloc (.cells #[.int .i64 14, .int .i64 a, .int .i64 b, .int .i64 c, .int .i64 d, .string (strB s)] 46)).alloc (.cells #[.int .i64 0, .int .i64 0, .bool false] 48)) := ((Kept.refl w).alloc _).alloc _
  have hs2 : ((w.alloc (.cells #[.int .i64 14, .int .i64 a, .int .i64 b, .int .i64 c, .int .i64 d, .string (strB s)] 46)).alloc (.cells #[.int .i64 0, .int .i64 0, .bool false] 48)).heap.size = w.heap.size + 2 := by rw [alloc_size, alloc_size]
  have a0 : Blk ((w.alloc (.cells #[.int .i64 14, .int .i64 a, .int .i64 b, .int .i64 c, .int .i64 d, .string (strB s)] 46)).alloc (.cells #[.int .i64 0, .int .i64 0, .bool false] 48)) w.heap.size 46 [.int .i64 14, .int .i64 a, .int .i64 b, .int .i64 c, .int .i64 d, .string (strB s)] := (Blk.new w [.int .i64 14, .int .i64 a, .int .i64 b, .int .i64 c, .int .i64 d, .string (strB s)] 46).kept ((Kept.refl _).alloc _)
  have b0 := Blk.new (w.alloc (.cells #[.int .i64 14, .int .i64 a, .int .i64 b, .int .i64 c, .int .i64 d, .string (strB s)] 46)) [.int .i64 0, .int .i64 0, .bool false] 48
  rw [alloc_size] at b0
  generalize hW : (w.alloc (.cells #[.int .i64 14, .int .i64 a, .int .i64 b, .int .i64 c, .int .i64 d, .string (strB s)] 46)).alloc (.cells #[.int .i64 0, .int .i64 0, .bool false] 48) = w1 at k0 hs2 a0 b0
  have hT := body_at h k0 hs2
  have hc := freshA hT ok.a
  have he : Ext ds 3 (mk ds ⟨1, a, [], []⟩).1 := Ext.mono (ext_mk _ _) (by omega)
  generalize mk ds ⟨1, a, [], []⟩ = m at hc he
  obtain ⟨es, t, e⟩ := m
  generalize strB s = X at *
  have o0 := a0.cell 0
  have o1 := a0.cell 1
  have o2 := a0.cell 2
  have o3 := a0.cell 3
  have o4 := a0.cell 4
  have o5 := a0.cell 5
  simp only [List.getElem?_cons_succ, List.getElem?_cons_zero] at o0 o1 o2 o3 o4 o5
  have HH := Shut.mk h
  have HT := Shut.mk hT
  have K0 := Shut.mk k0
  clear h hT k0 ok hs2 a0
  try simp only at hc
  go_enter Tryd.func28, Tryd.ntmps28
  go_upto_region 3 with fail
  try rw [hW]
  clear hW
  go_wp2_with fail
  refine hc.mono ?_
  rintro e' w2 ⟨rfl, a2, k2⟩
  have b2 := k2.blk b0 (.inr (.inr rfl))
  have z0 := b2.cell 0
  have z1 := b2.cell 1
  have z2 := b2.cell 2
  have f0 := b2.frozen 0
  have f1 := b2.frozen 1
  have f2 := b2.frozen 2
  simp only [List.getElem?_cons_succ, List.getElem?_cons_zero] at z0 z1 z2
  have g := ((b2.set 0 (.int .i64 t)).set 1 (.int .i64 e)).set 2 (.bool false)
  have d0 := g.cell 0
  have d1 := g.cell 1
  have d2 := g.cell 2
  simp only [List.set_cons_succ, List.set_cons_zero, List.getElem?_cons_succ, List.getElem?_cons_zero] at d0 d1 d2
  clear g b2
  go_wp2
  refine bodyPost_ret (v := .agg #[.int .i64 t, .int .i64 e, .bool false]) ?_ rfl ?_
  · have hr : Tryd.f28.results = #[.cell 4 48] := rfl
    simp [results, hr]
    go_simp
  · obtain ⟨A, K⟩ := body_fin HH.out K0.out a2 k2 (.int .i64 t) (.int .i64 e) (.bool false)
    exact ⟨_, es, rfl, he, A, K⟩

set_option maxHeartbeats 4000000 in
set_option maxRecDepth 100000 in
theorem body_15 {w0 : World} {S : Nat → Prop} {w : World} {p : Value} {ds : List Nd} (h : At w0 S w p ds) {k a b c d : Int} {s : List UInt8} (ok : OpnOk ⟨k, a, b, c, d, s⟩) (hk : ¬ k = 0 ∧ ¬ k = 1 ∧ ¬ k = 2 ∧ ¬ k = 3 ∧ ¬ k = 4 ∧ ¬ k = 5 ∧ ¬ k = 6 ∧ ¬ k = 7 ∧ ¬ k = 8 ∧ ¬ k = 9 ∧ ¬ k = 10 ∧ ¬ k = 11 ∧ ¬ k = 12 ∧ ¬ k = 13 ∧ ¬ k = 14) :
    Calls Tryd.prog 28 #[p, .agg #[.int .i64 k, .int .i64 a, .int .i64 b, .int .i64 c, .int .i64 d, .string (strB s)]] w (BodyPost w0 S w p ds) := by
  have k0 : Kept w ((w.alloc (.cells #[.int .i64 k, .int .i64 a, .int .i64 b, .int .i64 c, .int .i64 d, .string (strB s)] 46)).alloc (.cells #[.int .i64 0, .int .i64 0, .bool false] 48)) := ((Kept.refl w).alloc _).alloc _
  have hs2 : ((w.alloc (.cells #[.int .i64 k, .int .i64 a, .int .i64 b, .int .i64 c, .int .i64 d, .string (strB s)] 46)).alloc (.cells #[.int .i64 0, .int .i64 0, .bool false] 48)).heap.size = w.heap.size + 2 := by rw [alloc_size, alloc_size]
  have a0 : Blk ((w.alloc (.cells #[.int .i64 k, .int .i64 a, .int .i64 b, .int .i64 c, .int .i64 d, .string (strB s)] 46)).alloc (.cells #[.int .i64 0, .int .i64 0, .bool false] 48)) w.heap.size 46 [.int .i64 k, .int .i64 a, .int .i64 b, .int .i64 c, .int .i64 d, .string (strB s)] := (Blk.new w [.int .i64 k, .int .i64 a, .int .i64 b, .int .i64 c, .int .i64 d, .string (strB s)] 46).kept ((Kept.refl _).alloc _)
  have b0 := Blk.new (w.alloc (.cells #[.int .i64 k, .int .i64 a, .int .i64 b, .int .i64 c, .int .i64 d, .string (strB s)] 46)) [.int .i64 0, .int .i64 0, .bool false] 48
  rw [alloc_size] at b0
  have g0 : (k == 0) = false := by simp; omega
  have g1 : (k == 1) = false := by simp; omega
  have g2 : (k == 2) = false := by simp; omega
  have g3 : (k == 3) = false := by simp; omega
  have g4 : (k == 4) = false := by simp; omega
  have g5 : (k == 5) = false := by simp; omega
  have g6 : (k == 6) = false := by simp; omega
  have g7 : (k == 7) = false := by simp; omega
  have g8 : (k == 8) = false := by simp; omega
  have g9 : (k == 9) = false := by simp; omega
  have g10 : (k == 10) = false := by simp; omega
  have g11 : (k == 11) = false := by simp; omega
  have g12 : (k == 12) = false := by simp; omega
  have g13 : (k == 13) = false := by simp; omega
  have g14 : (k == 14) = false := by simp; omega
  clear hk
  generalize hW : (w.alloc (.cells #[.int .i64 k, .int .i64 a, .int .i64 b, .int .i64 c, .int .i64 d, .string (strB s)] 46)).alloc (.cells #[.int .i64 0, .int .i64 0, .bool false] 48) = w1 at k0 hs2 a0 b0
  have hT := body_at h k0 hs2
  have kA : Kept w1 (w1.alloc (.cells #[.int .i64 a, .int .i64 b, .int .i64 c] 3)) := (Kept.refl w1).alloc _
  have hr := RdI.lit w1 [a, b, c] (by simp)
  have hc := allA (hT.step kA) hr (fun x hx => by
    simp only [List.mem_cons, List.not_mem_nil, or_false] at hx
    rcases hx with rfl | rfl | rfl
    · exact ok.a
    · exact ok.b
    · exact ok.c)
  clear hr
  have he : Ext ds 3 (mk ds ⟨3, 0, [], [a, b, c]⟩).1 := Ext.mono (ext_mk _ _) (by omega)
  generalize mk ds ⟨3, 0, [], [a, b, c]⟩ = m at hc he
  obtain ⟨es, t, e⟩ := m
  generalize strB s = X at *
  have o0 := a0.cell 0
  have o1 := a0.cell 1
  have o2 := a0.cell 2
  have o3 := a0.cell 3
  have o4 := a0.cell 4
  have o5 := a0.cell 5
  simp only [List.getElem?_cons_succ, List.getElem?_cons_zero] at o0 o1 o2 o3 o4 o5
  have HH := Shut.mk h
  have HT := Shut.mk hT
  have K0 := Shut.mk k0
  clear h hT k0 ok hs2 a0
  try simp only at hc
  go_enter Tryd.func28, Tryd.ntmps28
  go_upto_region 3 with fail
  try rw [hW]
  clear hW
  go_wp2_with fail
  refine hc.mono ?_
  rintro e' w2 ⟨rfl, a2, k2⟩
  have k2 : Keep (Tb S w) w1 w2 := (kA.keep _).trans k2
  have b2 := k2.blk b0 (.inr (.inr rfl))
  have z0 := b2.cell 0
  have z1 := b2.cell 1
  have z2 := b2.cell 2
  have f0 := b2.frozen 0
  have f1 := b2.frozen 1
  have f2 := b2.frozen 2
  simp only [List.getElem?_cons_succ, List.getElem?_cons_zero] at z0 z1 z2
  have g := ((b2.set 0 (.int .i64 t)).set 1 (.int .i64 e)).set 2 (.bool false)
  have d0 := g.cell 0
  have d1 := g.cell 1
  have d2 := g.cell 2
  simp only [List.set_cons_succ, List.set_cons_zero, List.getElem?_cons_succ, List.getElem?_cons_zero] at d0 d1 d2
  clear g b2
  go_wp2
  refine bodyPost_ret (v := .agg #[.int .i64 t, .int .i64 e, .bool false]) ?_ rfl ?_
  · have hr : Tryd.f28.results = #[.cell 4 48] := rfl
    simp [results, hr]
    go_simp
  · obtain ⟨A, K⟩ := body_fin HH.out K0.out a2 k2 (.int .i64 t) (.int .i64 e) (.bool false)
    exact ⟨_, es, rfl, he, A, K⟩

end Go.Proofs.YtihagkeljhgomaaDoor

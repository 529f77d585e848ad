/- Walks of package term: Len, has, New, allows. -/
import Derived.Test.YtihagkeljhgomaaDoorTermA
import Derived.Lib.LaidTab
import Derived.Lib.AppendIntMem
set_option linter.unusedSimpArgs false
set_option linter.unusedVariables false
namespace Go.Proofs.YtihagkeljhgomaaDoor
open Go.RowKit Go.Maps

/-- The tables that the program reads. -/
structure Tabs (w : World) : Prop where
  pow : Lib.TabIs Tryd.prog w "internal/strconv.uint64pow10" .u64 Lib.pow10Tab
  kinds : ∀ o : Nat, o < 13 → w.cell? ⟨0, o * 3, none⟩ = some (.string (strB (kName o))) ∧ w.cell? ⟨0, o * 3 + 1, none⟩ = some (.int .i64 (kLeast o)) ∧ w.cell? ⟨0, o * 3 + 2, none⟩ = some (.int .i64 (kMost o))
theorem Tabs.kept {w w' : World} (h : Tabs w) (k : Kept w w') : Tabs w' := by
  refine ⟨Lib.tabBelow_of_tabIs h.pow w' k, fun o ho => ?_⟩
  obtain ⟨h1, h2, h3⟩ := h.kinds o ho
  have hb := World.block_lt_of_cell? _ _ h1
  exact ⟨(Below.cell k (p := ⟨0, o * 3, none⟩) hb).trans h1, (Below.cell k (p := ⟨0, o * 3 + 1, none⟩) hb).trans h2, (Below.cell k (p := ⟨0, o * 3 + 2, none⟩) hb).trans h3⟩

theorem arg_len {T : TypeId} {ky : Nd → List UInt8} {F : Nat → Prop} {w : World} {p : Value} {ds : List Nd} (h : ArG T ky F w p ds) :
    Calls Tryd.prog 11 #[p] w fun e w' => e = .returned (.int .i64 ds.length) ∧ w = w' := by
  obtain ⟨pb, mb, nv, rfl, c0, c1, hr⟩ := h.nodes
  obtain ⟨a, cap, rfl, _, _, _⟩ := hr.len
  go_enter Tryd.func11, Tryd.ntmps11
  go_wp2
  go_ret
  exact ⟨rfl, rfl⟩

theorem arg_has {T : TypeId} {ky : Nd → List UInt8} {F : Nat → Prop} {w : World} {p : Value} {ds : List Nd} (h : ArG T ky F w p ds) (t : Int) :
    Calls Tryd.prog 41 #[p, .int .i64 t] w fun e w' => e = .returned (.bool (decide (0 ≤ t ∧ t < ds.length))) ∧ w = w' := by
  by_cases h0 : 0 ≤ t
  · have hd : decide (t ≥ 0) = true := by simpa using h0
    go_enter Tryd.func41, Tryd.ntmps41
    go_wp2_with (go_at_call 11; refine (arg_len h).mono ?_; rintro e w' ⟨rfl, rfl⟩)
    go_ret
    exact ⟨by simp [h0], rfl⟩
  · go_enter Tryd.func41, Tryd.ntmps41
    go_wp2_with (go_at_call 11; refine (arg_len h).mono ?_; rintro e w' ⟨rfl, rfl⟩)
    go_ret
    exact ⟨by rw [decide_eq_false (p := 0 ≤ t) (by omega)]; rfl, rfl⟩
theorem arg_has_t {T : TypeId} {ky : Nd → List UInt8} {F : Nat → Prop} {w : World} {p : Value} {ds : List Nd} (h : ArG T ky F w p ds) {t : Int} (h0 : 0 ≤ t) (h1 : t < ds.length) :
    Calls Tryd.prog 41 #[p, .int .i64 t] w fun e w' => e = .returned (.bool true) ∧ w = w' :=
  (arg_has h t).mono fun e w' ⟨a, b⟩ => ⟨by rw [a, decide_eq_true ⟨h0, h1⟩], b⟩
theorem arg_has_f {T : TypeId} {ky : Nd → List UInt8} {F : Nat → Prop} {w : World} {p : Value} {ds : List Nd} (h : ArG T ky F w p ds) {t : Int} (h0 : ¬ (0 ≤ t ∧ t < ds.length)) :
    Calls Tryd.prog 41 #[p, .int .i64 t] w fun e w' => e = .returned (.bool false) ∧ w = w' :=
  (arg_has h t).mono fun e w' ⟨a, b⟩ => ⟨by rw [a, decide_eq_false h0], b⟩

/-- What a struct of an arena that was just made holds. -/
theorem arg_new {T : TypeId} {ky : Nd → List UInt8} (w : World) :
    ArG T ky (fun b => b = w.heap.size ∨ b = w.heap.size + 1) ((w.alloc (.map #[] 0)).alloc (.cells #[.slice none 0 0, .map (some w.heap.size)] T)) (.pointer (some ⟨w.heap.size + 1, 0, none⟩)) [] := by
  have hs : (w.alloc (.map #[] 0)).heap.size = w.heap.size + 1 := by simp
  refine ⟨Good.nil, ⟨w.heap.size + 1, w.heap.size, 0, .slice none 0 0, [], .map [], rfl, ?_, World.ownsRow_nil _ _ _ _, rfl, (fun i hi => by simp at hi), ?_, Nat.le_refl _, ⟨(fun i hi => by simp at hi), fun s hs => by simp [Maps.has] at hs⟩, .inr rfl, .inl rfl, (fun b hb => by cases hb), fun i hi => by simp at hi⟩, ?_, Nat.zero_le _, fun x hx => by cases hx⟩
  · have := heap_alloc_new (w.alloc (.map #[] 0)) (.cells #[.slice none 0 0, .map (some w.heap.size)] T)
    rw [hs] at this
    exact this
  · exact (World.ownsMap_made w _ _ _).alloc _
  · intro b hb
    rw [alloc_size, alloc_size]
    omega
theorem new_any (w : World) : Calls Tryd.prog 26 #[] w fun e w' => ∃ (F : Nat → Prop) (p : Value), e = .returned p ∧ Ar F w' p [] ∧ Kept w w' ∧ (∀ b, F b → w.heap.size ≤ b) ∧ p = .pointer (some ⟨w.heap.size + 1, 0, none⟩) := by
  have hmm := @run_makeMap Tryd.prog
  go_enter Tryd.func26, Tryd.ntmps26
  go_wp2
  go_ret
  exact ⟨fun b => b = w.heap.size ∨ b = w.heap.size + 1, .pointer (some ⟨w.heap.size + 1, 0, none⟩), rfl, arg_new w, ((Kept.refl w).alloc _).alloc _, fun b hb => (by omega), rfl⟩
end Go.Proofs.YtihagkeljhgomaaDoor

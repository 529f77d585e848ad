/- Walks of the statements of layer 4: one thing that is done (what stays; yes). -/
import Derived.Test.YtihagkeljhgomaaDoorCrF
import Derived.Test.YtihagkeljhgomaaDoorCrO
set_option linter.unusedSimpArgs false
set_option linter.unusedVariables false
namespace Go.Proofs.YtihagkeljhgomaaDoor
open Go.RowKit Go.Maps

def BodyPost (w0 : World) (S : Nat → Prop) (w : World) (p : Value) (ds : List Nd) (e : Ending) (w' : World) : Prop :=
  ∃ v es, e = .returned v ∧ Ext ds 3 es ∧ At w0 S w' p es ∧ Keep S w w'

/-- S, and the two blocks that are made first. -/
def Tb (S : Nat → Prop) (w : World) : Nat → Prop := fun b => S b ∨ b = w.heap.size ∨ b = w.heap.size + 1
theorem At.less {w0 : World} {S T : Nat → Prop} {w : World} {p : Value} {ds : List Nd} (h : At w0 T w p ds) (hS : ∀ b, S b → T b) (hb : ∀ b, b < w0.heap.size → S b) : At w0 S w p ds := by
  obtain ⟨F, h1, h2⟩ := h.ar
  exact ⟨⟨F, h1, fun b hF hs => h2 b hF (hS b hs)⟩, fun b hs => h.old b (hS b hs), hb, h.kept, h.tab⟩
theorem Keep.less {S T : Nat → Prop} {a b : World} (h : Keep T a b) (hS : ∀ b, S b → T b) : Keep S a b := Turn.mono h (fun b hn hs => hn (hS b hs))
theorem body_at {w0 : World} {S : Nat → Prop} {w w1 : World} {p : Value} {ds : List Nd} (h : At w0 S w p ds) (k : Kept w w1) (hs : w1.heap.size = w.heap.size + 2) : At w0 (Tb S w) w1 p ds :=
  h.more k (fun b hb => by
    rcases hb with c | c | c
    · exact ⟨.inl c, Nat.lt_of_lt_of_le (h.old b c) k.size⟩
    · exact ⟨.inr (by omega), by omega⟩
    · exact ⟨.inr (by omega), by omega⟩) (fun b hb => .inl (h.base b hb))
theorem body_fin {w0 : World} {S : Nat → Prop} {w w1 w2 : World} {p : Value} {ds es : List Nd} (h : At w0 S w p ds) (k01 : Kept w w1) (a2 : At w0 (Tb S w) w2 p es) (k2 : Keep (Tb S w) w1 w2) (v0 v1 v2 : Value) :
    At w0 S (((w2.setCell ⟨w.heap.size + 1, 0, none⟩ v0).setCell ⟨w.heap.size + 1, 1, none⟩ v1).setCell ⟨w.heap.size + 1, 2, none⟩ v2) p es ∧ Keep S w (((w2.setCell ⟨w.heap.size + 1, 0, none⟩ v0).setCell ⟨w.heap.size + 1, 1, none⟩ v1).setCell ⟨w.heap.size + 1, 2, none⟩ v2) := by
  have t0 := turn_setCell w2 ⟨w.heap.size + 1, 0, none⟩ v0
  have t1 := turn_setCell (w2.setCell ⟨w.heap.size + 1, 0, none⟩ v0) ⟨w.heap.size + 1, 1, none⟩ v1
  have t2 := turn_setCell ((w2.setCell ⟨w.heap.size + 1, 0, none⟩ v0).setCell ⟨w.heap.size + 1, 1, none⟩ v1) ⟨w.heap.size + 1, 2, none⟩ v2
  have hk := h.kept.size
  have hG : ∀ b, b = w.heap.size + 1 → Tb S w b ∧ w0.heap.size ≤ b := fun b e => ⟨.inr (.inr e), by omega⟩
  have hN : ∀ b, b = w.heap.size + 1 → ¬ S b := fun b e hs => by have := h.old b hs; omega
  refine ⟨(((a2.turn t0 hG).turn t1 hG).turn t2 hG).less (fun b hb => .inl hb) h.base, ?_⟩
  have kk : Keep S w w2 := (k01.keep S).trans (k2.less (fun b hb => .inl hb))
  exact ((Turn.trans kk t0 (fun b e => .inl (hN b e))).trans t1 (fun b e => .inl (hN b e))).trans t2 (fun b e => .inl (hN b e))

set_option maxHeartbeats 4000000 in
set_option maxRecDepth 100000 in
theorem yesA (w : World) (b : Bool) : Calls Tryd.prog 36 #[.bool b] w fun e w' => e = .returned (.agg #[.int .i64 0, .int .i64 0, .bool b]) ∧ Kept w w' := by
  go_enter Tryd.func36, Tryd.ntmps36
  go_wp2
  refine bodyPost_ret (v := .agg #[.int .i64 0, .int .i64 0, .bool b]) ?_ rfl ?_
  · have hr : Tryd.f36.results = #[.cell 2 48] := rfl
    simp [results, hr]
    go_simp
  · exact ⟨rfl, (Kept.refl w).alloc _⟩
end Go.Proofs.YtihagkeljhgomaaDoor

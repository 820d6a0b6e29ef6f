/-
  A range over a function that hands on nothing.
-/
import Derived.Test.YtocmjlnhcloccaaGreatDoorBase
import Derived.RangeFuncNested
import Derived.RangeFuncBound
import Derived.RangeFuncCalls
import Derived.RangeFuncLeaves
namespace Go.Proofs.YtocmjlnhcloccaaGreatDoor
open Go.RowKit

theorem wpIn_seqNone {n : Nat} {P : Program} {g : Operand} {ps : Array Tmp} {assign body : Code} {Q : Exit → Act → World → Prop} {a : Act} {w : World}
    (h1 : 1 ≤ n) {gf : Nat} {fb lb : Array Value} (hg : a.eval g = .func (.func gf) fb lb) (eg : ∀ args w, (callFunc gf args).run P w = .ok (.enter gf args) w)
    (hcall : ∀ (W : World) (y : Value) (l : Nat), y = .func (.yield l) #[] #[] → Below w.heap.size w W → Calls P gf ((fb ++ #[y]) ++ lb) W fun e W' => (∃ v, e = .returned v) ∧ Below W.heap.size W W')
    (hdone : ∀ (W : World), Below w.heap.size w W → W.heap[w.heap.size]? = some (.deferred (some [])) → Q .normal { a with defers := { target := .collected w.heap.size, args := #[] } :: a.defers } W) :
    (Code.rangeFunc g ps assign body).wpIn Fence.wide n P Q a w := by
  refine wpIn_rangeFunc fun fn hfn => ?_
  obtain ⟨B, hB⟩ : ∃ B, w.heap.size = B := ⟨_, rfl⟩
  rw [hB] at hcall hdone
  obtain ⟨rec, hrec⟩ : ∃ rec : LoopState → Option Code → Obj, rec = fun st pe => .loop { state := st, pending := pe, fn, tmps := a.tmps, params := ps, assign, body, defers := B } := ⟨_, rfl⟩
  obtain ⟨W1, hW1⟩ : ∃ W1, (w.alloc (.deferred (some []))).alloc (rec .ready none) = W1 := ⟨_, rfl⟩
  have hsz : W1.heap.size = B + 2 := by rw [← hW1, ← hB]; simp
  have hb1 : Below B w W1 := by
    rw [← hW1]
    exact ((Below.refl _ w).alloc (by omega) _).alloc (by simp; omega) _
  have hL1 : W1.heap[B + 1]? = some (rec .ready none) := by
    rw [← hW1, ← hB]
    have := World.alloc_heap_new (w.alloc (.deferred (some []))) (rec .ready none)
    rwa [World.size_alloc] at this
  have hD1 : W1.heap[B]? = some (.deferred (some [])) := by
    rw [← hW1, ← hB]
    exact (Below.heap_alloc _ _ _ (by simp)).trans (World.alloc_heap_new w _)
  refine ⟨B + 1, [{ target := .collected B, args := #[] }], W1, { target := .fn (.func gf) lb, args := fb ++ #[.func (.yield (B + 1)) #[] #[]] }, W1, gf, (fb ++ #[.func (.yield (B + 1)) #[] #[]]) ++ lb, W1, ?_, ?_, ?_, ?_, fun _ => h1, ?_⟩
  · rw [← hW1, hrec, ← hB]
    exact run_enterLoop_outer _ _ _ _ _
  · simp only [resolve, hg]
    simp [go_sem]
  · intro f' hf'
    trivial
  · simp [invoke, go_sem, eg]
  refine (callsIn_wide.2 (hcall W1 (.func (.yield (B + 1)) #[] #[]) _ rfl hb1)).mono ?_
  rintro e W2 ⟨⟨v, rfl⟩, hb2⟩
  rw [hsz] at hb2
  have hl := (hb2.block (B + 1) (by omega)).trans hL1
  have hd := (hb2.block B (by omega)).trans hD1
  have hlt := (Array.getElem?_eq_some_iff.1 hl).1
  rw [hrec] at hl
  refine ⟨none, _, run_endLoop (P := P) hl (by simp), hdone _ ((hb1.trans (hb2.mono (by omega))).trans ⟨rfl, rfl, rfl, by simp, fun k hk => World.putObj_heap_other (by omega)⟩) ((World.putObj_heap_other (by omega)).trans hd)⟩
end Go.Proofs.YtocmjlnhcloccaaGreatDoor

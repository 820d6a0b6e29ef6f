/-
  parts that belong together.
-/
import Derived.Test.YtbhgcioeibhjeaaGreatDoorRows
import Derived.WalkKit
import Derived.WalkSpells
import Derived.WalkLawsBesides
import Derived.Handy
import Derived.Deep.RegionHeld3
import Derived.Carry
import Derived.Lib.Hide
import Derived.Laws.EntriesVeiled
import Derived.LaidEql
import Derived.Stop.Asserts
import Derived.RowKitTokens
import Derived.Deep.QuietTactic
import Derived.BigQuiet
import Derived.Deep.DeepCutAuto
import Derived.Deep.DeepFit
namespace Go.Proofs.YtbhgcioeibhjeaaGreatDoor
open Go.RowKit

theorem heap_set_push (w : World) (o o' : Obj) : (w.alloc o).heap.setIfInBounds w.heap.size o' = w.heap.push o' := by
  unfold World.alloc
  apply Array.ext_getElem?
  intro i
  simp only [Array.getElem?_setIfInBounds, Array.getElem?_push, Array.size_push]
  split
  · simp_all
  · rename_i h
    rw [if_neg (fun e => h e.symm), if_neg (fun e => h e.symm)]

theorem heap_alloc_at (w : World) (o : Obj) : (w.alloc o).heap[w.heap.size]? = some o := by
  unfold World.alloc
  simp

/-- A store of a new key into a map that the call has just made. -/
theorem run_insert_new {P : Program} (w : World) {t kt et : TypeId} {q : IntKind} (es : Array MapEntry) (c : Nat) (k : Int) (v : Value) (ht : P.underlying t = some (.map kt et)) (hk : P.underlying kt = some (.int q)) (hf : Instr.findNow (.int q) (.int q k) es.toList 0 = some none) :
    (Instr.mapUpdate t (.map (some w.heap.size)) (.int q k) v).run P (w.alloc (.map es c)) = .ok () (w.alloc (.map (es.push ⟨.int q k, v, c⟩) (c + 1))) := by
  have hb := heap_alloc_at w (.map es c)
  have hc : (Instr.checkKey false 10000 kt (.int q k)).run P (w.alloc (.map es c)) = .ok () (w.alloc (.map es c)) := MapKept.run_checkKey hk (by simp [MapKept.IsKey]) false 9999
  simp [Instr.mapUpdate, run_underlying ht, MapKept.run_getObj_map hb, hc, MapKept.run_findKey hk hf, MapKept.run_setObj_map _ hb, Result.andThen, heap_set_push]
  rfl

/-- A look-up in a map of known entries. -/
theorem run_lookup_known {P : Program} (w : World) {t kt et : TypeId} {q : IntKind} {r : Nat} {es : Array MapEntry} {c : Nat} {k : Int} {j : Nat} {v : Value} (ht : P.underlying t = some (.map kt et)) (hk : P.underlying kt = some (.int q)) (hb : w.heap[r]? = some (.map es c)) (hf : Instr.findNow (.int q) (.int q k) es.toList 0 = some (some (j, v))) (ok : Bool) :
    (Instr.lookup t (.map (some r)) (.int q k) ok).run P w = .ok (if ok then .tuple #[v, .bool true] else v) w := by
  have hc : (Instr.checkKey es.isEmpty 10000 kt (.int q k)).run P w = .ok () w := MapKept.run_checkKey hk (by simp [MapKept.IsKey]) _ 9999
  cases ok <;> simp [Instr.lookup, run_underlying ht, MapKept.run_getObj_map hb, hc, MapKept.run_findKey hk hf, Result.andThen]
theorem run_lookup_none {P : Program} (w : World) {t kt et : TypeId} {q : IntKind} {r : Nat} {es : Array MapEntry} {c : Nat} {k : Int} {z : Value} (ht : P.underlying t = some (.map kt et)) (hk : P.underlying kt = some (.int q)) (hb : w.heap[r]? = some (.map es c)) (hf : Instr.findNow (.int q) (.int q k) es.toList 0 = some none) (hz : (zeroValue et).run P w = .ok z w) (ok : Bool) :
    (Instr.lookup t (.map (some r)) (.int q k) ok).run P w = .ok (if ok then .tuple #[z, .bool false] else z) w := by
  have hc : (Instr.checkKey es.isEmpty 10000 kt (.int q k)).run P w = .ok () w := MapKept.run_checkKey hk (by simp [MapKept.IsKey]) _ 9999
  cases ok <;> simp [Instr.lookup, run_underlying ht, MapKept.run_getObj_map hb, hc, MapKept.run_findKey hk hf, Result.andThen, hz]

end Go.Proofs.YtbhgcioeibhjeaaGreatDoor
namespace Go.Proofs.YtbhgcioeibhjeaaGreatDoor
open Go.RowKit
def kv (a b c : Nat) : Value := .agg #[.func (.func a) #[] #[], .func (.func b) #[] #[], .func (.func c) #[] #[]]
end Go.Proofs.YtbhgcioeibhjeaaGreatDoor
namespace Go.Proofs.YtbhgcioeibhjeaaGreatDoor
open Go.RowKit

/-- are two values the same? -/
def vEqB (k i u : Int) (s : ByteArray) (k' i' u' : Int) (s' : ByteArray) : Bool := k == k' && (i == i' && (u == u' && s.toList == s'.toList))

end Go.Proofs.YtbhgcioeibhjeaaGreatDoor
namespace Go.Proofs.YtbhgcioeibhjeaaGreatDoor
open Go.RowKit

end Go.Proofs.YtbhgcioeibhjeaaGreatDoor
namespace Go.Proofs.YtbhgcioeibhjeaaGreatDoor
open Go.RowKit

/-- The call returns an error that wraps the number n; what was there before is as it was. -/
def IsErr (n : Int) (w : World) (e : Ending) (w' : World) : Prop :=
  ∃ b, e = .returned (.iface 144 (.pointer (some ⟨b, 0, none⟩))) ∧ w.heap.size ≤ b ∧ w'.cell? ⟨b, 1, none⟩ = some (.int .i64 n) ∧ Below w.heap.size w w'

set_option maxHeartbeats 400000 in
theorem Of_any (s : ByteArray) (n : Int) (w : World) : Calls Tryz.prog 67 #[.string s, .int .i64 n] w fun e w' => e = .returned (.iface 144 (.pointer (some ⟨w.heap.size, 0, none⟩))) ∧ w' = w.alloc (.cells #[.string s, .int .i64 n] 146) := by
  go_enter Tryz.func67, Tryz.ntmps67
  go_wp2_with fail
  go_ret
  exact ⟨rfl, by simp [go_sem]⟩
theorem mapA (w : World) (C M : Obj) : ((w.alloc C).alloc M).drew.heap[w.heap.size + 1]? = some M := by
  show ((w.alloc C).alloc M).heap[w.heap.size + 1]? = _
  rw [← World.size_alloc w C]; exact heap_alloc_at _ _
theorem mapB (w : World) (C M Z : Obj) : (((w.alloc C).alloc M).alloc Z).drew.heap[w.heap.size + 1]? = some M := by
  show (((w.alloc C).alloc M).alloc Z).heap[w.heap.size + 1]? = _
  rw [Below.heap_alloc _ _ _ (by simp)]; exact mapA w C M
theorem mapD (w : World) (C M Z : Obj) : (((w.alloc C).alloc Z).alloc M).drew.heap[w.heap.size + 1 + 1]? = some M := by
  show (((w.alloc C).alloc Z).alloc M).heap[w.heap.size + 1 + 1]? = _
  rw [← World.size_alloc w C, ← World.size_alloc (w.alloc C) Z]; exact heap_alloc_at _ _
end Go.Proofs.YtbhgcioeibhjeaaGreatDoor

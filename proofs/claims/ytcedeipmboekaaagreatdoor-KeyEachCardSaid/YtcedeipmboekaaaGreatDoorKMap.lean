/-
  key.kinds: the map of how values are laid and read; look-ups in it; newReader.
-/
import Derived.Test.YtcedeipmboekaaaGreatDoorErr
namespace Go.Proofs.YtcedeipmboekaaaGreatDoor
open Go.RowKit

def kw2 (a b : Nat) : Value := .agg #[.func (.func a) #[] #[], .func (.func b) #[] #[]]
def keyKinds : Array MapEntry := #[⟨.int .i64 0, kw2 41 42, 0⟩, ⟨.int .i64 1, kw2 43 44, 1⟩, ⟨.int .i64 2, kw2 45 46, 2⟩, ⟨.int .i64 3, kw2 47 48, 3⟩, ⟨.int .i64 4, kw2 49 50, 4⟩]
set_option maxRecDepth 100000 in
set_option maxHeartbeats 400000 in
theorem qkinds_any (w : World) :
    Calls Tryz.prog 22 #[] w fun e w' => e = .returned (.map (some w.heap.size)) ∧ w.alloc (.map keyKinds 5) = w' := by
  have hmm := @run_makeMap Tryz.prog
  have h0 : ∀ v, (Instr.mapUpdate 53 (.map (some w.heap.size)) (.int .i64 0) v).run Tryz.prog (w.alloc (.map #[] 0)) = .ok () (w.alloc (.map #[⟨.int .i64 0, v, 0⟩] 1)) := fun v => run_insert_new w #[] 0 0 v Tryz.underlying53 Tryz.underlying39 rfl
  have h1 : ∀ v0 v, (Instr.mapUpdate 53 (.map (some w.heap.size)) (.int .i64 1) v).run Tryz.prog (w.alloc (.map #[⟨.int .i64 0, v0, 0⟩] 1)) = .ok () (w.alloc (.map #[⟨.int .i64 0, v0, 0⟩, ⟨.int .i64 1, v, 1⟩] 2)) := fun v0 v => run_insert_new w #[⟨.int .i64 0, v0, 0⟩] 1 1 v Tryz.underlying53 Tryz.underlying39 rfl
  have h2 : ∀ v0 v1 v, (Instr.mapUpdate 53 (.map (some w.heap.size)) (.int .i64 2) v).run Tryz.prog (w.alloc (.map #[⟨.int .i64 0, v0, 0⟩, ⟨.int .i64 1, v1, 1⟩] 2)) = .ok () (w.alloc (.map #[⟨.int .i64 0, v0, 0⟩, ⟨.int .i64 1, v1, 1⟩, ⟨.int .i64 2, v, 2⟩] 3)) := fun v0 v1 v => run_insert_new w #[⟨.int .i64 0, v0, 0⟩, ⟨.int .i64 1, v1, 1⟩] 2 2 v Tryz.underlying53 Tryz.underlying39 rfl
  have h3 : ∀ v0 v1 v2 v, (Instr.mapUpdate 53 (.map (some w.heap.size)) (.int .i64 3) v).run Tryz.prog (w.alloc (.map #[⟨.int .i64 0, v0, 0⟩, ⟨.int .i64 1, v1, 1⟩, ⟨.int .i64 2, v2, 2⟩] 3)) = .ok () (w.alloc (.map #[⟨.int .i64 0, v0, 0⟩, ⟨.int .i64 1, v1, 1⟩, ⟨.int .i64 2, v2, 2⟩, ⟨.int .i64 3, v, 3⟩] 4)) := fun v0 v1 v2 v => run_insert_new w #[⟨.int .i64 0, v0, 0⟩, ⟨.int .i64 1, v1, 1⟩, ⟨.int .i64 2, v2, 2⟩] 3 3 v Tryz.underlying53 Tryz.underlying39 rfl
  have h4 : ∀ v0 v1 v2 v3 v, (Instr.mapUpdate 53 (.map (some w.heap.size)) (.int .i64 4) v).run Tryz.prog (w.alloc (.map #[⟨.int .i64 0, v0, 0⟩, ⟨.int .i64 1, v1, 1⟩, ⟨.int .i64 2, v2, 2⟩, ⟨.int .i64 3, v3, 3⟩] 4)) = .ok () (w.alloc (.map #[⟨.int .i64 0, v0, 0⟩, ⟨.int .i64 1, v1, 1⟩, ⟨.int .i64 2, v2, 2⟩, ⟨.int .i64 3, v3, 3⟩, ⟨.int .i64 4, v, 4⟩] 5)) := fun v0 v1 v2 v3 v => run_insert_new w #[⟨.int .i64 0, v0, 0⟩, ⟨.int .i64 1, v1, 1⟩, ⟨.int .i64 2, v2, 2⟩, ⟨.int .i64 3, v3, 3⟩] 4 4 v Tryz.underlying53 Tryz.underlying39 rfl
  go_enter Tryz.func22, Tryz.ntmps22
  go_wp2_with fail
  go_ret
  exact ⟨rfl, rfl⟩
theorem key_found {k : Int} {j : Nat} {v : Value} {w : World} {r : Nat} (hb : w.heap[r]? = some (.map keyKinds 5)) (hf : Instr.findNow (.int .i64) (.int .i64 k) keyKinds.toList 0 = some (some (j, v))) :
    (Instr.lookup 53 (.map (some r)) (.int .i64 k) true).run Tryz.prog w = .ok (.tuple #[v, .bool true]) w :=
  run_lookup_known w Tryz.underlying53 Tryz.underlying39 hb hf true
theorem key_got {k : Int} {j : Nat} {v : Value} {w : World} {r : Nat} (hb : w.heap[r]? = some (.map keyKinds 5)) (hf : Instr.findNow (.int .i64) (.int .i64 k) keyKinds.toList 0 = some (some (j, v))) :
    (Instr.lookup 53 (.map (some r)) (.int .i64 k) false).run Tryz.prog w = .ok v w :=
  run_lookup_known w Tryz.underlying53 Tryz.underlying39 hb hf false
theorem key_not {k : Int} {w : World} {r : Nat} (hb : w.heap[r]? = some (.map keyKinds 5)) (hf : Instr.findNow (.int .i64) (.int .i64 k) keyKinds.toList 0 = some none) :
    (Instr.lookup 53 (.map (some r)) (.int .i64 k) true).run Tryz.prog w = .ok (.tuple #[.agg #[.nilFunc, .nilFunc], .bool false]) w :=
  run_lookup_none w Tryz.underlying53 Tryz.underlying39 hb hf (by kernel_rfl) true
set_option maxRecDepth 100000 in
set_option maxHeartbeats 400000 in
theorem qnewReader_any (s : ByteArray) (w : World) :
    Calls Tryz.prog 26 #[.string s] w fun e w' => e = .returned (.pointer (some ⟨w.heap.size + 1, 0, none⟩)) ∧ (w.alloc (.map keyKinds 5)).alloc (.cells #[.string s, .int .i64 0, .map (some w.heap.size)] 89) = w' := by
  go_enter Tryz.func26, Tryz.ntmps26
  go_wp2_with fail
  refine (qkinds_any _).mono ?_
  rintro e w' ⟨rfl, rfl⟩
  go_wp2_with fail
  go_ret
  exact ⟨rfl, rfl⟩
end Go.Proofs.YtcedeipmboekaaaGreatDoor

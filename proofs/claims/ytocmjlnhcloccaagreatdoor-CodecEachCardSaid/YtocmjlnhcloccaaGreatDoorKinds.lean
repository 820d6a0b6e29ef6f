import Derived.Test.YtocmjlnhcloccaaGreatDoorBase
namespace Go.Proofs.YtocmjlnhcloccaaGreatDoor
open Go.RowKit
def kv (a b c : Nat) : Value := .agg #[.func (.func a) #[] #[], .func (.func b) #[] #[], .func (.func c) #[] #[]]
def mapKinds : Array MapEntry := #[⟨.int .i64 0, kv 170 171 172, 0⟩, ⟨.int .i64 1, kv 173 174 175, 1⟩, ⟨.int .i64 2, kv 176 177 178, 2⟩, ⟨.int .i64 3, kv 179 180 181, 3⟩, ⟨.int .i64 4, kv 182 183 184, 4⟩]
set_option maxRecDepth 100000 in
set_option maxHeartbeats 400000 in
theorem kinds_any (w : World) :
    Calls Tryz.prog 166 #[] w fun e w' => e = .returned (.map (some w.heap.size)) ∧ w.alloc (.map mapKinds 5) = w' := by
  have hmm := @run_makeMap Tryz.prog
  have h0 : ∀ v, (Instr.mapUpdate 245 (.map (some w.heap.size)) (.int .i64 0) v).run Tryz.prog (w.alloc (.map #[] 0)) = .ok () (w.alloc (.map #[⟨.int .i64 0, v, 0⟩] 1)) := fun v => run_insert_new w #[] 0 0 v Tryz.underlying245 Tryz.underlying65 rfl
  have h1 : ∀ v0 v, (Instr.mapUpdate 245 (.map (some w.heap.size)) (.int .i64 1) v).run Tryz.prog (w.alloc (.map #[⟨.int .i64 0, v0, 0⟩] 1)) = .ok () (w.alloc (.map #[⟨.int .i64 0, v0, 0⟩, ⟨.int .i64 1, v, 1⟩] 2)) := fun v0 v => run_insert_new w #[⟨.int .i64 0, v0, 0⟩] 1 1 v Tryz.underlying245 Tryz.underlying65 rfl
  have h2 : ∀ v0 v1 v, (Instr.mapUpdate 245 (.map (some w.heap.size)) (.int .i64 2) v).run Tryz.prog (w.alloc (.map #[⟨.int .i64 0, v0, 0⟩, ⟨.int .i64 1, v1, 1⟩] 2)) = .ok () (w.alloc (.map #[⟨.int .i64 0, v0, 0⟩, ⟨.int .i64 1, v1, 1⟩, ⟨.int .i64 2, v, 2⟩] 3)) := fun v0 v1 v => run_insert_new w #[⟨.int .i64 0, v0, 0⟩, ⟨.int .i64 1, v1, 1⟩] 2 2 v Tryz.underlying245 Tryz.underlying65 rfl
  have h3 : ∀ v0 v1 v2 v, (Instr.mapUpdate 245 (.map (some w.heap.size)) (.int .i64 3) v).run Tryz.prog (w.alloc (.map #[⟨.int .i64 0, v0, 0⟩, ⟨.int .i64 1, v1, 1⟩, ⟨.int .i64 2, v2, 2⟩] 3)) = .ok () (w.alloc (.map #[⟨.int .i64 0, v0, 0⟩, ⟨.int .i64 1, v1, 1⟩, ⟨.int .i64 2, v2, 2⟩, ⟨.int .i64 3, v, 3⟩] 4)) := fun v0 v1 v2 v => run_insert_new w #[⟨.int .i64 0, v0, 0⟩, ⟨.int .i64 1, v1, 1⟩, ⟨.int .i64 2, v2, 2⟩] 3 3 v Tryz.underlying245 Tryz.underlying65 rfl
  have h4 : ∀ v0 v1 v2 v3 v, (Instr.mapUpdate 245 (.map (some w.heap.size)) (.int .i64 4) v).run Tryz.prog (w.alloc (.map #[⟨.int .i64 0, v0, 0⟩, ⟨.int .i64 1, v1, 1⟩, ⟨.int .i64 2, v2, 2⟩, ⟨.int .i64 3, v3, 3⟩] 4)) = .ok () (w.alloc (.map #[⟨.int .i64 0, v0, 0⟩, ⟨.int .i64 1, v1, 1⟩, ⟨.int .i64 2, v2, 2⟩, ⟨.int .i64 3, v3, 3⟩, ⟨.int .i64 4, v, 4⟩] 5)) := fun v0 v1 v2 v3 v => run_insert_new w #[⟨.int .i64 0, v0, 0⟩, ⟨.int .i64 1, v1, 1⟩, ⟨.int .i64 2, v2, 2⟩, ⟨.int .i64 3, v3, 3⟩] 4 4 v Tryz.underlying245 Tryz.underlying65 rfl
  go_enter Tryz.func166, Tryz.ntmps166
  go_wp2_with fail
  go_ret
  exact ⟨rfl, rfl⟩
end Go.Proofs.YtocmjlnhcloccaaGreatDoor

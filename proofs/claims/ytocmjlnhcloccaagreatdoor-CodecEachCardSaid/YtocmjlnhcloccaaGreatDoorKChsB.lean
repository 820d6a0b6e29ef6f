/-
  value.check, kind by kind.
-/
import Derived.Test.YtocmjlnhcloccaaGreatDoorErr
namespace Go.Proofs.YtocmjlnhcloccaaGreatDoor
open Go.RowKit

set_option maxRecDepth 100000 in
set_option maxHeartbeats 1600000 in
theorem checkBool_bad (i u : Int) (s : ByteArray) (w : World) (hne : ∀ W, (binOp .neq 68 (.agg #[.int .i64 3, .int .i64 i, .int .u64 u, .string s]) (.agg #[.int .i64 3, .int .i64 (bits BinOp.and .i64 i 1), .int .u64 0, .string ⟨#[]⟩])).run Tryz.prog W = .ok (.bool true) W) :
    Calls Tryz.prog 157 #[.agg #[.int .i64 3, .int .i64 i, .int .u64 u, .string s]] w (IsErr 2 w) := by
  obtain ⟨C, hC⟩ : ∃ C, C = Obj.cells #[.int .i64 3, .int .i64 i, .int .u64 u, .string s] 68 := ⟨_, rfl⟩
  obtain ⟨Z, hZ⟩ : ∃ C, C = Obj.cells #[.nilFunc, .nilFunc, .nilFunc] 243 := ⟨_, rfl⟩
  have hA : (Instr.lookup 245 (.map (some (w.heap.size + 1))) (.int .i64 3) true).run Tryz.prog ((w.alloc C).alloc (.map mapKinds 5)).drew = .ok (.tuple #[kv 179 180 181, .bool true]) _ :=
    kinds_found (mapA w C _) rfl
  have hB : (Instr.lookup 245 (.map (some (w.heap.size + 1))) (.int .i64 3) true).run Tryz.prog (((w.alloc C).alloc (.map mapKinds 5)).alloc Z).drew = .ok (.tuple #[kv 179 180 181, .bool true]) _ :=
    kinds_found (mapB w C _ Z) rfl
  have hD : (Instr.lookup 245 (.map (some (w.heap.size + 1 + 1))) (.int .i64 3) true).run Tryz.prog (((w.alloc C).alloc Z).alloc (.map mapKinds 5)).drew = .ok (.tuple #[kv 179 180 181, .bool true]) _ :=
    kinds_found (mapD w C _ Z) rfl
  subst hC hZ
  simp only [kv] at hA hB hD
  go_enter Tryz.func157, Tryz.ntmps157
  go_wp2_with (go_at_call 88; refine (Of_any _ _ _).mono ?_; rintro e w' ⟨rfl, rfl⟩)
  go_region_held3 (fun w' => w'.cell? ⟨w.heap.size, 0, none⟩ = some (.int .i64 3)) (go_keep)
    (first | (go_at_call 88; refine (Of_any _ _ _).mono ?_; rintro e w' ⟨rfl, rfl⟩) | (go_at_call 166; refine (kinds_any _).mono ?_; rintro e w' ⟨rfl, rfl⟩))
  all_goals go_wp2_with (go_at_call 88; refine (Of_any _ _ _).mono ?_; rintro e w' ⟨rfl, rfl⟩)
  · go_region_held3 (fun w' => w'.cell? ⟨w.heap.size, 0, none⟩ = some (.int .i64 3) ∧ w'.cell? ⟨w.heap.size, 1, none⟩ = some (.int .i64 i) ∧ w'.cell? ⟨w.heap.size, 2, none⟩ = some (.int .u64 u) ∧ w'.cell? ⟨w.heap.size, 3, none⟩ = some (.string s) ∧ w'.cell? ⟨w.heap.size + 1 + 1, 0, none⟩ = some (.func (.func 179) #[] #[])) (first | (go_keep; done) | (simp [*, go_sem]; done))
      (first | (go_at_call 88; refine (Of_any _ _ _).mono ?_; rintro e w' ⟨rfl, rfl⟩) | (go_at_call 179; refine (onlyBool_any _ _ _ _ _).mono ?_; rintro e w' ⟨rfl, rfl⟩))
    go_wp2_with (go_at_call 88; refine (Of_any _ _ _).mono ?_; rintro e w' ⟨rfl, rfl⟩)
    go_ret
    exact ⟨_, rfl, by simp [Nat.add_assoc], by simp [go_sem], by go_grown⟩
  · go_region_held3 (fun w' => w'.cell? ⟨w.heap.size, 0, none⟩ = some (.int .i64 3) ∧ w'.cell? ⟨w.heap.size, 1, none⟩ = some (.int .i64 i) ∧ w'.cell? ⟨w.heap.size, 2, none⟩ = some (.int .u64 u) ∧ w'.cell? ⟨w.heap.size, 3, none⟩ = some (.string s) ∧ w'.cell? ⟨w.heap.size + 1 + 1, 0, none⟩ = some (.func (.func 179) #[] #[])) (first | (go_keep; done) | (simp [*, go_sem]; done))
      (first | (go_at_call 88; refine (Of_any _ _ _).mono ?_; rintro e w' ⟨rfl, rfl⟩) | (go_at_call 179; refine (onlyBool_any _ _ _ _ _).mono ?_; rintro e w' ⟨rfl, rfl⟩))
    go_wp2_with (go_at_call 88; refine (Of_any _ _ _).mono ?_; rintro e w' ⟨rfl, rfl⟩)
    go_ret
    exact ⟨_, rfl, by simp [Nat.add_assoc], by simp [go_sem], by go_grown⟩
  · go_region_held3 (fun w' => w'.cell? ⟨w.heap.size, 0, none⟩ = some (.int .i64 3) ∧ w'.cell? ⟨w.heap.size, 1, none⟩ = some (.int .i64 i) ∧ w'.cell? ⟨w.heap.size, 2, none⟩ = some (.int .u64 u) ∧ w'.cell? ⟨w.heap.size, 3, none⟩ = some (.string s) ∧ w'.cell? ⟨w.heap.size + 1, 0, none⟩ = some (.func (.func 179) #[] #[])) (first | (go_keep; done) | (simp [*, go_sem]; done))
      (first | (go_at_call 88; refine (Of_any _ _ _).mono ?_; rintro e w' ⟨rfl, rfl⟩) | (go_at_call 179; refine (onlyBool_any _ _ _ _ _).mono ?_; rintro e w' ⟨rfl, rfl⟩))
    go_wp2_with (go_at_call 88; refine (Of_any _ _ _).mono ?_; rintro e w' ⟨rfl, rfl⟩)
    go_ret
    exact ⟨_, rfl, by simp [Nat.add_assoc], by simp [go_sem], by go_grown⟩

set_option maxRecDepth 100000 in
set_option maxHeartbeats 1600000 in
theorem checkBool_ok (i u : Int) (s : ByteArray) (w : World) (hne : ∀ W, (binOp .neq 68 (.agg #[.int .i64 3, .int .i64 i, .int .u64 u, .string s]) (.agg #[.int .i64 3, .int .i64 (bits BinOp.and .i64 i 1), .int .u64 0, .string ⟨#[]⟩])).run Tryz.prog W = .ok (.bool false) W) (hs : (s.size : Int) ≤ 200) :
    Calls Tryz.prog 157 #[.agg #[.int .i64 3, .int .i64 i, .int .u64 u, .string s]] w (fun e w' => e = .returned .nilIface ∧ Below w.heap.size w w') := by
  obtain ⟨C, hC⟩ : ∃ C, C = Obj.cells #[.int .i64 3, .int .i64 i, .int .u64 u, .string s] 68 := ⟨_, rfl⟩
  obtain ⟨Z, hZ⟩ : ∃ C, C = Obj.cells #[.nilFunc, .nilFunc, .nilFunc] 243 := ⟨_, rfl⟩
  have hA : (Instr.lookup 245 (.map (some (w.heap.size + 1))) (.int .i64 3) true).run Tryz.prog ((w.alloc C).alloc (.map mapKinds 5)).drew = .ok (.tuple #[kv 179 180 181, .bool true]) _ :=
    kinds_found (mapA w C _) rfl
  have hB : (Instr.lookup 245 (.map (some (w.heap.size + 1))) (.int .i64 3) true).run Tryz.prog (((w.alloc C).alloc (.map mapKinds 5)).alloc Z).drew = .ok (.tuple #[kv 179 180 181, .bool true]) _ :=
    kinds_found (mapB w C _ Z) rfl
  have hD : (Instr.lookup 245 (.map (some (w.heap.size + 1 + 1))) (.int .i64 3) true).run Tryz.prog (((w.alloc C).alloc Z).alloc (.map mapKinds 5)).drew = .ok (.tuple #[kv 179 180 181, .bool true]) _ :=
    kinds_found (mapD w C _ Z) rfl
  subst hC hZ
  simp only [kv] at hA hB hD
  go_enter Tryz.func157, Tryz.ntmps157
  go_wp2_with (go_at_call 88; refine (Of_any _ _ _).mono ?_; rintro e w' ⟨rfl, rfl⟩)
  go_region_held3 (fun w' => w'.cell? ⟨w.heap.size, 0, none⟩ = some (.int .i64 3)) (go_keep)
    (first | (go_at_call 88; refine (Of_any _ _ _).mono ?_; rintro e w' ⟨rfl, rfl⟩) | (go_at_call 166; refine (kinds_any _).mono ?_; rintro e w' ⟨rfl, rfl⟩))
  all_goals go_wp2_with (go_at_call 88; refine (Of_any _ _ _).mono ?_; rintro e w' ⟨rfl, rfl⟩)
  · go_region_held3 (fun w' => w'.cell? ⟨w.heap.size, 0, none⟩ = some (.int .i64 3) ∧ w'.cell? ⟨w.heap.size, 1, none⟩ = some (.int .i64 i) ∧ w'.cell? ⟨w.heap.size, 2, none⟩ = some (.int .u64 u) ∧ w'.cell? ⟨w.heap.size, 3, none⟩ = some (.string s) ∧ w'.cell? ⟨w.heap.size + 1 + 1, 0, none⟩ = some (.func (.func 179) #[] #[])) (first | (go_keep; done) | (simp [*, go_sem]; done))
      (first | (go_at_call 88; refine (Of_any _ _ _).mono ?_; rintro e w' ⟨rfl, rfl⟩) | (go_at_call 179; refine (onlyBool_any _ _ _ _ _).mono ?_; rintro e w' ⟨rfl, rfl⟩))
    go_wp2_with (go_at_call 88; refine (Of_any _ _ _).mono ?_; rintro e w' ⟨rfl, rfl⟩)
    go_ret
    exact ⟨rfl, by go_grown⟩
  · go_region_held3 (fun w' => w'.cell? ⟨w.heap.size, 0, none⟩ = some (.int .i64 3) ∧ w'.cell? ⟨w.heap.size, 1, none⟩ = some (.int .i64 i) ∧ w'.cell? ⟨w.heap.size, 2, none⟩ = some (.int .u64 u) ∧ w'.cell? ⟨w.heap.size, 3, none⟩ = some (.string s) ∧ w'.cell? ⟨w.heap.size + 1 + 1, 0, none⟩ = some (.func (.func 179) #[] #[])) (first | (go_keep; done) | (simp [*, go_sem]; done))
      (first | (go_at_call 88; refine (Of_any _ _ _).mono ?_; rintro e w' ⟨rfl, rfl⟩) | (go_at_call 179; refine (onlyBool_any _ _ _ _ _).mono ?_; rintro e w' ⟨rfl, rfl⟩))
    go_wp2_with (go_at_call 88; refine (Of_any _ _ _).mono ?_; rintro e w' ⟨rfl, rfl⟩)
    go_ret
    exact ⟨rfl, by go_grown⟩
  · go_region_held3 (fun w' => w'.cell? ⟨w.heap.size, 0, none⟩ = some (.int .i64 3) ∧ w'.cell? ⟨w.heap.size, 1, none⟩ = some (.int .i64 i) ∧ w'.cell? ⟨w.heap.size, 2, none⟩ = some (.int .u64 u) ∧ w'.cell? ⟨w.heap.size, 3, none⟩ = some (.string s) ∧ w'.cell? ⟨w.heap.size + 1, 0, none⟩ = some (.func (.func 179) #[] #[])) (first | (go_keep; done) | (simp [*, go_sem]; done))
      (first | (go_at_call 88; refine (Of_any _ _ _).mono ?_; rintro e w' ⟨rfl, rfl⟩) | (go_at_call 179; refine (onlyBool_any _ _ _ _ _).mono ?_; rintro e w' ⟨rfl, rfl⟩))
    go_wp2_with (go_at_call 88; refine (Of_any _ _ _).mono ?_; rintro e w' ⟨rfl, rfl⟩)
    go_ret
    exact ⟨rfl, by go_grown⟩

set_option maxRecDepth 100000 in
set_option maxHeartbeats 1600000 in
theorem checkBool_long (i u : Int) (s : ByteArray) (w : World) (hne : ∀ W, (binOp .neq 68 (.agg #[.int .i64 3, .int .i64 i, .int .u64 u, .string s]) (.agg #[.int .i64 3, .int .i64 (bits BinOp.and .i64 i 1), .int .u64 0, .string ⟨#[]⟩])).run Tryz.prog W = .ok (.bool false) W) (hs : 200 < (s.size : Int)) :
    Calls Tryz.prog 157 #[.agg #[.int .i64 3, .int .i64 i, .int .u64 u, .string s]] w (IsErr 3 w) := by
  obtain ⟨C, hC⟩ : ∃ C, C = Obj.cells #[.int .i64 3, .int .i64 i, .int .u64 u, .string s] 68 := ⟨_, rfl⟩
  obtain ⟨Z, hZ⟩ : ∃ C, C = Obj.cells #[.nilFunc, .nilFunc, .nilFunc] 243 := ⟨_, rfl⟩
  have hA : (Instr.lookup 245 (.map (some (w.heap.size + 1))) (.int .i64 3) true).run Tryz.prog ((w.alloc C).alloc (.map mapKinds 5)).drew = .ok (.tuple #[kv 179 180 181, .bool true]) _ :=
    kinds_found (mapA w C _) rfl
  have hB : (Instr.lookup 245 (.map (some (w.heap.size + 1))) (.int .i64 3) true).run Tryz.prog (((w.alloc C).alloc (.map mapKinds 5)).alloc Z).drew = .ok (.tuple #[kv 179 180 181, .bool true]) _ :=
    kinds_found (mapB w C _ Z) rfl
  have hD : (Instr.lookup 245 (.map (some (w.heap.size + 1 + 1))) (.int .i64 3) true).run Tryz.prog (((w.alloc C).alloc Z).alloc (.map mapKinds 5)).drew = .ok (.tuple #[kv 179 180 181, .bool true]) _ :=
    kinds_found (mapD w C _ Z) rfl
  subst hC hZ
  simp only [kv] at hA hB hD
  go_enter Tryz.func157, Tryz.ntmps157
  go_wp2_with (go_at_call 88; refine (Of_any _ _ _).mono ?_; rintro e w' ⟨rfl, rfl⟩)
  go_region_held3 (fun w' => w'.cell? ⟨w.heap.size, 0, none⟩ = some (.int .i64 3)) (go_keep)
    (first | (go_at_call 88; refine (Of_any _ _ _).mono ?_; rintro e w' ⟨rfl, rfl⟩) | (go_at_call 166; refine (kinds_any _).mono ?_; rintro e w' ⟨rfl, rfl⟩))
  all_goals go_wp2_with (go_at_call 88; refine (Of_any _ _ _).mono ?_; rintro e w' ⟨rfl, rfl⟩)
  · go_region_held3 (fun w' => w'.cell? ⟨w.heap.size, 0, none⟩ = some (.int .i64 3) ∧ w'.cell? ⟨w.heap.size, 1, none⟩ = some (.int .i64 i) ∧ w'.cell? ⟨w.heap.size, 2, none⟩ = some (.int .u64 u) ∧ w'.cell? ⟨w.heap.size, 3, none⟩ = some (.string s) ∧ w'.cell? ⟨w.heap.size + 1 + 1, 0, none⟩ = some (.func (.func 179) #[] #[])) (first | (go_keep; done) | (simp [*, go_sem]; done))
      (first | (go_at_call 88; refine (Of_any _ _ _).mono ?_; rintro e w' ⟨rfl, rfl⟩) | (go_at_call 179; refine (onlyBool_any _ _ _ _ _).mono ?_; rintro e w' ⟨rfl, rfl⟩))
    go_wp2_with (go_at_call 88; refine (Of_any _ _ _).mono ?_; rintro e w' ⟨rfl, rfl⟩)
    go_ret
    exact ⟨_, rfl, by simp [Nat.add_assoc], by simp [go_sem], by go_grown⟩
  · go_region_held3 (fun w' => w'.cell? ⟨w.heap.size, 0, none⟩ = some (.int .i64 3) ∧ w'.cell? ⟨w.heap.size, 1, none⟩ = some (.int .i64 i) ∧ w'.cell? ⟨w.heap.size, 2, none⟩ = some (.int .u64 u) ∧ w'.cell? ⟨w.heap.size, 3, none⟩ = some (.string s) ∧ w'.cell? ⟨w.heap.size + 1 + 1, 0, none⟩ = some (.func (.func 179) #[] #[])) (first | (go_keep; done) | (simp [*, go_sem]; done))
      (first | (go_at_call 88; refine (Of_any _ _ _).mono ?_; rintro e w' ⟨rfl, rfl⟩) | (go_at_call 179; refine (onlyBool_any _ _ _ _ _).mono ?_; rintro e w' ⟨rfl, rfl⟩))
    go_wp2_with (go_at_call 88; refine (Of_any _ _ _).mono ?_; rintro e w' ⟨rfl, rfl⟩)
    go_ret
    exact ⟨_, rfl, by simp [Nat.add_assoc], by simp [go_sem], by go_grown⟩
  · go_region_held3 (fun w' => w'.cell? ⟨w.heap.size, 0, none⟩ = some (.int .i64 3) ∧ w'.cell? ⟨w.heap.size, 1, none⟩ = some (.int .i64 i) ∧ w'.cell? ⟨w.heap.size, 2, none⟩ = some (.int .u64 u) ∧ w'.cell? ⟨w.heap.size, 3, none⟩ = some (.string s) ∧ w'.cell? ⟨w.heap.size + 1, 0, none⟩ = some (.func (.func 179) #[] #[])) (first | (go_keep; done) | (simp [*, go_sem]; done))
      (first | (go_at_call 88; refine (Of_any _ _ _).mono ?_; rintro e w' ⟨rfl, rfl⟩) | (go_at_call 179; refine (onlyBool_any _ _ _ _ _).mono ?_; rintro e w' ⟨rfl, rfl⟩))
    go_wp2_with (go_at_call 88; refine (Of_any _ _ _).mono ?_; rintro e w' ⟨rfl, rfl⟩)
    go_ret
    exact ⟨_, rfl, by simp [Nat.add_assoc], by simp [go_sem], by go_grown⟩
end Go.Proofs.YtocmjlnhcloccaaGreatDoor
namespace Go.Proofs.YtocmjlnhcloccaaGreatDoor
open Go.RowKit

set_option maxRecDepth 100000 in
set_option maxHeartbeats 1600000 in
theorem checkBytes_bad (i u : Int) (s : ByteArray) (w : World) (hne : ∀ W, (binOp .neq 68 (.agg #[.int .i64 4, .int .i64 i, .int .u64 u, .string s]) (.agg #[.int .i64 4, .int .i64 0, .int .u64 0, .string s])).run Tryz.prog W = .ok (.bool true) W) :
    Calls Tryz.prog 157 #[.agg #[.int .i64 4, .int .i64 i, .int .u64 u, .string s]] w (IsErr 2 w) := by
  obtain ⟨C, hC⟩ : ∃ C, C = Obj.cells #[.int .i64 4, .int .i64 i, .int .u64 u, .string s] 68 := ⟨_, rfl⟩
  obtain ⟨Z, hZ⟩ : ∃ C, C = Obj.cells #[.nilFunc, .nilFunc, .nilFunc] 243 := ⟨_, rfl⟩
  have hA : (Instr.lookup 245 (.map (some (w.heap.size + 1))) (.int .i64 4) true).run Tryz.prog ((w.alloc C).alloc (.map mapKinds 5)).drew = .ok (.tuple #[kv 182 183 184, .bool true]) _ :=
    kinds_found (mapA w C _) rfl
  have hB : (Instr.lookup 245 (.map (some (w.heap.size + 1))) (.int .i64 4) true).run Tryz.prog (((w.alloc C).alloc (.map mapKinds 5)).alloc Z).drew = .ok (.tuple #[kv 182 183 184, .bool true]) _ :=
    kinds_found (mapB w C _ Z) rfl
  have hD : (Instr.lookup 245 (.map (some (w.heap.size + 1 + 1))) (.int .i64 4) true).run Tryz.prog (((w.alloc C).alloc Z).alloc (.map mapKinds 5)).drew = .ok (.tuple #[kv 182 183 184, .bool true]) _ :=
    kinds_found (mapD w C _ Z) rfl
  subst hC hZ
  simp only [kv] at hA hB hD
  go_enter Tryz.func157, Tryz.ntmps157
  go_wp2_with (go_at_call 88; refine (Of_any _ _ _).mono ?_; rintro e w' ⟨rfl, rfl⟩)
  go_region_held3 (fun w' => w'.cell? ⟨w.heap.size, 0, none⟩ = some (.int .i64 4)) (go_keep)
    (first | (go_at_call 88; refine (Of_any _ _ _).mono ?_; rintro e w' ⟨rfl, rfl⟩) | (go_at_call 166; refine (kinds_any _).mono ?_; rintro e w' ⟨rfl, rfl⟩))
  all_goals go_wp2_with (go_at_call 88; refine (Of_any _ _ _).mono ?_; rintro e w' ⟨rfl, rfl⟩)
  · go_region_held3 (fun w' => w'.cell? ⟨w.heap.size, 0, none⟩ = some (.int .i64 4) ∧ w'.cell? ⟨w.heap.size, 1, none⟩ = some (.int .i64 i) ∧ w'.cell? ⟨w.heap.size, 2, none⟩ = some (.int .u64 u) ∧ w'.cell? ⟨w.heap.size, 3, none⟩ = some (.string s) ∧ w'.cell? ⟨w.heap.size + 1 + 1, 0, none⟩ = some (.func (.func 182) #[] #[])) (first | (go_keep; done) | (simp [*, go_sem]; done))
      (first | (go_at_call 88; refine (Of_any _ _ _).mono ?_; rintro e w' ⟨rfl, rfl⟩) | (go_at_call 182; refine (onlyBytes_any _ _ _ _ _).mono ?_; rintro e w' ⟨rfl, rfl⟩))
    go_wp2_with (go_at_call 88; refine (Of_any _ _ _).mono ?_; rintro e w' ⟨rfl, rfl⟩)
    go_ret
    exact ⟨_, rfl, by simp [Nat.add_assoc], by simp [go_sem], by go_grown⟩
  · go_region_held3 (fun w' => w'.cell? ⟨w.heap.size, 0, none⟩ = some (.int .i64 4) ∧ w'.cell? ⟨w.heap.size, 1, none⟩ = some (.int .i64 i) ∧ w'.cell? ⟨w.heap.size, 2, none⟩ = some (.int .u64 u) ∧ w'.cell? ⟨w.heap.size, 3, none⟩ = some (.string s) ∧ w'.cell? ⟨w.heap.size + 1 + 1, 0, none⟩ = some (.func (.func 182) #[] #[])) (first | (go_keep; done) | (simp [*, go_sem]; done))
      (first | (go_at_call 88; refine (Of_any _ _ _).mono ?_; rintro e w' ⟨rfl, rfl⟩) | (go_at_call 182; refine (onlyBytes_any _ _ _ _ _).mono ?_; rintro e w' ⟨rfl, rfl⟩))
    go_wp2_with (go_at_call 88; refine (Of_any _ _ _).mono ?_; rintro e w' ⟨rfl, rfl⟩)
    go_ret
    exact ⟨_, rfl, by simp [Nat.add_assoc], by simp [go_sem], by go_grown⟩
  · go_region_held3 (fun w' => w'.cell? ⟨w.heap.size, 0, none⟩ = some (.int .i64 4) ∧ w'.cell? ⟨w.heap.size, 1, none⟩ = some (.int .i64 i) ∧ w'.cell? ⟨w.heap.size, 2, none⟩ = some (.int .u64 u) ∧ w'.cell? ⟨w.heap.size, 3, none⟩ = some (.string s) ∧ w'.cell? ⟨w.heap.size + 1, 0, none⟩ = some (.func (.func 182) #[] #[])) (first | (go_keep; done) | (simp [*, go_sem]; done))
      (first | (go_at_call 88; refine (Of_any _ _ _).mono ?_; rintro e w' ⟨rfl, rfl⟩) | (go_at_call 182; refine (onlyBytes_any _ _ _ _ _).mono ?_; rintro e w' ⟨rfl, rfl⟩))
    go_wp2_with (go_at_call 88; refine (Of_any _ _ _).mono ?_; rintro e w' ⟨rfl, rfl⟩)
    go_ret
    exact ⟨_, rfl, by simp [Nat.add_assoc], by simp [go_sem], by go_grown⟩

set_option maxRecDepth 100000 in
set_option maxHeartbeats 1600000 in
theorem checkBytes_ok (i u : Int) (s : ByteArray) (w : World) (hne : ∀ W, (binOp .neq 68 (.agg #[.int .i64 4, .int .i64 i, .int .u64 u, .string s]) (.agg #[.int .i64 4, .int .i64 0, .int .u64 0, .string s])).run Tryz.prog W = .ok (.bool false) W) (hs : (s.size : Int) ≤ 200) :
    Calls Tryz.prog 157 #[.agg #[.int .i64 4, .int .i64 i, .int .u64 u, .string s]] w (fun e w' => e = .returned .nilIface ∧ Below w.heap.size w w') := by
  obtain ⟨C, hC⟩ : ∃ C, C = Obj.cells #[.int .i64 4, .int .i64 i, .int .u64 u, .string s] 68 := ⟨_, rfl⟩
  obtain ⟨Z, hZ⟩ : ∃ C, C = Obj.cells #[.nilFunc, .nilFunc, .nilFunc] 243 := ⟨_, rfl⟩
  have hA : (Instr.lookup 245 (.map (some (w.heap.size + 1))) (.int .i64 4) true).run Tryz.prog ((w.alloc C).alloc (.map mapKinds 5)).drew = .ok (.tuple #[kv 182 183 184, .bool true]) _ :=
    kinds_found (mapA w C _) rfl
  have hB : (Instr.lookup 245 (.map (some (w.heap.size + 1))) (.int .i64 4) true).run Tryz.prog (((w.alloc C).alloc (.map mapKinds 5)).alloc Z).drew = .ok (.tuple #[kv 182 183 184, .bool true]) _ :=
    kinds_found (mapB w C _ Z) rfl
  have hD : (Instr.lookup 245 (.map (some (w.heap.size + 1 + 1))) (.int .i64 4) true).run Tryz.prog (((w.alloc C).alloc Z).alloc (.map mapKinds 5)).drew = .ok (.tuple #[kv 182 183 184, .bool true]) _ :=
    kinds_found (mapD w C _ Z) rfl
  subst hC hZ
  simp only [kv] at hA hB hD
  go_enter Tryz.func157, Tryz.ntmps157
  go_wp2_with (go_at_call 88; refine (Of_any _ _ _).mono ?_; rintro e w' ⟨rfl, rfl⟩)
  go_region_held3 (fun w' => w'.cell? ⟨w.heap.size, 0, none⟩ = some (.int .i64 4)) (go_keep)
    (first | (go_at_call 88; refine (Of_any _ _ _).mono ?_; rintro e w' ⟨rfl, rfl⟩) | (go_at_call 166; refine (kinds_any _).mono ?_; rintro e w' ⟨rfl, rfl⟩))
  all_goals go_wp2_with (go_at_call 88; refine (Of_any _ _ _).mono ?_; rintro e w' ⟨rfl, rfl⟩)
  · go_region_held3 (fun w' => w'.cell? ⟨w.heap.size, 0, none⟩ = some (.int .i64 4) ∧ w'.cell? ⟨w.heap.size, 1, none⟩ = some (.int .i64 i) ∧ w'.cell? ⟨w.heap.size, 2, none⟩ = some (.int .u64 u) ∧ w'.cell? ⟨w.heap.size, 3, none⟩ = some (.string s) ∧ w'.cell? ⟨w.heap.size + 1 + 1, 0, none⟩ = some (.func (.func 182) #[] #[])) (first | (go_keep; done) | (simp [*, go_sem]; done))
      (first | (go_at_call 88; refine (Of_any _ _ _).mono ?_; rintro e w' ⟨rfl, rfl⟩) | (go_at_call 182; refine (onlyBytes_any _ _ _ _ _).mono ?_; rintro e w' ⟨rfl, rfl⟩))
    go_wp2_with (go_at_call 88; refine (Of_any _ _ _).mono ?_; rintro e w' ⟨rfl, rfl⟩)
    go_ret
    exact ⟨rfl, by go_grown⟩
  · go_region_held3 (fun w' => w'.cell? ⟨w.heap.size, 0, none⟩ = some (.int .i64 4) ∧ w'.cell? ⟨w.heap.size, 1, none⟩ = some (.int .i64 i) ∧ w'.cell? ⟨w.heap.size, 2, none⟩ = some (.int .u64 u) ∧ w'.cell? ⟨w.heap.size, 3, none⟩ = some (.string s) ∧ w'.cell? ⟨w.heap.size + 1 + 1, 0, none⟩ = some (.func (.func 182) #[] #[])) (first | (go_keep; done) | (simp [*, go_sem]; done))
      (first | (go_at_call 88; refine (Of_any _ _ _).mono ?_; rintro e w' ⟨rfl, rfl⟩) | (go_at_call 182; refine (onlyBytes_any _ _ _ _ _).mono ?_; rintro e w' ⟨rfl, rfl⟩))
    go_wp2_with (go_at_call 88; refine (Of_any _ _ _).mono ?_; rintro e w' ⟨rfl, rfl⟩)
    go_ret
    exact ⟨rfl, by go_grown⟩
  · go_region_held3 (fun w' => w'.cell? ⟨w.heap.size, 0, none⟩ = some (.int .i64 4) ∧ w'.cell? ⟨w.heap.size, 1, none⟩ = some (.int .i64 i) ∧ w'.cell? ⟨w.heap.size, 2, none⟩ = some (.int .u64 u) ∧ w'.cell? ⟨w.heap.size, 3, none⟩ = some (.string s) ∧ w'.cell? ⟨w.heap.size + 1, 0, none⟩ = some (.func (.func 182) #[] #[])) (first | (go_keep; done) | (simp [*, go_sem]; done))
      (first | (go_at_call 88; refine (Of_any _ _ _).mono ?_; rintro e w' ⟨rfl, rfl⟩) | (go_at_call 182; refine (onlyBytes_any _ _ _ _ _).mono ?_; rintro e w' ⟨rfl, rfl⟩))
    go_wp2_with (go_at_call 88; refine (Of_any _ _ _).mono ?_; rintro e w' ⟨rfl, rfl⟩)
    go_ret
    exact ⟨rfl, by go_grown⟩

set_option maxRecDepth 100000 in
set_option maxHeartbeats 1600000 in
theorem checkBytes_long (i u : Int) (s : ByteArray) (w : World) (hne : ∀ W, (binOp .neq 68 (.agg #[.int .i64 4, .int .i64 i, .int .u64 u, .string s]) (.agg #[.int .i64 4, .int .i64 0, .int .u64 0, .string s])).run Tryz.prog W = .ok (.bool false) W) (hs : 200 < (s.size : Int)) :
    Calls Tryz.prog 157 #[.agg #[.int .i64 4, .int .i64 i, .int .u64 u, .string s]] w (IsErr 3 w) := by
  obtain ⟨C, hC⟩ : ∃ C, C = Obj.cells #[.int .i64 4, .int .i64 i, .int .u64 u, .string s] 68 := ⟨_, rfl⟩
  obtain ⟨Z, hZ⟩ : ∃ C, C = Obj.cells #[.nilFunc, .nilFunc, .nilFunc] 243 := ⟨_, rfl⟩
  have hA : (Instr.lookup 245 (.map (some (w.heap.size + 1))) (.int .i64 4) true).run Tryz.prog ((w.alloc C).alloc (.map mapKinds 5)).drew = .ok (.tuple #[kv 182 183 184, .bool true]) _ :=
    kinds_found (mapA w C _) rfl
  have hB : (Instr.lookup 245 (.map (some (w.heap.size + 1))) (.int .i64 4) true).run Tryz.prog (((w.alloc C).alloc (.map mapKinds 5)).alloc Z).drew = .ok (.tuple #[kv 182 183 184, .bool true]) _ :=
    kinds_found (mapB w C _ Z) rfl
  have hD : (Instr.lookup 245 (.map (some (w.heap.size + 1 + 1))) (.int .i64 4) true).run Tryz.prog (((w.alloc C).alloc Z).alloc (.map mapKinds 5)).drew = .ok (.tuple #[kv 182 183 184, .bool true]) _ :=
    kinds_found (mapD w C _ Z) rfl
  subst hC hZ
  simp only [kv] at hA hB hD
  go_enter Tryz.func157, Tryz.ntmps157
  go_wp2_with (go_at_call 88; refine (Of_any _ _ _).mono ?_; rintro e w' ⟨rfl, rfl⟩)
  go_region_held3 (fun w' => w'.cell? ⟨w.heap.size, 0, none⟩ = some (.int .i64 4)) (go_keep)
    (first | (go_at_call 88; refine (Of_any _ _ _).mono ?_; rintro e w' ⟨rfl, rfl⟩) | (go_at_call 166; refine (kinds_any _).mono ?_; rintro e w' ⟨rfl, rfl⟩))
  all_goals go_wp2_with (go_at_call 88; refine (Of_any _ _ _).mono ?_; rintro e w' ⟨rfl, rfl⟩)
  · go_region_held3 (fun w' => w'.cell? ⟨w.heap.size, 0, none⟩ = some (.int .i64 4) ∧ w'.cell? ⟨w.heap.size, 1, none⟩ = some (.int .i64 i) ∧ w'.cell? ⟨w.heap.size, 2, none⟩ = some (.int .u64 u) ∧ w'.cell? ⟨w.heap.size, 3, none⟩ = some (.string s) ∧ w'.cell? ⟨w.heap.size + 1 + 1, 0, none⟩ = some (.func (.func 182) #[] #[])) (first | (go_keep; done) | (simp [*, go_sem]; done))
      (first | (go_at_call 88; refine (Of_any _ _ _).mono ?_; rintro e w' ⟨rfl, rfl⟩) | (go_at_call 182; refine (onlyBytes_any _ _ _ _ _).mono ?_; rintro e w' ⟨rfl, rfl⟩))
    go_wp2_with (go_at_call 88; refine (Of_any _ _ _).mono ?_; rintro e w' ⟨rfl, rfl⟩)
    go_ret
    exact ⟨_, rfl, by simp [Nat.add_assoc], by simp [go_sem], by go_grown⟩
  · go_region_held3 (fun w' => w'.cell? ⟨w.heap.size, 0, none⟩ = some (.int .i64 4) ∧ w'.cell? ⟨w.heap.size, 1, none⟩ = some (.int .i64 i) ∧ w'.cell? ⟨w.heap.size, 2, none⟩ = some (.int .u64 u) ∧ w'.cell? ⟨w.heap.size, 3, none⟩ = some (.string s) ∧ w'.cell? ⟨w.heap.size + 1 + 1, 0, none⟩ = some (.func (.func 182) #[] #[])) (first | (go_keep; done) | (simp [*, go_sem]; done))
      (first | (go_at_call 88; refine (Of_any _ _ _).mono ?_; rintro e w' ⟨rfl, rfl⟩) | (go_at_call 182; refine (onlyBytes_any _ _ _ _ _).mono ?_; rintro e w' ⟨rfl, rfl⟩))
    go_wp2_with (go_at_call 88; refine (Of_any _ _ _).mono ?_; rintro e w' ⟨rfl, rfl⟩)
    go_ret
    exact ⟨_, rfl, by simp [Nat.add_assoc], by simp [go_sem], by go_grown⟩
  · go_region_held3 (fun w' => w'.cell? ⟨w.heap.size, 0, none⟩ = some (.int .i64 4) ∧ w'.cell? ⟨w.heap.size, 1, none⟩ = some (.int .i64 i) ∧ w'.cell? ⟨w.heap.size, 2, none⟩ = some (.int .u64 u) ∧ w'.cell? ⟨w.heap.size, 3, none⟩ = some (.string s) ∧ w'.cell? ⟨w.heap.size + 1, 0, none⟩ = some (.func (.func 182) #[] #[])) (first | (go_keep; done) | (simp [*, go_sem]; done))
      (first | (go_at_call 88; refine (Of_any _ _ _).mono ?_; rintro e w' ⟨rfl, rfl⟩) | (go_at_call 182; refine (onlyBytes_any _ _ _ _ _).mono ?_; rintro e w' ⟨rfl, rfl⟩))
    go_wp2_with (go_at_call 88; refine (Of_any _ _ _).mono ?_; rintro e w' ⟨rfl, rfl⟩)
    go_ret
    exact ⟨_, rfl, by simp [Nat.add_assoc], by simp [go_sem], by go_grown⟩
end Go.Proofs.YtocmjlnhcloccaaGreatDoor
namespace Go.Proofs.YtocmjlnhcloccaaGreatDoor
open Go.RowKit

theorem kinds_miss (k : Int) (hk : k < 0 ∨ 4 < k) : Instr.findNow (.int .i64) (.int .i64 k) mapKinds.toList 0 = some none := by
  have h0 : (k == 0) = false := by rw [beq_eq_false_iff_ne]; omega
  have h1 : (k == 1) = false := by rw [beq_eq_false_iff_ne]; omega
  have h2 : (k == 2) = false := by rw [beq_eq_false_iff_ne]; omega
  have h3 : (k == 3) = false := by rw [beq_eq_false_iff_ne]; omega
  have h4 : (k == 4) = false := by rw [beq_eq_false_iff_ne]; omega
  simp [mapKinds, Instr.findNow, Instr.sameNow, h0, h1, h2, h3, h4]

set_option maxRecDepth 100000 in
set_option maxHeartbeats 1600000 in
theorem checkNone_bad (k i u : Int) (s : ByteArray) (w : World) (hk : k < 0 ∨ 4 < k) :
    Calls Tryz.prog 157 #[.agg #[.int .i64 k, .int .i64 i, .int .u64 u, .string s]] w (IsErr 2 w) := by
  obtain ⟨C, hC⟩ : ∃ C, C = Obj.cells #[.int .i64 k, .int .i64 i, .int .u64 u, .string s] 68 := ⟨_, rfl⟩
  obtain ⟨Z, hZ⟩ : ∃ C, C = Obj.cells #[.nilFunc, .nilFunc, .nilFunc] 243 := ⟨_, rfl⟩
  have hm := kinds_miss k hk
  have hA : (Instr.lookup 245 (.map (some (w.heap.size + 1))) (.int .i64 k) true).run Tryz.prog ((w.alloc C).alloc (.map mapKinds 5)).drew = .ok (.tuple #[.agg #[.nilFunc, .nilFunc, .nilFunc], .bool false]) _ :=
    kinds_not (mapA w C _) hm
  have hB : (Instr.lookup 245 (.map (some (w.heap.size + 1))) (.int .i64 k) true).run Tryz.prog (((w.alloc C).alloc (.map mapKinds 5)).alloc Z).drew = .ok (.tuple #[.agg #[.nilFunc, .nilFunc, .nilFunc], .bool false]) _ :=
    kinds_not (mapB w C _ Z) hm
  have hD : (Instr.lookup 245 (.map (some (w.heap.size + 1 + 1))) (.int .i64 k) true).run Tryz.prog (((w.alloc C).alloc Z).alloc (.map mapKinds 5)).drew = .ok (.tuple #[.agg #[.nilFunc, .nilFunc, .nilFunc], .bool false]) _ :=
    kinds_not (mapD w C _ Z) hm
  subst hC hZ
  clear hm
  go_enter Tryz.func157, Tryz.ntmps157
  go_wp2_with (go_at_call 88; refine (Of_any _ _ _).mono ?_; rintro e w' ⟨rfl, rfl⟩)
  go_region_held3 (fun w' => w'.cell? ⟨w.heap.size, 0, none⟩ = some (.int .i64 k)) (go_keep)
    (first | (go_at_call 88; refine (Of_any _ _ _).mono ?_; rintro e w' ⟨rfl, rfl⟩) | (go_at_call 166; refine (kinds_any _).mono ?_; rintro e w' ⟨rfl, rfl⟩))
  all_goals go_wp2_with (go_at_call 88; refine (Of_any _ _ _).mono ?_; rintro e w' ⟨rfl, rfl⟩)
  all_goals go_quiet (fail)
  all_goals go_wp2_with (go_at_call 88; refine (Of_any _ _ _).mono ?_; rintro e w' ⟨rfl, rfl⟩)
  all_goals go_ret
  all_goals exact ⟨_, rfl, by simp [Nat.add_assoc], by simp [go_sem], by go_grown <;> (refine below_drewN ?_ _; go_grown)⟩
end Go.Proofs.YtocmjlnhcloccaaGreatDoor

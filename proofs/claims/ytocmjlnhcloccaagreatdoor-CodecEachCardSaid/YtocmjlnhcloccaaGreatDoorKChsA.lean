/-
  value.check, kind by kind.
-/
import Derived.Test.YtocmjlnhcloccaaGreatDoorErr
namespace Go.Proofs.YtocmjlnhcloccaaGreatDoor
open Go.RowKit

set_option maxRecDepth 100000 in
set_option maxHeartbeats 1600000 in
theorem checkNull_bad (i u : Int) (s : ByteArray) (w : World) (hne : ∀ W, (binOp .neq 68 (.agg #[.int .i64 0, .int .i64 i, .int .u64 u, .string s]) (.agg #[.int .i64 0, .int .i64 0, .int .u64 0, .string ⟨#[]⟩])).run Tryz.prog W = .ok (.bool true) W) :
    Calls Tryz.prog 157 #[.agg #[.int .i64 0, .int .i64 i, .int .u64 u, .string s]] w (IsErr 2 w) := by
  obtain ⟨C, hC⟩ : ∃ C, C = Obj.cells #[.int .i64 0, .int .i64 i, .int .u64 u, .string s] 68 := ⟨_, rfl⟩
  obtain ⟨Z, hZ⟩ : ∃ C, C = Obj.cells #[.nilFunc, .nilFunc, .nilFunc] 243 := ⟨_, rfl⟩
  have hA : (Instr.lookup 245 (.map (some (w.heap.size + 1))) (.int .i64 0) true).run Tryz.prog ((w.alloc C).alloc (.map mapKinds 5)).drew = .ok (.tuple #[kv 170 171 172, .bool true]) _ :=
    kinds_found (mapA w C _) rfl
  have hB : (Instr.lookup 245 (.map (some (w.heap.size + 1))) (.int .i64 0) true).run Tryz.prog (((w.alloc C).alloc (.map mapKinds 5)).alloc Z).drew = .ok (.tuple #[kv 170 171 172, .bool true]) _ :=
    kinds_found (mapB w C _ Z) rfl
  have hD : (Instr.lookup 245 (.map (some (w.heap.size + 1 + 1))) (.int .i64 0) true).run Tryz.prog (((w.alloc C).alloc Z).alloc (.map mapKinds 5)).drew = .ok (.tuple #[kv 170 171 172, .bool true]) _ :=
    kinds_found (mapD w C _ Z) rfl
  subst hC hZ
  simp only [kv] at hA hB hD
  go_enter Tryz.func157, Tryz.ntmps157
  go_wp2_with (go_at_call 88; refine (Of_any _ _ _).mono ?_; rintro e w' ⟨rfl, rfl⟩)
  go_region_held3 (fun w' => w'.cell? ⟨w.heap.size, 0, none⟩ = some (.int .i64 0)) (go_keep)
    (first | (go_at_call 88; refine (Of_any _ _ _).mono ?_; rintro e w' ⟨rfl, rfl⟩) | (go_at_call 166; refine (kinds_any _).mono ?_; rintro e w' ⟨rfl, rfl⟩))
  all_goals go_wp2_with (go_at_call 88; refine (Of_any _ _ _).mono ?_; rintro e w' ⟨rfl, rfl⟩)
  · go_region_held3 (fun w' => w'.cell? ⟨w.heap.size, 0, none⟩ = some (.int .i64 0) ∧ w'.cell? ⟨w.heap.size, 1, none⟩ = some (.int .i64 i) ∧ w'.cell? ⟨w.heap.size, 2, none⟩ = some (.int .u64 u) ∧ w'.cell? ⟨w.heap.size, 3, none⟩ = some (.string s) ∧ w'.cell? ⟨w.heap.size + 1 + 1, 0, none⟩ = some (.func (.func 170) #[] #[])) (first | (go_keep; done) | (simp [*, go_sem]; done))
      (first | (go_at_call 88; refine (Of_any _ _ _).mono ?_; rintro e w' ⟨rfl, rfl⟩) | (go_at_call 170; refine (onlyNull_any _ _ _ _ _).mono ?_; rintro e w' ⟨rfl, rfl⟩))
    go_wp2_with (go_at_call 88; refine (Of_any _ _ _).mono ?_; rintro e w' ⟨rfl, rfl⟩)
    go_ret
    exact ⟨_, rfl, by simp [Nat.add_assoc], by simp [go_sem], by go_grown⟩
  · go_region_held3 (fun w' => w'.cell? ⟨w.heap.size, 0, none⟩ = some (.int .i64 0) ∧ w'.cell? ⟨w.heap.size, 1, none⟩ = some (.int .i64 i) ∧ w'.cell? ⟨w.heap.size, 2, none⟩ = some (.int .u64 u) ∧ w'.cell? ⟨w.heap.size, 3, none⟩ = some (.string s) ∧ w'.cell? ⟨w.heap.size + 1 + 1, 0, none⟩ = some (.func (.func 170) #[] #[])) (first | (go_keep; done) | (simp [*, go_sem]; done))
      (first | (go_at_call 88; refine (Of_any _ _ _).mono ?_; rintro e w' ⟨rfl, rfl⟩) | (go_at_call 170; refine (onlyNull_any _ _ _ _ _).mono ?_; rintro e w' ⟨rfl, rfl⟩))
    go_wp2_with (go_at_call 88; refine (Of_any _ _ _).mono ?_; rintro e w' ⟨rfl, rfl⟩)
    go_ret
    exact ⟨_, rfl, by simp [Nat.add_assoc], by simp [go_sem], by go_grown⟩
  · go_region_held3 (fun w' => w'.cell? ⟨w.heap.size, 0, none⟩ = some (.int .i64 0) ∧ w'.cell? ⟨w.heap.size, 1, none⟩ = some (.int .i64 i) ∧ w'.cell? ⟨w.heap.size, 2, none⟩ = some (.int .u64 u) ∧ w'.cell? ⟨w.heap.size, 3, none⟩ = some (.string s) ∧ w'.cell? ⟨w.heap.size + 1, 0, none⟩ = some (.func (.func 170) #[] #[])) (first | (go_keep; done) | (simp [*, go_sem]; done))
      (first | (go_at_call 88; refine (Of_any _ _ _).mono ?_; rintro e w' ⟨rfl, rfl⟩) | (go_at_call 170; refine (onlyNull_any _ _ _ _ _).mono ?_; rintro e w' ⟨rfl, rfl⟩))
    go_wp2_with (go_at_call 88; refine (Of_any _ _ _).mono ?_; rintro e w' ⟨rfl, rfl⟩)
    go_ret
    exact ⟨_, rfl, by simp [Nat.add_assoc], by simp [go_sem], by go_grown⟩

set_option maxRecDepth 100000 in
set_option maxHeartbeats 1600000 in
theorem checkNull_ok (i u : Int) (s : ByteArray) (w : World) (hne : ∀ W, (binOp .neq 68 (.agg #[.int .i64 0, .int .i64 i, .int .u64 u, .string s]) (.agg #[.int .i64 0, .int .i64 0, .int .u64 0, .string ⟨#[]⟩])).run Tryz.prog W = .ok (.bool false) W) (hs : (s.size : Int) ≤ 200) :
    Calls Tryz.prog 157 #[.agg #[.int .i64 0, .int .i64 i, .int .u64 u, .string s]] w (fun e w' => e = .returned .nilIface ∧ Below w.heap.size w w') := by
  obtain ⟨C, hC⟩ : ∃ C, C = Obj.cells #[.int .i64 0, .int .i64 i, .int .u64 u, .string s] 68 := ⟨_, rfl⟩
  obtain ⟨Z, hZ⟩ : ∃ C, C = Obj.cells #[.nilFunc, .nilFunc, .nilFunc] 243 := ⟨_, rfl⟩
  have hA : (Instr.lookup 245 (.map (some (w.heap.size + 1))) (.int .i64 0) true).run Tryz.prog ((w.alloc C).alloc (.map mapKinds 5)).drew = .ok (.tuple #[kv 170 171 172, .bool true]) _ :=
    kinds_found (mapA w C _) rfl
  have hB : (Instr.lookup 245 (.map (some (w.heap.size + 1))) (.int .i64 0) true).run Tryz.prog (((w.alloc C).alloc (.map mapKinds 5)).alloc Z).drew = .ok (.tuple #[kv 170 171 172, .bool true]) _ :=
    kinds_found (mapB w C _ Z) rfl
  have hD : (Instr.lookup 245 (.map (some (w.heap.size + 1 + 1))) (.int .i64 0) true).run Tryz.prog (((w.alloc C).alloc Z).alloc (.map mapKinds 5)).drew = .ok (.tuple #[kv 170 171 172, .bool true]) _ :=
    kinds_found (mapD w C _ Z) rfl
  subst hC hZ
  simp only [kv] at hA hB hD
  go_enter Tryz.func157, Tryz.ntmps157
  go_wp2_with (go_at_call 88; refine (Of_any _ _ _).mono ?_; rintro e w' ⟨rfl, rfl⟩)
  go_region_held3 (fun w' => w'.cell? ⟨w.heap.size, 0, none⟩ = some (.int .i64 0)) (go_keep)
    (first | (go_at_call 88; refine (Of_any _ _ _).mono ?_; rintro e w' ⟨rfl, rfl⟩) | (go_at_call 166; refine (kinds_any _).mono ?_; rintro e w' ⟨rfl, rfl⟩))
  all_goals go_wp2_with (go_at_call 88; refine (Of_any _ _ _).mono ?_; rintro e w' ⟨rfl, rfl⟩)
  · go_region_held3 (fun w' => w'.cell? ⟨w.heap.size, 0, none⟩ = some (.int .i64 0) ∧ w'.cell? ⟨w.heap.size, 1, none⟩ = some (.int .i64 i) ∧ w'.cell? ⟨w.heap.size, 2, none⟩ = some (.int .u64 u) ∧ w'.cell? ⟨w.heap.size, 3, none⟩ = some (.string s) ∧ w'.cell? ⟨w.heap.size + 1 + 1, 0, none⟩ = some (.func (.func 170) #[] #[])) (first | (go_keep; done) | (simp [*, go_sem]; done))
      (first | (go_at_call 88; refine (Of_any _ _ _).mono ?_; rintro e w' ⟨rfl, rfl⟩) | (go_at_call 170; refine (onlyNull_any _ _ _ _ _).mono ?_; rintro e w' ⟨rfl, rfl⟩))
    go_wp2_with (go_at_call 88; refine (Of_any _ _ _).mono ?_; rintro e w' ⟨rfl, rfl⟩)
    go_ret
    exact ⟨rfl, by go_grown⟩
  · go_region_held3 (fun w' => w'.cell? ⟨w.heap.size, 0, none⟩ = some (.int .i64 0) ∧ w'.cell? ⟨w.heap.size, 1, none⟩ = some (.int .i64 i) ∧ w'.cell? ⟨w.heap.size, 2, none⟩ = some (.int .u64 u) ∧ w'.cell? ⟨w.heap.size, 3, none⟩ = some (.string s) ∧ w'.cell? ⟨w.heap.size + 1 + 1, 0, none⟩ = some (.func (.func 170) #[] #[])) (first | (go_keep; done) | (simp [*, go_sem]; done))
      (first | (go_at_call 88; refine (Of_any _ _ _).mono ?_; rintro e w' ⟨rfl, rfl⟩) | (go_at_call 170; refine (onlyNull_any _ _ _ _ _).mono ?_; rintro e w' ⟨rfl, rfl⟩))
    go_wp2_with (go_at_call 88; refine (Of_any _ _ _).mono ?_; rintro e w' ⟨rfl, rfl⟩)
    go_ret
    exact ⟨rfl, by go_grown⟩
  · go_region_held3 (fun w' => w'.cell? ⟨w.heap.size, 0, none⟩ = some (.int .i64 0) ∧ w'.cell? ⟨w.heap.size, 1, none⟩ = some (.int .i64 i) ∧ w'.cell? ⟨w.heap.size, 2, none⟩ = some (.int .u64 u) ∧ w'.cell? ⟨w.heap.size, 3, none⟩ = some (.string s) ∧ w'.cell? ⟨w.heap.size + 1, 0, none⟩ = some (.func (.func 170) #[] #[])) (first | (go_keep; done) | (simp [*, go_sem]; done))
      (first | (go_at_call 88; refine (Of_any _ _ _).mono ?_; rintro e w' ⟨rfl, rfl⟩) | (go_at_call 170; refine (onlyNull_any _ _ _ _ _).mono ?_; rintro e w' ⟨rfl, rfl⟩))
    go_wp2_with (go_at_call 88; refine (Of_any _ _ _).mono ?_; rintro e w' ⟨rfl, rfl⟩)
    go_ret
    exact ⟨rfl, by go_grown⟩

set_option maxRecDepth 100000 in
set_option maxHeartbeats 1600000 in
theorem checkNull_long (i u : Int) (s : ByteArray) (w : World) (hne : ∀ W, (binOp .neq 68 (.agg #[.int .i64 0, .int .i64 i, .int .u64 u, .string s]) (.agg #[.int .i64 0, .int .i64 0, .int .u64 0, .string ⟨#[]⟩])).run Tryz.prog W = .ok (.bool false) W) (hs : 200 < (s.size : Int)) :
    Calls Tryz.prog 157 #[.agg #[.int .i64 0, .int .i64 i, .int .u64 u, .string s]] w (IsErr 3 w) := by
  obtain ⟨C, hC⟩ : ∃ C, C = Obj.cells #[.int .i64 0, .int .i64 i, .int .u64 u, .string s] 68 := ⟨_, rfl⟩
  obtain ⟨Z, hZ⟩ : ∃ C, C = Obj.cells #[.nilFunc, .nilFunc, .nilFunc] 243 := ⟨_, rfl⟩
  have hA : (Instr.lookup 245 (.map (some (w.heap.size + 1))) (.int .i64 0) true).run Tryz.prog ((w.alloc C).alloc (.map mapKinds 5)).drew = .ok (.tuple #[kv 170 171 172, .bool true]) _ :=
    kinds_found (mapA w C _) rfl
  have hB : (Instr.lookup 245 (.map (some (w.heap.size + 1))) (.int .i64 0) true).run Tryz.prog (((w.alloc C).alloc (.map mapKinds 5)).alloc Z).drew = .ok (.tuple #[kv 170 171 172, .bool true]) _ :=
    kinds_found (mapB w C _ Z) rfl
  have hD : (Instr.lookup 245 (.map (some (w.heap.size + 1 + 1))) (.int .i64 0) true).run Tryz.prog (((w.alloc C).alloc Z).alloc (.map mapKinds 5)).drew = .ok (.tuple #[kv 170 171 172, .bool true]) _ :=
    kinds_found (mapD w C _ Z) rfl
  subst hC hZ
  simp only [kv] at hA hB hD
  go_enter Tryz.func157, Tryz.ntmps157
  go_wp2_with (go_at_call 88; refine (Of_any _ _ _).mono ?_; rintro e w' ⟨rfl, rfl⟩)
  go_region_held3 (fun w' => w'.cell? ⟨w.heap.size, 0, none⟩ = some (.int .i64 0)) (go_keep)
    (first | (go_at_call 88; refine (Of_any _ _ _).mono ?_; rintro e w' ⟨rfl, rfl⟩) | (go_at_call 166; refine (kinds_any _).mono ?_; rintro e w' ⟨rfl, rfl⟩))
  all_goals go_wp2_with (go_at_call 88; refine (Of_any _ _ _).mono ?_; rintro e w' ⟨rfl, rfl⟩)
  · go_region_held3 (fun w' => w'.cell? ⟨w.heap.size, 0, none⟩ = some (.int .i64 0) ∧ w'.cell? ⟨w.heap.size, 1, none⟩ = some (.int .i64 i) ∧ w'.cell? ⟨w.heap.size, 2, none⟩ = some (.int .u64 u) ∧ w'.cell? ⟨w.heap.size, 3, none⟩ = some (.string s) ∧ w'.cell? ⟨w.heap.size + 1 + 1, 0, none⟩ = some (.func (.func 170) #[] #[])) (first | (go_keep; done) | (simp [*, go_sem]; done))
      (first | (go_at_call 88; refine (Of_any _ _ _).mono ?_; rintro e w' ⟨rfl, rfl⟩) | (go_at_call 170; refine (onlyNull_any _ _ _ _ _).mono ?_; rintro e w' ⟨rfl, rfl⟩))
    go_wp2_with (go_at_call 88; refine (Of_any _ _ _).mono ?_; rintro e w' ⟨rfl, rfl⟩)
    go_ret
    exact ⟨_, rfl, by simp [Nat.add_assoc], by simp [go_sem], by go_grown⟩
  · go_region_held3 (fun w' => w'.cell? ⟨w.heap.size, 0, none⟩ = some (.int .i64 0) ∧ w'.cell? ⟨w.heap.size, 1, none⟩ = some (.int .i64 i) ∧ w'.cell? ⟨w.heap.size, 2, none⟩ = some (.int .u64 u) ∧ w'.cell? ⟨w.heap.size, 3, none⟩ = some (.string s) ∧ w'.cell? ⟨w.heap.size + 1 + 1, 0, none⟩ = some (.func (.func 170) #[] #[])) (first | (go_keep; done) | (simp [*, go_sem]; done))
      (first | (go_at_call 88; refine (Of_any _ _ _).mono ?_; rintro e w' ⟨rfl, rfl⟩) | (go_at_call 170; refine (onlyNull_any _ _ _ _ _).mono ?_; rintro e w' ⟨rfl, rfl⟩))
    go_wp2_with (go_at_call 88; refine (Of_any _ _ _).mono ?_; rintro e w' ⟨rfl, rfl⟩)
    go_ret
    exact ⟨_, rfl, by simp [Nat.add_assoc], by simp [go_sem], by go_grown⟩
  · go_region_held3 (fun w' => w'.cell? ⟨w.heap.size, 0, none⟩ = some (.int .i64 0) ∧ w'.cell? ⟨w.heap.size, 1, none⟩ = some (.int .i64 i) ∧ w'.cell? ⟨w.heap.size, 2, none⟩ = some (.int .u64 u) ∧ w'.cell? ⟨w.heap.size, 3, none⟩ = some (.string s) ∧ w'.cell? ⟨w.heap.size + 1, 0, none⟩ = some (.func (.func 170) #[] #[])) (first | (go_keep; done) | (simp [*, go_sem]; done))
      (first | (go_at_call 88; refine (Of_any _ _ _).mono ?_; rintro e w' ⟨rfl, rfl⟩) | (go_at_call 170; refine (onlyNull_any _ _ _ _ _).mono ?_; rintro e w' ⟨rfl, rfl⟩))
    go_wp2_with (go_at_call 88; refine (Of_any _ _ _).mono ?_; rintro e w' ⟨rfl, rfl⟩)
    go_ret
    exact ⟨_, rfl, by simp [Nat.add_assoc], by simp [go_sem], by go_grown⟩
end Go.Proofs.YtocmjlnhcloccaaGreatDoor
namespace Go.Proofs.YtocmjlnhcloccaaGreatDoor
open Go.RowKit

set_option maxRecDepth 100000 in
set_option maxHeartbeats 1600000 in
theorem checkInt_bad (i u : Int) (s : ByteArray) (w : World) (hne : ∀ W, (binOp .neq 68 (.agg #[.int .i64 1, .int .i64 i, .int .u64 u, .string s]) (.agg #[.int .i64 1, .int .i64 i, .int .u64 0, .string ⟨#[]⟩])).run Tryz.prog W = .ok (.bool true) W) :
    Calls Tryz.prog 157 #[.agg #[.int .i64 1, .int .i64 i, .int .u64 u, .string s]] w (IsErr 2 w) := by
  obtain ⟨C, hC⟩ : ∃ C, C = Obj.cells #[.int .i64 1, .int .i64 i, .int .u64 u, .string s] 68 := ⟨_, rfl⟩
  obtain ⟨Z, hZ⟩ : ∃ C, C = Obj.cells #[.nilFunc, .nilFunc, .nilFunc] 243 := ⟨_, rfl⟩
  have hA : (Instr.lookup 245 (.map (some (w.heap.size + 1))) (.int .i64 1) true).run Tryz.prog ((w.alloc C).alloc (.map mapKinds 5)).drew = .ok (.tuple #[kv 173 174 175, .bool true]) _ :=
    kinds_found (mapA w C _) rfl
  have hB : (Instr.lookup 245 (.map (some (w.heap.size + 1))) (.int .i64 1) true).run Tryz.prog (((w.alloc C).alloc (.map mapKinds 5)).alloc Z).drew = .ok (.tuple #[kv 173 174 175, .bool true]) _ :=
    kinds_found (mapB w C _ Z) rfl
  have hD : (Instr.lookup 245 (.map (some (w.heap.size + 1 + 1))) (.int .i64 1) true).run Tryz.prog (((w.alloc C).alloc Z).alloc (.map mapKinds 5)).drew = .ok (.tuple #[kv 173 174 175, .bool true]) _ :=
    kinds_found (mapD w C _ Z) rfl
  subst hC hZ
  simp only [kv] at hA hB hD
  go_enter Tryz.func157, Tryz.ntmps157
  go_wp2_with (go_at_call 88; refine (Of_any _ _ _).mono ?_; rintro e w' ⟨rfl, rfl⟩)
  go_region_held3 (fun w' => w'.cell? ⟨w.heap.size, 0, none⟩ = some (.int .i64 1)) (go_keep)
    (first | (go_at_call 88; refine (Of_any _ _ _).mono ?_; rintro e w' ⟨rfl, rfl⟩) | (go_at_call 166; refine (kinds_any _).mono ?_; rintro e w' ⟨rfl, rfl⟩))
  all_goals go_wp2_with (go_at_call 88; refine (Of_any _ _ _).mono ?_; rintro e w' ⟨rfl, rfl⟩)
  · go_region_held3 (fun w' => w'.cell? ⟨w.heap.size, 0, none⟩ = some (.int .i64 1) ∧ w'.cell? ⟨w.heap.size, 1, none⟩ = some (.int .i64 i) ∧ w'.cell? ⟨w.heap.size, 2, none⟩ = some (.int .u64 u) ∧ w'.cell? ⟨w.heap.size, 3, none⟩ = some (.string s) ∧ w'.cell? ⟨w.heap.size + 1 + 1, 0, none⟩ = some (.func (.func 173) #[] #[])) (first | (go_keep; done) | (simp [*, go_sem]; done))
      (first | (go_at_call 88; refine (Of_any _ _ _).mono ?_; rintro e w' ⟨rfl, rfl⟩) | (go_at_call 173; refine (onlyInt_any _ _ _ _ _).mono ?_; rintro e w' ⟨rfl, rfl⟩))
    go_wp2_with (go_at_call 88; refine (Of_any _ _ _).mono ?_; rintro e w' ⟨rfl, rfl⟩)
    go_ret
    exact ⟨_, rfl, by simp [Nat.add_assoc], by simp [go_sem], by go_grown⟩
  · go_region_held3 (fun w' => w'.cell? ⟨w.heap.size, 0, none⟩ = some (.int .i64 1) ∧ w'.cell? ⟨w.heap.size, 1, none⟩ = some (.int .i64 i) ∧ w'.cell? ⟨w.heap.size, 2, none⟩ = some (.int .u64 u) ∧ w'.cell? ⟨w.heap.size, 3, none⟩ = some (.string s) ∧ w'.cell? ⟨w.heap.size + 1 + 1, 0, none⟩ = some (.func (.func 173) #[] #[])) (first | (go_keep; done) | (simp [*, go_sem]; done))
      (first | (go_at_call 88; refine (Of_any _ _ _).mono ?_; rintro e w' ⟨rfl, rfl⟩) | (go_at_call 173; refine (onlyInt_any _ _ _ _ _).mono ?_; rintro e w' ⟨rfl, rfl⟩))
    go_wp2_with (go_at_call 88; refine (Of_any _ _ _).mono ?_; rintro e w' ⟨rfl, rfl⟩)
    go_ret
    exact ⟨_, rfl, by simp [Nat.add_assoc], by simp [go_sem], by go_grown⟩
  · go_region_held3 (fun w' => w'.cell? ⟨w.heap.size, 0, none⟩ = some (.int .i64 1) ∧ w'.cell? ⟨w.heap.size, 1, none⟩ = some (.int .i64 i) ∧ w'.cell? ⟨w.heap.size, 2, none⟩ = some (.int .u64 u) ∧ w'.cell? ⟨w.heap.size, 3, none⟩ = some (.string s) ∧ w'.cell? ⟨w.heap.size + 1, 0, none⟩ = some (.func (.func 173) #[] #[])) (first | (go_keep; done) | (simp [*, go_sem]; done))
      (first | (go_at_call 88; refine (Of_any _ _ _).mono ?_; rintro e w' ⟨rfl, rfl⟩) | (go_at_call 173; refine (onlyInt_any _ _ _ _ _).mono ?_; rintro e w' ⟨rfl, rfl⟩))
    go_wp2_with (go_at_call 88; refine (Of_any _ _ _).mono ?_; rintro e w' ⟨rfl, rfl⟩)
    go_ret
    exact ⟨_, rfl, by simp [Nat.add_assoc], by simp [go_sem], by go_grown⟩

set_option maxRecDepth 100000 in
set_option maxHeartbeats 1600000 in
theorem checkInt_ok (i u : Int) (s : ByteArray) (w : World) (hne : ∀ W, (binOp .neq 68 (.agg #[.int .i64 1, .int .i64 i, .int .u64 u, .string s]) (.agg #[.int .i64 1, .int .i64 i, .int .u64 0, .string ⟨#[]⟩])).run Tryz.prog W = .ok (.bool false) W) (hs : (s.size : Int) ≤ 200) :
    Calls Tryz.prog 157 #[.agg #[.int .i64 1, .int .i64 i, .int .u64 u, .string s]] w (fun e w' => e = .returned .nilIface ∧ Below w.heap.size w w') := by
  obtain ⟨C, hC⟩ : ∃ C, C = Obj.cells #[.int .i64 1, .int .i64 i, .int .u64 u, .string s] 68 := ⟨_, rfl⟩
  obtain ⟨Z, hZ⟩ : ∃ C, C = Obj.cells #[.nilFunc, .nilFunc, .nilFunc] 243 := ⟨_, rfl⟩
  have hA : (Instr.lookup 245 (.map (some (w.heap.size + 1))) (.int .i64 1) true).run Tryz.prog ((w.alloc C).alloc (.map mapKinds 5)).drew = .ok (.tuple #[kv 173 174 175, .bool true]) _ :=
    kinds_found (mapA w C _) rfl
  have hB : (Instr.lookup 245 (.map (some (w.heap.size + 1))) (.int .i64 1) true).run Tryz.prog (((w.alloc C).alloc (.map mapKinds 5)).alloc Z).drew = .ok (.tuple #[kv 173 174 175, .bool true]) _ :=
    kinds_found (mapB w C _ Z) rfl
  have hD : (Instr.lookup 245 (.map (some (w.heap.size + 1 + 1))) (.int .i64 1) true).run Tryz.prog (((w.alloc C).alloc Z).alloc (.map mapKinds 5)).drew = .ok (.tuple #[kv 173 174 175, .bool true]) _ :=
    kinds_found (mapD w C _ Z) rfl
  subst hC hZ
  simp only [kv] at hA hB hD
  go_enter Tryz.func157, Tryz.ntmps157
  go_wp2_with (go_at_call 88; refine (Of_any _ _ _).mono ?_; rintro e w' ⟨rfl, rfl⟩)
  go_region_held3 (fun w' => w'.cell? ⟨w.heap.size, 0, none⟩ = some (.int .i64 1)) (go_keep)
    (first | (go_at_call 88; refine (Of_any _ _ _).mono ?_; rintro e w' ⟨rfl, rfl⟩) | (go_at_call 166; refine (kinds_any _).mono ?_; rintro e w' ⟨rfl, rfl⟩))
  all_goals go_wp2_with (go_at_call 88; refine (Of_any _ _ _).mono ?_; rintro e w' ⟨rfl, rfl⟩)
  · go_region_held3 (fun w' => w'.cell? ⟨w.heap.size, 0, none⟩ = some (.int .i64 1) ∧ w'.cell? ⟨w.heap.size, 1, none⟩ = some (.int .i64 i) ∧ w'.cell? ⟨w.heap.size, 2, none⟩ = some (.int .u64 u) ∧ w'.cell? ⟨w.heap.size, 3, none⟩ = some (.string s) ∧ w'.cell? ⟨w.heap.size + 1 + 1, 0, none⟩ = some (.func (.func 173) #[] #[])) (first | (go_keep; done) | (simp [*, go_sem]; done))
      (first | (go_at_call 88; refine (Of_any _ _ _).mono ?_; rintro e w' ⟨rfl, rfl⟩) | (go_at_call 173; refine (onlyInt_any _ _ _ _ _).mono ?_; rintro e w' ⟨rfl, rfl⟩))
    go_wp2_with (go_at_call 88; refine (Of_any _ _ _).mono ?_; rintro e w' ⟨rfl, rfl⟩)
    go_ret
    exact ⟨rfl, by go_grown⟩
  · go_region_held3 (fun w' => w'.cell? ⟨w.heap.size, 0, none⟩ = some (.int .i64 1) ∧ w'.cell? ⟨w.heap.size, 1, none⟩ = some (.int .i64 i) ∧ w'.cell? ⟨w.heap.size, 2, none⟩ = some (.int .u64 u) ∧ w'.cell? ⟨w.heap.size, 3, none⟩ = some (.string s) ∧ w'.cell? ⟨w.heap.size + 1 + 1, 0, none⟩ = some (.func (.func 173) #[] #[])) (first | (go_keep; done) | (simp [*, go_sem]; done))
      (first | (go_at_call 88; refine (Of_any _ _ _).mono ?_; rintro e w' ⟨rfl, rfl⟩) | (go_at_call 173; refine (onlyInt_any _ _ _ _ _).mono ?_; rintro e w' ⟨rfl, rfl⟩))
    go_wp2_with (go_at_call 88; refine (Of_any _ _ _).mono ?_; rintro e w' ⟨rfl, rfl⟩)
    go_ret
    exact ⟨rfl, by go_grown⟩
  · go_region_held3 (fun w' => w'.cell? ⟨w.heap.size, 0, none⟩ = some (.int .i64 1) ∧ w'.cell? ⟨w.heap.size, 1, none⟩ = some (.int .i64 i) ∧ w'.cell? ⟨w.heap.size, 2, none⟩ = some (.int .u64 u) ∧ w'.cell? ⟨w.heap.size, 3, none⟩ = some (.string s) ∧ w'.cell? ⟨w.heap.size + 1, 0, none⟩ = some (.func (.func 173) #[] #[])) (first | (go_keep; done) | (simp [*, go_sem]; done))
      (first | (go_at_call 88; refine (Of_any _ _ _).mono ?_; rintro e w' ⟨rfl, rfl⟩) | (go_at_call 173; refine (onlyInt_any _ _ _ _ _).mono ?_; rintro e w' ⟨rfl, rfl⟩))
    go_wp2_with (go_at_call 88; refine (Of_any _ _ _).mono ?_; rintro e w' ⟨rfl, rfl⟩)
    go_ret
    exact ⟨rfl, by go_grown⟩

set_option maxRecDepth 100000 in
set_option maxHeartbeats 1600000 in
theorem checkInt_long (i u : Int) (s : ByteArray) (w : World) (hne : ∀ W, (binOp .neq 68 (.agg #[.int .i64 1, .int .i64 i, .int .u64 u, .string s]) (.agg #[.int .i64 1, .int .i64 i, .int .u64 0, .string ⟨#[]⟩])).run Tryz.prog W = .ok (.bool false) W) (hs : 200 < (s.size : Int)) :
    Calls Tryz.prog 157 #[.agg #[.int .i64 1, .int .i64 i, .int .u64 u, .string s]] w (IsErr 3 w) := by
  obtain ⟨C, hC⟩ : ∃ C, C = Obj.cells #[.int .i64 1, .int .i64 i, .int .u64 u, .string s] 68 := ⟨_, rfl⟩
  obtain ⟨Z, hZ⟩ : ∃ C, C = Obj.cells #[.nilFunc, .nilFunc, .nilFunc] 243 := ⟨_, rfl⟩
  have hA : (Instr.lookup 245 (.map (some (w.heap.size + 1))) (.int .i64 1) true).run Tryz.prog ((w.alloc C).alloc (.map mapKinds 5)).drew = .ok (.tuple #[kv 173 174 175, .bool true]) _ :=
    kinds_found (mapA w C _) rfl
  have hB : (Instr.lookup 245 (.map (some (w.heap.size + 1))) (.int .i64 1) true).run Tryz.prog (((w.alloc C).alloc (.map mapKinds 5)).alloc Z).drew = .ok (.tuple #[kv 173 174 175, .bool true]) _ :=
    kinds_found (mapB w C _ Z) rfl
  have hD : (Instr.lookup 245 (.map (some (w.heap.size + 1 + 1))) (.int .i64 1) true).run Tryz.prog (((w.alloc C).alloc Z).alloc (.map mapKinds 5)).drew = .ok (.tuple #[kv 173 174 175, .bool true]) _ :=
    kinds_found (mapD w C _ Z) rfl
  subst hC hZ
  simp only [kv] at hA hB hD
  go_enter Tryz.func157, Tryz.ntmps157
  go_wp2_with (go_at_call 88; refine (Of_any _ _ _).mono ?_; rintro e w' ⟨rfl, rfl⟩)
  go_region_held3 (fun w' => w'.cell? ⟨w.heap.size, 0, none⟩ = some (.int .i64 1)) (go_keep)
    (first | (go_at_call 88; refine (Of_any _ _ _).mono ?_; rintro e w' ⟨rfl, rfl⟩) | (go_at_call 166; refine (kinds_any _).mono ?_; rintro e w' ⟨rfl, rfl⟩))
  all_goals go_wp2_with (go_at_call 88; refine (Of_any _ _ _).mono ?_; rintro e w' ⟨rfl, rfl⟩)
  · go_region_held3 (fun w' => w'.cell? ⟨w.heap.size, 0, none⟩ = some (.int .i64 1) ∧ w'.cell? ⟨w.heap.size, 1, none⟩ = some (.int .i64 i) ∧ w'.cell? ⟨w.heap.size, 2, none⟩ = some (.int .u64 u) ∧ w'.cell? ⟨w.heap.size, 3, none⟩ = some (.string s) ∧ w'.cell? ⟨w.heap.size + 1 + 1, 0, none⟩ = some (.func (.func 173) #[] #[])) (first | (go_keep; done) | (simp [*, go_sem]; done))
      (first | (go_at_call 88; refine (Of_any _ _ _).mono ?_; rintro e w' ⟨rfl, rfl⟩) | (go_at_call 173; refine (onlyInt_any _ _ _ _ _).mono ?_; rintro e w' ⟨rfl, rfl⟩))
    go_wp2_with (go_at_call 88; refine (Of_any _ _ _).mono ?_; rintro e w' ⟨rfl, rfl⟩)
    go_ret
    exact ⟨_, rfl, by simp [Nat.add_assoc], by simp [go_sem], by go_grown⟩
  · go_region_held3 (fun w' => w'.cell? ⟨w.heap.size, 0, none⟩ = some (.int .i64 1) ∧ w'.cell? ⟨w.heap.size, 1, none⟩ = some (.int .i64 i) ∧ w'.cell? ⟨w.heap.size, 2, none⟩ = some (.int .u64 u) ∧ w'.cell? ⟨w.heap.size, 3, none⟩ = some (.string s) ∧ w'.cell? ⟨w.heap.size + 1 + 1, 0, none⟩ = some (.func (.func 173) #[] #[])) (first | (go_keep; done) | (simp [*, go_sem]; done))
      (first | (go_at_call 88; refine (Of_any _ _ _).mono ?_; rintro e w' ⟨rfl, rfl⟩) | (go_at_call 173; refine (onlyInt_any _ _ _ _ _).mono ?_; rintro e w' ⟨rfl, rfl⟩))
    go_wp2_with (go_at_call 88; refine (Of_any _ _ _).mono ?_; rintro e w' ⟨rfl, rfl⟩)
    go_ret
    exact ⟨_, rfl, by simp [Nat.add_assoc], by simp [go_sem], by go_grown⟩
  · go_region_held3 (fun w' => w'.cell? ⟨w.heap.size, 0, none⟩ = some (.int .i64 1) ∧ w'.cell? ⟨w.heap.size, 1, none⟩ = some (.int .i64 i) ∧ w'.cell? ⟨w.heap.size, 2, none⟩ = some (.int .u64 u) ∧ w'.cell? ⟨w.heap.size, 3, none⟩ = some (.string s) ∧ w'.cell? ⟨w.heap.size + 1, 0, none⟩ = some (.func (.func 173) #[] #[])) (first | (go_keep; done) | (simp [*, go_sem]; done))
      (first | (go_at_call 88; refine (Of_any _ _ _).mono ?_; rintro e w' ⟨rfl, rfl⟩) | (go_at_call 173; refine (onlyInt_any _ _ _ _ _).mono ?_; rintro e w' ⟨rfl, rfl⟩))
    go_wp2_with (go_at_call 88; refine (Of_any _ _ _).mono ?_; rintro e w' ⟨rfl, rfl⟩)
    go_ret
    exact ⟨_, rfl, by simp [Nat.add_assoc], by simp [go_sem], by go_grown⟩
end Go.Proofs.YtocmjlnhcloccaaGreatDoor
namespace Go.Proofs.YtocmjlnhcloccaaGreatDoor
open Go.RowKit

set_option maxRecDepth 100000 in
set_option maxHeartbeats 1600000 in
theorem checkUint_bad (i u : Int) (s : ByteArray) (w : World) (hne : ∀ W, (binOp .neq 68 (.agg #[.int .i64 2, .int .i64 i, .int .u64 u, .string s]) (.agg #[.int .i64 2, .int .i64 0, .int .u64 u, .string ⟨#[]⟩])).run Tryz.prog W = .ok (.bool true) W) :
    Calls Tryz.prog 157 #[.agg #[.int .i64 2, .int .i64 i, .int .u64 u, .string s]] w (IsErr 2 w) := by
  obtain ⟨C, hC⟩ : ∃ C, C = Obj.cells #[.int .i64 2, .int .i64 i, .int .u64 u, .string s] 68 := ⟨_, rfl⟩
  obtain ⟨Z, hZ⟩ : ∃ C, C = Obj.cells #[.nilFunc, .nilFunc, .nilFunc] 243 := ⟨_, rfl⟩
  have hA : (Instr.lookup 245 (.map (some (w.heap.size + 1))) (.int .i64 2) true).run Tryz.prog ((w.alloc C).alloc (.map mapKinds 5)).drew = .ok (.tuple #[kv 176 177 178, .bool true]) _ :=
    kinds_found (mapA w C _) rfl
  have hB : (Instr.lookup 245 (.map (some (w.heap.size + 1))) (.int .i64 2) true).run Tryz.prog (((w.alloc C).alloc (.map mapKinds 5)).alloc Z).drew = .ok (.tuple #[kv 176 177 178, .bool true]) _ :=
    kinds_found (mapB w C _ Z) rfl
  have hD : (Instr.lookup 245 (.map (some (w.heap.size + 1 + 1))) (.int .i64 2) true).run Tryz.prog (((w.alloc C).alloc Z).alloc (.map mapKinds 5)).drew = .ok (.tuple #[kv 176 177 178, .bool true]) _ :=
    kinds_found (mapD w C _ Z) rfl
  subst hC hZ
  simp only [kv] at hA hB hD
  go_enter Tryz.func157, Tryz.ntmps157
  go_wp2_with (go_at_call 88; refine (Of_any _ _ _).mono ?_; rintro e w' ⟨rfl, rfl⟩)
  go_region_held3 (fun w' => w'.cell? ⟨w.heap.size, 0, none⟩ = some (.int .i64 2)) (go_keep)
    (first | (go_at_call 88; refine (Of_any _ _ _).mono ?_; rintro e w' ⟨rfl, rfl⟩) | (go_at_call 166; refine (kinds_any _).mono ?_; rintro e w' ⟨rfl, rfl⟩))
  all_goals go_wp2_with (go_at_call 88; refine (Of_any _ _ _).mono ?_; rintro e w' ⟨rfl, rfl⟩)
  · go_region_held3 (fun w' => w'.cell? ⟨w.heap.size, 0, none⟩ = some (.int .i64 2) ∧ w'.cell? ⟨w.heap.size, 1, none⟩ = some (.int .i64 i) ∧ w'.cell? ⟨w.heap.size, 2, none⟩ = some (.int .u64 u) ∧ w'.cell? ⟨w.heap.size, 3, none⟩ = some (.string s) ∧ w'.cell? ⟨w.heap.size + 1 + 1, 0, none⟩ = some (.func (.func 176) #[] #[])) (first | (go_keep; done) | (simp [*, go_sem]; done))
      (first | (go_at_call 88; refine (Of_any _ _ _).mono ?_; rintro e w' ⟨rfl, rfl⟩) | (go_at_call 176; refine (onlyUint_any _ _ _ _ _).mono ?_; rintro e w' ⟨rfl, rfl⟩))
    go_wp2_with (go_at_call 88; refine (Of_any _ _ _).mono ?_; rintro e w' ⟨rfl, rfl⟩)
    go_ret
    exact ⟨_, rfl, by simp [Nat.add_assoc], by simp [go_sem], by go_grown⟩
  · go_region_held3 (fun w' => w'.cell? ⟨w.heap.size, 0, none⟩ = some (.int .i64 2) ∧ w'.cell? ⟨w.heap.size, 1, none⟩ = some (.int .i64 i) ∧ w'.cell? ⟨w.heap.size, 2, none⟩ = some (.int .u64 u) ∧ w'.cell? ⟨w.heap.size, 3, none⟩ = some (.string s) ∧ w'.cell? ⟨w.heap.size + 1 + 1, 0, none⟩ = some (.func (.func 176) #[] #[])) (first | (go_keep; done) | (simp [*, go_sem]; done))
      (first | (go_at_call 88; refine (Of_any _ _ _).mono ?_; rintro e w' ⟨rfl, rfl⟩) | (go_at_call 176; refine (onlyUint_any _ _ _ _ _).mono ?_; rintro e w' ⟨rfl, rfl⟩))
    go_wp2_with (go_at_call 88; refine (Of_any _ _ _).mono ?_; rintro e w' ⟨rfl, rfl⟩)
    go_ret
    exact ⟨_, rfl, by simp [Nat.add_assoc], by simp [go_sem], by go_grown⟩
  · go_region_held3 (fun w' => w'.cell? ⟨w.heap.size, 0, none⟩ = some (.int .i64 2) ∧ w'.cell? ⟨w.heap.size, 1, none⟩ = some (.int .i64 i) ∧ w'.cell? ⟨w.heap.size, 2, none⟩ = some (.int .u64 u) ∧ w'.cell? ⟨w.heap.size, 3, none⟩ = some (.string s) ∧ w'.cell? ⟨w.heap.size + 1, 0, none⟩ = some (.func (.func 176) #[] #[])) (first | (go_keep; done) | (simp [*, go_sem]; done))
      (first | (go_at_call 88; refine (Of_any _ _ _).mono ?_; rintro e w' ⟨rfl, rfl⟩) | (go_at_call 176; refine (onlyUint_any _ _ _ _ _).mono ?_; rintro e w' ⟨rfl, rfl⟩))
    go_wp2_with (go_at_call 88; refine (Of_any _ _ _).mono ?_; rintro e w' ⟨rfl, rfl⟩)
    go_ret
    exact ⟨_, rfl, by simp [Nat.add_assoc], by simp [go_sem], by go_grown⟩

set_option maxRecDepth 100000 in
set_option maxHeartbeats 1600000 in
theorem checkUint_ok (i u : Int) (s : ByteArray) (w : World) (hne : ∀ W, (binOp .neq 68 (.agg #[.int .i64 2, .int .i64 i, .int .u64 u, .string s]) (.agg #[.int .i64 2, .int .i64 0, .int .u64 u, .string ⟨#[]⟩])).run Tryz.prog W = .ok (.bool false) W) (hs : (s.size : Int) ≤ 200) :
    Calls Tryz.prog 157 #[.agg #[.int .i64 2, .int .i64 i, .int .u64 u, .string s]] w (fun e w' => e = .returned .nilIface ∧ Below w.heap.size w w') := by
  obtain ⟨C, hC⟩ : ∃ C, C = Obj.cells #[.int .i64 2, .int .i64 i, .int .u64 u, .string s] 68 := ⟨_, rfl⟩
  obtain ⟨Z, hZ⟩ : ∃ C, C = Obj.cells #[.nilFunc, .nilFunc, .nilFunc] 243 := ⟨_, rfl⟩
  have hA : (Instr.lookup 245 (.map (some (w.heap.size + 1))) (.int .i64 2) true).run Tryz.prog ((w.alloc C).alloc (.map mapKinds 5)).drew = .ok (.tuple #[kv 176 177 178, .bool true]) _ :=
    kinds_found (mapA w C _) rfl
  have hB : (Instr.lookup 245 (.map (some (w.heap.size + 1))) (.int .i64 2) true).run Tryz.prog (((w.alloc C).alloc (.map mapKinds 5)).alloc Z).drew = .ok (.tuple #[kv 176 177 178, .bool true]) _ :=
    kinds_found (mapB w C _ Z) rfl
  have hD : (Instr.lookup 245 (.map (some (w.heap.size + 1 + 1))) (.int .i64 2) true).run Tryz.prog (((w.alloc C).alloc Z).alloc (.map mapKinds 5)).drew = .ok (.tuple #[kv 176 177 178, .bool true]) _ :=
    kinds_found (mapD w C _ Z) rfl
  subst hC hZ
  simp only [kv] at hA hB hD
  go_enter Tryz.func157, Tryz.ntmps157
  go_wp2_with (go_at_call 88; refine (Of_any _ _ _).mono ?_; rintro e w' ⟨rfl, rfl⟩)
  go_region_held3 (fun w' => w'.cell? ⟨w.heap.size, 0, none⟩ = some (.int .i64 2)) (go_keep)
    (first | (go_at_call 88; refine (Of_any _ _ _).mono ?_; rintro e w' ⟨rfl, rfl⟩) | (go_at_call 166; refine (kinds_any _).mono ?_; rintro e w' ⟨rfl, rfl⟩))
  all_goals go_wp2_with (go_at_call 88; refine (Of_any _ _ _).mono ?_; rintro e w' ⟨rfl, rfl⟩)
  · go_region_held3 (fun w' => w'.cell? ⟨w.heap.size, 0, none⟩ = some (.int .i64 2) ∧ w'.cell? ⟨w.heap.size, 1, none⟩ = some (.int .i64 i) ∧ w'.cell? ⟨w.heap.size, 2, none⟩ = some (.int .u64 u) ∧ w'.cell? ⟨w.heap.size, 3, none⟩ = some (.string s) ∧ w'.cell? ⟨w.heap.size + 1 + 1, 0, none⟩ = some (.func (.func 176) #[] #[])) (first | (go_keep; done) | (simp [*, go_sem]; done))
      (first | (go_at_call 88; refine (Of_any _ _ _).mono ?_; rintro e w' ⟨rfl, rfl⟩) | (go_at_call 176; refine (onlyUint_any _ _ _ _ _).mono ?_; rintro e w' ⟨rfl, rfl⟩))
    go_wp2_with (go_at_call 88; refine (Of_any _ _ _).mono ?_; rintro e w' ⟨rfl, rfl⟩)
    go_ret
    exact ⟨rfl, by go_grown⟩
  · go_region_held3 (fun w' => w'.cell? ⟨w.heap.size, 0, none⟩ = some (.int .i64 2) ∧ w'.cell? ⟨w.heap.size, 1, none⟩ = some (.int .i64 i) ∧ w'.cell? ⟨w.heap.size, 2, none⟩ = some (.int .u64 u) ∧ w'.cell? ⟨w.heap.size, 3, none⟩ = some (.string s) ∧ w'.cell? ⟨w.heap.size + 1 + 1, 0, none⟩ = some (.func (.func 176) #[] #[])) (first | (go_keep; done) | (simp [*, go_sem]; done))
      (first | (go_at_call 88; refine (Of_any _ _ _).mono ?_; rintro e w' ⟨rfl, rfl⟩) | (go_at_call 176; refine (onlyUint_any _ _ _ _ _).mono ?_; rintro e w' ⟨rfl, rfl⟩))
    go_wp2_with (go_at_call 88; refine (Of_any _ _ _).mono ?_; rintro e w' ⟨rfl, rfl⟩)
    go_ret
    exact ⟨rfl, by go_grown⟩
  · go_region_held3 (fun w' => w'.cell? ⟨w.heap.size, 0, none⟩ = some (.int .i64 2) ∧ w'.cell? ⟨w.heap.size, 1, none⟩ = some (.int .i64 i) ∧ w'.cell? ⟨w.heap.size, 2, none⟩ = some (.int .u64 u) ∧ w'.cell? ⟨w.heap.size, 3, none⟩ = some (.string s) ∧ w'.cell? ⟨w.heap.size + 1, 0, none⟩ = some (.func (.func 176) #[] #[])) (first | (go_keep; done) | (simp [*, go_sem]; done))
      (first | (go_at_call 88; refine (Of_any _ _ _).mono ?_; rintro e w' ⟨rfl, rfl⟩) | (go_at_call 176; refine (onlyUint_any _ _ _ _ _).mono ?_; rintro e w' ⟨rfl, rfl⟩))
    go_wp2_with (go_at_call 88; refine (Of_any _ _ _).mono ?_; rintro e w' ⟨rfl, rfl⟩)
    go_ret
    exact ⟨rfl, by go_grown⟩

set_option maxRecDepth 100000 in
set_option maxHeartbeats 1600000 in
theorem checkUint_long (i u : Int) (s : ByteArray) (w : World) (hne : ∀ W, (binOp .neq 68 (.agg #[.int .i64 2, .int .i64 i, .int .u64 u, .string s]) (.agg #[.int .i64 2, .int .i64 0, .int .u64 u, .string ⟨#[]⟩])).run Tryz.prog W = .ok (.bool false) W) (hs : 200 < (s.size : Int)) :
    Calls Tryz.prog 157 #[.agg #[.int .i64 2, .int .i64 i, .int .u64 u, .string s]] w (IsErr 3 w) := by
  obtain ⟨C, hC⟩ : ∃ C, C = Obj.cells #[.int .i64 2, .int .i64 i, .int .u64 u, .string s] 68 := ⟨_, rfl⟩
  obtain ⟨Z, hZ⟩ : ∃ C, C = Obj.cells #[.nilFunc, .nilFunc, .nilFunc] 243 := ⟨_, rfl⟩
  have hA : (Instr.lookup 245 (.map (some (w.heap.size + 1))) (.int .i64 2) true).run Tryz.prog ((w.alloc C).alloc (.map mapKinds 5)).drew = .ok (.tuple #[kv 176 177 178, .bool true]) _ :=
    kinds_found (mapA w C _) rfl
  have hB : (Instr.lookup 245 (.map (some (w.heap.size + 1))) (.int .i64 2) true).run Tryz.prog (((w.alloc C).alloc (.map mapKinds 5)).alloc Z).drew = .ok (.tuple #[kv 176 177 178, .bool true]) _ :=
    kinds_found (mapB w C _ Z) rfl
  have hD : (Instr.lookup 245 (.map (some (w.heap.size + 1 + 1))) (.int .i64 2) true).run Tryz.prog (((w.alloc C).alloc Z).alloc (.map mapKinds 5)).drew = .ok (.tuple #[kv 176 177 178, .bool true]) _ :=
    kinds_found (mapD w C _ Z) rfl
  subst hC hZ
  simp only [kv] at hA hB hD
  go_enter Tryz.func157, Tryz.ntmps157
  go_wp2_with (go_at_call 88; refine (Of_any _ _ _).mono ?_; rintro e w' ⟨rfl, rfl⟩)
  go_region_held3 (fun w' => w'.cell? ⟨w.heap.size, 0, none⟩ = some (.int .i64 2)) (go_keep)
    (first | (go_at_call 88; refine (Of_any _ _ _).mono ?_; rintro e w' ⟨rfl, rfl⟩) | (go_at_call 166; refine (kinds_any _).mono ?_; rintro e w' ⟨rfl, rfl⟩))
  all_goals go_wp2_with (go_at_call 88; refine (Of_any _ _ _).mono ?_; rintro e w' ⟨rfl, rfl⟩)
  · go_region_held3 (fun w' => w'.cell? ⟨w.heap.size, 0, none⟩ = some (.int .i64 2) ∧ w'.cell? ⟨w.heap.size, 1, none⟩ = some (.int .i64 i) ∧ w'.cell? ⟨w.heap.size, 2, none⟩ = some (.int .u64 u) ∧ w'.cell? ⟨w.heap.size, 3, none⟩ = some (.string s) ∧ w'.cell? ⟨w.heap.size + 1 + 1, 0, none⟩ = some (.func (.func 176) #[] #[])) (first | (go_keep; done) | (simp [*, go_sem]; done))
      (first | (go_at_call 88; refine (Of_any _ _ _).mono ?_; rintro e w' ⟨rfl, rfl⟩) | (go_at_call 176; refine (onlyUint_any _ _ _ _ _).mono ?_; rintro e w' ⟨rfl, rfl⟩))
    go_wp2_with (go_at_call 88; refine (Of_any _ _ _).mono ?_; rintro e w' ⟨rfl, rfl⟩)
    go_ret
    exact ⟨_, rfl, by simp [Nat.add_assoc], by simp [go_sem], by go_grown⟩
  · go_region_held3 (fun w' => w'.cell? ⟨w.heap.size, 0, none⟩ = some (.int .i64 2) ∧ w'.cell? ⟨w.heap.size, 1, none⟩ = some (.int .i64 i) ∧ w'.cell? ⟨w.heap.size, 2, none⟩ = some (.int .u64 u) ∧ w'.cell? ⟨w.heap.size, 3, none⟩ = some (.string s) ∧ w'.cell? ⟨w.heap.size + 1 + 1, 0, none⟩ = some (.func (.func 176) #[] #[])) (first | (go_keep; done) | (simp [*, go_sem]; done))
      (first | (go_at_call 88; refine (Of_any _ _ _).mono ?_; rintro e w' ⟨rfl, rfl⟩) | (go_at_call 176; refine (onlyUint_any _ _ _ _ _).mono ?_; rintro e w' ⟨rfl, rfl⟩))
    go_wp2_with (go_at_call 88; refine (Of_any _ _ _).mono ?_; rintro e w' ⟨rfl, rfl⟩)
    go_ret
    exact ⟨_, rfl, by simp [Nat.add_assoc], by simp [go_sem], by go_grown⟩
  · go_region_held3 (fun w' => w'.cell? ⟨w.heap.size, 0, none⟩ = some (.int .i64 2) ∧ w'.cell? ⟨w.heap.size, 1, none⟩ = some (.int .i64 i) ∧ w'.cell? ⟨w.heap.size, 2, none⟩ = some (.int .u64 u) ∧ w'.cell? ⟨w.heap.size, 3, none⟩ = some (.string s) ∧ w'.cell? ⟨w.heap.size + 1, 0, none⟩ = some (.func (.func 176) #[] #[])) (first | (go_keep; done) | (simp [*, go_sem]; done))
      (first | (go_at_call 88; refine (Of_any _ _ _).mono ?_; rintro e w' ⟨rfl, rfl⟩) | (go_at_call 176; refine (onlyUint_any _ _ _ _ _).mono ?_; rintro e w' ⟨rfl, rfl⟩))
    go_wp2_with (go_at_call 88; refine (Of_any _ _ _).mono ?_; rintro e w' ⟨rfl, rfl⟩)
    go_ret
    exact ⟨_, rfl, by simp [Nat.add_assoc], by simp [go_sem], by go_grown⟩
end Go.Proofs.YtocmjlnhcloccaaGreatDoor

/-
  Columns: schema.kinds.column and swingbridgeref03.column answer alike: 'colOk'.
-/
import Derived.Test.YtocmjlnhcloccaaGreatDoorSName
import Derived.Test.YtocmjlnhcloccaaGreatDoorErr
namespace Go.Proofs.YtocmjlnhcloccaaGreatDoor
open Go.RowKit

/-- a column -/
structure Col where
  n : ByteArray
  t : Int
  z : Int
  u : Bool
def Col.val (c : Col) : Value := .agg #[.string c.n, .int .i64 c.t, .int .i64 c.z, .bool c.u]
def szOk (t z : Int) : Bool := if t = 1 ∨ t = 2 then numSz z else if t = 3 then z == 0 else if t = 4 then byteSz z else false
/-- may a column be? -/
def colOk (c : Col) : Bool := szOk c.t c.z && nameOk c.n
theorem type_cases (k : Int) : (k < 1 ∨ 4 < k) ∨ k = 1 ∨ k = 2 ∨ k = 3 ∨ k = 4 := by omega
theorem szOk_none {t z : Int} (h : t < 1 ∨ 4 < t) : szOk t z = false := by
  unfold szOk
  rw [if_neg (by omega), if_neg (by omega), if_neg (by omega)]
theorem heap_old {w : World} {r : Nat} {o : Obj} (h : w.heap[r]? = some o) (o' : Obj) : (w.alloc o').heap[r]? = some o := by
  rw [Below.heap_alloc _ _ _ (Array.getElem?_eq_some_iff.1 h).1]
  exact h
set_option maxRecDepth 100000 in
set_option maxHeartbeats 1000000 in
theorem column1_ok (n : ByteArray) (z : Int) (u : Bool) (r : Nat) (w : World) (hm : w.heap[r]? = some (.map mapTypes 4)) (hn : n.size ≤ 9223372036854775807) (h1 : numSz z = true) (h2 : nameOk n = true) :
    Calls Tryz.prog 105 #[.map (some r), .agg #[.string n, .int .i64 1, .int .i64 z, .bool u]] w fun e w' => e = .returned .nilIface ∧ Below w.heap.size w w' := by
  obtain ⟨C, hC⟩ : ∃ C, C = Obj.cells #[.string n, .int .i64 1, .int .i64 z, .bool u] 64 := ⟨_, rfl⟩
  have hL : (Instr.lookup 114 (.map (some r)) (.int .i64 1) true).run Tryz.prog (w.alloc C) = .ok (.tuple #[tv 1 125 126, .bool true]) _ := types_found (heap_old hm C) rfl
  subst hC
  simp only [tv] at hL
  clear hm
  go_enter Tryz.func105, Tryz.ntmps105
  go_wp2_with (first | (go_at_call 88; refine (Of_any _ _ _).mono ?_; rintro e w' ⟨rfl, rfl⟩) | (go_at_call 125; refine (numberSize_any _ _).mono ?_; rintro e w' ⟨rfl, rfl⟩) | (go_at_call 136; refine (isName_any _ _ hn).mono ?_; rintro e w' ⟨rfl, rfl⟩))
  go_ret
  exact ⟨rfl, by go_grown⟩
set_option maxRecDepth 100000 in
set_option maxHeartbeats 1000000 in
theorem column1_size (n : ByteArray) (z : Int) (u : Bool) (r : Nat) (w : World) (hm : w.heap[r]? = some (.map mapTypes 4)) (_hn : n.size ≤ 9223372036854775807) (h1 : numSz z = false) :
    Calls Tryz.prog 105 #[.map (some r), .agg #[.string n, .int .i64 1, .int .i64 z, .bool u]] w (IsMis 2 w) := by
  obtain ⟨C, hC⟩ : ∃ C, C = Obj.cells #[.string n, .int .i64 1, .int .i64 z, .bool u] 64 := ⟨_, rfl⟩
  have hL : (Instr.lookup 114 (.map (some r)) (.int .i64 1) true).run Tryz.prog (w.alloc C) = .ok (.tuple #[tv 1 125 126, .bool true]) _ := types_found (heap_old hm C) rfl
  subst hC
  simp only [tv] at hL
  clear hm
  go_enter Tryz.func105, Tryz.ntmps105
  go_wp2_with (first | (go_at_call 88; refine (Of_any _ _ _).mono ?_; rintro e w' ⟨rfl, rfl⟩) | (go_at_call 125; refine (numberSize_any _ _).mono ?_; rintro e w' ⟨rfl, rfl⟩) | (go_at_call 136; refine (isName_any _ _ hn).mono ?_; rintro e w' ⟨rfl, rfl⟩))
  go_ret
  exact ⟨_, rfl, by simp [Nat.add_assoc], by simp [go_sem], by go_grown⟩
set_option maxRecDepth 100000 in
set_option maxHeartbeats 1000000 in
theorem column1_name (n : ByteArray) (z : Int) (u : Bool) (r : Nat) (w : World) (hm : w.heap[r]? = some (.map mapTypes 4)) (hn : n.size ≤ 9223372036854775807) (h1 : numSz z = true) (h2 : nameOk n = false) :
    Calls Tryz.prog 105 #[.map (some r), .agg #[.string n, .int .i64 1, .int .i64 z, .bool u]] w (IsMis 2 w) := by
  obtain ⟨C, hC⟩ : ∃ C, C = Obj.cells #[.string n, .int .i64 1, .int .i64 z, .bool u] 64 := ⟨_, rfl⟩
  have hL : (Instr.lookup 114 (.map (some r)) (.int .i64 1) true).run Tryz.prog (w.alloc C) = .ok (.tuple #[tv 1 125 126, .bool true]) _ := types_found (heap_old hm C) rfl
  subst hC
  simp only [tv] at hL
  clear hm
  go_enter Tryz.func105, Tryz.ntmps105
  go_wp2_with (first | (go_at_call 88; refine (Of_any _ _ _).mono ?_; rintro e w' ⟨rfl, rfl⟩) | (go_at_call 125; refine (numberSize_any _ _).mono ?_; rintro e w' ⟨rfl, rfl⟩) | (go_at_call 136; refine (isName_any _ _ hn).mono ?_; rintro e w' ⟨rfl, rfl⟩))
  go_ret
  exact ⟨_, rfl, by simp [Nat.add_assoc], by simp [go_sem], by go_grown⟩
set_option maxRecDepth 100000 in
set_option maxHeartbeats 1000000 in
theorem column2_ok (n : ByteArray) (z : Int) (u : Bool) (r : Nat) (w : World) (hm : w.heap[r]? = some (.map mapTypes 4)) (hn : n.size ≤ 9223372036854775807) (h1 : numSz z = true) (h2 : nameOk n = true) :
    Calls Tryz.prog 105 #[.map (some r), .agg #[.string n, .int .i64 2, .int .i64 z, .bool u]] w fun e w' => e = .returned .nilIface ∧ Below w.heap.size w w' := by
  obtain ⟨C, hC⟩ : ∃ C, C = Obj.cells #[.string n, .int .i64 2, .int .i64 z, .bool u] 64 := ⟨_, rfl⟩
  have hL : (Instr.lookup 114 (.map (some r)) (.int .i64 2) true).run Tryz.prog (w.alloc C) = .ok (.tuple #[tv 2 125 127, .bool true]) _ := types_found (heap_old hm C) rfl
  subst hC
  simp only [tv] at hL
  clear hm
  go_enter Tryz.func105, Tryz.ntmps105
  go_wp2_with (first | (go_at_call 88; refine (Of_any _ _ _).mono ?_; rintro e w' ⟨rfl, rfl⟩) | (go_at_call 125; refine (numberSize_any _ _).mono ?_; rintro e w' ⟨rfl, rfl⟩) | (go_at_call 136; refine (isName_any _ _ hn).mono ?_; rintro e w' ⟨rfl, rfl⟩))
  go_ret
  exact ⟨rfl, by go_grown⟩
set_option maxRecDepth 100000 in
set_option maxHeartbeats 1000000 in
theorem column2_size (n : ByteArray) (z : Int) (u : Bool) (r : Nat) (w : World) (hm : w.heap[r]? = some (.map mapTypes 4)) (_hn : n.size ≤ 9223372036854775807) (h1 : numSz z = false) :
    Calls Tryz.prog 105 #[.map (some r), .agg #[.string n, .int .i64 2, .int .i64 z, .bool u]] w (IsMis 2 w) := by
  obtain ⟨C, hC⟩ : ∃ C, C = Obj.cells #[.string n, .int .i64 2, .int .i64 z, .bool u] 64 := ⟨_, rfl⟩
  have hL : (Instr.lookup 114 (.map (some r)) (.int .i64 2) true).run Tryz.prog (w.alloc C) = .ok (.tuple #[tv 2 125 127, .bool true]) _ := types_found (heap_old hm C) rfl
  subst hC
  simp only [tv] at hL
  clear hm
  go_enter Tryz.func105, Tryz.ntmps105
  go_wp2_with (first | (go_at_call 88; refine (Of_any _ _ _).mono ?_; rintro e w' ⟨rfl, rfl⟩) | (go_at_call 125; refine (numberSize_any _ _).mono ?_; rintro e w' ⟨rfl, rfl⟩) | (go_at_call 136; refine (isName_any _ _ hn).mono ?_; rintro e w' ⟨rfl, rfl⟩))
  go_ret
  exact ⟨_, rfl, by simp [Nat.add_assoc], by simp [go_sem], by go_grown⟩
set_option maxRecDepth 100000 in
set_option maxHeartbeats 1000000 in
theorem column2_name (n : ByteArray) (z : Int) (u : Bool) (r : Nat) (w : World) (hm : w.heap[r]? = some (.map mapTypes 4)) (hn : n.size ≤ 9223372036854775807) (h1 : numSz z = true) (h2 : nameOk n = false) :
    Calls Tryz.prog 105 #[.map (some r), .agg #[.string n, .int .i64 2, .int .i64 z, .bool u]] w (IsMis 2 w) := by
  obtain ⟨C, hC⟩ : ∃ C, C = Obj.cells #[.string n, .int .i64 2, .int .i64 z, .bool u] 64 := ⟨_, rfl⟩
  have hL : (Instr.lookup 114 (.map (some r)) (.int .i64 2) true).run Tryz.prog (w.alloc C) = .ok (.tuple #[tv 2 125 127, .bool true]) _ := types_found (heap_old hm C) rfl
  subst hC
  simp only [tv] at hL
  clear hm
  go_enter Tryz.func105, Tryz.ntmps105
  go_wp2_with (first | (go_at_call 88; refine (Of_any _ _ _).mono ?_; rintro e w' ⟨rfl, rfl⟩) | (go_at_call 125; refine (numberSize_any _ _).mono ?_; rintro e w' ⟨rfl, rfl⟩) | (go_at_call 136; refine (isName_any _ _ hn).mono ?_; rintro e w' ⟨rfl, rfl⟩))
  go_ret
  exact ⟨_, rfl, by simp [Nat.add_assoc], by simp [go_sem], by go_grown⟩
set_option maxRecDepth 100000 in
set_option maxHeartbeats 1000000 in
theorem column3_ok (n : ByteArray) (z : Int) (u : Bool) (r : Nat) (w : World) (hm : w.heap[r]? = some (.map mapTypes 4)) (hn : n.size ≤ 9223372036854775807) (h1 : (z == 0) = true) (h2 : nameOk n = true) :
    Calls Tryz.prog 105 #[.map (some r), .agg #[.string n, .int .i64 3, .int .i64 z, .bool u]] w fun e w' => e = .returned .nilIface ∧ Below w.heap.size w w' := by
  obtain ⟨C, hC⟩ : ∃ C, C = Obj.cells #[.string n, .int .i64 3, .int .i64 z, .bool u] 64 := ⟨_, rfl⟩
  have hL : (Instr.lookup 114 (.map (some r)) (.int .i64 3) true).run Tryz.prog (w.alloc C) = .ok (.tuple #[tv 3 128 129, .bool true]) _ := types_found (heap_old hm C) rfl
  subst hC
  simp only [tv] at hL
  clear hm
  go_enter Tryz.func105, Tryz.ntmps105
  go_wp2_with (first | (go_at_call 88; refine (Of_any _ _ _).mono ?_; rintro e w' ⟨rfl, rfl⟩) | (go_at_call 128; refine (noSize_any _ _).mono ?_; rintro e w' ⟨rfl, rfl⟩) | (go_at_call 136; refine (isName_any _ _ hn).mono ?_; rintro e w' ⟨rfl, rfl⟩))
  go_ret
  exact ⟨rfl, by go_grown⟩
set_option maxRecDepth 100000 in
set_option maxHeartbeats 1000000 in
theorem column3_size (n : ByteArray) (z : Int) (u : Bool) (r : Nat) (w : World) (hm : w.heap[r]? = some (.map mapTypes 4)) (_hn : n.size ≤ 9223372036854775807) (h1 : (z == 0) = false) :
    Calls Tryz.prog 105 #[.map (some r), .agg #[.string n, .int .i64 3, .int .i64 z, .bool u]] w (IsMis 2 w) := by
  obtain ⟨C, hC⟩ : ∃ C, C = Obj.cells #[.string n, .int .i64 3, .int .i64 z, .bool u] 64 := ⟨_, rfl⟩
  have hL : (Instr.lookup 114 (.map (some r)) (.int .i64 3) true).run Tryz.prog (w.alloc C) = .ok (.tuple #[tv 3 128 129, .bool true]) _ := types_found (heap_old hm C) rfl
  subst hC
  simp only [tv] at hL
  clear hm
  go_enter Tryz.func105, Tryz.ntmps105
  go_wp2_with (first | (go_at_call 88; refine (Of_any _ _ _).mono ?_; rintro e w' ⟨rfl, rfl⟩) | (go_at_call 128; refine (noSize_any _ _).mono ?_; rintro e w' ⟨rfl, rfl⟩) | (go_at_call 136; refine (isName_any _ _ hn).mono ?_; rintro e w' ⟨rfl, rfl⟩))
  go_ret
  exact ⟨_, rfl, by simp [Nat.add_assoc], by simp [go_sem], by go_grown⟩
set_option maxRecDepth 100000 in
set_option maxHeartbeats 1000000 in
theorem column3_name (n : ByteArray) (z : Int) (u : Bool) (r : Nat) (w : World) (hm : w.heap[r]? = some (.map mapTypes 4)) (hn : n.size ≤ 9223372036854775807) (h1 : (z == 0) = true) (h2 : nameOk n = false) :
    Calls Tryz.prog 105 #[.map (some r), .agg #[.string n, .int .i64 3, .int .i64 z, .bool u]] w (IsMis 2 w) := by
  obtain ⟨C, hC⟩ : ∃ C, C = Obj.cells #[.string n, .int .i64 3, .int .i64 z, .bool u] 64 := ⟨_, rfl⟩
  have hL : (Instr.lookup 114 (.map (some r)) (.int .i64 3) true).run Tryz.prog (w.alloc C) = .ok (.tuple #[tv 3 128 129, .bool true]) _ := types_found (heap_old hm C) rfl
  subst hC
  simp only [tv] at hL
  clear hm
  go_enter Tryz.func105, Tryz.ntmps105
  go_wp2_with (first | (go_at_call 88; refine (Of_any _ _ _).mono ?_; rintro e w' ⟨rfl, rfl⟩) | (go_at_call 128; refine (noSize_any _ _).mono ?_; rintro e w' ⟨rfl, rfl⟩) | (go_at_call 136; refine (isName_any _ _ hn).mono ?_; rintro e w' ⟨rfl, rfl⟩))
  go_ret
  exact ⟨_, rfl, by simp [Nat.add_assoc], by simp [go_sem], by go_grown⟩
set_option maxRecDepth 100000 in
set_option maxHeartbeats 1000000 in
theorem column4_ok (n : ByteArray) (z : Int) (u : Bool) (r : Nat) (w : World) (hm : w.heap[r]? = some (.map mapTypes 4)) (hn : n.size ≤ 9223372036854775807) (h1 : byteSz z = true) (h2 : nameOk n = true) :
    Calls Tryz.prog 105 #[.map (some r), .agg #[.string n, .int .i64 4, .int .i64 z, .bool u]] w fun e w' => e = .returned .nilIface ∧ Below w.heap.size w w' := by
  obtain ⟨C, hC⟩ : ∃ C, C = Obj.cells #[.string n, .int .i64 4, .int .i64 z, .bool u] 64 := ⟨_, rfl⟩
  have hL : (Instr.lookup 114 (.map (some r)) (.int .i64 4) true).run Tryz.prog (w.alloc C) = .ok (.tuple #[tv 4 130 131, .bool true]) _ := types_found (heap_old hm C) rfl
  subst hC
  simp only [tv] at hL
  clear hm
  go_enter Tryz.func105, Tryz.ntmps105
  go_wp2_with (first | (go_at_call 88; refine (Of_any _ _ _).mono ?_; rintro e w' ⟨rfl, rfl⟩) | (go_at_call 130; refine (bytesSize_any _ _).mono ?_; rintro e w' ⟨rfl, rfl⟩) | (go_at_call 136; refine (isName_any _ _ hn).mono ?_; rintro e w' ⟨rfl, rfl⟩))
  go_ret
  exact ⟨rfl, by go_grown⟩
set_option maxRecDepth 100000 in
set_option maxHeartbeats 1000000 in
theorem column4_size (n : ByteArray) (z : Int) (u : Bool) (r : Nat) (w : World) (hm : w.heap[r]? = some (.map mapTypes 4)) (_hn : n.size ≤ 9223372036854775807) (h1 : byteSz z = false) :
    Calls Tryz.prog 105 #[.map (some r), .agg #[.string n, .int .i64 4, .int .i64 z, .bool u]] w (IsMis 2 w) := by
  obtain ⟨C, hC⟩ : ∃ C, C = Obj.cells #[.string n, .int .i64 4, .int .i64 z, .bool u] 64 := ⟨_, rfl⟩
  have hL : (Instr.lookup 114 (.map (some r)) (.int .i64 4) true).run Tryz.prog (w.alloc C) = .ok (.tuple #[tv 4 130 131, .bool true]) _ := types_found (heap_old hm C) rfl
  subst hC
  simp only [tv] at hL
  clear hm
  go_enter Tryz.func105, Tryz.ntmps105
  go_wp2_with (first | (go_at_call 88; refine (Of_any _ _ _).mono ?_; rintro e w' ⟨rfl, rfl⟩) | (go_at_call 130; refine (bytesSize_any _ _).mono ?_; rintro e w' ⟨rfl, rfl⟩) | (go_at_call 136; refine (isName_any _ _ hn).mono ?_; rintro e w' ⟨rfl, rfl⟩))
  go_ret
  exact ⟨_, rfl, by simp [Nat.add_assoc], by simp [go_sem], by go_grown⟩
set_option maxRecDepth 100000 in
set_option maxHeartbeats 1000000 in
theorem column4_name (n : ByteArray) (z : Int) (u : Bool) (r : Nat) (w : World) (hm : w.heap[r]? = some (.map mapTypes 4)) (hn : n.size ≤ 9223372036854775807) (h1 : byteSz z = true) (h2 : nameOk n = false) :
    Calls Tryz.prog 105 #[.map (some r), .agg #[.string n, .int .i64 4, .int .i64 z, .bool u]] w (IsMis 2 w) := by
  obtain ⟨C, hC⟩ : ∃ C, C = Obj.cells #[.string n, .int .i64 4, .int .i64 z, .bool u] 64 := ⟨_, rfl⟩
  have hL : (Instr.lookup 114 (.map (some r)) (.int .i64 4) true).run Tryz.prog (w.alloc C) = .ok (.tuple #[tv 4 130 131, .bool true]) _ := types_found (heap_old hm C) rfl
  subst hC
  simp only [tv] at hL
  clear hm
  go_enter Tryz.func105, Tryz.ntmps105
  go_wp2_with (first | (go_at_call 88; refine (Of_any _ _ _).mono ?_; rintro e w' ⟨rfl, rfl⟩) | (go_at_call 130; refine (bytesSize_any _ _).mono ?_; rintro e w' ⟨rfl, rfl⟩) | (go_at_call 136; refine (isName_any _ _ hn).mono ?_; rintro e w' ⟨rfl, rfl⟩))
  go_ret
  exact ⟨_, rfl, by simp [Nat.add_assoc], by simp [go_sem], by go_grown⟩
set_option maxRecDepth 100000 in
set_option maxHeartbeats 1000000 in
theorem column_none (n : ByteArray) (t z : Int) (u : Bool) (r : Nat) (w : World) (hm : w.heap[r]? = some (.map mapTypes 4)) (h1 : t < 1 ∨ 4 < t) :
    Calls Tryz.prog 105 #[.map (some r), .agg #[.string n, .int .i64 t, .int .i64 z, .bool u]] w (IsMis 2 w) := by
  obtain ⟨C, hC⟩ : ∃ C, C = Obj.cells #[.string n, .int .i64 t, .int .i64 z, .bool u] 64 := ⟨_, rfl⟩
  have hL : (Instr.lookup 114 (.map (some r)) (.int .i64 t) true).run Tryz.prog (w.alloc C) = .ok (.tuple #[.agg #[.int .i64 0, .nilFunc, .nilFunc], .bool false]) _ := types_not (heap_old hm C) (types_none h1)
  subst hC
  clear hm h1
  go_enter Tryz.func105, Tryz.ntmps105
  go_wp2_with (go_at_call 88; refine (Of_any _ _ _).mono ?_; rintro e w' ⟨rfl, rfl⟩)
  go_ret
  exact ⟨_, rfl, by simp [Nat.add_assoc], by simp [go_sem], by go_grown⟩

theorem column_ok (c : Col) (r : Nat) (w : World) (hm : w.heap[r]? = some (.map mapTypes 4)) (hn : c.n.size ≤ 9223372036854775807) (h : colOk c = true) :
    Calls Tryz.prog 105 #[.map (some r), .agg #[.string c.n, .int .i64 c.t, .int .i64 c.z, .bool c.u]] w fun e w' => e = .returned .nilIface ∧ Below w.heap.size w w' := by
  obtain ⟨n, t, z, u⟩ := c
  unfold colOk at h
  rw [Bool.and_eq_true] at h
  obtain ⟨h1, h2⟩ := h
  simp only at h1 h2 hn ⊢
  rcases type_cases t with ht | rfl | rfl | rfl | rfl
  · rw [szOk_none ht] at h1
    cases h1
  · exact column1_ok n z u r w hm hn h1 h2
  · exact column2_ok n z u r w hm hn h1 h2
  · exact column3_ok n z u r w hm hn h1 h2
  · exact column4_ok n z u r w hm hn h1 h2
theorem column_bad (c : Col) (r : Nat) (w : World) (hm : w.heap[r]? = some (.map mapTypes 4)) (hn : c.n.size ≤ 9223372036854775807) (h : colOk c = false) :
    Calls Tryz.prog 105 #[.map (some r), .agg #[.string c.n, .int .i64 c.t, .int .i64 c.z, .bool c.u]] w (IsMis 2 w) := by
  obtain ⟨n, t, z, u⟩ := c
  unfold colOk at h
  simp only at h hn ⊢
  rcases type_cases t with ht | rfl | rfl | rfl | rfl
  · exact column_none n t z u r w hm ht
  · cases h1 : szOk 1 z
    · exact column1_size n z u r w hm hn h1
    · rw [h1] at h; exact column1_name n z u r w hm hn h1 h
  · cases h1 : szOk 2 z
    · exact column2_size n z u r w hm hn h1
    · rw [h1] at h; exact column2_name n z u r w hm hn h1 h
  · cases h1 : szOk 3 z
    · exact column3_size n z u r w hm hn h1
    · rw [h1] at h; exact column3_name n z u r w hm hn h1 h
  · cases h1 : szOk 4 z
    · exact column4_size n z u r w hm hn h1
    · rw [h1] at h; exact column4_name n z u r w hm hn h1 h
set_option maxRecDepth 100000 in
set_option maxHeartbeats 1000000 in
theorem rcolumn_any (c : Col) (w : World) (hn : c.n.size ≤ 9223372036854775807) :
    Calls Tryz.prog 38 #[.agg #[.string c.n, .int .i64 c.t, .int .i64 c.z, .bool c.u]] w fun e w' => e = .returned (.bool (colOk c)) ∧ Below w.heap.size w w' := by
  obtain ⟨n, t, z, u⟩ := c
  unfold colOk
  simp only at hn ⊢
  rcases type_cases t with ht | rfl | rfl | rfl | rfl
  · have e1 : (t == 1) = false := by rw [beq_eq_false_iff_ne]; omega
    have e2 : (t == 2) = false := by rw [beq_eq_false_iff_ne]; omega
    have e3 : (t == 3) = false := by rw [beq_eq_false_iff_ne]; omega
    have e4 : (t == 4) = false := by rw [beq_eq_false_iff_ne]; omega
    rw [szOk_none ht]
    clear ht
    go_enter Tryz.func38, Tryz.ntmps38
    go_wp2_with (go_at_call 88; refine (Of_any _ _ _).mono ?_; rintro e w' ⟨rfl, rfl⟩)
    go_ret
    exact ⟨rfl, by go_grown⟩
  · rw [show szOk 1 z = numSz z from rfl]
    cases hN : nameOk n
    · rw [Bool.and_false]
      go_enter Tryz.func38, Tryz.ntmps38
      go_wp2_with (first | (go_at_call 88; refine (Of_any _ _ _).mono ?_; rintro e w' ⟨rfl, rfl⟩) | (go_at_call 70; refine (rName_any _ _ hn).mono ?_; rintro e w' ⟨rfl, rfl⟩))
      go_ret
      exact ⟨rfl, by go_grown⟩
    · rw [Bool.and_true]
      cases hz : numSz z
      · obtain ⟨h1, h2, h3, h4⟩ := numSz_no hz
        clear hz
        go_enter Tryz.func38, Tryz.ntmps38
        go_wp2_with (first | (go_at_call 88; refine (Of_any _ _ _).mono ?_; rintro e w' ⟨rfl, rfl⟩) | (go_at_call 70; refine (rName_any _ _ hn).mono ?_; rintro e w' ⟨rfl, rfl⟩))
        go_ret
        exact ⟨rfl, by go_grown⟩
      · rcases numSz_cases hz with rfl | rfl | rfl | rfl
        all_goals
          clear hz
          go_enter Tryz.func38, Tryz.ntmps38
          go_wp2_with (first | (go_at_call 88; refine (Of_any _ _ _).mono ?_; rintro e w' ⟨rfl, rfl⟩) | (go_at_call 70; refine (rName_any _ _ hn).mono ?_; rintro e w' ⟨rfl, rfl⟩))
          go_ret
          exact ⟨rfl, by go_grown⟩
  · rw [show szOk 2 z = numSz z from rfl]
    cases hN : nameOk n
    · rw [Bool.and_false]
      go_enter Tryz.func38, Tryz.ntmps38
      go_wp2_with (first | (go_at_call 88; refine (Of_any _ _ _).mono ?_; rintro e w' ⟨rfl, rfl⟩) | (go_at_call 70; refine (rName_any _ _ hn).mono ?_; rintro e w' ⟨rfl, rfl⟩))
      go_ret
      exact ⟨rfl, by go_grown⟩
    · rw [Bool.and_true]
      cases hz : numSz z
      · obtain ⟨h1, h2, h3, h4⟩ := numSz_no hz
        clear hz
        go_enter Tryz.func38, Tryz.ntmps38
        go_wp2_with (first | (go_at_call 88; refine (Of_any _ _ _).mono ?_; rintro e w' ⟨rfl, rfl⟩) | (go_at_call 70; refine (rName_any _ _ hn).mono ?_; rintro e w' ⟨rfl, rfl⟩))
        go_ret
        exact ⟨rfl, by go_grown⟩
      · rcases numSz_cases hz with rfl | rfl | rfl | rfl
        all_goals
          clear hz
          go_enter Tryz.func38, Tryz.ntmps38
          go_wp2_with (first | (go_at_call 88; refine (Of_any _ _ _).mono ?_; rintro e w' ⟨rfl, rfl⟩) | (go_at_call 70; refine (rName_any _ _ hn).mono ?_; rintro e w' ⟨rfl, rfl⟩))
          go_ret
          exact ⟨rfl, by go_grown⟩
  · rw [show szOk 3 z = (z == 0) from rfl]
    cases hN : nameOk n <;> cases hz : z == 0
    all_goals
      go_enter Tryz.func38, Tryz.ntmps38
      go_wp2_with (first | (go_at_call 88; refine (Of_any _ _ _).mono ?_; rintro e w' ⟨rfl, rfl⟩) | (go_at_call 70; refine (rName_any _ _ hn).mono ?_; rintro e w' ⟨rfl, rfl⟩))
      go_ret
      exact ⟨rfl, by go_grown⟩
  · rw [show szOk 4 z = (decide (1 ≤ z) && decide (z ≤ 200)) from rfl]
    cases hN : nameOk n <;> cases h1 : decide (1 ≤ z) <;> cases h2 : decide (z ≤ 200)
    all_goals
      have g1 := h1
      have g2 := h2
      simp only [decide_eq_true_eq, decide_eq_false_iff_not, Int.not_le] at g1 g2
    all_goals first
      | (exfalso; omega)
      | (go_enter Tryz.func38, Tryz.ntmps38
         go_wp2_with (first | (go_at_call 88; refine (Of_any _ _ _).mono ?_; rintro e w' ⟨rfl, rfl⟩) | (go_at_call 70; refine (rName_any _ _ hn).mono ?_; rintro e w' ⟨rfl, rfl⟩))
         go_ret
         exact ⟨rfl, by go_grown⟩)
end Go.Proofs.YtocmjlnhcloccaaGreatDoor

/-
  schema's small functions: sizes, bounds, the map of types.
-/
import Derived.Test.YtocmjlnhcloccaaGreatDoorSErrno
import Derived.Test.YtocmjlnhcloccaaGreatDoorKinds
namespace Go.Proofs.YtocmjlnhcloccaaGreatDoor
open Go.RowKit

def numSz (z : Int) : Bool := z == 1 || (z == 2 || (z == 4 || z == 8))
theorem numSz_cases {z : Int} (h : numSz z = true) : z = 1 ∨ z = 2 ∨ z = 4 ∨ z = 8 := by simpa [numSz] using h
theorem numSz_no {z : Int} (h : numSz z = false) : (z == 1) = false ∧ (z == 2) = false ∧ (z == 4) = false ∧ (z == 8) = false := by simpa [numSz] using h
theorem numberSize_any (z : Int) (w : World) : Calls Tryz.prog 125 #[.int .i64 z] w fun e w' => e = .returned (.bool (numSz z)) ∧ w = w' := by
  cases h : numSz z
  · obtain ⟨h1, h2, h3, h4⟩ := numSz_no h
    clear h
    go_enter Tryz.func125, Tryz.ntmps125
    go_wp2
    go_ret
    exact ⟨rfl, rfl⟩
  · rcases numSz_cases h with rfl | rfl | rfl | rfl
    all_goals
      clear h
      go_enter Tryz.func125, Tryz.ntmps125
      go_wp2
      go_ret
      exact ⟨rfl, rfl⟩
theorem noSize_any (z : Int) (w : World) : Calls Tryz.prog 128 #[.int .i64 z] w fun e w' => e = .returned (.bool (z == 0)) ∧ w = w' := by
  cases h : z == 0
  all_goals
    go_enter Tryz.func128, Tryz.ntmps128
    go_wp2
    go_ret
    exact ⟨rfl, rfl⟩
def byteSz (z : Int) : Bool := decide (1 ≤ z) && decide (z ≤ 200)
theorem bytesSize_any (z : Int) (w : World) : Calls Tryz.prog 130 #[.int .i64 z] w fun e w' => e = .returned (.bool (byteSz z)) ∧ w = w' := by
  by_cases h1 : 1 ≤ z
  · by_cases h2 : z ≤ 200
    · have hb : byteSz z = true := by simp [byteSz, h1, h2]
      have HB := Lib.hid hb
      clear hb
      go_enter Tryz.func130, Tryz.ntmps130
      go_wp2
      go_ret
      exact ⟨by rw [HB.out]; rfl, rfl⟩
    · have hb : byteSz z = false := by simp [byteSz, h2]
      have HB := Lib.hid hb
      clear hb
      go_enter Tryz.func130, Tryz.ntmps130
      go_wp2
      go_ret
      exact ⟨by rw [HB.out]; rfl, rfl⟩
  · have hb : byteSz z = false := by simp [byteSz, h1]
    have HB := Lib.hid hb
    clear hb
    go_enter Tryz.func130, Tryz.ntmps130
    go_wp2
    go_ret
    exact ⟨by rw [HB.out]; rfl, rfl⟩

/-- the least number of so many bytes, with a sign -/
def leastI (z : Int) : Int := if z = 1 then -128 else if z = 2 then -32768 else if z = 4 then -2147483648 else -9223372036854775808
def mostI (z : Int) : Int := if z = 1 then 127 else if z = 2 then 32767 else if z = 4 then 2147483647 else 9223372036854775807
def mostU (z : Int) : Int := if z = 1 then 255 else if z = 2 then 65535 else if z = 4 then 4294967295 else 18446744073709551615
set_option maxHeartbeats 400000 in
theorem signed_any (z : Int) (w : World) (h : numSz z = true) : Calls Tryz.prog 126 #[.int .i64 z] w fun e w' => e = .returned (.func (.func 153) #[] #[.pointer (some ⟨w.heap.size, 0, none⟩), .pointer (some ⟨w.heap.size + 1, 0, none⟩)]) ∧ (w.alloc (.cells #[.int .i64 (leastI z)] 2)).alloc (.cells #[.int .i64 (mostI z)] 2) = w' := by
  rcases numSz_cases h with rfl | rfl | rfl | rfl
  all_goals
    clear h
    go_enter Tryz.func126, Tryz.ntmps126
    go_wp2
    go_ret
    exact ⟨rfl, rfl⟩
set_option maxHeartbeats 400000 in
theorem unsigned_any (z : Int) (w : World) (h : numSz z = true) : Calls Tryz.prog 127 #[.int .i64 z] w fun e w' => e = .returned (.func (.func 154) #[] #[.pointer (some ⟨w.heap.size, 0, none⟩)]) ∧ w.alloc (.cells #[.int .u64 (mostU z)] 66) = w' := by
  rcases numSz_cases h with rfl | rfl | rfl | rfl
  all_goals
    clear h
    go_enter Tryz.func127, Tryz.ntmps127
    go_wp2
    go_ret
    exact ⟨rfl, rfl⟩
theorem anything_any (z : Int) (w : World) : Calls Tryz.prog 129 #[.int .i64 z] w fun e w' => e = .returned (.func (.func 155) #[] #[]) ∧ w = w' := by
  go_enter Tryz.func129, Tryz.ntmps129
  go_wp2
  go_ret
  exact ⟨rfl, rfl⟩
theorem short_any (z : Int) (w : World) : Calls Tryz.prog 131 #[.int .i64 z] w fun e w' => e = .returned (.func (.func 156) #[] #[.pointer (some ⟨w.heap.size, 0, none⟩)]) ∧ w.alloc (.cells #[.int .i64 z] 3) = w' := by
  go_enter Tryz.func131, Tryz.ntmps131
  go_wp2
  go_ret
  exact ⟨rfl, rfl⟩
set_option maxHeartbeats 400000 in
theorem signed1_any (k i u : Int) (s : ByteArray) (p q : Nat) (lo hi : Int) (w : World) (h0 : w.cell? ⟨p, 0, none⟩ = some (.int .i64 lo)) (h1 : w.cell? ⟨q, 0, none⟩ = some (.int .i64 hi)) :
    Calls Tryz.prog 153 #[.agg #[.int .i64 k, .int .i64 i, .int .u64 u, .string s], .pointer (some ⟨p, 0, none⟩), .pointer (some ⟨q, 0, none⟩)] w fun e w' => e = .returned (.bool (decide (lo ≤ i) && decide (i ≤ hi))) ∧ Below w.heap.size w w' := by
  have hp := cell_lt h0
  have hq := cell_lt h1
  by_cases h2 : lo ≤ i
  · by_cases h3 : i ≤ hi
    · go_enter Tryz.func153, Tryz.ntmps153
      go_wp2
      go_ret
      exact ⟨by simp [h2, h3], by go_grown⟩
    · go_enter Tryz.func153, Tryz.ntmps153
      go_wp2
      go_ret
      exact ⟨by simp [h3], by go_grown⟩
  · go_enter Tryz.func153, Tryz.ntmps153
    go_wp2
    go_ret
    exact ⟨by simp; omega, by go_grown⟩
set_option maxHeartbeats 400000 in
theorem unsigned1_any (k i u : Int) (s : ByteArray) (p : Nat) (hi : Int) (w : World) (h0 : w.cell? ⟨p, 0, none⟩ = some (.int .u64 hi)) :
    Calls Tryz.prog 154 #[.agg #[.int .i64 k, .int .i64 i, .int .u64 u, .string s], .pointer (some ⟨p, 0, none⟩)] w fun e w' => e = .returned (.bool (decide (u ≤ hi))) ∧ Below w.heap.size w w' := by
  have hp := cell_lt h0
  go_enter Tryz.func154, Tryz.ntmps154
  go_wp2
  go_ret
  exact ⟨rfl, by go_grown⟩
set_option maxHeartbeats 400000 in
theorem anything1_any (k i u : Int) (s : ByteArray) (w : World) :
    Calls Tryz.prog 155 #[.agg #[.int .i64 k, .int .i64 i, .int .u64 u, .string s]] w fun e w' => e = .returned (.bool true) ∧ Below w.heap.size w w' := by
  go_enter Tryz.func155, Tryz.ntmps155
  go_wp2
  go_ret
  exact ⟨rfl, by go_grown⟩
set_option maxHeartbeats 400000 in
theorem short1_any (k i u : Int) (s : ByteArray) (p : Nat) (z : Int) (w : World) (h0 : w.cell? ⟨p, 0, none⟩ = some (.int .i64 z)) :
    Calls Tryz.prog 156 #[.agg #[.int .i64 k, .int .i64 i, .int .u64 u, .string s], .pointer (some ⟨p, 0, none⟩)] w fun e w' => e = .returned (.bool (decide ((s.size : Int) ≤ z))) ∧ Below w.heap.size w w' := by
  have hp := cell_lt h0
  go_enter Tryz.func156, Tryz.ntmps156
  go_wp2
  go_ret
  exact ⟨rfl, by go_grown⟩

def tv (t : Int) (a b : Nat) : Value := .agg #[.int .i64 t, .func (.func a) #[] #[], .func (.func b) #[] #[]]
def mapTypes : Array MapEntry := #[⟨.int .i64 1, tv 1 125 126, 0⟩, ⟨.int .i64 2, tv 2 125 127, 1⟩, ⟨.int .i64 3, tv 3 128 129, 2⟩, ⟨.int .i64 4, tv 4 130 131, 3⟩]
set_option maxRecDepth 100000 in
set_option maxHeartbeats 400000 in
theorem types_any (w : World) :
    Calls Tryz.prog 87 #[] w fun e w' => e = .returned (.map (some w.heap.size)) ∧ w.alloc (.map mapTypes 4) = w' := by
  have hmm := @run_makeMap Tryz.prog
  have h0 : ∀ v, (Instr.mapUpdate 114 (.map (some w.heap.size)) (.int .i64 1) v).run Tryz.prog (w.alloc (.map #[] 0)) = .ok () (w.alloc (.map #[⟨.int .i64 1, v, 0⟩] 1)) := fun v => run_insert_new w #[] 0 1 v Tryz.underlying114 Tryz.underlying62 rfl
  have h1 : ∀ v0 v, (Instr.mapUpdate 114 (.map (some w.heap.size)) (.int .i64 2) v).run Tryz.prog (w.alloc (.map #[⟨.int .i64 1, v0, 0⟩] 1)) = .ok () (w.alloc (.map #[⟨.int .i64 1, v0, 0⟩, ⟨.int .i64 2, v, 1⟩] 2)) := fun v0 v => run_insert_new w #[⟨.int .i64 1, v0, 0⟩] 1 2 v Tryz.underlying114 Tryz.underlying62 rfl
  have h2 : ∀ v0 v1 v, (Instr.mapUpdate 114 (.map (some w.heap.size)) (.int .i64 3) v).run Tryz.prog (w.alloc (.map #[⟨.int .i64 1, v0, 0⟩, ⟨.int .i64 2, v1, 1⟩] 2)) = .ok () (w.alloc (.map #[⟨.int .i64 1, v0, 0⟩, ⟨.int .i64 2, v1, 1⟩, ⟨.int .i64 3, v, 2⟩] 3)) := fun v0 v1 v => run_insert_new w #[⟨.int .i64 1, v0, 0⟩, ⟨.int .i64 2, v1, 1⟩] 2 3 v Tryz.underlying114 Tryz.underlying62 rfl
  have h3 : ∀ v0 v1 v2 v, (Instr.mapUpdate 114 (.map (some w.heap.size)) (.int .i64 4) v).run Tryz.prog (w.alloc (.map #[⟨.int .i64 1, v0, 0⟩, ⟨.int .i64 2, v1, 1⟩, ⟨.int .i64 3, v2, 2⟩] 3)) = .ok () (w.alloc (.map #[⟨.int .i64 1, v0, 0⟩, ⟨.int .i64 2, v1, 1⟩, ⟨.int .i64 3, v2, 2⟩, ⟨.int .i64 4, v, 3⟩] 4)) := fun v0 v1 v2 v => run_insert_new w #[⟨.int .i64 1, v0, 0⟩, ⟨.int .i64 2, v1, 1⟩, ⟨.int .i64 3, v2, 2⟩] 3 4 v Tryz.underlying114 Tryz.underlying62 rfl
  go_enter Tryz.func87, Tryz.ntmps87
  go_wp2_with fail
  go_ret
  exact ⟨rfl, rfl⟩

theorem types_found {k : Int} {j : Nat} {v : Value} {w : World} {r : Nat} (hb : w.heap[r]? = some (.map mapTypes 4)) (hf : Instr.findNow (.int .i64) (.int .i64 k) mapTypes.toList 0 = some (some (j, v))) :
    (Instr.lookup 114 (.map (some r)) (.int .i64 k) true).run Tryz.prog w = .ok (.tuple #[v, .bool true]) w :=
  run_lookup_known w Tryz.underlying114 Tryz.underlying62 hb hf true
theorem types_got {k : Int} {j : Nat} {v : Value} {w : World} {r : Nat} (hb : w.heap[r]? = some (.map mapTypes 4)) (hf : Instr.findNow (.int .i64) (.int .i64 k) mapTypes.toList 0 = some (some (j, v))) :
    (Instr.lookup 114 (.map (some r)) (.int .i64 k) false).run Tryz.prog w = .ok v w :=
  run_lookup_known w Tryz.underlying114 Tryz.underlying62 hb hf false
theorem types_not {k : Int} {w : World} {r : Nat} (hb : w.heap[r]? = some (.map mapTypes 4)) (hf : Instr.findNow (.int .i64) (.int .i64 k) mapTypes.toList 0 = some none) :
    (Instr.lookup 114 (.map (some r)) (.int .i64 k) true).run Tryz.prog w = .ok (.tuple #[.agg #[.int .i64 0, .nilFunc, .nilFunc], .bool false]) w :=
  run_lookup_none w Tryz.underlying114 Tryz.underlying62 hb hf (by kernel_rfl) true
theorem types_none {k : Int} (h : k < 1 ∨ 4 < k) : Instr.findNow (.int .i64) (.int .i64 k) mapTypes.toList 0 = some none := by
  have h1 : (k == 1) = false := by rw [beq_eq_false_iff_ne]; omega
  have h2 : (k == 2) = false := by rw [beq_eq_false_iff_ne]; omega
  have h3 : (k == 3) = false := by rw [beq_eq_false_iff_ne]; omega
  have h4 : (k == 4) = false := by rw [beq_eq_false_iff_ne]; omega
  simp [mapTypes, Instr.findNow, Instr.sameNow, h1, h2, h3, h4]
end Go.Proofs.YtocmjlnhcloccaaGreatDoor

/-
  swingbridgeref01.Check: the same number, 'chk'.
-/
import Derived.Test.YtocmjlnhcloccaaGreatDoorCheck
namespace Go.Proofs.YtocmjlnhcloccaaGreatDoor
open Go.RowKit

theorem toList_nil (s : ByteArray) (h : s.toList = []) : s = ⟨#[]⟩ := by
  rw [ByteArray.toList_eq] at h
  obtain ⟨⟨l⟩⟩ := s
  simp at h
  subst h
  rfl
theorem emptyZ : (((⟨#[]⟩ : ByteArray).size : Nat) : Int) ≤ 200 := by decide
theorem chk0 : chk 0 0 0 ⟨#[]⟩ = 0 := by simp [chk, vEqB, onlyI, onlyU, onlyS, emptyZ]
theorem chk30 : chk 3 0 0 ⟨#[]⟩ = 0 := by simp [chk, vEqB, onlyI, onlyU, onlyS, emptyZ, show bits BinOp.and .i64 0 1 = 0 from rfl]
theorem chk31 : chk 3 1 0 ⟨#[]⟩ = 0 := by simp [chk, vEqB, onlyI, onlyU, onlyS, emptyZ, show bits BinOp.and .i64 1 1 = 1 from rfl]
theorem and_one (i : Int) (h0 : i ≠ 0) (h1 : i ≠ 1) : bits BinOp.and .i64 i 1 ≠ i := by
  intro h
  have hb : bits BinOp.and .i64 i 1 = 0 ∨ bits BinOp.and .i64 i 1 = 1 := by
    show IntKind.i64.wrap ((BitVec.ofInt 64 i &&& BitVec.ofInt 64 1).toNat : Int) = 0 ∨ IntKind.i64.wrap ((BitVec.ofInt 64 i &&& BitVec.ofInt 64 1).toNat : Int) = 1
    have h1 : (BitVec.ofInt 64 1).toNat = 1 := by decide
    rw [BitVec.toNat_and, h1, Nat.and_one_is_mod]
    have h2 : (BitVec.ofInt 64 i).toNat % 2 = 0 ∨ (BitVec.ofInt 64 i).toNat % 2 = 1 := by omega
    rcases h2 with h2 | h2
    · rw [h2]; left; rfl
    · rw [h2]; right; rfl
  rcases hb with hb | hb <;> omega

set_option maxHeartbeats 1000000 in
theorem rCheck_neg (k i u : Int) (s : ByteArray) (w : World) (hk : k < 0) :
    Calls Tryz.prog 101 #[.agg #[.int .i64 k, .int .i64 i, .int .u64 u, .string s]] w fun e w' => e = .returned (.int .i64 2) ∧ Below w.heap.size w w' := by
  go_enter Tryz.func101, Tryz.ntmps101
  go_wp2
  go_ret
  exact ⟨rfl, by go_grown⟩

set_option maxHeartbeats 1000000 in
theorem rCheck_pos (k i u : Int) (s : ByteArray) (w : World) (hk : 4 < k) :
    Calls Tryz.prog 101 #[.agg #[.int .i64 k, .int .i64 i, .int .u64 u, .string s]] w fun e w' => e = .returned (.int .i64 2) ∧ Below w.heap.size w w' := by
  go_enter Tryz.func101, Tryz.ntmps101
  go_wp2
  go_ret
  exact ⟨rfl, by go_grown⟩

set_option maxHeartbeats 1000000 in
theorem rCheck_0i (i u : Int) (s : ByteArray) (w : World) (hi : i ≠ 0) :
    Calls Tryz.prog 101 #[.agg #[.int .i64 0, .int .i64 i, .int .u64 u, .string s]] w fun e w' => e = .returned (.int .i64 2) ∧ Below w.heap.size w w' := by
  have hi' : (i != 0) = true := by simpa using hi
  go_enter Tryz.func101, Tryz.ntmps101
  go_wp2
  go_ret
  exact ⟨rfl, by go_grown⟩

set_option maxHeartbeats 1000000 in
theorem rCheck_0u (u : Int) (s : ByteArray) (w : World) (hu : u ≠ 0) :
    Calls Tryz.prog 101 #[.agg #[.int .i64 0, .int .i64 0, .int .u64 u, .string s]] w fun e w' => e = .returned (.int .i64 2) ∧ Below w.heap.size w w' := by
  have hu' : (u != 0) = true := by simpa using hu
  go_enter Tryz.func101, Tryz.ntmps101
  go_wp2
  go_ret
  exact ⟨rfl, by go_grown⟩

set_option maxHeartbeats 1000000 in
theorem rCheck_0s (s : ByteArray) (w : World) (hs : ¬ s.toList = []) :
    Calls Tryz.prog 101 #[.agg #[.int .i64 0, .int .i64 0, .int .u64 0, .string s]] w fun e w' => e = .returned (.int .i64 2) ∧ Below w.heap.size w w' := by
  have hs' : s.toList.isEmpty = false := by cases h : s.toList <;> simp_all
  go_enter Tryz.func101, Tryz.ntmps101
  go_wp2
  go_ret
  exact ⟨rfl, by go_grown⟩

set_option maxHeartbeats 1000000 in
theorem rCheck_0  (w : World)  :
    Calls Tryz.prog 101 #[.agg #[.int .i64 0, .int .i64 0, .int .u64 0, .string ⟨#[]⟩]] w fun e w' => e = .returned (.int .i64 0) ∧ Below w.heap.size w w' := by
  go_enter Tryz.func101, Tryz.ntmps101
  go_wp2
  go_ret
  exact ⟨rfl, by go_grown⟩

set_option maxHeartbeats 1000000 in
theorem rCheck_1u (i u : Int) (s : ByteArray) (w : World) (hu : u ≠ 0) :
    Calls Tryz.prog 101 #[.agg #[.int .i64 1, .int .i64 i, .int .u64 u, .string s]] w fun e w' => e = .returned (.int .i64 2) ∧ Below w.heap.size w w' := by
  have hu' : (u != 0) = true := by simpa using hu
  go_enter Tryz.func101, Tryz.ntmps101
  go_wp2
  go_ret
  exact ⟨rfl, by go_grown⟩

set_option maxHeartbeats 1000000 in
theorem rCheck_1s (i : Int) (s : ByteArray) (w : World) (hs : ¬ s.toList = []) :
    Calls Tryz.prog 101 #[.agg #[.int .i64 1, .int .i64 i, .int .u64 0, .string s]] w fun e w' => e = .returned (.int .i64 2) ∧ Below w.heap.size w w' := by
  have hs' : s.toList.isEmpty = false := by cases h : s.toList <;> simp_all
  go_enter Tryz.func101, Tryz.ntmps101
  go_wp2
  go_ret
  exact ⟨rfl, by go_grown⟩

set_option maxHeartbeats 1000000 in
theorem rCheck_1 (i : Int) (w : World)  :
    Calls Tryz.prog 101 #[.agg #[.int .i64 1, .int .i64 i, .int .u64 0, .string ⟨#[]⟩]] w fun e w' => e = .returned (.int .i64 0) ∧ Below w.heap.size w w' := by
  go_enter Tryz.func101, Tryz.ntmps101
  go_wp2
  go_ret
  exact ⟨rfl, by go_grown⟩

set_option maxHeartbeats 1000000 in
theorem rCheck_2i (i u : Int) (s : ByteArray) (w : World) (hi : i ≠ 0) :
    Calls Tryz.prog 101 #[.agg #[.int .i64 2, .int .i64 i, .int .u64 u, .string s]] w fun e w' => e = .returned (.int .i64 2) ∧ Below w.heap.size w w' := by
  have hi' : (i != 0) = true := by simpa using hi
  go_enter Tryz.func101, Tryz.ntmps101
  go_wp2
  go_ret
  exact ⟨rfl, by go_grown⟩

set_option maxHeartbeats 1000000 in
theorem rCheck_2s (u : Int) (s : ByteArray) (w : World) (hs : ¬ s.toList = []) :
    Calls Tryz.prog 101 #[.agg #[.int .i64 2, .int .i64 0, .int .u64 u, .string s]] w fun e w' => e = .returned (.int .i64 2) ∧ Below w.heap.size w w' := by
  have hs' : s.toList.isEmpty = false := by cases h : s.toList <;> simp_all
  go_enter Tryz.func101, Tryz.ntmps101
  go_wp2
  go_ret
  exact ⟨rfl, by go_grown⟩

set_option maxHeartbeats 1000000 in
theorem rCheck_2 (u : Int) (w : World)  :
    Calls Tryz.prog 101 #[.agg #[.int .i64 2, .int .i64 0, .int .u64 u, .string ⟨#[]⟩]] w fun e w' => e = .returned (.int .i64 0) ∧ Below w.heap.size w w' := by
  go_enter Tryz.func101, Tryz.ntmps101
  go_wp2
  go_ret
  exact ⟨rfl, by go_grown⟩

set_option maxHeartbeats 1000000 in
theorem rCheck_3u (i u : Int) (s : ByteArray) (w : World) (hu : u ≠ 0) :
    Calls Tryz.prog 101 #[.agg #[.int .i64 3, .int .i64 i, .int .u64 u, .string s]] w fun e w' => e = .returned (.int .i64 2) ∧ Below w.heap.size w w' := by
  have hu' : (u != 0) = true := by simpa using hu
  go_enter Tryz.func101, Tryz.ntmps101
  go_wp2
  go_ret
  exact ⟨rfl, by go_grown⟩

set_option maxHeartbeats 1000000 in
theorem rCheck_3s (i : Int) (s : ByteArray) (w : World) (hs : ¬ s.toList = []) :
    Calls Tryz.prog 101 #[.agg #[.int .i64 3, .int .i64 i, .int .u64 0, .string s]] w fun e w' => e = .returned (.int .i64 2) ∧ Below w.heap.size w w' := by
  have hs' : s.toList.isEmpty = false := by cases h : s.toList <;> simp_all
  go_enter Tryz.func101, Tryz.ntmps101
  go_wp2
  go_ret
  exact ⟨rfl, by go_grown⟩

set_option maxHeartbeats 1000000 in
theorem rCheck_3i (i : Int) (w : World) (hi : i ≠ 0) (hi2 : i ≠ 1) :
    Calls Tryz.prog 101 #[.agg #[.int .i64 3, .int .i64 i, .int .u64 0, .string ⟨#[]⟩]] w fun e w' => e = .returned (.int .i64 2) ∧ Below w.heap.size w w' := by
  have hi' : (i != 0) = true := by simpa using hi
  have hi2' : (i != 1) = true := by simpa using hi2
  go_enter Tryz.func101, Tryz.ntmps101
  go_wp2
  go_ret
  exact ⟨rfl, by go_grown⟩

set_option maxHeartbeats 1000000 in
theorem rCheck_30  (w : World)  :
    Calls Tryz.prog 101 #[.agg #[.int .i64 3, .int .i64 0, .int .u64 0, .string ⟨#[]⟩]] w fun e w' => e = .returned (.int .i64 0) ∧ Below w.heap.size w w' := by
  go_enter Tryz.func101, Tryz.ntmps101
  go_wp2
  go_ret
  exact ⟨rfl, by go_grown⟩

set_option maxHeartbeats 1000000 in
theorem rCheck_31  (w : World)  :
    Calls Tryz.prog 101 #[.agg #[.int .i64 3, .int .i64 1, .int .u64 0, .string ⟨#[]⟩]] w fun e w' => e = .returned (.int .i64 0) ∧ Below w.heap.size w w' := by
  go_enter Tryz.func101, Tryz.ntmps101
  go_wp2
  go_ret
  exact ⟨rfl, by go_grown⟩

set_option maxHeartbeats 1000000 in
theorem rCheck_4i (i u : Int) (s : ByteArray) (w : World) (hi : i ≠ 0) :
    Calls Tryz.prog 101 #[.agg #[.int .i64 4, .int .i64 i, .int .u64 u, .string s]] w fun e w' => e = .returned (.int .i64 2) ∧ Below w.heap.size w w' := by
  have hi' : (i != 0) = true := by simpa using hi
  go_enter Tryz.func101, Tryz.ntmps101
  go_wp2
  go_ret
  exact ⟨rfl, by go_grown⟩

set_option maxHeartbeats 1000000 in
theorem rCheck_4u (u : Int) (s : ByteArray) (w : World) (hu : u ≠ 0) :
    Calls Tryz.prog 101 #[.agg #[.int .i64 4, .int .i64 0, .int .u64 u, .string s]] w fun e w' => e = .returned (.int .i64 2) ∧ Below w.heap.size w w' := by
  have hu' : (u != 0) = true := by simpa using hu
  go_enter Tryz.func101, Tryz.ntmps101
  go_wp2
  go_ret
  exact ⟨rfl, by go_grown⟩

set_option maxHeartbeats 1000000 in
theorem rCheck_4 (s : ByteArray) (w : World) (hs : (s.size : Int) ≤ 200) :
    Calls Tryz.prog 101 #[.agg #[.int .i64 4, .int .i64 0, .int .u64 0, .string s]] w fun e w' => e = .returned (.int .i64 0) ∧ Below w.heap.size w w' := by
  go_enter Tryz.func101, Tryz.ntmps101
  go_wp2
  go_ret
  exact ⟨rfl, by go_grown⟩

set_option maxHeartbeats 1000000 in
theorem rCheck_4l (s : ByteArray) (w : World) (hs : 200 < (s.size : Int)) :
    Calls Tryz.prog 101 #[.agg #[.int .i64 4, .int .i64 0, .int .u64 0, .string s]] w fun e w' => e = .returned (.int .i64 3) ∧ Below w.heap.size w w' := by
  go_enter Tryz.func101, Tryz.ntmps101
  go_wp2
  go_ret
  exact ⟨rfl, by go_grown⟩

theorem rCheck_any (k i u : Int) (s : ByteArray) (w : World) :
    Calls Tryz.prog 101 #[.agg #[.int .i64 k, .int .i64 i, .int .u64 u, .string s]] w fun e w' => e = .returned (.int .i64 (chk k i u s)) ∧ Below w.heap.size w w' := by
  rcases kinds_cases k with hk | rfl | rfl | rfl | rfl | rfl
  · rw [show chk k i u s = 2 by unfold chk; rw [if_pos hk]]
    rcases hk with hk | hk
    · exact rCheck_neg k i u s w hk
    · exact rCheck_pos k i u s w hk
  · by_cases hi : i = 0
    · subst hi
      by_cases hu : u = 0
      · subst hu
        by_cases hs : s.toList = []
        · obtain rfl := toList_nil s hs
          rw [chk0]; exact rCheck_0 w
        · rw [show chk 0 0 0 s = 2 by simp [chk, vEqB, onlyI, onlyU, onlyS, hs]]
          exact rCheck_0s s w hs
      · rw [show chk 0 0 u s = 2 by simp [chk, vEqB, onlyI, onlyU, hu]]
        exact rCheck_0u u s w hu
    · rw [show chk 0 i u s = 2 by simp [chk, vEqB, onlyI, hi]]
      exact rCheck_0i i u s w hi
  · by_cases hu : u = 0
    · subst hu
      by_cases hs : s.toList = []
      · obtain rfl := toList_nil s hs
        rw [show chk 1 i 0 ⟨#[]⟩ = 0 by simp [chk, vEqB, onlyI, onlyU, onlyS, emptyZ]]
        exact rCheck_1 i w
      · rw [show chk 1 i 0 s = 2 by simp [chk, vEqB, onlyI, onlyU, onlyS, hs]]
        exact rCheck_1s i s w hs
    · rw [show chk 1 i u s = 2 by simp [chk, vEqB, onlyI, onlyU, hu]]
      exact rCheck_1u i u s w hu
  · by_cases hi : i = 0
    · subst hi
      by_cases hs : s.toList = []
      · obtain rfl := toList_nil s hs
        rw [show chk 2 0 u ⟨#[]⟩ = 0 by simp [chk, vEqB, onlyI, onlyU, onlyS, emptyZ]]
        exact rCheck_2 u w
      · rw [show chk 2 0 u s = 2 by simp [chk, vEqB, onlyI, onlyU, onlyS, hs]]
        exact rCheck_2s u s w hs
    · rw [show chk 2 i u s = 2 by simp [chk, vEqB, onlyI, hi]]
      exact rCheck_2i i u s w hi
  · by_cases hu : u = 0
    · subst hu
      by_cases hs : s.toList = []
      · obtain rfl := toList_nil s hs
        by_cases hi : i = 0
        · subst hi
          rw [chk30]; exact rCheck_30 w
        · by_cases hi2 : i = 1
          · subst hi2
            rw [chk31]; exact rCheck_31 w
          · have hb := and_one i hi hi2
            rw [show chk 3 i 0 ⟨#[]⟩ = 2 by simp [chk, vEqB, onlyI, Ne.symm hb]]
            exact rCheck_3i i w hi hi2
      · rw [show chk 3 i 0 s = 2 by simp [chk, vEqB, onlyI, onlyU, onlyS, hs]]
        exact rCheck_3s i s w hs
    · rw [show chk 3 i u s = 2 by simp [chk, vEqB, onlyI, onlyU, hu]]
      exact rCheck_3u i u s w hu
  · by_cases hi : i = 0
    · subst hi
      by_cases hu : u = 0
      · subst hu
        by_cases hs : (s.size : Int) ≤ 200
        · rw [show chk 4 0 0 s = 0 by simp [chk, vEqB, onlyI, onlyU, onlyS, hs]]
          exact rCheck_4 s w hs
        · rw [show chk 4 0 0 s = 3 by simp [chk, vEqB, onlyI, onlyU, onlyS]; omega]
          exact rCheck_4l s w (by omega)
      · rw [show chk 4 0 u s = 2 by simp [chk, vEqB, onlyI, onlyU, hu]]
        exact rCheck_4u u s w hu
    · rw [show chk 4 i u s = 2 by simp [chk, vEqB, onlyI, hi]]
      exact rCheck_4i i u s w hi
end Go.Proofs.YtocmjlnhcloccaaGreatDoor

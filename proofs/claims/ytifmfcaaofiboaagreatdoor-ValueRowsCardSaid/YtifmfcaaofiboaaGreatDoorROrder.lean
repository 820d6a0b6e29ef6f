/-
  swingbridgeref01.by and Order: the same number, 'ord'; swingbridgelaw01.num.
-/
import Derived.Test.YtifmfcaaofiboaaGreatDoorOrder
namespace Go.Proofs.YtifmfcaaofiboaaGreatDoor
open Go.RowKit

theorem rby_true (w : World) : Calls Tryz.prog 35 #[.bool true] w fun e w' => e = .returned (.int .i64 (-1)) ∧ w = w' := by
  go_enter Tryz.func35, Tryz.ntmps35
  go_wp2
  go_ret
  exact ⟨rfl, rfl⟩
theorem rby_false (w : World) : Calls Tryz.prog 35 #[.bool false] w fun e w' => e = .returned (.int .i64 1) ∧ w = w' := by
  go_enter Tryz.func35, Tryz.ntmps35
  go_wp2
  go_ret
  exact ⟨rfl, rfl⟩
theorem rby_any (b : Bool) (w : World) : Calls Tryz.prog 35 #[.bool b] w fun e w' => e = .returned (.int .i64 (if b = true then -1 else 1)) ∧ w = w' := by
  cases b
  · exact rby_false w
  · exact rby_true w
theorem num_any (n : Int) (w : World) : Calls Tryz.prog 10 #[.int .i64 n] w fun e w' => e = .returned (.int .i64 n) ∧ w = w' := by
  go_enter Tryz.func10, Tryz.ntmps10
  go_wp2
  go_ret
  exact ⟨rfl, rfl⟩

theorem neB {a b : Int} (h : a ≠ b) : (a != b) = true := by simpa using h
theorem eqB (a : Int) : (a != a) = false := by simp
theorem cmpI_ne {a b : Int} (h : a ≠ b) : cmpI a b ≠ 0 := by unfold cmpI; split; (· decide); (· split <;> omega)
theorem cmpI_ne_eq {a b : Int} (h : a ≠ b) : cmpI a b = if decide (a < b) = true then -1 else 1 := by
  unfold cmpI
  by_cases h1 : a < b
  · simp [h1]
  · rw [if_neg h1, if_pos (by omega)]; simp [h1]
theorem cmpI_self (a : Int) : cmpI a a = 0 := by unfold cmpI; simp

set_option maxHeartbeats 1000000 in
theorem rOrder_k (k i u : Int) (s : ByteArray) (k' i' u' : Int) (s' : ByteArray) (w : World) (h : k ≠ k') :
    Calls Tryz.prog 14 #[.agg #[.int .i64 k, .int .i64 i, .int .u64 u, .string s], .agg #[.int .i64 k', .int .i64 i', .int .u64 u', .string s']] w fun e w' => e = .returned (.int .i64 (ord k i u s k' i' u' s')) ∧ Below w.heap.size w w' := by
  have h1 := neB h
  rw [show ord k i u s k' i' u' s' = if decide (k < k') = true then -1 else 1 by rw [← cmpI_ne_eq h]; unfold ord or4; rw [if_pos (cmpI_ne h)]]
  obtain ⟨b, hb⟩ : ∃ b, b = decide (k < k') := ⟨_, rfl⟩
  rw [← hb]
  cases b
  all_goals
    have hb' := hb.symm
    clear hb
    go_enter Tryz.func14, Tryz.ntmps14
    go_wp2_with (first | (go_at_call 35; refine (rby_any _ _).mono ?_; rintro e w' ⟨rfl, rfl⟩))
    go_ret
    exact ⟨rfl, by go_grown⟩

set_option maxHeartbeats 1000000 in
theorem rOrder_i (k i u : Int) (s : ByteArray) (i' u' : Int) (s' : ByteArray) (w : World) (h : i ≠ i') :
    Calls Tryz.prog 14 #[.agg #[.int .i64 k, .int .i64 i, .int .u64 u, .string s], .agg #[.int .i64 k, .int .i64 i', .int .u64 u', .string s']] w fun e w' => e = .returned (.int .i64 (ord k i u s k i' u' s')) ∧ Below w.heap.size w w' := by
  have h1 := neB h
  have h0 := eqB k
  rw [show ord k i u s k i' u' s' = if decide (i < i') = true then -1 else 1 by rw [← cmpI_ne_eq h]; unfold ord or4; rw [cmpI_self, if_neg (by decide), if_pos (cmpI_ne h)]]
  obtain ⟨b, hb⟩ : ∃ b, b = decide (i < i') := ⟨_, rfl⟩
  rw [← hb]
  cases b
  all_goals
    have hb' := hb.symm
    clear hb
    go_enter Tryz.func14, Tryz.ntmps14
    go_wp2_with (first | (go_at_call 35; refine (rby_any _ _).mono ?_; rintro e w' ⟨rfl, rfl⟩))
    go_ret
    exact ⟨rfl, by go_grown⟩

set_option maxHeartbeats 1000000 in
theorem rOrder_u (k i u : Int) (s : ByteArray) (u' : Int) (s' : ByteArray) (w : World) (h : u ≠ u') :
    Calls Tryz.prog 14 #[.agg #[.int .i64 k, .int .i64 i, .int .u64 u, .string s], .agg #[.int .i64 k, .int .i64 i, .int .u64 u', .string s']] w fun e w' => e = .returned (.int .i64 (ord k i u s k i u' s')) ∧ Below w.heap.size w w' := by
  have h1 := neB h
  have h0 := eqB k
  have h2 := eqB i
  rw [show ord k i u s k i u' s' = if decide (u < u') = true then -1 else 1 by rw [← cmpI_ne_eq h]; unfold ord or4; rw [cmpI_self, cmpI_self, if_neg (by decide), if_neg (by decide), if_pos (cmpI_ne h)]]
  obtain ⟨b, hb⟩ : ∃ b, b = decide (u < u') := ⟨_, rfl⟩
  rw [← hb]
  cases b
  all_goals
    have hb' := hb.symm
    clear hb
    go_enter Tryz.func14, Tryz.ntmps14
    go_wp2_with (first | (go_at_call 35; refine (rby_any _ _).mono ?_; rintro e w' ⟨rfl, rfl⟩))
    go_ret
    exact ⟨rfl, by go_grown⟩

set_option maxHeartbeats 1000000 in
theorem rOrder_s (k i u : Int) (s s' : ByteArray) (w : World) (h : (s.toList == s'.toList) = false) :
    Calls Tryz.prog 14 #[.agg #[.int .i64 k, .int .i64 i, .int .u64 u, .string s], .agg #[.int .i64 k, .int .i64 i, .int .u64 u, .string s']] w fun e w' => e = .returned (.int .i64 (ord k i u s k i u s')) ∧ Below w.heap.size w w' := by
  have h0 := eqB k
  have h2 := eqB i
  have h3 := eqB u
  rw [show ord k i u s k i u s' = if Op.bytesLess s.toList s'.toList = true then -1 else 1 by unfold ord or4 cmpS; rw [cmpI_self, cmpI_self, cmpI_self, h]; simp]
  obtain ⟨b, hb⟩ : ∃ b, b = Op.bytesLess s.toList s'.toList := ⟨_, rfl⟩
  rw [← hb]
  cases b
  all_goals
    have hb' := hb.symm
    clear hb
    go_enter Tryz.func14, Tryz.ntmps14
    go_wp2_with (first | (go_at_call 35; refine (rby_any _ _).mono ?_; rintro e w' ⟨rfl, rfl⟩))
    go_ret
    exact ⟨rfl, by go_grown⟩

set_option maxHeartbeats 1000000 in
theorem rOrder_same (k i u : Int) (s s' : ByteArray) (w : World) (h : (s.toList == s'.toList) = true) (h' : Op.bytesLess s.toList s'.toList = false) :
    Calls Tryz.prog 14 #[.agg #[.int .i64 k, .int .i64 i, .int .u64 u, .string s], .agg #[.int .i64 k, .int .i64 i, .int .u64 u, .string s']] w fun e w' => e = .returned (.int .i64 (ord k i u s k i u s')) ∧ Below w.heap.size w w' := by
  have h0 := eqB k
  have h2 := eqB i
  have h3 := eqB u
  rw [show ord k i u s k i u s' = 0 by unfold ord or4 cmpS; rw [cmpI_self, cmpI_self, cmpI_self, h, h']; simp]
  go_enter Tryz.func14, Tryz.ntmps14
  go_wp2_with (first | (go_at_call 35; refine (rby_any _ _).mono ?_; rintro e w' ⟨rfl, rfl⟩))
  go_ret
  exact ⟨rfl, by go_grown⟩

theorem less_irrefl : ∀ l : List UInt8, Op.bytesLess l l = false
  | [] => rfl
  | a :: l => by
    have := less_irrefl l
    simp [Op.bytesLess, this]

theorem rOrder_any (k i u : Int) (s : ByteArray) (k' i' u' : Int) (s' : ByteArray) (w : World) :
    Calls Tryz.prog 14 #[.agg #[.int .i64 k, .int .i64 i, .int .u64 u, .string s], .agg #[.int .i64 k', .int .i64 i', .int .u64 u', .string s']] w fun e w' => e = .returned (.int .i64 (ord k i u s k' i' u' s')) ∧ Below w.heap.size w w' := by
  by_cases hk : k = k'
  · subst hk
    by_cases hi : i = i'
    · subst hi
      by_cases hu : u = u'
      · subst hu
        cases hs : s.toList == s'.toList
        · exact rOrder_s k i u s s' w hs
        · have e : s.toList = s'.toList := by simpa using hs
          exact rOrder_same k i u s s' w hs (by rw [e]; exact less_irrefl _)
      · exact rOrder_u k i u s u' s' w hu
    · exact rOrder_i k i u s i' u' s' w hi
  · exact rOrder_k k i u s k' i' u' s' w hk
end Go.Proofs.YtifmfcaaofiboaaGreatDoor

/-
  cmp.Compare at four types, cmp.Or at int.
-/
import Derived.Test.YtifmfcaaofiboaaGreatDoorBase
namespace Go.Proofs.YtifmfcaaofiboaaGreatDoor
open Go.RowKit

def cmpI (a b : Int) : Int := if a < b then -1 else if b < a then 1 else 0
def cmpS (a b : ByteArray) : Int := if Op.bytesLess a.toList b.toList = true then -1 else if (a.toList == b.toList) = true then 0 else 1

theorem nan_kind (a : Int) (w : World) : Calls Tryz.prog 49 #[.int .i64 a] w fun e w' => e = .returned (.bool false) ∧ w = w' := by
  go_enter Tryz.func49, Tryz.ntmps49
  go_wp2
  go_ret
  simp
theorem nan_int64 (a : Int) (w : World) : Calls Tryz.prog 50 #[.int .i64 a] w fun e w' => e = .returned (.bool false) ∧ w = w' := by
  go_enter Tryz.func50, Tryz.ntmps50
  go_wp2
  go_ret
  simp
theorem nan_uint64 (a : Int) (w : World) : Calls Tryz.prog 51 #[.int .u64 a] w fun e w' => e = .returned (.bool false) ∧ w = w' := by
  go_enter Tryz.func51, Tryz.ntmps51
  go_wp2
  go_ret
  simp
theorem nan_string (a : ByteArray) (w : World) : Calls Tryz.prog 52 #[.string a] w fun e w' => e = .returned (.bool false) ∧ w = w' := by
  go_enter Tryz.func52, Tryz.ntmps52
  go_wp2
  go_ret
  simp
theorem nan_int (a : Int) (w : World) : Calls Tryz.prog 82 #[.int .i64 a] w fun e w' => e = .returned (.bool false) ∧ w = w' := by
  go_enter Tryz.func82, Tryz.ntmps82
  go_wp2
  go_ret
  simp

theorem cmp_kind (a b : Int) (w : World) :
    Calls Tryz.prog 31 #[.int .i64 a, .int .i64 b] w fun e w' => e = .returned (.int .i64 (cmpI a b)) ∧ w = w' := by
  unfold cmpI
  go_enter Tryz.func31, Tryz.ntmps31
  go_wp2_with (first | (go_at_call 49; refine (nan_kind _ _).mono ?_; rintro e w' ⟨rfl, rfl⟩))
  all_goals go_ret
  all_goals exact ⟨rfl, rfl⟩
theorem cmp_int64 (a b : Int) (w : World) :
    Calls Tryz.prog 32 #[.int .i64 a, .int .i64 b] w fun e w' => e = .returned (.int .i64 (cmpI a b)) ∧ w = w' := by
  unfold cmpI
  go_enter Tryz.func32, Tryz.ntmps32
  go_wp2_with (first | (go_at_call 50; refine (nan_int64 _ _).mono ?_; rintro e w' ⟨rfl, rfl⟩))
  all_goals go_ret
  all_goals exact ⟨rfl, rfl⟩
theorem cmp_uint64 (a b : Int) (w : World) :
    Calls Tryz.prog 33 #[.int .u64 a, .int .u64 b] w fun e w' => e = .returned (.int .i64 (cmpI a b)) ∧ w = w' := by
  unfold cmpI
  go_enter Tryz.func33, Tryz.ntmps33
  go_wp2_with (first | (go_at_call 51; refine (nan_uint64 _ _).mono ?_; rintro e w' ⟨rfl, rfl⟩))
  all_goals go_ret
  all_goals exact ⟨rfl, rfl⟩
theorem cmp_int (a b : Int) (w : World) :
    Calls Tryz.prog 53 #[.int .i64 a, .int .i64 b] w fun e w' => e = .returned (.int .i64 (cmpI a b)) ∧ w = w' := by
  unfold cmpI
  go_enter Tryz.func53, Tryz.ntmps53
  go_wp2_with (first | (go_at_call 82; refine (nan_int _ _).mono ?_; rintro e w' ⟨rfl, rfl⟩))
  all_goals go_ret
  all_goals exact ⟨rfl, rfl⟩
theorem cmp_string (a b : ByteArray) (w : World) :
    Calls Tryz.prog 34 #[.string a, .string b] w fun e w' => e = .returned (.int .i64 (cmpS a b)) ∧ w = w' := by
  unfold cmpS
  cases h1 : Op.bytesLess a.toList b.toList
  · cases h2 : a.toList == b.toList
    · go_enter Tryz.func34, Tryz.ntmps34
      go_wp2_with (first | (go_at_call 52; refine (nan_string _ _).mono ?_; rintro e w' ⟨rfl, rfl⟩))
      all_goals go_ret
      all_goals exact ⟨rfl, rfl⟩
    · go_enter Tryz.func34, Tryz.ntmps34
      go_wp2_with (first | (go_at_call 52; refine (nan_string _ _).mono ?_; rintro e w' ⟨rfl, rfl⟩))
      all_goals go_ret
      all_goals exact ⟨rfl, rfl⟩
  · go_enter Tryz.func34, Tryz.ntmps34
    go_wp2_with (first | (go_at_call 52; refine (nan_string _ _).mono ?_; rintro e w' ⟨rfl, rfl⟩))
    all_goals go_ret
    all_goals exact ⟨rfl, rfl⟩
/-- the first one that is not 0 -/
def or4 (a b c d : Int) : Int := if a ≠ 0 then a else if b ≠ 0 then b else if c ≠ 0 then c else d
set_option maxHeartbeats 1000000 in
theorem cmp_or (r : Nat) (a b c d : Int) (w : World) (h0 : w.cell? ⟨r, 0, none⟩ = some (.int .i64 a)) (h1 : w.cell? ⟨r, 1, none⟩ = some (.int .i64 b)) (h2 : w.cell? ⟨r, 2, none⟩ = some (.int .i64 c)) (h3 : w.cell? ⟨r, 3, none⟩ = some (.int .i64 d)) :
    Calls Tryz.prog 30 #[.slice (some ⟨r, 0, none⟩) 4 4] w fun e w' => e = .returned (.int .i64 (or4 a b c d)) ∧ w = w' := by
  by_cases ha : a = 0
  · subst ha
    by_cases hb : b = 0
    · subst hb
      by_cases hc : c = 0
      · subst hc
        by_cases hd : d = 0
        · subst hd
          go_enter Tryz.func30, Tryz.ntmps30
          go_wp2
          go_rounds 5
          go_ret
          exact ⟨by simp [or4], rfl⟩
        · have hd' : (d != 0) = true := by simpa using hd
          go_enter Tryz.func30, Tryz.ntmps30
          go_wp2
          go_rounds 5
          go_ret
          exact ⟨by simp [or4], rfl⟩
      · have hc' : (c != 0) = true := by simpa using hc
        go_enter Tryz.func30, Tryz.ntmps30
        go_wp2
        go_rounds 5
        go_ret
        exact ⟨by simp [or4, hc], rfl⟩
    · have hb' : (b != 0) = true := by simpa using hb
      go_enter Tryz.func30, Tryz.ntmps30
      go_wp2
      go_rounds 5
      go_ret
      exact ⟨by simp [or4, hb], rfl⟩
  · have ha' : (a != 0) = true := by simpa using ha
    go_enter Tryz.func30, Tryz.ntmps30
    go_wp2
    go_rounds 5
    go_ret
    exact ⟨by simp [or4, ha], rfl⟩
end Go.Proofs.YtifmfcaaofiboaaGreatDoor

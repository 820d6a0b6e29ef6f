/-
  Names: schema.isName and swingbridgeref03.Name answer alike: 'nameOk'.
-/
import Derived.Test.YtocmjlnhcloccaaGreatDoorSKind
import Derived.Lib.Bytes
namespace Go.Proofs.YtocmjlnhcloccaaGreatDoor
open Go.RowKit

/-- may a letter stand at that place of a name? -/
def chB (i : Nat) (c : Nat) : Bool := (decide (97 ≤ c) && decide (c ≤ 122)) || (decide (0 < i) && (decide (c = 95) || (decide (48 ≤ c) && decide (c ≤ 57))))
def chsTo (l : List UInt8) (k : Nat) : Bool := (List.range k).all fun i => chB i (l.getD i 0).toNat
/-- may a name be? -/
def nameOk (s : ByteArray) : Bool := decide (1 ≤ s.size) && (decide (s.size ≤ 24) && chsTo s.data.toList s.size)
theorem chsTo_succ (s : ByteArray) (k : Nat) (h : k < s.size) : chsTo s.data.toList (k + 1) = (chsTo s.data.toList k && chB k s[k].toNat) := by
  unfold chsTo
  rw [List.range_succ, List.all_append]
  have e : s.data.toList.getD k 0 = s[k] := by
    rw [List.getD_eq_getElem?_getD, List.getElem?_eq_getElem (by simpa using h)]
    rfl
  rw [List.all_cons, List.all_nil, e, Bool.and_true]
theorem chsTo_le (l : List UInt8) : ∀ (n k : Nat), k ≤ n → chsTo l k = false → chsTo l n = false := by
  intro n k h hk
  unfold chsTo at *
  rw [List.all_eq_false] at *
  obtain ⟨x, hx, hp⟩ := hk
  exact ⟨x, by rw [List.mem_range] at *; omega, hp⟩
theorem notEmpty {s : ByteArray} (h : 1 ≤ s.size) : s.toList.isEmpty = false := by
  cases e : s.toList with
  | nil =>
    have h2 := congrArg List.length e
    rw [ByteArray.toList_eq] at h2
    simp at h2
    have h3 : s.size = s.data.size := rfl
    rw [h3, h2] at h
    cases h
  | cons => rfl
theorem eqI (a : Nat) (b : Int) : (((a : Int) == b) = true ∧ ((a : Int) != b) = false ∧ b ≤ a ∧ a ≤ b) ∨ (((a : Int) == b) = false ∧ ((a : Int) != b) = true ∧ (a < b ∨ b < a)) := by
  by_cases h : (a : Int) = b
  · exact .inl ⟨by simpa using h, by simpa using h, by omega, by omega⟩
  · exact .inr ⟨by simpa using h, by simpa using h, by omega⟩
theorem chB_yes {i c : Nat} (h : chB i c = true) : (97 ≤ c ∧ c ≤ 122) ∨ (0 < i ∧ (c = 95 ∨ (48 ≤ c ∧ c ≤ 57))) := by
  unfold chB at h
  simpa using h
theorem chB_no {i c : Nat} (h : chB i c = false) : ¬ ((97 ≤ c ∧ c ≤ 122) ∨ (0 < i ∧ (c = 95 ∨ (48 ≤ c ∧ c ≤ 57)))) := by
  intro hc
  rw [show chB i c = true by unfold chB; simpa using hc] at h
  cases h
theorem nameOk_no {s : ByteArray} {k : Nat} (hk : k < s.size) (h : chB k s[k].toNat = false) : nameOk s = false := by
  unfold nameOk
  rw [chsTo_le s.data.toList s.size (k + 1) hk (by rw [chsTo_succ s k hk, h, Bool.and_false])]
  simp

set_option maxRecDepth 100000 in
set_option maxHeartbeats 2000000 in
theorem isName_any (s : ByteArray) (w : World) (hs : s.size ≤ 9223372036854775807) : Calls Tryz.prog 136 #[.string s] w fun e w' => e = .returned (.bool (nameOk s)) ∧ w = w' := by
  by_cases h1 : 1 ≤ s.size
  · by_cases h2 : s.size ≤ 24
    · have hne := notEmpty h1
      go_enter Tryz.func136, Tryz.ntmps136
      go_wp2
      go_loop [14] (fun i => ∃ k : Nat, k ≤ s.size ∧ i = .int .i64 k ∧ Hid (chsTo s.data.toList k = true)) (fun i => s.size - (intOf i).toNat)
      case atStart => exact ⟨0, Nat.zero_le _, rfl, Lib.hid rfl⟩
      case round =>
        obtain ⟨k, hk, rfl, HK⟩ := hrel
        by_cases hlt : k < s.size
        · cases hc : chB k s[k].toNat
          · have h3 := chB_no hc
            have HN := Lib.hid (nameOk_no hlt hc)
            clear hc
            rcases eqI s[k].toNat 95 with ⟨q1, q2, q3, q4⟩ | ⟨q1, q2, q3⟩
            all_goals rcases eqI k 0 with ⟨p1, p2, p3, p4⟩ | ⟨p1, p2, p3⟩
            all_goals go_wp2
            all_goals first
              | (exfalso; omega)
              | (go_ret; exact ⟨by rw [HN.out]; rfl, rfl⟩)
          · have h3 := chB_yes hc
            have HN := Lib.hid (show chsTo s.data.toList (k + 1) = true by rw [chsTo_succ s k hlt, hc, HK.out]; rfl)
            clear hc
            rcases eqI s[k].toNat 95 with ⟨q1, q2, q3, q4⟩ | ⟨q1, q2, q3⟩
            all_goals rcases eqI k 0 with ⟨p1, p2, p3, p4⟩ | ⟨p1, p2, p3⟩
            all_goals go_wp2
            all_goals first
              | (exfalso; omega)
              | (go_round
                 case rel => exact ⟨k + 1, by omega, by go_num, HN⟩
                 case measure => simp [intOf]; omega)
        · have HN := Lib.hid (show nameOk s = true by obtain rfl : k = s.size := (by omega); unfold nameOk; rw [HK.out]; simp [h1, h2])
          go_wp2
          go_ret
          exact ⟨by rw [HN.out]; rfl, rfl⟩
    · have hne := notEmpty h1
      have HN := Lib.hid (show nameOk s = false by unfold nameOk; simp [h2])
      go_enter Tryz.func136, Tryz.ntmps136
      go_wp2
      go_ret
      exact ⟨by rw [HN.out]; rfl, rfl⟩
  · obtain rfl : s = ⟨#[]⟩ := by
      have h0 : s.data.size = 0 := by have : s.size = s.data.size := rfl; omega
      cases s with
      | mk d =>
        have : d = #[] := Array.eq_empty_of_size_eq_zero h0
        rw [this]
    go_enter Tryz.func136, Tryz.ntmps136
    go_wp2
    go_ret
    exact ⟨rfl, rfl⟩

set_option maxRecDepth 100000 in
set_option maxHeartbeats 2000000 in
theorem rName_any (s : ByteArray) (w : World) (hs : s.size ≤ 9223372036854775807) : Calls Tryz.prog 70 #[.string s] w fun e w' => e = .returned (.bool (nameOk s)) ∧ w = w' := by
  go_enter Tryz.func70, Tryz.ntmps70
  go_wp2
  go_loop [3] (fun i => ∃ k : Nat, k ≤ s.size ∧ i = .int .i64 k ∧ Hid (chsTo s.data.toList k = true)) (fun i => s.size - (intOf i).toNat)
  case atStart => exact ⟨0, Nat.zero_le _, rfl, Lib.hid rfl⟩
  case round =>
    obtain ⟨k, hk, rfl, HK⟩ := hrel
    by_cases hlt : k < s.size
    · cases hc : chB k s[k].toNat
      · have h3 := chB_no hc
        have HN := Lib.hid (nameOk_no hlt hc)
        clear hc
        rcases eqI s[k].toNat 95 with ⟨q1, q2, q3, q4⟩ | ⟨q1, q2, q3⟩
        all_goals rcases eqI k 0 with ⟨p1, p2, p3, p4⟩ | ⟨p1, p2, p3⟩
        all_goals go_wp2
        all_goals first
          | (exfalso; omega)
          | (go_ret; exact ⟨by rw [HN.out]; rfl, rfl⟩)
          | (exfalso; simp only [Bool.not_eq_eq_eq_not, Bool.not_false, decide_eq_true_eq] at *; omega)
      · have h3 := chB_yes hc
        have HN := Lib.hid (show chsTo s.data.toList (k + 1) = true by rw [chsTo_succ s k hlt, hc, HK.out]; rfl)
        clear hc
        rcases eqI s[k].toNat 95 with ⟨q1, q2, q3, q4⟩ | ⟨q1, q2, q3⟩
        all_goals rcases eqI k 0 with ⟨p1, p2, p3, p4⟩ | ⟨p1, p2, p3⟩
        all_goals go_wp2
        all_goals first
          | (exfalso; omega)
          | (go_round
             case rel => exact ⟨k + 1, by omega, by go_num, HN⟩
             case measure => simp [intOf]; omega)
    · obtain rfl : k = s.size := by omega
      by_cases h1 : 1 ≤ s.size
      · by_cases h2 : s.size ≤ 24
        · have HN := Lib.hid (show nameOk s = true by unfold nameOk; rw [HK.out]; simp [h1, h2])
          have hd : decide ((s.size : Int) ≤ 24) = true := by rw [decide_eq_true_eq]; omega
          go_wp2
          go_ret
          exact ⟨by rw [HN.out]; rfl, rfl⟩
        · have HN := Lib.hid (show nameOk s = false by unfold nameOk; simp [h2])
          have hd : decide ((s.size : Int) ≤ 24) = false := by rw [decide_eq_false_iff_not]; omega
          go_wp2
          go_ret
          exact ⟨by rw [HN.out]; rfl, rfl⟩
      · have HN := Lib.hid (show nameOk s = false by unfold nameOk; simp [h1])
        go_wp2
        go_ret
        exact ⟨by rw [HN.out]; rfl, rfl⟩
end Go.Proofs.YtocmjlnhcloccaaGreatDoor

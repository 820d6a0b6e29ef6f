/-
  value.number: a number up to a bound, as numbers are written.
-/
import Derived.Test.YtifmfcaaofiboaaGreatDoorTaker
namespace Go.Proofs.YtifmfcaaofiboaaGreatDoor
open Go.RowKit

theorem taker1_digit (A S B : Nat) (s : ByteArray) (k : Nat) (d : Int) (w : World) (hA : w.cell? ⟨A, 0, none⟩ = some (.int .i64 k)) (hS : w.cell? ⟨S, 0, none⟩ = some (.string s)) (hB : w.cell? ⟨B, 0, none⟩ = some (.int .i64 10)) (hf : w.frozen? ⟨A, 0, none⟩ = false) (hk : k < s.size) (hz : s.size ≤ 9223372036854775806) (hd : dig 10 s[k] = d) (h0 : 0 ≤ d) :
    Calls Tryz.prog 116 #[.pointer (some ⟨A, 0, none⟩), .pointer (some ⟨S, 0, none⟩), .pointer (some ⟨B, 0, none⟩)] w fun e w' => e = .returned (.tuple #[.int .u64 d, .bool true]) ∧ ∃ q, (w.drewN q).setCell ⟨A, 0, none⟩ (.int .i64 (k + 1)) = w' := by
  refine (taker1_at10 A S B s k _ w hA hS hB hf hk hz rfl).mono ?_
  rintro e w' ⟨rfl, hw⟩
  refine ⟨?_, hw⟩
  rw [hd, show max d 0 = d by omega, show decide (0 ≤ d) = true by simpa using h0]
theorem taker1_none (A S B : Nat) (s : ByteArray) (k : Nat) (w : World) (hA : w.cell? ⟨A, 0, none⟩ = some (.int .i64 k)) (hS : w.cell? ⟨S, 0, none⟩ = some (.string s)) (hB : w.cell? ⟨B, 0, none⟩ = some (.int .i64 10)) (hf : w.frozen? ⟨A, 0, none⟩ = false) (hk : k < s.size) (hz : s.size ≤ 9223372036854775806) (hd : dig 10 s[k] < 0) :
    Calls Tryz.prog 116 #[.pointer (some ⟨A, 0, none⟩), .pointer (some ⟨S, 0, none⟩), .pointer (some ⟨B, 0, none⟩)] w fun e w' => e = .returned (.tuple #[.int .u64 0, .bool false]) ∧ ∃ q, (w.drewN q).setCell ⟨A, 0, none⟩ (.int .i64 (k + 1)) = w' := by
  refine (taker1_at10 A S B s k _ w hA hS hB hf hk hz rfl).mono ?_
  rintro e w' ⟨rfl, hw⟩
  refine ⟨?_, hw⟩
  rw [show max (dig 10 s[k]) 0 = 0 by omega, show decide (0 ≤ dig 10 s[k]) = false by simpa using hd]

/-- digits from the left, up to m -/
def numGo (m : Int) : List UInt8 → Int → Option Int
  | [], n => some n
  | c :: l, n => if 0 ≤ dig 10 c ∧ n ≤ (m - dig 10 c) / 10 then numGo m l (n * 10 + dig 10 c) else none
def numOf (m : Int) (l : List UInt8) : Option Int := if l = [] ∨ (1 < l.length ∧ l.head? = some 48) then none else numGo m l 0
/-- k digits are read: they make v -/
def NumRel (m : Int) (l : List UInt8) (k : Nat) (v : Int) : Prop := numGo m l 0 = numGo m (l.drop k) v
theorem NumRel.yes {m : Int} {s : ByteArray} {k : Nat} {v d : Int} (h : NumRel m s.data.toList k v) (hk : k < s.size) (hd : dig 10 s[k] = d) (h0 : 0 ≤ d) (h1 : v ≤ (m - d) / 10) : NumRel m s.data.toList (k + 1) (v * 10 + d) := by
  unfold NumRel at *
  rw [h, List.drop_eq_getElem_cons (by simpa using hk)]
  rw [show s.data.toList[k]'(by simpa using hk) = s[k] from rfl]
  simp only [numGo]
  rw [hd, if_pos ⟨h0, h1⟩]
theorem NumRel.no {m : Int} {s : ByteArray} {k : Nat} {v : Int} (h : NumRel m s.data.toList k v) (hk : k < s.size) (h0 : ¬ (0 ≤ dig 10 s[k] ∧ v ≤ (m - dig 10 s[k]) / 10)) : numGo m s.data.toList 0 = none := by
  unfold NumRel at h
  rw [h, List.drop_eq_getElem_cons (by simpa using hk)]
  rw [show s.data.toList[k]'(by simpa using hk) = s[k] from rfl]
  simp only [numGo]
  rw [if_neg h0]
theorem NumRel.all {m : Int} {s : ByteArray} {v : Int} (h : NumRel m s.data.toList s.size v) : numGo m s.data.toList 0 = some v := by
  unfold NumRel at h
  rw [h, List.drop_of_length_le (by simp)]
  rfl

/-- a result as value.number gives it -/
def numRes : Option Int → Value
  | some n => .tuple #[.int .u64 n, .bool true]
  | none => .tuple #[.int .u64 0, .bool false]

set_option maxRecDepth 100000 in
set_option maxHeartbeats 2000000 in
theorem number_loop (s : ByteArray) (m : Int) (w : World) (hm0 : 9 ≤ m) (hm1 : m ≤ 18446744073709551615) (hz : s.size ≤ 9223372036854775806) (h1 : s.toList.isEmpty = false) (_h2 : ¬ s.toList = []) (hlead : s.size ≤ 1 ∨ (1 < s.size ∧ ∃ h : 0 < s.size, ((s[0].toNat : Int) == 48) = false)) :
    Calls Tryz.prog 97 #[.string s, .int .u64 m] w fun e w' => e = .returned (numRes (numGo m s.data.toList 0)) ∧ Below w.heap.size w w' := by
  have hdd : ∀ k : Nat, (h : k < s.size) → -1 ≤ dig 10 s[k] ∧ dig 10 s[k] < 10 := fun k h => dig10_bd _
  have HD := Lib.hid hdd
  clear hdd
  rcases hlead with hl | ⟨hl, hp, hl2⟩
  · go_enter Tryz.func97, Tryz.ntmps97
    go_wp2_with (first | (go_at_call 111; refine (taker_any _ _ _).mono ?_; rintro e w' ⟨rfl, rfl⟩))
    go_loopw [7, 26] (fun n i wr => ∃ (k : Nat) (v : Int), k ≤ s.size ∧ i = .int .i64 k ∧ n = .int .u64 v ∧ 0 ≤ v ∧ v ≤ m ∧ NumRel m s.data.toList k v ∧ wr.cell? ⟨w.heap.size + 1 + 1, 0, none⟩ = some (.int .i64 k) ∧ wr.cell? ⟨w.heap.size, 0, none⟩ = some (.string s) ∧ wr.cell? ⟨w.heap.size + 1, 0, none⟩ = some (.int .i64 10) ∧ wr.frozen? ⟨w.heap.size + 1 + 1, 0, none⟩ = false ∧ Below w.heap.size w wr) (fun _ i _ => s.size - (intOf i).toNat)
    case atStart =>
      exact ⟨0, 0, by omega, rfl, rfl, by omega, by omega, rfl, by simp [go_sem], by simp [go_sem], by simp [go_sem], by simp [go_sem], by go_grown⟩
    case round =>
      obtain ⟨k, v, hk, rfl, rfl, hv0, hv1, hrel, hA, hS, hB, hf, hbw⟩ := hrel
      by_cases hlt : k < s.size
      · have hd := HD.out k hlt
        by_cases hd0 : 0 ≤ dig 10 s[k]
        · by_cases hd1 : v ≤ (m - dig 10 s[k]) / 10
          · have hnext := hrel.yes hlt rfl hd0 hd1
            have C := Lib.hid (taker1_digit _ _ (w.heap.size + 1) s k _ wr hA hS hB hf hlt hz rfl hd0)
            generalize dig 10 s[k] = d at *
            have HN := Lib.hid hnext
            clear hnext hrel
            go_wp2_with (first | (go_at_call 116; refine C.out.mono ?_; rintro e w' ⟨rfl, q, rfl⟩))
            go_roundw
            case rel => exact ⟨k + 1, v * 10 + d, by omega, by go_num, rfl, by omega, by omega, HN.out, by simp [go_sem, hA], by simp [go_sem, hS], by simp [go_sem, hB], by simp [go_sem, hf], below_drewN (hbw.setCell (by simp; omega) _) _⟩
            case measure => simp [intOf]; omega
          · have hno := hrel.no hlt (fun h => hd1 h.2)
            have C := Lib.hid (taker1_digit _ _ (w.heap.size + 1) s k _ wr hA hS hB hf hlt hz rfl hd0)
            generalize dig 10 s[k] = d at *
            have HN := Lib.hid hno
            clear hno hrel
            go_wp2_with (first | (go_at_call 116; refine C.out.mono ?_; rintro e w' ⟨rfl, q, rfl⟩))
            go_ret2
            exact ⟨by rw [HN.out]; rfl, below_drewN (hbw.setCell (by simp; omega) _) _⟩
        · have hno := hrel.no hlt (fun h => hd0 h.1)
          have C := Lib.hid (taker1_none _ _ (w.heap.size + 1) s k wr hA hS hB hf hlt hz (by omega))
          have HN := Lib.hid hno
          clear hno hrel hd hd0
          go_wp2_with (first | (go_at_call 116; refine C.out.mono ?_; rintro e w' ⟨rfl, q, rfl⟩))
          go_ret2
          exact ⟨by rw [HN.out]; rfl, below_drewN (hbw.setCell (by simp; omega) _) _⟩
      · obtain rfl : k = s.size := by omega
        have HN := Lib.hid hrel.all
        clear hrel
        go_wp2_with fail
        go_ret2
        exact ⟨by rw [HN.out]; rfl, hbw⟩
  · go_enter Tryz.func97, Tryz.ntmps97
    go_wp2_with (first | (go_at_call 111; refine (taker_any _ _ _).mono ?_; rintro e w' ⟨rfl, rfl⟩))
    go_loopw [7, 26] (fun n i wr => ∃ (k : Nat) (v : Int), k ≤ s.size ∧ i = .int .i64 k ∧ n = .int .u64 v ∧ 0 ≤ v ∧ v ≤ m ∧ NumRel m s.data.toList k v ∧ wr.cell? ⟨w.heap.size + 1 + 1, 0, none⟩ = some (.int .i64 k) ∧ wr.cell? ⟨w.heap.size, 0, none⟩ = some (.string s) ∧ wr.cell? ⟨w.heap.size + 1, 0, none⟩ = some (.int .i64 10) ∧ wr.frozen? ⟨w.heap.size + 1 + 1, 0, none⟩ = false ∧ Below w.heap.size w wr) (fun _ i _ => s.size - (intOf i).toNat)
    case atStart =>
      exact ⟨0, 0, by omega, rfl, rfl, by omega, by omega, rfl, by simp [go_sem], by simp [go_sem], by simp [go_sem], by simp [go_sem], by go_grown⟩
    case round =>
      obtain ⟨k, v, hk, rfl, rfl, hv0, hv1, hrel, hA, hS, hB, hf, hbw⟩ := hrel
      by_cases hlt : k < s.size
      · have hd := HD.out k hlt
        by_cases hd0 : 0 ≤ dig 10 s[k]
        · by_cases hd1 : v ≤ (m - dig 10 s[k]) / 10
          · have hnext := hrel.yes hlt rfl hd0 hd1
            have C := Lib.hid (taker1_digit _ _ (w.heap.size + 1) s k _ wr hA hS hB hf hlt hz rfl hd0)
            generalize dig 10 s[k] = d at *
            have HN := Lib.hid hnext
            clear hnext hrel
            go_wp2_with (first | (go_at_call 116; refine C.out.mono ?_; rintro e w' ⟨rfl, q, rfl⟩))
            go_roundw
            case rel => exact ⟨k + 1, v * 10 + d, by omega, by go_num, rfl, by omega, by omega, HN.out, by simp [go_sem, hA], by simp [go_sem, hS], by simp [go_sem, hB], by simp [go_sem, hf], below_drewN (hbw.setCell (by simp; omega) _) _⟩
            case measure => simp [intOf]; omega
          · have hno := hrel.no hlt (fun h => hd1 h.2)
            have C := Lib.hid (taker1_digit _ _ (w.heap.size + 1) s k _ wr hA hS hB hf hlt hz rfl hd0)
            generalize dig 10 s[k] = d at *
            have HN := Lib.hid hno
            clear hno hrel
            go_wp2_with (first | (go_at_call 116; refine C.out.mono ?_; rintro e w' ⟨rfl, q, rfl⟩))
            go_ret2
            exact ⟨by rw [HN.out]; rfl, below_drewN (hbw.setCell (by simp; omega) _) _⟩
        · have hno := hrel.no hlt (fun h => hd0 h.1)
          have C := Lib.hid (taker1_none _ _ (w.heap.size + 1) s k wr hA hS hB hf hlt hz (by omega))
          have HN := Lib.hid hno
          clear hno hrel hd hd0
          go_wp2_with (first | (go_at_call 116; refine C.out.mono ?_; rintro e w' ⟨rfl, q, rfl⟩))
          go_ret2
          exact ⟨by rw [HN.out]; rfl, below_drewN (hbw.setCell (by simp; omega) _) _⟩
      · obtain rfl : k = s.size := by omega
        have HN := Lib.hid hrel.all
        clear hrel
        go_wp2_with fail
        go_ret2
        exact ⟨by rw [HN.out]; rfl, hbw⟩

theorem head_48 (s : ByteArray) (h : 0 < s.size) : (s.data.toList.head? = some 48) ↔ ((s[0].toNat : Int) == 48) = true := by
  obtain ⟨⟨l⟩⟩ := s
  cases l with
  | nil => simp [ByteArray.size] at h
  | cons c l =>
    show some c = some 48 ↔ ((c.toNat : Int) == 48) = true
    rw [Option.some.injEq, beq_iff_eq]
    constructor
    · rintro rfl; rfl
    · intro hc
      apply UInt8.toNat_inj.1
      show c.toNat = 48
      omega
theorem number_empty (m : Int) (w : World) :
    Calls Tryz.prog 97 #[.string ⟨#[]⟩, .int .u64 m] w fun e w' => e = .returned (.tuple #[.int .u64 0, .bool false]) ∧ Below w.heap.size w w' := by
  go_enter Tryz.func97, Tryz.ntmps97
  go_wp2_with fail
  go_ret2
  exact ⟨rfl, by go_grown⟩
theorem number_lead (s : ByteArray) (m : Int) (w : World) (hl : 1 < s.size) (hz : s.size ≤ 9223372036854775806) (h0 : 0 < s.size) (h1 : s.toList.isEmpty = false) (_h2 : ¬ s.toList = []) (hc : ((s[0].toNat : Int) == 48) = true) :
    Calls Tryz.prog 97 #[.string s, .int .u64 m] w fun e w' => e = .returned (.tuple #[.int .u64 0, .bool false]) ∧ Below w.heap.size w w' := by
  go_enter Tryz.func97, Tryz.ntmps97
  go_wp2_with fail
  go_ret2
  exact ⟨rfl, by go_grown⟩
theorem number_any (s : ByteArray) (m : Int) (w : World) (hm0 : 9 ≤ m) (hm1 : m ≤ 18446744073709551615) (hz : s.size ≤ 9223372036854775806) :
    Calls Tryz.prog 97 #[.string s, .int .u64 m] w fun e w' => e = .returned (numRes (numOf m s.data.toList)) ∧ Below w.heap.size w w' := by
  by_cases he : s.toList = []
  · have hs : s = ⟨#[]⟩ := by
      rw [ByteArray.toList_eq] at he
      obtain ⟨⟨l⟩⟩ := s
      simp at he
      subst he
      rfl
    subst hs
    exact number_empty m w
  · have h1 : s.toList.isEmpty = false := by cases h : s.toList <;> simp_all
    have hl : s.data.toList ≠ [] := by rw [← ByteArray.toList_eq]; exact he
    have hp : 0 < s.size := by
      rcases Nat.eq_zero_or_pos s.size with h | h
      · exact absurd (List.eq_nil_of_length_eq_zero (by simpa using h)) hl
      · exact h
    by_cases hb : 1 < s.size
    · cases hc : ((s[0].toNat : Int) == 48)
      · have e : numOf m s.data.toList = numGo m s.data.toList 0 := by
          unfold numOf
          rw [if_neg]
          rintro (h | ⟨_, h⟩)
          · exact hl h
          · rw [head_48 s hp, hc] at h; cases h
        rw [e]
        exact number_loop s m w hm0 hm1 hz h1 he (.inr ⟨hb, hp, hc⟩)
      · have e : numOf m s.data.toList = none := by
          unfold numOf
          rw [if_pos (.inr ⟨by simpa using hb, (head_48 s hp).2 hc⟩)]
        rw [e]
        exact number_lead s m w hb hz hp h1 he hc
    · have e : numOf m s.data.toList = numGo m s.data.toList 0 := by
        unfold numOf
        rw [if_neg]
        rintro (h | ⟨h, _⟩)
        · exact hl h
        · exact hb (by simpa using h)
      rw [e]
      exact number_loop s m w hm0 hm1 hz h1 he (.inl (by omega))
end Go.Proofs.YtifmfcaaofiboaaGreatDoor

/-
  swingbridgeref06.Convert.
-/
import Derived.Test.YtmgeefhacnadcaaGreatDoorVPure
import Derived.Test.YtmgeefhacnadcaaGreatDoorVTurns
import Derived.Test.YtmgeefhacnadcaaGreatDoorVRs
namespace Go.Proofs.YtmgeefhacnadcaaGreatDoor
open Go.RowKit

set_option maxRecDepth 100000 in
set_option maxHeartbeats 2000000 in
theorem r6uns_loop (s : ByteArray) (w : World) (hz : s.size ≤ 9223372036854775807) (_h2 : ¬ s.toList = []) (hp : 0 < s.size) (hlead : (1 < s.size ∧ ((s[0].toNat : Int) == 48) = false) ∨ s.size ≤ 1) :
    Calls Tryz.prog 69 #[.string s] w fun e w' => e = .returned (numRes (numGo 18446744073709551615 s.data.toList 0)) ∧ Below w.heap.size w w' := by
  have h0 : ((s.size : Int) == 0) = false := by rw [beq_eq_false_iff_ne]; omega
  rcases hlead with ⟨hl1, hl⟩ | hl1
  · go_enter Tryz.func69, Tryz.ntmps69
    go_wp2
    go_loop [4, 5] (fun n i => ∃ (k : Nat) (v : Int), k ≤ s.size ∧ i = .int .i64 k ∧ n = .int .u64 v ∧ 0 ≤ v ∧ v ≤ 18446744073709551615 ∧ NumRel 18446744073709551615 s.data.toList k v) (fun _ i => s.size - (intOf i).toNat)
    case atStart => exact ⟨0, 0, by omega, rfl, rfl, by omega, by omega, rfl⟩
    case round =>
      obtain ⟨k, v, hk, rfl, rfl, hv0, hv1, hrel⟩ := hrel
      by_cases hlt : k < s.size
      · obtain ⟨c, hc⟩ : ∃ c, s[k] = c := ⟨_, rfl⟩
        have hc0 : (0 : Int) ≤ (c.toNat : Int) := by omega
        have hc256 : (c.toNat : Int) < 256 := by have := c.toNat_lt; omega
        by_cases hlo : (c.toNat : Int) < 48
        · have HN := Lib.hid (hrel.no' hlt hc (by omega))
          clear hrel
          go_wp2
          go_ret2
          exact ⟨by rw [HN.out]; rfl, Below.refl _ _⟩
        · by_cases hhi : 57 < (c.toNat : Int)
          · have HN := Lib.hid (hrel.no' hlt hc (by omega))
            clear hrel
            go_wp2
            go_ret2
            exact ⟨by rw [HN.out]; rfl, Below.refl _ _⟩
          · by_cases hb : v ≤ (18446744073709551615 - ((c.toNat : Int) - 48)) / 10
            · have HN := Lib.hid (hrel.yes' hlt hc (by omega) (by omega) hb)
              clear hrel
              go_wp2
              go_round
              case rel => exact ⟨k + 1, 10 * v + ((c.toNat : Int) - 48), by omega, by go_num, rfl, by omega, by omega, HN.out⟩
              case measure => simp [intOf]; omega
            · have HN := Lib.hid (hrel.no' hlt hc (by omega))
              clear hrel
              go_wp2
              go_ret2
              exact ⟨by rw [HN.out]; rfl, Below.refl _ _⟩
      · obtain rfl : k = s.size := by omega
        have HN := Lib.hid hrel.all
        clear hrel
        go_wp2
        go_ret2
        exact ⟨by rw [HN.out]; rfl, Below.refl _ _⟩
  · go_enter Tryz.func69, Tryz.ntmps69
    go_wp2
    go_loop [4, 5] (fun n i => ∃ (k : Nat) (v : Int), k ≤ s.size ∧ i = .int .i64 k ∧ n = .int .u64 v ∧ 0 ≤ v ∧ v ≤ 18446744073709551615 ∧ NumRel 18446744073709551615 s.data.toList k v) (fun _ i => s.size - (intOf i).toNat)
    case atStart => exact ⟨0, 0, by omega, rfl, rfl, by omega, by omega, rfl⟩
    case round =>
      obtain ⟨k, v, hk, rfl, rfl, hv0, hv1, hrel⟩ := hrel
      by_cases hlt : k < s.size
      · obtain ⟨c, hc⟩ : ∃ c, s[k] = c := ⟨_, rfl⟩
        have hc0 : (0 : Int) ≤ (c.toNat : Int) := by omega
        have hc256 : (c.toNat : Int) < 256 := by have := c.toNat_lt; omega
        by_cases hlo : (c.toNat : Int) < 48
        · have HN := Lib.hid (hrel.no' hlt hc (by omega))
          clear hrel
          go_wp2
          go_ret2
          exact ⟨by rw [HN.out]; rfl, Below.refl _ _⟩
        · by_cases hhi : 57 < (c.toNat : Int)
          · have HN := Lib.hid (hrel.no' hlt hc (by omega))
            clear hrel
            go_wp2
            go_ret2
            exact ⟨by rw [HN.out]; rfl, Below.refl _ _⟩
          · by_cases hb : v ≤ (18446744073709551615 - ((c.toNat : Int) - 48)) / 10
            · have HN := Lib.hid (hrel.yes' hlt hc (by omega) (by omega) hb)
              clear hrel
              go_wp2
              go_round
              case rel => exact ⟨k + 1, 10 * v + ((c.toNat : Int) - 48), by omega, by go_num, rfl, by omega, by omega, HN.out⟩
              case measure => simp [intOf]; omega
            · have HN := Lib.hid (hrel.no' hlt hc (by omega))
              clear hrel
              go_wp2
              go_ret2
              exact ⟨by rw [HN.out]; rfl, Below.refl _ _⟩
      · obtain rfl : k = s.size := by omega
        have HN := Lib.hid hrel.all
        clear hrel
        go_wp2
        go_ret2
        exact ⟨by rw [HN.out]; rfl, Below.refl _ _⟩

theorem r6uns_empty (w : World) :
    Calls Tryz.prog 69 #[.string ⟨#[]⟩] w fun e w' => e = .returned (.tuple #[.int .u64 0, .bool false]) ∧ Below w.heap.size w w' := by
  go_enter Tryz.func69, Tryz.ntmps69
  go_wp2
  go_ret2
  exact ⟨rfl, Below.refl _ _⟩
theorem r6uns_lead (s : ByteArray) (w : World) (hz : s.size ≤ 9223372036854775807) (hl : 1 < s.size) (hp : 0 < s.size) (_h2 : ¬ s.toList = []) (hc : ((s[0].toNat : Int) == 48) = true) :
    Calls Tryz.prog 69 #[.string s] w fun e w' => e = .returned (.tuple #[.int .u64 0, .bool false]) ∧ Below w.heap.size w w' := by
  have h0 : ((s.size : Int) == 0) = false := by rw [beq_eq_false_iff_ne]; omega
  go_enter Tryz.func69, Tryz.ntmps69
  go_wp2
  go_ret2
  exact ⟨rfl, Below.refl _ _⟩
theorem r6uns_any (s : ByteArray) (w : World) (hz : s.size ≤ 9223372036854775807) :
    Calls Tryz.prog 69 #[.string s] w fun e w' => e = .returned (numRes (numOf 18446744073709551615 s.data.toList)) ∧ Below w.heap.size w w' := by
  by_cases he : s.toList = []
  · obtain rfl := ba_nil s he
    exact r6uns_empty w
  · have hl : s.data.toList ≠ [] := by rw [← ByteArray.toList_eq]; exact he
    have hp : 0 < s.size := by
      rcases Nat.eq_zero_or_pos s.size with h | h
      · exact absurd (List.eq_nil_of_length_eq_zero (by simpa using h)) hl
      · exact h
    have hno48 : ((s[0].toNat : Int) == 48) = false ∨ s.size = 1 → numOf 18446744073709551615 s.data.toList = numGo 18446744073709551615 s.data.toList 0 := fun h => by
      unfold numOf
      rw [if_neg]
      rintro (h' | ⟨h', h''⟩)
      · exact hl h'
      · rcases h with h | h
        · rw [head_48 s hp, h] at h''; cases h''
        · simp at h'; omega
    by_cases hb : 1 < s.size
    · cases hc : ((s[0].toNat : Int) == 48)
      · rw [hno48 (.inl hc)]
        exact r6uns_loop s w hz he hp (.inl ⟨hb, hc⟩)
      · have e : numOf 18446744073709551615 s.data.toList = none := by
          unfold numOf
          rw [if_pos (.inr ⟨by simpa using hb, (head_48 s hp).2 hc⟩)]
        rw [e]
        exact r6uns_lead s w hz hb hp he hc
    · rw [hno48 (.inr (by omega))]
      exact r6uns_loop s w hz he hp (.inr (by omega))
end Go.Proofs.YtmgeefhacnadcaaGreatDoor
namespace Go.Proofs.YtmgeefhacnadcaaGreatDoor
open Go.RowKit

theorem num_two (u : Int) (h0 : 0 ≤ u) (h1 : u ≤ 9223372036854775807) : wrap64 (u.tmod 9223372036854775808) = u := by
  have e : u.tmod 9223372036854775808 = u := Int.tmod_eq_of_lt h0 (by omega)
  rw [e, show wrap64 u = u by unfold wrap64; omega]
set_option maxHeartbeats 1000000 in
theorem r6number_else (k i u : Int) (s : ByteArray) (w : World) (hk : k ≠ 2) : Calls Tryz.prog 70 #[.agg #[.int .i64 k, .int .i64 i, .int .u64 u, .string s]] w fun e w' => e = .returned (.tuple #[.int .i64 i, .bool true]) ∧ Below w.heap.size w w' := by
  have hb : (k == 2) = false := by simpa using hk
  go_enter Tryz.func70, Tryz.ntmps70
  go_wp2
  go_ret2
  exact ⟨rfl, by go_grown⟩
set_option maxHeartbeats 1000000 in
theorem r6number_two (i u : Int) (s : ByteArray) (w : World) : Calls Tryz.prog 70 #[.agg #[.int .i64 2, .int .i64 i, .int .u64 u, .string s]] w fun e w' => e = .returned (.tuple #[.int .i64 (wrap64 (u.tmod 9223372036854775808)), .bool (decide (u < 9223372036854775808))]) ∧ Below w.heap.size w w' := by
  go_enter Tryz.func70, Tryz.ntmps70
  go_wp2_with fail
  go_quiet (fail)
  go_wp2
  go_ret2
  exact ⟨rfl, held_trans ((Below.refl _ _).alloc (Nat.le_refl _) _) ⟨rfl, rfl, rfl, Nat.le_refl _, fun _ _ => rfl⟩⟩

set_option maxHeartbeats 1000000 in
theorem r6t_11 (i u : Int) (s : ByteArray) (w : World) : Calls Tryz.prog 31 #[.agg #[.int .i64 1, .int .i64 i, .int .u64 u, .string s], .int .i64 1] w fun e w' => e = .returned (.tuple #[.agg #[.int .i64 1, .int .i64 i, .int .u64 u, .string s], .bool true]) ∧ Below w.heap.size w w' := by
  go_enter Tryz.func31, Tryz.ntmps31
  go_wp2
  go_returns
  exact ⟨rfl, by go_grown⟩

set_option maxHeartbeats 1000000 in
theorem r6t_22 (i u : Int) (s : ByteArray) (w : World) : Calls Tryz.prog 31 #[.agg #[.int .i64 2, .int .i64 i, .int .u64 u, .string s], .int .i64 2] w fun e w' => e = .returned (.tuple #[.agg #[.int .i64 2, .int .i64 i, .int .u64 u, .string s], .bool true]) ∧ Below w.heap.size w w' := by
  go_enter Tryz.func31, Tryz.ntmps31
  go_wp2
  go_returns
  exact ⟨rfl, by go_grown⟩

set_option maxHeartbeats 1000000 in
theorem r6t_33 (i u : Int) (s : ByteArray) (w : World) : Calls Tryz.prog 31 #[.agg #[.int .i64 3, .int .i64 i, .int .u64 u, .string s], .int .i64 3] w fun e w' => e = .returned (.tuple #[.agg #[.int .i64 3, .int .i64 i, .int .u64 u, .string s], .bool true]) ∧ Below w.heap.size w w' := by
  go_enter Tryz.func31, Tryz.ntmps31
  go_wp2
  go_returns
  exact ⟨rfl, by go_grown⟩

set_option maxHeartbeats 1000000 in
theorem r6t_44 (i u : Int) (s : ByteArray) (w : World) : Calls Tryz.prog 31 #[.agg #[.int .i64 4, .int .i64 i, .int .u64 u, .string s], .int .i64 4] w fun e w' => e = .returned (.tuple #[.agg #[.int .i64 4, .int .i64 i, .int .u64 u, .string s], .bool true]) ∧ Below w.heap.size w w' := by
  go_enter Tryz.func31, Tryz.ntmps31
  go_wp2
  go_returns
  exact ⟨rfl, by go_grown⟩

set_option maxHeartbeats 1000000 in
theorem r6t_14 (i u : Int) (s : ByteArray) (w : World) (hT : HasTab w) (h0 : -9223372036854775808 ≤ i) (h1 : i ≤ 9223372036854775807) : Calls Tryz.prog 31 #[.agg #[.int .i64 1, .int .i64 i, .int .u64 u, .string s], .int .i64 4] w fun e w' => e = .returned (.tuple #[.agg #[.int .i64 4, .int .i64 0, .int .u64 0, .string ⟨(Lib.itoa i).toArray⟩], .bool true]) ∧ Below w.heap.size w w' := by
  have HT := Lib.hid (fun W (hb : Below w.heap.size w W) => FormatInt_10 i h0 h1 W (hT.below hb hT.lt))
  clear hT h0 h1
  go_enter Tryz.func31, Tryz.ntmps31
  go_wp2_with fail
  refine (HT.out _ (((Below.refl _ _).alloc (Nat.le_refl _) _).alloc (by simp) _)).mono ?_
  rintro e w1 ⟨rfl, hb1⟩
  obtain ⟨hc, hf, hsz⟩ := box4 hb1
  have c0 := hc 0
  have c1 := hc 1
  have c2 := hc 2
  have c3 := hc 3
  have f0 := hf 0
  have f1 := hf 1
  have f2 := hf 2
  have f3 := hf 3
  simp at c0 c1 c2 c3
  have HB1 := Lib.hid (below2 hb1)
  clear hc hf hb1
  go_wp2_with fail
  refine bodyPost_ret (v := .tuple #[.agg #[.int .i64 4, .int .i64 0, .int .u64 0, .string ⟨(Lib.itoa i).toArray⟩], .bool true]) (by simp [results, Tryz.results31, go_sem, c0, c1, c2, c3]) rfl ⟨rfl, ?_⟩
  repeat' first | exact HB1.out | (refine Below.setCell ?_ (by simp) _)

set_option maxHeartbeats 1000000 in
theorem r6t_24 (i u : Int) (s : ByteArray) (w : World) (hT : HasTab w) (h0 : 0 ≤ u) (h1 : u ≤ 18446744073709551615) : Calls Tryz.prog 31 #[.agg #[.int .i64 2, .int .i64 i, .int .u64 u, .string s], .int .i64 4] w fun e w' => e = .returned (.tuple #[.agg #[.int .i64 4, .int .i64 0, .int .u64 0, .string ⟨(Lib.decDigits u.toNat).toArray⟩], .bool true]) ∧ Below w.heap.size w w' := by
  have HT := Lib.hid (fun W (hb : Below w.heap.size w W) => FormatUint_10 u h0 h1 W (hT.below hb hT.lt))
  clear hT h0 h1
  go_enter Tryz.func31, Tryz.ntmps31
  go_wp2_with fail
  refine (HT.out _ (((Below.refl _ _).alloc (Nat.le_refl _) _).alloc (by simp) _)).mono ?_
  rintro e w1 ⟨rfl, hb1⟩
  obtain ⟨hc, hf, hsz⟩ := box4 hb1
  have c0 := hc 0
  have c1 := hc 1
  have c2 := hc 2
  have c3 := hc 3
  have f0 := hf 0
  have f1 := hf 1
  have f2 := hf 2
  have f3 := hf 3
  simp at c0 c1 c2 c3
  have HB1 := Lib.hid (below2 hb1)
  clear hc hf hb1
  go_wp2_with fail
  refine bodyPost_ret (v := .tuple #[.agg #[.int .i64 4, .int .i64 0, .int .u64 0, .string ⟨(Lib.decDigits u.toNat).toArray⟩], .bool true]) (by simp [results, Tryz.results31, go_sem, c0, c1, c2, c3]) rfl ⟨rfl, ?_⟩
  repeat' first | exact HB1.out | (refine Below.setCell ?_ (by simp) _)

set_option maxHeartbeats 1000000 in
theorem r6t_41 (i u : Int) (s : ByteArray) (w : World) (x : Int) (b : Bool) (hC : ∀ W, Calls Tryz.prog 68 #[.string s] W fun e w' => e = .returned (.tuple #[.int .i64 x, .bool b]) ∧ Below W.heap.size W w') : Calls Tryz.prog 31 #[.agg #[.int .i64 4, .int .i64 i, .int .u64 u, .string s], .int .i64 1] w fun e w' => e = .returned (.tuple #[.agg #[.int .i64 1, .int .i64 x, .int .u64 0, .string ⟨#[]⟩], .bool b]) ∧ Below w.heap.size w w' := by
  go_enter Tryz.func31, Tryz.ntmps31
  go_wp2_with fail
  refine (hC _).mono ?_
  rintro e w1 ⟨rfl, hb1⟩
  obtain ⟨hc, hf, hsz⟩ := box4 hb1
  have c0 := hc 0
  have c1 := hc 1
  have c2 := hc 2
  have c3 := hc 3
  have f0 := hf 0
  have f1 := hf 1
  have f2 := hf 2
  have f3 := hf 3
  simp at c0 c1 c2 c3
  have HB1 := Lib.hid (below2 hb1)
  clear hc hf hb1
  go_wp2_with fail
  refine bodyPost_ret (v := .tuple #[.agg #[.int .i64 1, .int .i64 x, .int .u64 0, .string ⟨#[]⟩], .bool b]) (by simp [results, Tryz.results31, go_sem, c0, c1, c2, c3]) rfl ⟨rfl, ?_⟩
  repeat' first | exact HB1.out | (refine Below.setCell ?_ (by simp) _)

set_option maxHeartbeats 1000000 in
theorem r6t_42 (i u : Int) (s : ByteArray) (w : World) (x : Int) (b : Bool) (hC : ∀ W, Calls Tryz.prog 69 #[.string s] W fun e w' => e = .returned (.tuple #[.int .u64 x, .bool b]) ∧ Below W.heap.size W w') : Calls Tryz.prog 31 #[.agg #[.int .i64 4, .int .i64 i, .int .u64 u, .string s], .int .i64 2] w fun e w' => e = .returned (.tuple #[.agg #[.int .i64 2, .int .i64 0, .int .u64 x, .string ⟨#[]⟩], .bool b]) ∧ Below w.heap.size w w' := by
  go_enter Tryz.func31, Tryz.ntmps31
  go_wp2_with fail
  refine (hC _).mono ?_
  rintro e w1 ⟨rfl, hb1⟩
  obtain ⟨hc, hf, hsz⟩ := box4 hb1
  have c0 := hc 0
  have c1 := hc 1
  have c2 := hc 2
  have c3 := hc 3
  have f0 := hf 0
  have f1 := hf 1
  have f2 := hf 2
  have f3 := hf 3
  simp at c0 c1 c2 c3
  have HB1 := Lib.hid (below2 hb1)
  clear hc hf hb1
  go_wp2_with fail
  refine bodyPost_ret (v := .tuple #[.agg #[.int .i64 2, .int .i64 0, .int .u64 x, .string ⟨#[]⟩], .bool b]) (by simp [results, Tryz.results31, go_sem, c0, c1, c2, c3]) rfl ⟨rfl, ?_⟩
  repeat' first | exact HB1.out | (refine Below.setCell ?_ (by simp) _)

set_option maxHeartbeats 1000000 in
theorem r6t_12y (i u : Int) (s : ByteArray) (w : World) (h : 0 ≤ i) (h1 : i ≤ 9223372036854775807) : Calls Tryz.prog 31 #[.agg #[.int .i64 1, .int .i64 i, .int .u64 u, .string s], .int .i64 2] w fun e w' => e = .returned (.tuple #[.agg #[.int .i64 2, .int .i64 0, .int .u64 i, .string ⟨#[]⟩], .bool true]) ∧ Below w.heap.size w w' := by
  have hm : max 0 i = i := by omega
  have hw : IntKind.u64.wrap i = i := wrapU h (by omega)
  have hd : decide (0 ≤ i) = true := decide_eq_true h
  go_enter Tryz.func31, Tryz.ntmps31
  go_wp2_with fail
  refine (r6number_else 1 _ _ _ _ (by decide)).mono ?_
  rintro e w1 ⟨rfl, hb1⟩
  obtain ⟨hc, hf, hsz⟩ := box4 hb1
  have c0 := hc 0
  have c1 := hc 1
  have c2 := hc 2
  have c3 := hc 3
  have f0 := hf 0
  have f1 := hf 1
  have f2 := hf 2
  have f3 := hf 3
  simp at c0 c1 c2 c3
  have HB1 := Lib.hid (below2 hb1)
  clear hc hf hb1
  go_wp2_with fail
  refine bodyPost_ret (v := .tuple #[.agg #[.int .i64 2, .int .i64 0, .int .u64 i, .string ⟨#[]⟩], .bool true]) (by simp [results, Tryz.results31, go_sem, c0, c1, c2, c3]) rfl ⟨rfl, ?_⟩
  repeat' first | exact HB1.out | (refine Below.setCell ?_ (by simp) _)

set_option maxHeartbeats 1000000 in
theorem r6t_12n (i u : Int) (s : ByteArray) (w : World) (h : ¬ 0 ≤ i) : Calls Tryz.prog 31 #[.agg #[.int .i64 1, .int .i64 i, .int .u64 u, .string s], .int .i64 2] w fun e w' => e = .returned (.tuple #[.agg #[.int .i64 2, .int .i64 0, .int .u64 0, .string ⟨#[]⟩], .bool false]) ∧ Below w.heap.size w w' := by
  have hm : max 0 i = 0 := by omega
  have hd : decide (0 ≤ i) = false := decide_eq_false h
  go_enter Tryz.func31, Tryz.ntmps31
  go_wp2_with fail
  refine (r6number_else 1 _ _ _ _ (by decide)).mono ?_
  rintro e w1 ⟨rfl, hb1⟩
  obtain ⟨hc, hf, hsz⟩ := box4 hb1
  have c0 := hc 0
  have c1 := hc 1
  have c2 := hc 2
  have c3 := hc 3
  have f0 := hf 0
  have f1 := hf 1
  have f2 := hf 2
  have f3 := hf 3
  simp at c0 c1 c2 c3
  have HB1 := Lib.hid (below2 hb1)
  clear hc hf hb1
  go_wp2_with fail
  refine bodyPost_ret (v := .tuple #[.agg #[.int .i64 2, .int .i64 0, .int .u64 0, .string ⟨#[]⟩], .bool false]) (by simp [results, Tryz.results31, go_sem, c0, c1, c2, c3]) rfl ⟨rfl, ?_⟩
  repeat' first | exact HB1.out | (refine Below.setCell ?_ (by simp) _)

set_option maxHeartbeats 1000000 in
theorem r6t_31 (i u : Int) (s : ByteArray) (w : World) : Calls Tryz.prog 31 #[.agg #[.int .i64 3, .int .i64 i, .int .u64 u, .string s], .int .i64 1] w fun e w' => e = .returned (.tuple #[.agg #[.int .i64 1, .int .i64 i, .int .u64 0, .string ⟨#[]⟩], .bool true]) ∧ Below w.heap.size w w' := by
  go_enter Tryz.func31, Tryz.ntmps31
  go_wp2_with fail
  refine (r6number_else 3 _ _ _ _ (by decide)).mono ?_
  rintro e w1 ⟨rfl, hb1⟩
  obtain ⟨hc, hf, hsz⟩ := box4 hb1
  have c0 := hc 0
  have c1 := hc 1
  have c2 := hc 2
  have c3 := hc 3
  have f0 := hf 0
  have f1 := hf 1
  have f2 := hf 2
  have f3 := hf 3
  simp at c0 c1 c2 c3
  have HB1 := Lib.hid (below2 hb1)
  clear hc hf hb1
  go_wp2_with fail
  refine bodyPost_ret (v := .tuple #[.agg #[.int .i64 1, .int .i64 i, .int .u64 0, .string ⟨#[]⟩], .bool true]) (by simp [results, Tryz.results31, go_sem, c0, c1, c2, c3]) rfl ⟨rfl, ?_⟩
  repeat' first | exact HB1.out | (refine Below.setCell ?_ (by simp) _)

set_option maxHeartbeats 1000000 in
theorem r6t_32y (i u : Int) (s : ByteArray) (w : World) (h : 0 ≤ i) (h1 : i ≤ 9223372036854775807) : Calls Tryz.prog 31 #[.agg #[.int .i64 3, .int .i64 i, .int .u64 u, .string s], .int .i64 2] w fun e w' => e = .returned (.tuple #[.agg #[.int .i64 2, .int .i64 0, .int .u64 i, .string ⟨#[]⟩], .bool true]) ∧ Below w.heap.size w w' := by
  have hm : max 0 i = i := by omega
  have hw : IntKind.u64.wrap i = i := wrapU h (by omega)
  have hd : decide (0 ≤ i) = true := decide_eq_true h
  go_enter Tryz.func31, Tryz.ntmps31
  go_wp2_with fail
  refine (r6number_else 3 _ _ _ _ (by decide)).mono ?_
  rintro e w1 ⟨rfl, hb1⟩
  obtain ⟨hc, hf, hsz⟩ := box4 hb1
  have c0 := hc 0
  have c1 := hc 1
  have c2 := hc 2
  have c3 := hc 3
  have f0 := hf 0
  have f1 := hf 1
  have f2 := hf 2
  have f3 := hf 3
  simp at c0 c1 c2 c3
  have HB1 := Lib.hid (below2 hb1)
  clear hc hf hb1
  go_wp2_with fail
  refine bodyPost_ret (v := .tuple #[.agg #[.int .i64 2, .int .i64 0, .int .u64 i, .string ⟨#[]⟩], .bool true]) (by simp [results, Tryz.results31, go_sem, c0, c1, c2, c3]) rfl ⟨rfl, ?_⟩
  repeat' first | exact HB1.out | (refine Below.setCell ?_ (by simp) _)

set_option maxHeartbeats 1000000 in
theorem r6t_32n (i u : Int) (s : ByteArray) (w : World) (h : ¬ 0 ≤ i) : Calls Tryz.prog 31 #[.agg #[.int .i64 3, .int .i64 i, .int .u64 u, .string s], .int .i64 2] w fun e w' => e = .returned (.tuple #[.agg #[.int .i64 2, .int .i64 0, .int .u64 0, .string ⟨#[]⟩], .bool false]) ∧ Below w.heap.size w w' := by
  have hm : max 0 i = 0 := by omega
  have hd : decide (0 ≤ i) = false := decide_eq_false h
  go_enter Tryz.func31, Tryz.ntmps31
  go_wp2_with fail
  refine (r6number_else 3 _ _ _ _ (by decide)).mono ?_
  rintro e w1 ⟨rfl, hb1⟩
  obtain ⟨hc, hf, hsz⟩ := box4 hb1
  have c0 := hc 0
  have c1 := hc 1
  have c2 := hc 2
  have c3 := hc 3
  have f0 := hf 0
  have f1 := hf 1
  have f2 := hf 2
  have f3 := hf 3
  simp at c0 c1 c2 c3
  have HB1 := Lib.hid (below2 hb1)
  clear hc hf hb1
  go_wp2_with fail
  refine bodyPost_ret (v := .tuple #[.agg #[.int .i64 2, .int .i64 0, .int .u64 0, .string ⟨#[]⟩], .bool false]) (by simp [results, Tryz.results31, go_sem, c0, c1, c2, c3]) rfl ⟨rfl, ?_⟩
  repeat' first | exact HB1.out | (refine Below.setCell ?_ (by simp) _)

set_option maxHeartbeats 1000000 in
theorem r6t_130 (u : Int) (s : ByteArray) (w : World) : Calls Tryz.prog 31 #[.agg #[.int .i64 1, .int .i64 0, .int .u64 u, .string s], .int .i64 3] w fun e w' => e = .returned (.tuple #[.agg #[.int .i64 3, .int .i64 0, .int .u64 0, .string ⟨#[]⟩], .bool true]) ∧ Below w.heap.size w w' := by
  go_enter Tryz.func31, Tryz.ntmps31
  go_wp2_with fail
  refine (r6number_else 1 _ _ _ _ (by decide)).mono ?_
  rintro e w1 ⟨rfl, hb1⟩
  obtain ⟨hc, hf, hsz⟩ := box4 hb1
  have c0 := hc 0
  have c1 := hc 1
  have c2 := hc 2
  have c3 := hc 3
  have f0 := hf 0
  have f1 := hf 1
  have f2 := hf 2
  have f3 := hf 3
  simp at c0 c1 c2 c3
  have HB1 := Lib.hid (below2 hb1)
  clear hc hf hb1
  go_wp2_with fail
  refine bodyPost_ret (v := .tuple #[.agg #[.int .i64 3, .int .i64 0, .int .u64 0, .string ⟨#[]⟩], .bool true]) (by simp [results, Tryz.results31, go_sem, c0, c1, c2, c3]) rfl ⟨rfl, ?_⟩
  repeat' first | exact HB1.out | (refine Below.setCell ?_ (by simp) _)

set_option maxHeartbeats 1000000 in
theorem r6t_131 (u : Int) (s : ByteArray) (w : World) : Calls Tryz.prog 31 #[.agg #[.int .i64 1, .int .i64 1, .int .u64 u, .string s], .int .i64 3] w fun e w' => e = .returned (.tuple #[.agg #[.int .i64 3, .int .i64 1, .int .u64 0, .string ⟨#[]⟩], .bool true]) ∧ Below w.heap.size w w' := by
  go_enter Tryz.func31, Tryz.ntmps31
  go_wp2_with fail
  refine (r6number_else 1 _ _ _ _ (by decide)).mono ?_
  rintro e w1 ⟨rfl, hb1⟩
  obtain ⟨hc, hf, hsz⟩ := box4 hb1
  have c0 := hc 0
  have c1 := hc 1
  have c2 := hc 2
  have c3 := hc 3
  have f0 := hf 0
  have f1 := hf 1
  have f2 := hf 2
  have f3 := hf 3
  simp at c0 c1 c2 c3
  have HB1 := Lib.hid (below2 hb1)
  clear hc hf hb1
  go_wp2_with fail
  refine bodyPost_ret (v := .tuple #[.agg #[.int .i64 3, .int .i64 1, .int .u64 0, .string ⟨#[]⟩], .bool true]) (by simp [results, Tryz.results31, go_sem, c0, c1, c2, c3]) rfl ⟨rfl, ?_⟩
  repeat' first | exact HB1.out | (refine Below.setCell ?_ (by simp) _)

set_option maxHeartbeats 1000000 in
theorem r6t_13n (i u : Int) (s : ByteArray) (w : World) (h0 : i ≠ 0) (h1 : i ≠ 1) : Calls Tryz.prog 31 #[.agg #[.int .i64 1, .int .i64 i, .int .u64 u, .string s], .int .i64 3] w fun e w' => e = .returned (.tuple #[.agg #[.int .i64 3, .int .i64 i, .int .u64 0, .string ⟨#[]⟩], .bool false]) ∧ Below w.heap.size w w' := by
  have hb0 : (i == 0) = false := by simpa using h0
  have hbo : (i == 1) = false := by simpa using h1
  go_enter Tryz.func31, Tryz.ntmps31
  go_wp2_with fail
  refine (r6number_else 1 _ _ _ _ (by decide)).mono ?_
  rintro e w1 ⟨rfl, hb1⟩
  obtain ⟨hc, hf, hsz⟩ := box4 hb1
  have c0 := hc 0
  have c1 := hc 1
  have c2 := hc 2
  have c3 := hc 3
  have f0 := hf 0
  have f1 := hf 1
  have f2 := hf 2
  have f3 := hf 3
  simp at c0 c1 c2 c3
  have HB1 := Lib.hid (below2 hb1)
  clear hc hf hb1
  go_wp2_with fail
  refine bodyPost_ret (v := .tuple #[.agg #[.int .i64 3, .int .i64 i, .int .u64 0, .string ⟨#[]⟩], .bool false]) (by simp [results, Tryz.results31, go_sem, c0, c1, c2, c3]) rfl ⟨rfl, ?_⟩
  repeat' first | exact HB1.out | (refine Below.setCell ?_ (by simp) _)

set_option maxHeartbeats 1000000 in
theorem r6t_21y (i u : Int) (s : ByteArray) (w : World) (h0 : 0 ≤ u) (h1 : u ≤ 9223372036854775807) : Calls Tryz.prog 31 #[.agg #[.int .i64 2, .int .i64 i, .int .u64 u, .string s], .int .i64 1] w fun e w' => e = .returned (.tuple #[.agg #[.int .i64 1, .int .i64 u, .int .u64 0, .string ⟨#[]⟩], .bool true]) ∧ Below w.heap.size w w' := by
  have HX := num_two u h0 h1
  have HD : decide (u < 9223372036854775808) = true := decide_eq_true (by omega)
  go_enter Tryz.func31, Tryz.ntmps31
  go_wp2_with fail
  refine (r6number_two _ _ _ _).mono ?_
  rintro e w1 ⟨rfl, hb1⟩
  rw [HX, HD]
  obtain ⟨hc, hf, hsz⟩ := box4 hb1
  have c0 := hc 0
  have c1 := hc 1
  have c2 := hc 2
  have c3 := hc 3
  have f0 := hf 0
  have f1 := hf 1
  have f2 := hf 2
  have f3 := hf 3
  simp at c0 c1 c2 c3
  have HB1 := Lib.hid (below2 hb1)
  clear hc hf hb1
  go_wp2_with fail
  refine bodyPost_ret (v := .tuple #[.agg #[.int .i64 1, .int .i64 u, .int .u64 0, .string ⟨#[]⟩], .bool true]) (by simp [results, Tryz.results31, go_sem, c0, c1, c2, c3]) rfl ⟨rfl, ?_⟩
  repeat' first | exact HB1.out | (refine Below.setCell ?_ (by simp) _)

set_option maxHeartbeats 1000000 in
theorem r6t_21n (i u : Int) (s : ByteArray) (w : World) (h1 : ¬ u ≤ 9223372036854775807) (x : Int) (HX : wrap64 (u.tmod 9223372036854775808) = x) : Calls Tryz.prog 31 #[.agg #[.int .i64 2, .int .i64 i, .int .u64 u, .string s], .int .i64 1] w fun e w' => e = .returned (.tuple #[.agg #[.int .i64 1, .int .i64 x, .int .u64 0, .string ⟨#[]⟩], .bool false]) ∧ Below w.heap.size w w' := by
  have HD : decide (u < 9223372036854775808) = false := decide_eq_false (by omega)
  go_enter Tryz.func31, Tryz.ntmps31
  go_wp2_with fail
  refine (r6number_two _ _ _ _).mono ?_
  rintro e w1 ⟨rfl, hb1⟩
  rw [HX, HD]
  obtain ⟨hc, hf, hsz⟩ := box4 hb1
  have c0 := hc 0
  have c1 := hc 1
  have c2 := hc 2
  have c3 := hc 3
  have f0 := hf 0
  have f1 := hf 1
  have f2 := hf 2
  have f3 := hf 3
  simp at c0 c1 c2 c3
  have HB1 := Lib.hid (below2 hb1)
  clear hc hf hb1
  go_wp2_with fail
  refine bodyPost_ret (v := .tuple #[.agg #[.int .i64 1, .int .i64 x, .int .u64 0, .string ⟨#[]⟩], .bool false]) (by simp [results, Tryz.results31, go_sem, c0, c1, c2, c3]) rfl ⟨rfl, ?_⟩
  repeat' first | exact HB1.out | (refine Below.setCell ?_ (by simp) _)

set_option maxHeartbeats 1000000 in
theorem r6t_230 (i : Int) (s : ByteArray) (w : World) : Calls Tryz.prog 31 #[.agg #[.int .i64 2, .int .i64 i, .int .u64 0, .string s], .int .i64 3] w fun e w' => e = .returned (.tuple #[.agg #[.int .i64 3, .int .i64 0, .int .u64 0, .string ⟨#[]⟩], .bool true]) ∧ Below w.heap.size w w' := by
  have HX := num_two 0 (by omega) (by omega)
  have HD : decide ((0 : Int) < 9223372036854775808) = true := by decide
  go_enter Tryz.func31, Tryz.ntmps31
  go_wp2_with fail
  refine (r6number_two _ _ _ _).mono ?_
  rintro e w1 ⟨rfl, hb1⟩
  rw [HX, HD]
  obtain ⟨hc, hf, hsz⟩ := box4 hb1
  have c0 := hc 0
  have c1 := hc 1
  have c2 := hc 2
  have c3 := hc 3
  have f0 := hf 0
  have f1 := hf 1
  have f2 := hf 2
  have f3 := hf 3
  simp at c0 c1 c2 c3
  have HB1 := Lib.hid (below2 hb1)
  clear hc hf hb1
  go_wp2_with fail
  refine bodyPost_ret (v := .tuple #[.agg #[.int .i64 3, .int .i64 0, .int .u64 0, .string ⟨#[]⟩], .bool true]) (by simp [results, Tryz.results31, go_sem, c0, c1, c2, c3]) rfl ⟨rfl, ?_⟩
  repeat' first | exact HB1.out | (refine Below.setCell ?_ (by simp) _)

set_option maxHeartbeats 1000000 in
theorem r6t_231 (i : Int) (s : ByteArray) (w : World) : Calls Tryz.prog 31 #[.agg #[.int .i64 2, .int .i64 i, .int .u64 1, .string s], .int .i64 3] w fun e w' => e = .returned (.tuple #[.agg #[.int .i64 3, .int .i64 1, .int .u64 0, .string ⟨#[]⟩], .bool true]) ∧ Below w.heap.size w w' := by
  have HX := num_two 1 (by omega) (by omega)
  have HD : decide ((1 : Int) < 9223372036854775808) = true := by decide
  go_enter Tryz.func31, Tryz.ntmps31
  go_wp2_with fail
  refine (r6number_two _ _ _ _).mono ?_
  rintro e w1 ⟨rfl, hb1⟩
  rw [HX, HD]
  obtain ⟨hc, hf, hsz⟩ := box4 hb1
  have c0 := hc 0
  have c1 := hc 1
  have c2 := hc 2
  have c3 := hc 3
  have f0 := hf 0
  have f1 := hf 1
  have f2 := hf 2
  have f3 := hf 3
  simp at c0 c1 c2 c3
  have HB1 := Lib.hid (below2 hb1)
  clear hc hf hb1
  go_wp2_with fail
  refine bodyPost_ret (v := .tuple #[.agg #[.int .i64 3, .int .i64 1, .int .u64 0, .string ⟨#[]⟩], .bool true]) (by simp [results, Tryz.results31, go_sem, c0, c1, c2, c3]) rfl ⟨rfl, ?_⟩
  repeat' first | exact HB1.out | (refine Below.setCell ?_ (by simp) _)

set_option maxHeartbeats 1000000 in
theorem r6t_23n (i u : Int) (s : ByteArray) (w : World) (h0 : 0 ≤ u) (h1 : u ≤ 9223372036854775807) (h2 : u ≠ 0) (h3 : u ≠ 1) : Calls Tryz.prog 31 #[.agg #[.int .i64 2, .int .i64 i, .int .u64 u, .string s], .int .i64 3] w fun e w' => e = .returned (.tuple #[.agg #[.int .i64 3, .int .i64 u, .int .u64 0, .string ⟨#[]⟩], .bool false]) ∧ Below w.heap.size w w' := by
  have HX := num_two u h0 h1
  have HD : decide (u < 9223372036854775808) = true := decide_eq_true (by omega)
  have hb0 : (u == 0) = false := by simpa using h2
  have hbo : (u == 1) = false := by simpa using h3
  go_enter Tryz.func31, Tryz.ntmps31
  go_wp2_with fail
  refine (r6number_two _ _ _ _).mono ?_
  rintro e w1 ⟨rfl, hb1⟩
  rw [HX, HD]
  obtain ⟨hc, hf, hsz⟩ := box4 hb1
  have c0 := hc 0
  have c1 := hc 1
  have c2 := hc 2
  have c3 := hc 3
  have f0 := hf 0
  have f1 := hf 1
  have f2 := hf 2
  have f3 := hf 3
  simp at c0 c1 c2 c3
  have HB1 := Lib.hid (below2 hb1)
  clear hc hf hb1
  go_wp2_with fail
  refine bodyPost_ret (v := .tuple #[.agg #[.int .i64 3, .int .i64 u, .int .u64 0, .string ⟨#[]⟩], .bool false]) (by simp [results, Tryz.results31, go_sem, c0, c1, c2, c3]) rfl ⟨rfl, ?_⟩
  repeat' first | exact HB1.out | (refine Below.setCell ?_ (by simp) _)

set_option maxHeartbeats 1000000 in
theorem r6t_23m (i u : Int) (s : ByteArray) (w : World) (h1 : ¬ u ≤ 9223372036854775807) (x : Int) (HX : wrap64 (u.tmod 9223372036854775808) = x) : Calls Tryz.prog 31 #[.agg #[.int .i64 2, .int .i64 i, .int .u64 u, .string s], .int .i64 3] w fun e w' => e = .returned (.tuple #[.agg #[.int .i64 3, .int .i64 x, .int .u64 0, .string ⟨#[]⟩], .bool false]) ∧ Below w.heap.size w w' := by
  have HD : decide (u < 9223372036854775808) = false := decide_eq_false (by omega)
  go_enter Tryz.func31, Tryz.ntmps31
  go_wp2_with fail
  refine (r6number_two _ _ _ _).mono ?_
  rintro e w1 ⟨rfl, hb1⟩
  rw [HX, HD]
  obtain ⟨hc, hf, hsz⟩ := box4 hb1
  have c0 := hc 0
  have c1 := hc 1
  have c2 := hc 2
  have c3 := hc 3
  have f0 := hf 0
  have f1 := hf 1
  have f2 := hf 2
  have f3 := hf 3
  simp at c0 c1 c2 c3
  have HB1 := Lib.hid (below2 hb1)
  clear hc hf hb1
  go_wp2_with fail
  refine bodyPost_ret (v := .tuple #[.agg #[.int .i64 3, .int .i64 x, .int .u64 0, .string ⟨#[]⟩], .bool false]) (by simp [results, Tryz.results31, go_sem, c0, c1, c2, c3]) rfl ⟨rfl, ?_⟩
  repeat' first | exact HB1.out | (refine Below.setCell ?_ (by simp) _)

end Go.Proofs.YtmgeefhacnadcaaGreatDoor
namespace Go.Proofs.YtmgeefhacnadcaaGreatDoor
open Go.RowKit

theorem tail_list (s : ByteArray) (h : s.data.toList.head? = some 45) : (s.extract 1 s.size).data.toList = s.data.toList.tail := by
  obtain ⟨⟨l⟩⟩ := s
  cases l with
  | nil => cases h
  | cons c r =>
    rw [ByteArray.data_extract, Array.toList_extract]
    simp [ByteArray.size]
theorem head_45 (s : ByteArray) (h : 0 < s.size) : (s.data.toList.head? = some 45) ↔ ((s[0].toNat : Int) == 45) = true := by
  obtain ⟨⟨l⟩⟩ := s
  cases l with
  | nil => simp [ByteArray.size] at h
  | cons c l =>
    show some c = some 45 ↔ ((c.toNat : Int) == 45) = true
    simp only [Option.some.injEq, beq_iff_eq]
    constructor
    · rintro rfl; rfl
    · intro h; exact UInt8.toNat_inj.1 (by have : (45 : UInt8).toNat = 45 := rfl; omega)
/-- what is told of digits behind a minus sign -/
def sgnM : Option Int → Value
  | some n => if n = 0 ∨ 9223372036854775808 < n then .tuple #[.int .i64 0, .bool false] else .tuple #[.int .i64 (-n), .bool true]
  | none => .tuple #[.int .i64 0, .bool false]
theorem r6signed_minus (s : ByteArray) (w : World) (hz : s.size ≤ 9223372036854775807) (hp : 0 < s.size) (hc : ((s[0].toNat : Int) == 45) = true) (o : Option Int) (ho : numOf 18446744073709551615 (s.extract 1 s.size).data.toList = o) (hin : ∀ n, o = some n → 0 ≤ n ∧ n ≤ 18446744073709551615) :
    Calls Tryz.prog 68 #[.string s] w fun e w' => e = .returned (sgnM o) ∧ Below w.heap.size w w' := by
  have HU := Lib.hid (fun W => by have h := r6uns_any (s.extract 1 s.size) W (by simp; omega); rw [ho] at h; exact h)
  clear ho
  cases o with
  | none =>
    clear hin
    go_enter Tryz.func68, Tryz.ntmps68
    go_wp2_with fail
    refine (HU.out _).mono ?_
    rintro e w2 ⟨rfl, hb⟩
    simp only [numRes]
    go_wp2_with fail
    go_ret2
    exact ⟨rfl, hb⟩
  | some n =>
    obtain ⟨h0, h1⟩ := hin n rfl
    by_cases hn0 : n = 0
    · subst hn0
      clear hin h0 h1
      go_enter Tryz.func68, Tryz.ntmps68
      go_wp2_with fail
      refine (HU.out _).mono ?_
      rintro e w2 ⟨rfl, hb⟩
      simp only [numRes]
      go_wp2_with fail
      go_ret2
      exact ⟨rfl, hb⟩
    · have hb0 : (n == 0) = false := by simpa using hn0
      by_cases hn1 : 9223372036854775808 < n
      · have HR := Lib.hid (show sgnM (some n) = .tuple #[.int .i64 0, .bool false] from if_pos (.inr hn1))
        have hd : decide (9223372036854775808 < n) = true := decide_eq_true hn1
        clear hin h0 h1
        go_enter Tryz.func68, Tryz.ntmps68
        go_wp2_with fail
        refine (HU.out _).mono ?_
        rintro e w2 ⟨rfl, hb⟩
        simp only [numRes]
        go_wp2_with fail
        go_ret2
        exact ⟨by rw [HR.out]; rfl, hb⟩
      · have HR := Lib.hid (show sgnM (some n) = .tuple #[.int .i64 (-n), .bool true] from if_neg (by omega))
        have hd : decide (9223372036854775808 < n) = false := decide_eq_false hn1
        have hw1 : IntKind.u64.wrap (n - 1) = n - 1 := wrapU (by omega) (by omega)
        have hw2 : IntKind.i64.wrap (n - 1) = n - 1 := wrapI (by omega) (by omega)
        have hw3 : IntKind.i64.wrap (-1 - (n - 1)) = -n := by
          rw [show -1 - (n - 1) = -n by omega]
          by_cases e : n = 9223372036854775808
          · subst e; decide
          · have h : (-n) % 18446744073709551616 = 18446744073709551616 - n := by omega
            simp [IntKind.wrap, IntKind.signed, IntKind.bits, h]
            omega
        clear hin h0 h1
        go_enter Tryz.func68, Tryz.ntmps68
        go_wp2_with fail
        refine (HU.out _).mono ?_
        rintro e w2 ⟨rfl, hb⟩
        simp only [numRes]
        go_wp2_with fail
        go_ret2
        exact ⟨by rw [HR.out]; rfl, hb⟩
/-- what is told of digits without one -/
def sgnP : Option Int → Value
  | some n => .tuple #[.int .i64 (wrap64 (n.tmod 9223372036854775808)), .bool (decide (n ≤ 9223372036854775807))]
  | none => .tuple #[.int .i64 0, .bool false]
theorem r6signed_plus (s : ByteArray) (w : World) (hz : s.size ≤ 9223372036854775807) (hc : s.size = 0 ∨ (∃ h : 0 < s.size, ((s[0].toNat : Int) == 45) = false)) (o : Option Int) (ho : numOf 18446744073709551615 s.data.toList = o) :
    Calls Tryz.prog 68 #[.string s] w fun e w' => e = .returned (sgnP o) ∧ Below w.heap.size w w' := by
  have HU := Lib.hid (fun W => by have h := r6uns_any s W hz; rw [ho] at h; exact h)
  clear ho
  cases o with
  | none =>
    rcases hc with hc | ⟨hp, hc⟩
    · go_enter Tryz.func68, Tryz.ntmps68
      go_wp2_with fail
      refine (HU.out _).mono ?_
      rintro e w2 ⟨rfl, hb⟩
      simp only [numRes]
      go_wp2_with fail
      go_ret2
      exact ⟨rfl, hb⟩
    · go_enter Tryz.func68, Tryz.ntmps68
      go_wp2_with fail
      refine (HU.out _).mono ?_
      rintro e w2 ⟨rfl, hb⟩
      simp only [numRes]
      go_wp2_with fail
      go_ret2
      exact ⟨rfl, hb⟩
  | some n =>
    rcases hc with hc | ⟨hp, hc⟩
    · go_enter Tryz.func68, Tryz.ntmps68
      go_wp2_with fail
      refine (HU.out _).mono ?_
      rintro e w2 ⟨rfl, hb⟩
      simp only [numRes]
      go_wp2_with fail
      go_ret2
      exact ⟨rfl, hb⟩
    · go_enter Tryz.func68, Tryz.ntmps68
      go_wp2_with fail
      refine (HU.out _).mono ?_
      rintro e w2 ⟨rfl, hb⟩
      simp only [numRes]
      go_wp2_with fail
      go_ret2
      exact ⟨rfl, hb⟩
theorem r6signed_any (s : ByteArray) (hz : s.size ≤ 9223372036854775807) : ∃ (x : Int) (b : Bool), b = (sgnOf s.data.toList).isSome ∧ (∀ n, sgnOf s.data.toList = some n → x = n) ∧ ∀ W, Calls Tryz.prog 68 #[.string s] W fun e w' => e = .returned (.tuple #[.int .i64 x, .bool b]) ∧ Below W.heap.size W w' := by
  have hin : ∀ (l : List UInt8) (n : Int), numOf 18446744073709551615 l = some n → 0 ≤ n ∧ n ≤ 18446744073709551615 := fun l n h => numOf_in (by omega) h
  by_cases hh : s.data.toList.head? = some 45
  · have hp : 0 < s.size := by
      rcases Nat.eq_zero_or_pos s.size with h | h
      · have hn : s.data.toList = [] := List.eq_nil_of_length_eq_zero (by rw [Array.length_toList]; exact h)
        rw [hn] at hh; cases hh
      · exact h
    have hc := (head_45 s hp).1 hh
    have H := fun W => r6signed_minus s W hz hp hc _ rfl (hin _)
    rw [tail_list s hh] at H
    have e : sgnOf s.data.toList = (match numOf 18446744073709551615 s.data.toList.tail with
      | some n => if n = 0 ∨ 9223372036854775808 < n then none else some (-n)
      | none => none) := by unfold sgnOf; rw [if_pos hh]; rfl
    rw [e]
    cases hn : numOf 18446744073709551615 s.data.toList.tail with
    | none =>
      rw [hn] at H
      exact ⟨0, false, rfl, (fun n h => by cases h), H⟩
    | some n =>
      rw [hn] at H
      by_cases hb : n = 0 ∨ 9223372036854775808 < n
      · simp only [sgnM, if_pos hb] at H
        exact ⟨0, false, by simp [hb], (fun m h => by simp [hb] at h), H⟩
      · simp only [sgnM, if_neg hb] at H
        exact ⟨-n, true, by simp [hb], (fun m h => by simpa [hb] using h), H⟩
  · have hc : s.size = 0 ∨ (∃ h : 0 < s.size, ((s[0].toNat : Int) == 45) = false) := by
      rcases Nat.eq_zero_or_pos s.size with h | h
      · exact .inl h
      · refine .inr ⟨h, ?_⟩
        cases hx : ((s[0].toNat : Int) == 45)
        · rfl
        · exact absurd ((head_45 s h).2 hx) hh
    have H := fun W => r6signed_plus s W hz hc _ rfl
    have e : sgnOf s.data.toList = (match numOf 18446744073709551615 s.data.toList with
      | some n => if n ≤ 9223372036854775807 then some n else none
      | none => none) := by unfold sgnOf; rw [if_neg hh]; rfl
    rw [e]
    cases hn : numOf 18446744073709551615 s.data.toList with
    | none =>
      rw [hn] at H
      exact ⟨0, false, rfl, (fun n h => by cases h), H⟩
    | some n =>
      rw [hn] at H
      have hi := hin _ n hn
      by_cases hb : n ≤ 9223372036854775807
      · have e1 : n.tmod 9223372036854775808 = n := Int.tmod_eq_of_lt hi.1 (by omega)
        simp only [sgnP, decide_eq_true hb, e1, show wrap64 n = n by unfold wrap64; omega] at H
        exact ⟨n, true, by simp [hb], (fun m h => by simpa [hb] using h), H⟩
      · simp only [sgnP, decide_eq_false hb] at H
        exact ⟨_, false, by simp [hb], (fun m h => by simp [hb] at h), H⟩
end Go.Proofs.YtmgeefhacnadcaaGreatDoor
namespace Go.Proofs.YtmgeefhacnadcaaGreatDoor
open Go.RowKit

set_option maxRecDepth 100000 in
set_option maxHeartbeats 4000000 in
theorem r6conv_bad1 (c d : Col) (v : Vl) (w : World) (n1 : c.n.size ≤ 9223372036854775807) (h1 : colOk c = false) :
    Calls Tryz.prog 11 #[.agg #[.string c.n, .int .i64 c.t, .int .i64 c.z, .bool c.u], .agg #[.string d.n, .int .i64 d.t, .int .i64 d.z, .bool d.u], .agg #[.int .i64 v.k, .int .i64 v.i, .int .u64 v.u, .string v.s]] w fun e w' => e = .returned (.tuple #[.agg #[.int .i64 0, .int .i64 0, .int .u64 0, .string ⟨#[]⟩], .int .i64 2]) ∧ Below w.heap.size w w' := by
  have HRC : Hid (∀ W, Calls Tryz.prog 29 #[.agg #[.string c.n, .int .i64 c.t, .int .i64 c.z, .bool c.u]] W fun e w' => e = .returned (.bool false) ∧ Below W.heap.size W w') := Lib.hid (fun W => by have h := r6right_any c W n1; rw [h1] at h; exact h)
  clear h1 n1
  go_enter Tryz.func11, Tryz.ntmps11
  go_upto_region 1 with fail
  obtain ⟨W1, hW1⟩ : ∃ W1, ((((w.alloc (.cells #[.string c.n, .int .i64 c.t, .int .i64 c.z, .bool c.u] 24)).alloc (.cells #[.string d.n, .int .i64 d.t, .int .i64 d.z, .bool d.u] 24)).alloc (.cells #[.int .i64 v.k, .int .i64 v.i, .int .u64 v.u, .string v.s] 28)).alloc (.cells #[.int .i64 0, .int .i64 0, .int .u64 0, .string ⟨#[]⟩] 28)) = W1 := ⟨_, rfl⟩
  have hB : Below w.heap.size w W1 := by rw [← hW1]; exact ((((Below.refl _ _).alloc (Nat.le_refl _) _).alloc (by simp) _).alloc (by simp; omega) _).alloc (by simp; omega) _
  have a0 : W1.cell? ⟨w.heap.size, 0, none⟩ = some (.string c.n) := by rw [← hW1]; simp [go_sem]
  have a1 : W1.cell? ⟨w.heap.size, 1, none⟩ = some (.int .i64 c.t) := by rw [← hW1]; simp [go_sem]
  have a2 : W1.cell? ⟨w.heap.size, 2, none⟩ = some (.int .i64 c.z) := by rw [← hW1]; simp [go_sem]
  have a3 : W1.cell? ⟨w.heap.size, 3, none⟩ = some (.bool c.u) := by rw [← hW1]; simp [go_sem]
  have b0 : W1.cell? ⟨w.heap.size + 1, 0, none⟩ = some (.string d.n) := by rw [← hW1]; simp [go_sem]
  have b1 : W1.cell? ⟨w.heap.size + 1, 1, none⟩ = some (.int .i64 d.t) := by rw [← hW1]; simp [go_sem]
  have b2 : W1.cell? ⟨w.heap.size + 1, 2, none⟩ = some (.int .i64 d.z) := by rw [← hW1]; simp [go_sem]
  have b3 : W1.cell? ⟨w.heap.size + 1, 3, none⟩ = some (.bool d.u) := by rw [← hW1]; simp [go_sem]
  have v0 : W1.cell? ⟨w.heap.size + 1 + 1, 0, none⟩ = some (.int .i64 v.k) := by rw [← hW1]; simp [go_sem]
  have v1 : W1.cell? ⟨w.heap.size + 1 + 1, 1, none⟩ = some (.int .i64 v.i) := by rw [← hW1]; simp [go_sem]
  have v2 : W1.cell? ⟨w.heap.size + 1 + 1, 2, none⟩ = some (.int .u64 v.u) := by rw [← hW1]; simp [go_sem]
  have v3 : W1.cell? ⟨w.heap.size + 1 + 1, 3, none⟩ = some (.string v.s) := by rw [← hW1]; simp [go_sem]
  have r0 : W1.cell? ⟨w.heap.size + 1 + 1 + 1, 0, none⟩ = some (.int .i64 0) := by rw [← hW1]; simp [go_sem]
  have r1 : W1.cell? ⟨w.heap.size + 1 + 1 + 1, 1, none⟩ = some (.int .i64 0) := by rw [← hW1]; simp [go_sem]
  have r2 : W1.cell? ⟨w.heap.size + 1 + 1 + 1, 2, none⟩ = some (.int .u64 0) := by rw [← hW1]; simp [go_sem]
  have r3 : W1.cell? ⟨w.heap.size + 1 + 1 + 1, 3, none⟩ = some (.string ⟨#[]⟩) := by rw [← hW1]; simp [go_sem]
  have fr0 : W1.frozen? ⟨w.heap.size + 1 + 1 + 1, 0, none⟩ = false := by rw [← hW1]; simp [go_sem]
  have fr1 : W1.frozen? ⟨w.heap.size + 1 + 1 + 1, 1, none⟩ = false := by rw [← hW1]; simp [go_sem]
  have fr2 : W1.frozen? ⟨w.heap.size + 1 + 1 + 1, 2, none⟩ = false := by rw [← hW1]; simp [go_sem]
  have fr3 : W1.frozen? ⟨w.heap.size + 1 + 1 + 1, 3, none⟩ = false := by rw [← hW1]; simp [go_sem]
  rw [hW1]
  clear hW1
  go_wp2_with (first | (go_at_call 29; (with_reducible refine (HRC.out _).mono ?_); rintro e w2 ⟨rfl, hb⟩; replace fr0 := keep_frozen hb (World.block_lt_of_cell? _ _ r0) fr0; replace fr1 := keep_frozen hb (World.block_lt_of_cell? _ _ r1) fr1; replace fr2 := keep_frozen hb (World.block_lt_of_cell? _ _ r2) fr2; replace fr3 := keep_frozen hb (World.block_lt_of_cell? _ _ r3) fr3; replace a0 := keep_cell hb a0; replace a1 := keep_cell hb a1; replace a2 := keep_cell hb a2; replace a3 := keep_cell hb a3; replace b0 := keep_cell hb b0; replace b1 := keep_cell hb b1; replace b2 := keep_cell hb b2; replace b3 := keep_cell hb b3; replace v0 := keep_cell hb v0; replace v1 := keep_cell hb v1; replace v2 := keep_cell hb v2; replace v3 := keep_cell hb v3; replace r0 := keep_cell hb r0; replace r1 := keep_cell hb r1; replace r2 := keep_cell hb r2; replace r3 := keep_cell hb r3; replace hB := held_trans hB hb; clear hb))
  refine bodyPost_ret (v := .tuple #[.agg #[.int .i64 0, .int .i64 0, .int .u64 0, .string ⟨#[]⟩], .int .i64 2]) (by simp [results, Tryz.results11, go_sem, r0, r1, r2, r3]) rfl ⟨rfl, ?_⟩
  repeat' first | exact hB | (refine Below.setCell ?_ (by simp; try omega) _)

set_option maxRecDepth 100000 in
set_option maxHeartbeats 4000000 in
theorem r6conv_bad2 (c d : Col) (v : Vl) (w : World) (n1 : c.n.size ≤ 9223372036854775807) (h1 : colOk c = true) (n2 : d.n.size ≤ 9223372036854775807) (h2 : colOk d = false) :
    Calls Tryz.prog 11 #[.agg #[.string c.n, .int .i64 c.t, .int .i64 c.z, .bool c.u], .agg #[.string d.n, .int .i64 d.t, .int .i64 d.z, .bool d.u], .agg #[.int .i64 v.k, .int .i64 v.i, .int .u64 v.u, .string v.s]] w fun e w' => e = .returned (.tuple #[.agg #[.int .i64 0, .int .i64 0, .int .u64 0, .string ⟨#[]⟩], .int .i64 2]) ∧ Below w.heap.size w w' := by
  have HRC : Hid (∀ W, Calls Tryz.prog 29 #[.agg #[.string c.n, .int .i64 c.t, .int .i64 c.z, .bool c.u]] W fun e w' => e = .returned (.bool true) ∧ Below W.heap.size W w') := Lib.hid (fun W => by have h := r6right_any c W n1; rw [h1] at h; exact h)
  have HRD : Hid (∀ W, Calls Tryz.prog 29 #[.agg #[.string d.n, .int .i64 d.t, .int .i64 d.z, .bool d.u]] W fun e w' => e = .returned (.bool false) ∧ Below W.heap.size W w') := Lib.hid (fun W => by have h := r6right_any d W n2; rw [h2] at h; exact h)
  clear h1 n1 h2 n2
  go_enter Tryz.func11, Tryz.ntmps11
  go_upto_region 1 with fail
  obtain ⟨W1, hW1⟩ : ∃ W1, ((((w.alloc (.cells #[.string c.n, .int .i64 c.t, .int .i64 c.z, .bool c.u] 24)).alloc (.cells #[.string d.n, .int .i64 d.t, .int .i64 d.z, .bool d.u] 24)).alloc (.cells #[.int .i64 v.k, .int .i64 v.i, .int .u64 v.u, .string v.s] 28)).alloc (.cells #[.int .i64 0, .int .i64 0, .int .u64 0, .string ⟨#[]⟩] 28)) = W1 := ⟨_, rfl⟩
  have hB : Below w.heap.size w W1 := by rw [← hW1]; exact ((((Below.refl _ _).alloc (Nat.le_refl _) _).alloc (by simp) _).alloc (by simp; omega) _).alloc (by simp; omega) _
  have a0 : W1.cell? ⟨w.heap.size, 0, none⟩ = some (.string c.n) := by rw [← hW1]; simp [go_sem]
  have a1 : W1.cell? ⟨w.heap.size, 1, none⟩ = some (.int .i64 c.t) := by rw [← hW1]; simp [go_sem]
  have a2 : W1.cell? ⟨w.heap.size, 2, none⟩ = some (.int .i64 c.z) := by rw [← hW1]; simp [go_sem]
  have a3 : W1.cell? ⟨w.heap.size, 3, none⟩ = some (.bool c.u) := by rw [← hW1]; simp [go_sem]
  have b0 : W1.cell? ⟨w.heap.size + 1, 0, none⟩ = some (.string d.n) := by rw [← hW1]; simp [go_sem]
  have b1 : W1.cell? ⟨w.heap.size + 1, 1, none⟩ = some (.int .i64 d.t) := by rw [← hW1]; simp [go_sem]
  have b2 : W1.cell? ⟨w.heap.size + 1, 2, none⟩ = some (.int .i64 d.z) := by rw [← hW1]; simp [go_sem]
  have b3 : W1.cell? ⟨w.heap.size + 1, 3, none⟩ = some (.bool d.u) := by rw [← hW1]; simp [go_sem]
  have v0 : W1.cell? ⟨w.heap.size + 1 + 1, 0, none⟩ = some (.int .i64 v.k) := by rw [← hW1]; simp [go_sem]
  have v1 : W1.cell? ⟨w.heap.size + 1 + 1, 1, none⟩ = some (.int .i64 v.i) := by rw [← hW1]; simp [go_sem]
  have v2 : W1.cell? ⟨w.heap.size + 1 + 1, 2, none⟩ = some (.int .u64 v.u) := by rw [← hW1]; simp [go_sem]
  have v3 : W1.cell? ⟨w.heap.size + 1 + 1, 3, none⟩ = some (.string v.s) := by rw [← hW1]; simp [go_sem]
  have r0 : W1.cell? ⟨w.heap.size + 1 + 1 + 1, 0, none⟩ = some (.int .i64 0) := by rw [← hW1]; simp [go_sem]
  have r1 : W1.cell? ⟨w.heap.size + 1 + 1 + 1, 1, none⟩ = some (.int .i64 0) := by rw [← hW1]; simp [go_sem]
  have r2 : W1.cell? ⟨w.heap.size + 1 + 1 + 1, 2, none⟩ = some (.int .u64 0) := by rw [← hW1]; simp [go_sem]
  have r3 : W1.cell? ⟨w.heap.size + 1 + 1 + 1, 3, none⟩ = some (.string ⟨#[]⟩) := by rw [← hW1]; simp [go_sem]
  have fr0 : W1.frozen? ⟨w.heap.size + 1 + 1 + 1, 0, none⟩ = false := by rw [← hW1]; simp [go_sem]
  have fr1 : W1.frozen? ⟨w.heap.size + 1 + 1 + 1, 1, none⟩ = false := by rw [← hW1]; simp [go_sem]
  have fr2 : W1.frozen? ⟨w.heap.size + 1 + 1 + 1, 2, none⟩ = false := by rw [← hW1]; simp [go_sem]
  have fr3 : W1.frozen? ⟨w.heap.size + 1 + 1 + 1, 3, none⟩ = false := by rw [← hW1]; simp [go_sem]
  rw [hW1]
  clear hW1
  go_wp2_with (first | (go_at_call 29; (with_reducible refine (HRC.out _).mono ?_); rintro e w2 ⟨rfl, hb⟩; replace fr0 := keep_frozen hb (World.block_lt_of_cell? _ _ r0) fr0; replace fr1 := keep_frozen hb (World.block_lt_of_cell? _ _ r1) fr1; replace fr2 := keep_frozen hb (World.block_lt_of_cell? _ _ r2) fr2; replace fr3 := keep_frozen hb (World.block_lt_of_cell? _ _ r3) fr3; replace a0 := keep_cell hb a0; replace a1 := keep_cell hb a1; replace a2 := keep_cell hb a2; replace a3 := keep_cell hb a3; replace b0 := keep_cell hb b0; replace b1 := keep_cell hb b1; replace b2 := keep_cell hb b2; replace b3 := keep_cell hb b3; replace v0 := keep_cell hb v0; replace v1 := keep_cell hb v1; replace v2 := keep_cell hb v2; replace v3 := keep_cell hb v3; replace r0 := keep_cell hb r0; replace r1 := keep_cell hb r1; replace r2 := keep_cell hb r2; replace r3 := keep_cell hb r3; replace hB := held_trans hB hb; clear hb) | (go_at_call 29; (with_reducible refine (HRD.out _).mono ?_); rintro e w2 ⟨rfl, hb⟩; replace fr0 := keep_frozen hb (World.block_lt_of_cell? _ _ r0) fr0; replace fr1 := keep_frozen hb (World.block_lt_of_cell? _ _ r1) fr1; replace fr2 := keep_frozen hb (World.block_lt_of_cell? _ _ r2) fr2; replace fr3 := keep_frozen hb (World.block_lt_of_cell? _ _ r3) fr3; replace a0 := keep_cell hb a0; replace a1 := keep_cell hb a1; replace a2 := keep_cell hb a2; replace a3 := keep_cell hb a3; replace b0 := keep_cell hb b0; replace b1 := keep_cell hb b1; replace b2 := keep_cell hb b2; replace b3 := keep_cell hb b3; replace v0 := keep_cell hb v0; replace v1 := keep_cell hb v1; replace v2 := keep_cell hb v2; replace v3 := keep_cell hb v3; replace r0 := keep_cell hb r0; replace r1 := keep_cell hb r1; replace r2 := keep_cell hb r2; replace r3 := keep_cell hb r3; replace hB := held_trans hB hb; clear hb))
  refine bodyPost_ret (v := .tuple #[.agg #[.int .i64 0, .int .i64 0, .int .u64 0, .string ⟨#[]⟩], .int .i64 2]) (by simp [results, Tryz.results11, go_sem, r0, r1, r2, r3]) rfl ⟨rfl, ?_⟩
  repeat' first | exact hB | (refine Below.setCell ?_ (by simp; try omega) _)

set_option maxRecDepth 100000 in
set_option maxHeartbeats 4000000 in
theorem r6conv_unfit (c d : Col) (v : Vl) (w : World) (n1 : c.n.size ≤ 9223372036854775807) (h1 : colOk c = true) (n2 : d.n.size ≤ 9223372036854775807) (h2 : colOk d = true) (m : Int) (hm : fitsN c v = m) (h0 : m ≠ 0) :
    Calls Tryz.prog 11 #[.agg #[.string c.n, .int .i64 c.t, .int .i64 c.z, .bool c.u], .agg #[.string d.n, .int .i64 d.t, .int .i64 d.z, .bool d.u], .agg #[.int .i64 v.k, .int .i64 v.i, .int .u64 v.u, .string v.s]] w fun e w' => e = .returned (.tuple #[.agg #[.int .i64 0, .int .i64 0, .int .u64 0, .string ⟨#[]⟩], .int .i64 m]) ∧ Below w.heap.size w w' := by
  have HRC : Hid (∀ W, Calls Tryz.prog 29 #[.agg #[.string c.n, .int .i64 c.t, .int .i64 c.z, .bool c.u]] W fun e w' => e = .returned (.bool true) ∧ Below W.heap.size W w') := Lib.hid (fun W => by have h := r6right_any c W n1; rw [h1] at h; exact h)
  have HRD : Hid (∀ W, Calls Tryz.prog 29 #[.agg #[.string d.n, .int .i64 d.t, .int .i64 d.z, .bool d.u]] W fun e w' => e = .returned (.bool true) ∧ Below W.heap.size W w') := Lib.hid (fun W => by have h := r6right_any d W n2; rw [h2] at h; exact h)
  have HF1 : Hid (∀ W, Calls Tryz.prog 30 #[.agg #[.string c.n, .int .i64 c.t, .int .i64 c.z, .bool c.u], .agg #[.int .i64 v.k, .int .i64 v.i, .int .u64 v.u, .string v.s]] W fun e w' => e = .returned (.int .i64 m) ∧ Below W.heap.size W w') := Lib.hid (fun W => by have h := rFits_any c v W n1; rw [hm] at h; exact h)
  have hmb : (m != 0) = true := by simpa using h0
  clear h1 n1 h2 n2 hm h0
  go_enter Tryz.func11, Tryz.ntmps11
  go_upto_region 1 with fail
  obtain ⟨W1, hW1⟩ : ∃ W1, ((((w.alloc (.cells #[.string c.n, .int .i64 c.t, .int .i64 c.z, .bool c.u] 24)).alloc (.cells #[.string d.n, .int .i64 d.t, .int .i64 d.z, .bool d.u] 24)).alloc (.cells #[.int .i64 v.k, .int .i64 v.i, .int .u64 v.u, .string v.s] 28)).alloc (.cells #[.int .i64 0, .int .i64 0, .int .u64 0, .string ⟨#[]⟩] 28)) = W1 := ⟨_, rfl⟩
  have hB : Below w.heap.size w W1 := by rw [← hW1]; exact ((((Below.refl _ _).alloc (Nat.le_refl _) _).alloc (by simp) _).alloc (by simp; omega) _).alloc (by simp; omega) _
  have a0 : W1.cell? ⟨w.heap.size, 0, none⟩ = some (.string c.n) := by rw [← hW1]; simp [go_sem]
  have a1 : W1.cell? ⟨w.heap.size, 1, none⟩ = some (.int .i64 c.t) := by rw [← hW1]; simp [go_sem]
  have a2 : W1.cell? ⟨w.heap.size, 2, none⟩ = some (.int .i64 c.z) := by rw [← hW1]; simp [go_sem]
  have a3 : W1.cell? ⟨w.heap.size, 3, none⟩ = some (.bool c.u) := by rw [← hW1]; simp [go_sem]
  have b0 : W1.cell? ⟨w.heap.size + 1, 0, none⟩ = some (.string d.n) := by rw [← hW1]; simp [go_sem]
  have b1 : W1.cell? ⟨w.heap.size + 1, 1, none⟩ = some (.int .i64 d.t) := by rw [← hW1]; simp [go_sem]
  have b2 : W1.cell? ⟨w.heap.size + 1, 2, none⟩ = some (.int .i64 d.z) := by rw [← hW1]; simp [go_sem]
  have b3 : W1.cell? ⟨w.heap.size + 1, 3, none⟩ = some (.bool d.u) := by rw [← hW1]; simp [go_sem]
  have v0 : W1.cell? ⟨w.heap.size + 1 + 1, 0, none⟩ = some (.int .i64 v.k) := by rw [← hW1]; simp [go_sem]
  have v1 : W1.cell? ⟨w.heap.size + 1 + 1, 1, none⟩ = some (.int .i64 v.i) := by rw [← hW1]; simp [go_sem]
  have v2 : W1.cell? ⟨w.heap.size + 1 + 1, 2, none⟩ = some (.int .u64 v.u) := by rw [← hW1]; simp [go_sem]
  have v3 : W1.cell? ⟨w.heap.size + 1 + 1, 3, none⟩ = some (.string v.s) := by rw [← hW1]; simp [go_sem]
  have r0 : W1.cell? ⟨w.heap.size + 1 + 1 + 1, 0, none⟩ = some (.int .i64 0) := by rw [← hW1]; simp [go_sem]
  have r1 : W1.cell? ⟨w.heap.size + 1 + 1 + 1, 1, none⟩ = some (.int .i64 0) := by rw [← hW1]; simp [go_sem]
  have r2 : W1.cell? ⟨w.heap.size + 1 + 1 + 1, 2, none⟩ = some (.int .u64 0) := by rw [← hW1]; simp [go_sem]
  have r3 : W1.cell? ⟨w.heap.size + 1 + 1 + 1, 3, none⟩ = some (.string ⟨#[]⟩) := by rw [← hW1]; simp [go_sem]
  have fr0 : W1.frozen? ⟨w.heap.size + 1 + 1 + 1, 0, none⟩ = false := by rw [← hW1]; simp [go_sem]
  have fr1 : W1.frozen? ⟨w.heap.size + 1 + 1 + 1, 1, none⟩ = false := by rw [← hW1]; simp [go_sem]
  have fr2 : W1.frozen? ⟨w.heap.size + 1 + 1 + 1, 2, none⟩ = false := by rw [← hW1]; simp [go_sem]
  have fr3 : W1.frozen? ⟨w.heap.size + 1 + 1 + 1, 3, none⟩ = false := by rw [← hW1]; simp [go_sem]
  rw [hW1]
  clear hW1
  go_wp2_with (first | (go_at_call 29; (with_reducible refine (HRC.out _).mono ?_); rintro e w2 ⟨rfl, hb⟩; replace fr0 := keep_frozen hb (World.block_lt_of_cell? _ _ r0) fr0; replace fr1 := keep_frozen hb (World.block_lt_of_cell? _ _ r1) fr1; replace fr2 := keep_frozen hb (World.block_lt_of_cell? _ _ r2) fr2; replace fr3 := keep_frozen hb (World.block_lt_of_cell? _ _ r3) fr3; replace a0 := keep_cell hb a0; replace a1 := keep_cell hb a1; replace a2 := keep_cell hb a2; replace a3 := keep_cell hb a3; replace b0 := keep_cell hb b0; replace b1 := keep_cell hb b1; replace b2 := keep_cell hb b2; replace b3 := keep_cell hb b3; replace v0 := keep_cell hb v0; replace v1 := keep_cell hb v1; replace v2 := keep_cell hb v2; replace v3 := keep_cell hb v3; replace r0 := keep_cell hb r0; replace r1 := keep_cell hb r1; replace r2 := keep_cell hb r2; replace r3 := keep_cell hb r3; replace hB := held_trans hB hb; clear hb) | (go_at_call 29; (with_reducible refine (HRD.out _).mono ?_); rintro e w2 ⟨rfl, hb⟩; replace fr0 := keep_frozen hb (World.block_lt_of_cell? _ _ r0) fr0; replace fr1 := keep_frozen hb (World.block_lt_of_cell? _ _ r1) fr1; replace fr2 := keep_frozen hb (World.block_lt_of_cell? _ _ r2) fr2; replace fr3 := keep_frozen hb (World.block_lt_of_cell? _ _ r3) fr3; replace a0 := keep_cell hb a0; replace a1 := keep_cell hb a1; replace a2 := keep_cell hb a2; replace a3 := keep_cell hb a3; replace b0 := keep_cell hb b0; replace b1 := keep_cell hb b1; replace b2 := keep_cell hb b2; replace b3 := keep_cell hb b3; replace v0 := keep_cell hb v0; replace v1 := keep_cell hb v1; replace v2 := keep_cell hb v2; replace v3 := keep_cell hb v3; replace r0 := keep_cell hb r0; replace r1 := keep_cell hb r1; replace r2 := keep_cell hb r2; replace r3 := keep_cell hb r3; replace hB := held_trans hB hb; clear hb) | (go_at_call 30; (with_reducible refine (HF1.out _).mono ?_); rintro e w2 ⟨rfl, hb⟩; replace fr0 := keep_frozen hb (World.block_lt_of_cell? _ _ r0) fr0; replace fr1 := keep_frozen hb (World.block_lt_of_cell? _ _ r1) fr1; replace fr2 := keep_frozen hb (World.block_lt_of_cell? _ _ r2) fr2; replace fr3 := keep_frozen hb (World.block_lt_of_cell? _ _ r3) fr3; replace a0 := keep_cell hb a0; replace a1 := keep_cell hb a1; replace a2 := keep_cell hb a2; replace a3 := keep_cell hb a3; replace b0 := keep_cell hb b0; replace b1 := keep_cell hb b1; replace b2 := keep_cell hb b2; replace b3 := keep_cell hb b3; replace v0 := keep_cell hb v0; replace v1 := keep_cell hb v1; replace v2 := keep_cell hb v2; replace v3 := keep_cell hb v3; replace r0 := keep_cell hb r0; replace r1 := keep_cell hb r1; replace r2 := keep_cell hb r2; replace r3 := keep_cell hb r3; replace hB := held_trans hB hb; clear hb))
  refine bodyPost_ret (v := .tuple #[.agg #[.int .i64 0, .int .i64 0, .int .u64 0, .string ⟨#[]⟩], .int .i64 m]) (by simp [results, Tryz.results11, go_sem, r0, r1, r2, r3]) rfl ⟨rfl, ?_⟩
  repeat' first | exact hB | (refine Below.setCell ?_ (by simp; try omega) _)

end Go.Proofs.YtmgeefhacnadcaaGreatDoor
namespace Go.Proofs.YtmgeefhacnadcaaGreatDoor
open Go.RowKit

set_option maxRecDepth 100000 in
set_option maxHeartbeats 4000000 in
theorem r6conv_noway (c d : Col) (v : Vl) (w : World) (n1 : c.n.size ≤ 9223372036854775807) (h1 : colOk c = true) (n2 : d.n.size ≤ 9223372036854775807) (h2 : colOk d = true) (hm : fitsN c v = 0) (hwy : wayR c.t d.t = false) :
    Calls Tryz.prog 11 #[.agg #[.string c.n, .int .i64 c.t, .int .i64 c.z, .bool c.u], .agg #[.string d.n, .int .i64 d.t, .int .i64 d.z, .bool d.u], .agg #[.int .i64 v.k, .int .i64 v.i, .int .u64 v.u, .string v.s]] w fun e w' => e = .returned (.tuple #[.agg #[.int .i64 0, .int .i64 0, .int .u64 0, .string ⟨#[]⟩], .int .i64 160]) ∧ Below w.heap.size w w' := by
  have HRC : Hid (∀ W, Calls Tryz.prog 29 #[.agg #[.string c.n, .int .i64 c.t, .int .i64 c.z, .bool c.u]] W fun e w' => e = .returned (.bool true) ∧ Below W.heap.size W w') := Lib.hid (fun W => by have h := r6right_any c W n1; rw [h1] at h; exact h)
  have HRD : Hid (∀ W, Calls Tryz.prog 29 #[.agg #[.string d.n, .int .i64 d.t, .int .i64 d.z, .bool d.u]] W fun e w' => e = .returned (.bool true) ∧ Below W.heap.size W w') := Lib.hid (fun W => by have h := r6right_any d W n2; rw [h2] at h; exact h)
  have HF1 : Hid (∀ W, Calls Tryz.prog 30 #[.agg #[.string c.n, .int .i64 c.t, .int .i64 c.z, .bool c.u], .agg #[.int .i64 v.k, .int .i64 v.i, .int .u64 v.u, .string v.s]] W fun e w' => e = .returned (.int .i64 0) ∧ Below W.heap.size W w') := Lib.hid (fun W => by have h := rFits_any c v W n1; rw [hm] at h; exact h)
  have HWY : Hid (∀ W, Calls Tryz.prog 16 #[.int .i64 c.t, .int .i64 d.t] W fun e w' => e = .returned (.bool false) ∧ W = w') := Lib.hid (fun W => by have h := r6Way_any c.t d.t W; rw [hwy] at h; exact h)
  clear h1 n1 h2 n2 hm hwy
  go_enter Tryz.func11, Tryz.ntmps11
  go_upto_region 1 with fail
  obtain ⟨W1, hW1⟩ : ∃ W1, ((((w.alloc (.cells #[.string c.n, .int .i64 c.t, .int .i64 c.z, .bool c.u] 24)).alloc (.cells #[.string d.n, .int .i64 d.t, .int .i64 d.z, .bool d.u] 24)).alloc (.cells #[.int .i64 v.k, .int .i64 v.i, .int .u64 v.u, .string v.s] 28)).alloc (.cells #[.int .i64 0, .int .i64 0, .int .u64 0, .string ⟨#[]⟩] 28)) = W1 := ⟨_, rfl⟩
  have hB : Below w.heap.size w W1 := by rw [← hW1]; exact ((((Below.refl _ _).alloc (Nat.le_refl _) _).alloc (by simp) _).alloc (by simp; omega) _).alloc (by simp; omega) _
  have a0 : W1.cell? ⟨w.heap.size, 0, none⟩ = some (.string c.n) := by rw [← hW1]; simp [go_sem]
  have a1 : W1.cell? ⟨w.heap.size, 1, none⟩ = some (.int .i64 c.t) := by rw [← hW1]; simp [go_sem]
  have a2 : W1.cell? ⟨w.heap.size, 2, none⟩ = some (.int .i64 c.z) := by rw [← hW1]; simp [go_sem]
  have a3 : W1.cell? ⟨w.heap.size, 3, none⟩ = some (.bool c.u) := by rw [← hW1]; simp [go_sem]
  have b0 : W1.cell? ⟨w.heap.size + 1, 0, none⟩ = some (.string d.n) := by rw [← hW1]; simp [go_sem]
  have b1 : W1.cell? ⟨w.heap.size + 1, 1, none⟩ = some (.int .i64 d.t) := by rw [← hW1]; simp [go_sem]
  have b2 : W1.cell? ⟨w.heap.size + 1, 2, none⟩ = some (.int .i64 d.z) := by rw [← hW1]; simp [go_sem]
  have b3 : W1.cell? ⟨w.heap.size + 1, 3, none⟩ = some (.bool d.u) := by rw [← hW1]; simp [go_sem]
  have v0 : W1.cell? ⟨w.heap.size + 1 + 1, 0, none⟩ = some (.int .i64 v.k) := by rw [← hW1]; simp [go_sem]
  have v1 : W1.cell? ⟨w.heap.size + 1 + 1, 1, none⟩ = some (.int .i64 v.i) := by rw [← hW1]; simp [go_sem]
  have v2 : W1.cell? ⟨w.heap.size + 1 + 1, 2, none⟩ = some (.int .u64 v.u) := by rw [← hW1]; simp [go_sem]
  have v3 : W1.cell? ⟨w.heap.size + 1 + 1, 3, none⟩ = some (.string v.s) := by rw [← hW1]; simp [go_sem]
  have r0 : W1.cell? ⟨w.heap.size + 1 + 1 + 1, 0, none⟩ = some (.int .i64 0) := by rw [← hW1]; simp [go_sem]
  have r1 : W1.cell? ⟨w.heap.size + 1 + 1 + 1, 1, none⟩ = some (.int .i64 0) := by rw [← hW1]; simp [go_sem]
  have r2 : W1.cell? ⟨w.heap.size + 1 + 1 + 1, 2, none⟩ = some (.int .u64 0) := by rw [← hW1]; simp [go_sem]
  have r3 : W1.cell? ⟨w.heap.size + 1 + 1 + 1, 3, none⟩ = some (.string ⟨#[]⟩) := by rw [← hW1]; simp [go_sem]
  have fr0 : W1.frozen? ⟨w.heap.size + 1 + 1 + 1, 0, none⟩ = false := by rw [← hW1]; simp [go_sem]
  have fr1 : W1.frozen? ⟨w.heap.size + 1 + 1 + 1, 1, none⟩ = false := by rw [← hW1]; simp [go_sem]
  have fr2 : W1.frozen? ⟨w.heap.size + 1 + 1 + 1, 2, none⟩ = false := by rw [← hW1]; simp [go_sem]
  have fr3 : W1.frozen? ⟨w.heap.size + 1 + 1 + 1, 3, none⟩ = false := by rw [← hW1]; simp [go_sem]
  rw [hW1]
  clear hW1
  go_wp2_with (first | (go_at_call 29; (with_reducible refine (HRC.out _).mono ?_); rintro e w2 ⟨rfl, hb⟩; replace fr0 := keep_frozen hb (World.block_lt_of_cell? _ _ r0) fr0; replace fr1 := keep_frozen hb (World.block_lt_of_cell? _ _ r1) fr1; replace fr2 := keep_frozen hb (World.block_lt_of_cell? _ _ r2) fr2; replace fr3 := keep_frozen hb (World.block_lt_of_cell? _ _ r3) fr3; replace a0 := keep_cell hb a0; replace a1 := keep_cell hb a1; replace a2 := keep_cell hb a2; replace a3 := keep_cell hb a3; replace b0 := keep_cell hb b0; replace b1 := keep_cell hb b1; replace b2 := keep_cell hb b2; replace b3 := keep_cell hb b3; replace v0 := keep_cell hb v0; replace v1 := keep_cell hb v1; replace v2 := keep_cell hb v2; replace v3 := keep_cell hb v3; replace r0 := keep_cell hb r0; replace r1 := keep_cell hb r1; replace r2 := keep_cell hb r2; replace r3 := keep_cell hb r3; replace hB := held_trans hB hb; clear hb) | (go_at_call 29; (with_reducible refine (HRD.out _).mono ?_); rintro e w2 ⟨rfl, hb⟩; replace fr0 := keep_frozen hb (World.block_lt_of_cell? _ _ r0) fr0; replace fr1 := keep_frozen hb (World.block_lt_of_cell? _ _ r1) fr1; replace fr2 := keep_frozen hb (World.block_lt_of_cell? _ _ r2) fr2; replace fr3 := keep_frozen hb (World.block_lt_of_cell? _ _ r3) fr3; replace a0 := keep_cell hb a0; replace a1 := keep_cell hb a1; replace a2 := keep_cell hb a2; replace a3 := keep_cell hb a3; replace b0 := keep_cell hb b0; replace b1 := keep_cell hb b1; replace b2 := keep_cell hb b2; replace b3 := keep_cell hb b3; replace v0 := keep_cell hb v0; replace v1 := keep_cell hb v1; replace v2 := keep_cell hb v2; replace v3 := keep_cell hb v3; replace r0 := keep_cell hb r0; replace r1 := keep_cell hb r1; replace r2 := keep_cell hb r2; replace r3 := keep_cell hb r3; replace hB := held_trans hB hb; clear hb) | (go_at_call 30; (with_reducible refine (HF1.out _).mono ?_); rintro e w2 ⟨rfl, hb⟩; replace fr0 := keep_frozen hb (World.block_lt_of_cell? _ _ r0) fr0; replace fr1 := keep_frozen hb (World.block_lt_of_cell? _ _ r1) fr1; replace fr2 := keep_frozen hb (World.block_lt_of_cell? _ _ r2) fr2; replace fr3 := keep_frozen hb (World.block_lt_of_cell? _ _ r3) fr3; replace a0 := keep_cell hb a0; replace a1 := keep_cell hb a1; replace a2 := keep_cell hb a2; replace a3 := keep_cell hb a3; replace b0 := keep_cell hb b0; replace b1 := keep_cell hb b1; replace b2 := keep_cell hb b2; replace b3 := keep_cell hb b3; replace v0 := keep_cell hb v0; replace v1 := keep_cell hb v1; replace v2 := keep_cell hb v2; replace v3 := keep_cell hb v3; replace r0 := keep_cell hb r0; replace r1 := keep_cell hb r1; replace r2 := keep_cell hb r2; replace r3 := keep_cell hb r3; replace hB := held_trans hB hb; clear hb) | (go_at_call 16; (with_reducible refine (HWY.out _).mono ?_); rintro e w2 ⟨rfl, rfl⟩))
  refine bodyPost_ret (v := .tuple #[.agg #[.int .i64 0, .int .i64 0, .int .u64 0, .string ⟨#[]⟩], .int .i64 160]) (by simp [results, Tryz.results11, go_sem, r0, r1, r2, r3]) rfl ⟨rfl, ?_⟩
  repeat' first | exact hB | (refine Below.setCell ?_ (by simp; try omega) _)

set_option maxRecDepth 100000 in
set_option maxHeartbeats 4000000 in
theorem r6conv_nullbad (c d : Col) (v : Vl) (w : World) (n1 : c.n.size ≤ 9223372036854775807) (h1 : colOk c = true) (n2 : d.n.size ≤ 9223372036854775807) (h2 : colOk d = true) (hm : fitsN c v = 0) (hwy : wayR c.t d.t = true) (hk : v.k = 0) (hu : d.u = false) :
    Calls Tryz.prog 11 #[.agg #[.string c.n, .int .i64 c.t, .int .i64 c.z, .bool c.u], .agg #[.string d.n, .int .i64 d.t, .int .i64 d.z, .bool d.u], .agg #[.int .i64 v.k, .int .i64 v.i, .int .u64 v.u, .string v.s]] w fun e w' => e = .returned (.tuple #[.agg #[.int .i64 0, .int .i64 0, .int .u64 0, .string ⟨#[]⟩], .int .i64 161]) ∧ Below w.heap.size w w' := by
  have HRC : Hid (∀ W, Calls Tryz.prog 29 #[.agg #[.string c.n, .int .i64 c.t, .int .i64 c.z, .bool c.u]] W fun e w' => e = .returned (.bool true) ∧ Below W.heap.size W w') := Lib.hid (fun W => by have h := r6right_any c W n1; rw [h1] at h; exact h)
  have HRD : Hid (∀ W, Calls Tryz.prog 29 #[.agg #[.string d.n, .int .i64 d.t, .int .i64 d.z, .bool d.u]] W fun e w' => e = .returned (.bool true) ∧ Below W.heap.size W w') := Lib.hid (fun W => by have h := r6right_any d W n2; rw [h2] at h; exact h)
  have HF1 : Hid (∀ W, Calls Tryz.prog 30 #[.agg #[.string c.n, .int .i64 c.t, .int .i64 c.z, .bool c.u], .agg #[.int .i64 v.k, .int .i64 v.i, .int .u64 v.u, .string v.s]] W fun e w' => e = .returned (.int .i64 0) ∧ Below W.heap.size W w') := Lib.hid (fun W => by have h := rFits_any c v W n1; rw [hm] at h; exact h)
  have HWY : Hid (∀ W, Calls Tryz.prog 16 #[.int .i64 c.t, .int .i64 d.t] W fun e w' => e = .returned (.bool true) ∧ W = w') := Lib.hid (fun W => by have h := r6Way_any c.t d.t W; rw [hwy] at h; exact h)
  have hkb : (v.k == 0) = true := by simp [hk]
  have hnu : (!d.u) = true := by rw [hu]; rfl
  clear h1 n1 h2 n2 hm hwy hk hu
  go_enter Tryz.func11, Tryz.ntmps11
  go_upto_region 1 with fail
  obtain ⟨W1, hW1⟩ : ∃ W1, ((((w.alloc (.cells #[.string c.n, .int .i64 c.t, .int .i64 c.z, .bool c.u] 24)).alloc (.cells #[.string d.n, .int .i64 d.t, .int .i64 d.z, .bool d.u] 24)).alloc (.cells #[.int .i64 v.k, .int .i64 v.i, .int .u64 v.u, .string v.s] 28)).alloc (.cells #[.int .i64 0, .int .i64 0, .int .u64 0, .string ⟨#[]⟩] 28)) = W1 := ⟨_, rfl⟩
  have hB : Below w.heap.size w W1 := by rw [← hW1]; exact ((((Below.refl _ _).alloc (Nat.le_refl _) _).alloc (by simp) _).alloc (by simp; omega) _).alloc (by simp; omega) _
  have a0 : W1.cell? ⟨w.heap.size, 0, none⟩ = some (.string c.n) := by rw [← hW1]; simp [go_sem]
  have a1 : W1.cell? ⟨w.heap.size, 1, none⟩ = some (.int .i64 c.t) := by rw [← hW1]; simp [go_sem]
  have a2 : W1.cell? ⟨w.heap.size, 2, none⟩ = some (.int .i64 c.z) := by rw [← hW1]; simp [go_sem]
  have a3 : W1.cell? ⟨w.heap.size, 3, none⟩ = some (.bool c.u) := by rw [← hW1]; simp [go_sem]
  have b0 : W1.cell? ⟨w.heap.size + 1, 0, none⟩ = some (.string d.n) := by rw [← hW1]; simp [go_sem]
  have b1 : W1.cell? ⟨w.heap.size + 1, 1, none⟩ = some (.int .i64 d.t) := by rw [← hW1]; simp [go_sem]
  have b2 : W1.cell? ⟨w.heap.size + 1, 2, none⟩ = some (.int .i64 d.z) := by rw [← hW1]; simp [go_sem]
  have b3 : W1.cell? ⟨w.heap.size + 1, 3, none⟩ = some (.bool d.u) := by rw [← hW1]; simp [go_sem]
  have v0 : W1.cell? ⟨w.heap.size + 1 + 1, 0, none⟩ = some (.int .i64 v.k) := by rw [← hW1]; simp [go_sem]
  have v1 : W1.cell? ⟨w.heap.size + 1 + 1, 1, none⟩ = some (.int .i64 v.i) := by rw [← hW1]; simp [go_sem]
  have v2 : W1.cell? ⟨w.heap.size + 1 + 1, 2, none⟩ = some (.int .u64 v.u) := by rw [← hW1]; simp [go_sem]
  have v3 : W1.cell? ⟨w.heap.size + 1 + 1, 3, none⟩ = some (.string v.s) := by rw [← hW1]; simp [go_sem]
  have r0 : W1.cell? ⟨w.heap.size + 1 + 1 + 1, 0, none⟩ = some (.int .i64 0) := by rw [← hW1]; simp [go_sem]
  have r1 : W1.cell? ⟨w.heap.size + 1 + 1 + 1, 1, none⟩ = some (.int .i64 0) := by rw [← hW1]; simp [go_sem]
  have r2 : W1.cell? ⟨w.heap.size + 1 + 1 + 1, 2, none⟩ = some (.int .u64 0) := by rw [← hW1]; simp [go_sem]
  have r3 : W1.cell? ⟨w.heap.size + 1 + 1 + 1, 3, none⟩ = some (.string ⟨#[]⟩) := by rw [← hW1]; simp [go_sem]
  have fr0 : W1.frozen? ⟨w.heap.size + 1 + 1 + 1, 0, none⟩ = false := by rw [← hW1]; simp [go_sem]
  have fr1 : W1.frozen? ⟨w.heap.size + 1 + 1 + 1, 1, none⟩ = false := by rw [← hW1]; simp [go_sem]
  have fr2 : W1.frozen? ⟨w.heap.size + 1 + 1 + 1, 2, none⟩ = false := by rw [← hW1]; simp [go_sem]
  have fr3 : W1.frozen? ⟨w.heap.size + 1 + 1 + 1, 3, none⟩ = false := by rw [← hW1]; simp [go_sem]
  rw [hW1]
  clear hW1
  go_wp2_with (first | (go_at_call 29; (with_reducible refine (HRC.out _).mono ?_); rintro e w2 ⟨rfl, hb⟩; replace fr0 := keep_frozen hb (World.block_lt_of_cell? _ _ r0) fr0; replace fr1 := keep_frozen hb (World.block_lt_of_cell? _ _ r1) fr1; replace fr2 := keep_frozen hb (World.block_lt_of_cell? _ _ r2) fr2; replace fr3 := keep_frozen hb (World.block_lt_of_cell? _ _ r3) fr3; replace a0 := keep_cell hb a0; replace a1 := keep_cell hb a1; replace a2 := keep_cell hb a2; replace a3 := keep_cell hb a3; replace b0 := keep_cell hb b0; replace b1 := keep_cell hb b1; replace b2 := keep_cell hb b2; replace b3 := keep_cell hb b3; replace v0 := keep_cell hb v0; replace v1 := keep_cell hb v1; replace v2 := keep_cell hb v2; replace v3 := keep_cell hb v3; replace r0 := keep_cell hb r0; replace r1 := keep_cell hb r1; replace r2 := keep_cell hb r2; replace r3 := keep_cell hb r3; replace hB := held_trans hB hb; clear hb) | (go_at_call 29; (with_reducible refine (HRD.out _).mono ?_); rintro e w2 ⟨rfl, hb⟩; replace fr0 := keep_frozen hb (World.block_lt_of_cell? _ _ r0) fr0; replace fr1 := keep_frozen hb (World.block_lt_of_cell? _ _ r1) fr1; replace fr2 := keep_frozen hb (World.block_lt_of_cell? _ _ r2) fr2; replace fr3 := keep_frozen hb (World.block_lt_of_cell? _ _ r3) fr3; replace a0 := keep_cell hb a0; replace a1 := keep_cell hb a1; replace a2 := keep_cell hb a2; replace a3 := keep_cell hb a3; replace b0 := keep_cell hb b0; replace b1 := keep_cell hb b1; replace b2 := keep_cell hb b2; replace b3 := keep_cell hb b3; replace v0 := keep_cell hb v0; replace v1 := keep_cell hb v1; replace v2 := keep_cell hb v2; replace v3 := keep_cell hb v3; replace r0 := keep_cell hb r0; replace r1 := keep_cell hb r1; replace r2 := keep_cell hb r2; replace r3 := keep_cell hb r3; replace hB := held_trans hB hb; clear hb) | (go_at_call 30; (with_reducible refine (HF1.out _).mono ?_); rintro e w2 ⟨rfl, hb⟩; replace fr0 := keep_frozen hb (World.block_lt_of_cell? _ _ r0) fr0; replace fr1 := keep_frozen hb (World.block_lt_of_cell? _ _ r1) fr1; replace fr2 := keep_frozen hb (World.block_lt_of_cell? _ _ r2) fr2; replace fr3 := keep_frozen hb (World.block_lt_of_cell? _ _ r3) fr3; replace a0 := keep_cell hb a0; replace a1 := keep_cell hb a1; replace a2 := keep_cell hb a2; replace a3 := keep_cell hb a3; replace b0 := keep_cell hb b0; replace b1 := keep_cell hb b1; replace b2 := keep_cell hb b2; replace b3 := keep_cell hb b3; replace v0 := keep_cell hb v0; replace v1 := keep_cell hb v1; replace v2 := keep_cell hb v2; replace v3 := keep_cell hb v3; replace r0 := keep_cell hb r0; replace r1 := keep_cell hb r1; replace r2 := keep_cell hb r2; replace r3 := keep_cell hb r3; replace hB := held_trans hB hb; clear hb) | (go_at_call 16; (with_reducible refine (HWY.out _).mono ?_); rintro e w2 ⟨rfl, rfl⟩))
  refine bodyPost_ret (v := .tuple #[.agg #[.int .i64 0, .int .i64 0, .int .u64 0, .string ⟨#[]⟩], .int .i64 161]) (by simp [results, Tryz.results11, go_sem, r0, r1, r2, r3]) rfl ⟨rfl, ?_⟩
  repeat' first | exact hB | (refine Below.setCell ?_ (by simp; try omega) _)

set_option maxRecDepth 100000 in
set_option maxHeartbeats 4000000 in
theorem r6conv_nullgood (c d : Col) (v : Vl) (w : World) (n1 : c.n.size ≤ 9223372036854775807) (h1 : colOk c = true) (n2 : d.n.size ≤ 9223372036854775807) (h2 : colOk d = true) (hm : fitsN c v = 0) (hwy : wayR c.t d.t = true) (hk : v.k = 0) (hu : d.u = true) :
    Calls Tryz.prog 11 #[.agg #[.string c.n, .int .i64 c.t, .int .i64 c.z, .bool c.u], .agg #[.string d.n, .int .i64 d.t, .int .i64 d.z, .bool d.u], .agg #[.int .i64 v.k, .int .i64 v.i, .int .u64 v.u, .string v.s]] w fun e w' => e = .returned (.tuple #[.agg #[.int .i64 v.k, .int .i64 v.i, .int .u64 v.u, .string v.s], .int .i64 0]) ∧ Below w.heap.size w w' := by
  have HRC : Hid (∀ W, Calls Tryz.prog 29 #[.agg #[.string c.n, .int .i64 c.t, .int .i64 c.z, .bool c.u]] W fun e w' => e = .returned (.bool true) ∧ Below W.heap.size W w') := Lib.hid (fun W => by have h := r6right_any c W n1; rw [h1] at h; exact h)
  have HRD : Hid (∀ W, Calls Tryz.prog 29 #[.agg #[.string d.n, .int .i64 d.t, .int .i64 d.z, .bool d.u]] W fun e w' => e = .returned (.bool true) ∧ Below W.heap.size W w') := Lib.hid (fun W => by have h := r6right_any d W n2; rw [h2] at h; exact h)
  have HF1 : Hid (∀ W, Calls Tryz.prog 30 #[.agg #[.string c.n, .int .i64 c.t, .int .i64 c.z, .bool c.u], .agg #[.int .i64 v.k, .int .i64 v.i, .int .u64 v.u, .string v.s]] W fun e w' => e = .returned (.int .i64 0) ∧ Below W.heap.size W w') := Lib.hid (fun W => by have h := rFits_any c v W n1; rw [hm] at h; exact h)
  have HWY : Hid (∀ W, Calls Tryz.prog 16 #[.int .i64 c.t, .int .i64 d.t] W fun e w' => e = .returned (.bool true) ∧ W = w') := Lib.hid (fun W => by have h := r6Way_any c.t d.t W; rw [hwy] at h; exact h)
  have hkb : (v.k == 0) = true := by simp [hk]
  have hnu : (!d.u) = false := by rw [hu]; rfl
  clear h1 n1 h2 n2 hm hwy hk hu
  go_enter Tryz.func11, Tryz.ntmps11
  go_upto_region 1 with fail
  obtain ⟨W1, hW1⟩ : ∃ W1, ((((w.alloc (.cells #[.string c.n, .int .i64 c.t, .int .i64 c.z, .bool c.u] 24)).alloc (.cells #[.string d.n, .int .i64 d.t, .int .i64 d.z, .bool d.u] 24)).alloc (.cells #[.int .i64 v.k, .int .i64 v.i, .int .u64 v.u, .string v.s] 28)).alloc (.cells #[.int .i64 0, .int .i64 0, .int .u64 0, .string ⟨#[]⟩] 28)) = W1 := ⟨_, rfl⟩
  have hB : Below w.heap.size w W1 := by rw [← hW1]; exact ((((Below.refl _ _).alloc (Nat.le_refl _) _).alloc (by simp) _).alloc (by simp; omega) _).alloc (by simp; omega) _
  have a0 : W1.cell? ⟨w.heap.size, 0, none⟩ = some (.string c.n) := by rw [← hW1]; simp [go_sem]
  have a1 : W1.cell? ⟨w.heap.size, 1, none⟩ = some (.int .i64 c.t) := by rw [← hW1]; simp [go_sem]
  have a2 : W1.cell? ⟨w.heap.size, 2, none⟩ = some (.int .i64 c.z) := by rw [← hW1]; simp [go_sem]
  have a3 : W1.cell? ⟨w.heap.size, 3, none⟩ = some (.bool c.u) := by rw [← hW1]; simp [go_sem]
  have b0 : W1.cell? ⟨w.heap.size + 1, 0, none⟩ = some (.string d.n) := by rw [← hW1]; simp [go_sem]
  have b1 : W1.cell? ⟨w.heap.size + 1, 1, none⟩ = some (.int .i64 d.t) := by rw [← hW1]; simp [go_sem]
  have b2 : W1.cell? ⟨w.heap.size + 1, 2, none⟩ = some (.int .i64 d.z) := by rw [← hW1]; simp [go_sem]
  have b3 : W1.cell? ⟨w.heap.size + 1, 3, none⟩ = some (.bool d.u) := by rw [← hW1]; simp [go_sem]
  have v0 : W1.cell? ⟨w.heap.size + 1 + 1, 0, none⟩ = some (.int .i64 v.k) := by rw [← hW1]; simp [go_sem]
  have v1 : W1.cell? ⟨w.heap.size + 1 + 1, 1, none⟩ = some (.int .i64 v.i) := by rw [← hW1]; simp [go_sem]
  have v2 : W1.cell? ⟨w.heap.size + 1 + 1, 2, none⟩ = some (.int .u64 v.u) := by rw [← hW1]; simp [go_sem]
  have v3 : W1.cell? ⟨w.heap.size + 1 + 1, 3, none⟩ = some (.string v.s) := by rw [← hW1]; simp [go_sem]
  have r0 : W1.cell? ⟨w.heap.size + 1 + 1 + 1, 0, none⟩ = some (.int .i64 0) := by rw [← hW1]; simp [go_sem]
  have r1 : W1.cell? ⟨w.heap.size + 1 + 1 + 1, 1, none⟩ = some (.int .i64 0) := by rw [← hW1]; simp [go_sem]
  have r2 : W1.cell? ⟨w.heap.size + 1 + 1 + 1, 2, none⟩ = some (.int .u64 0) := by rw [← hW1]; simp [go_sem]
  have r3 : W1.cell? ⟨w.heap.size + 1 + 1 + 1, 3, none⟩ = some (.string ⟨#[]⟩) := by rw [← hW1]; simp [go_sem]
  have fr0 : W1.frozen? ⟨w.heap.size + 1 + 1 + 1, 0, none⟩ = false := by rw [← hW1]; simp [go_sem]
  have fr1 : W1.frozen? ⟨w.heap.size + 1 + 1 + 1, 1, none⟩ = false := by rw [← hW1]; simp [go_sem]
  have fr2 : W1.frozen? ⟨w.heap.size + 1 + 1 + 1, 2, none⟩ = false := by rw [← hW1]; simp [go_sem]
  have fr3 : W1.frozen? ⟨w.heap.size + 1 + 1 + 1, 3, none⟩ = false := by rw [← hW1]; simp [go_sem]
  rw [hW1]
  clear hW1
  go_wp2_with (first | (go_at_call 29; (with_reducible refine (HRC.out _).mono ?_); rintro e w2 ⟨rfl, hb⟩; replace fr0 := keep_frozen hb (World.block_lt_of_cell? _ _ r0) fr0; replace fr1 := keep_frozen hb (World.block_lt_of_cell? _ _ r1) fr1; replace fr2 := keep_frozen hb (World.block_lt_of_cell? _ _ r2) fr2; replace fr3 := keep_frozen hb (World.block_lt_of_cell? _ _ r3) fr3; replace a0 := keep_cell hb a0; replace a1 := keep_cell hb a1; replace a2 := keep_cell hb a2; replace a3 := keep_cell hb a3; replace b0 := keep_cell hb b0; replace b1 := keep_cell hb b1; replace b2 := keep_cell hb b2; replace b3 := keep_cell hb b3; replace v0 := keep_cell hb v0; replace v1 := keep_cell hb v1; replace v2 := keep_cell hb v2; replace v3 := keep_cell hb v3; replace r0 := keep_cell hb r0; replace r1 := keep_cell hb r1; replace r2 := keep_cell hb r2; replace r3 := keep_cell hb r3; replace hB := held_trans hB hb; clear hb) | (go_at_call 29; (with_reducible refine (HRD.out _).mono ?_); rintro e w2 ⟨rfl, hb⟩; replace fr0 := keep_frozen hb (World.block_lt_of_cell? _ _ r0) fr0; replace fr1 := keep_frozen hb (World.block_lt_of_cell? _ _ r1) fr1; replace fr2 := keep_frozen hb (World.block_lt_of_cell? _ _ r2) fr2; replace fr3 := keep_frozen hb (World.block_lt_of_cell? _ _ r3) fr3; replace a0 := keep_cell hb a0; replace a1 := keep_cell hb a1; replace a2 := keep_cell hb a2; replace a3 := keep_cell hb a3; replace b0 := keep_cell hb b0; replace b1 := keep_cell hb b1; replace b2 := keep_cell hb b2; replace b3 := keep_cell hb b3; replace v0 := keep_cell hb v0; replace v1 := keep_cell hb v1; replace v2 := keep_cell hb v2; replace v3 := keep_cell hb v3; replace r0 := keep_cell hb r0; replace r1 := keep_cell hb r1; replace r2 := keep_cell hb r2; replace r3 := keep_cell hb r3; replace hB := held_trans hB hb; clear hb) | (go_at_call 30; (with_reducible refine (HF1.out _).mono ?_); rintro e w2 ⟨rfl, hb⟩; replace fr0 := keep_frozen hb (World.block_lt_of_cell? _ _ r0) fr0; replace fr1 := keep_frozen hb (World.block_lt_of_cell? _ _ r1) fr1; replace fr2 := keep_frozen hb (World.block_lt_of_cell? _ _ r2) fr2; replace fr3 := keep_frozen hb (World.block_lt_of_cell? _ _ r3) fr3; replace a0 := keep_cell hb a0; replace a1 := keep_cell hb a1; replace a2 := keep_cell hb a2; replace a3 := keep_cell hb a3; replace b0 := keep_cell hb b0; replace b1 := keep_cell hb b1; replace b2 := keep_cell hb b2; replace b3 := keep_cell hb b3; replace v0 := keep_cell hb v0; replace v1 := keep_cell hb v1; replace v2 := keep_cell hb v2; replace v3 := keep_cell hb v3; replace r0 := keep_cell hb r0; replace r1 := keep_cell hb r1; replace r2 := keep_cell hb r2; replace r3 := keep_cell hb r3; replace hB := held_trans hB hb; clear hb) | (go_at_call 16; (with_reducible refine (HWY.out _).mono ?_); rintro e w2 ⟨rfl, rfl⟩))
  refine bodyPost_ret (v := .tuple #[.agg #[.int .i64 v.k, .int .i64 v.i, .int .u64 v.u, .string v.s], .int .i64 0]) (by simp [results, Tryz.results11, go_sem, r0, r1, r2, r3]) rfl ⟨rfl, ?_⟩
  repeat' first | exact hB | (refine Below.setCell ?_ (by simp; try omega) _)

end Go.Proofs.YtmgeefhacnadcaaGreatDoor
namespace Go.Proofs.YtmgeefhacnadcaaGreatDoor
open Go.RowKit

set_option maxRecDepth 100000 in
set_option maxHeartbeats 4000000 in
theorem r6conv_turnbad (c d : Col) (v : Vl) (w : World) (n1 : c.n.size ≤ 9223372036854775807) (h1 : colOk c = true) (n2 : d.n.size ≤ 9223372036854775807) (h2 : colOk d = true) (hm : fitsN c v = 0) (hwy : wayR c.t d.t = true) (hk : v.k ≠ 0) (x : Vl) (hT : ∀ W, Below w.heap.size w W → Calls Tryz.prog 31 #[.agg #[.int .i64 v.k, .int .i64 v.i, .int .u64 v.u, .string v.s], .int .i64 d.t] W fun e w' => e = .returned (.tuple #[.agg #[.int .i64 x.k, .int .i64 x.i, .int .u64 x.u, .string x.s], .bool false]) ∧ Below W.heap.size W w') :
    Calls Tryz.prog 11 #[.agg #[.string c.n, .int .i64 c.t, .int .i64 c.z, .bool c.u], .agg #[.string d.n, .int .i64 d.t, .int .i64 d.z, .bool d.u], .agg #[.int .i64 v.k, .int .i64 v.i, .int .u64 v.u, .string v.s]] w fun e w' => e = .returned (.tuple #[.agg #[.int .i64 0, .int .i64 0, .int .u64 0, .string ⟨#[]⟩], .int .i64 161]) ∧ Below w.heap.size w w' := by
  have HRC : Hid (∀ W, Calls Tryz.prog 29 #[.agg #[.string c.n, .int .i64 c.t, .int .i64 c.z, .bool c.u]] W fun e w' => e = .returned (.bool true) ∧ Below W.heap.size W w') := Lib.hid (fun W => by have h := r6right_any c W n1; rw [h1] at h; exact h)
  have HRD : Hid (∀ W, Calls Tryz.prog 29 #[.agg #[.string d.n, .int .i64 d.t, .int .i64 d.z, .bool d.u]] W fun e w' => e = .returned (.bool true) ∧ Below W.heap.size W w') := Lib.hid (fun W => by have h := r6right_any d W n2; rw [h2] at h; exact h)
  have HF1 : Hid (∀ W, Calls Tryz.prog 30 #[.agg #[.string c.n, .int .i64 c.t, .int .i64 c.z, .bool c.u], .agg #[.int .i64 v.k, .int .i64 v.i, .int .u64 v.u, .string v.s]] W fun e w' => e = .returned (.int .i64 0) ∧ Below W.heap.size W w') := Lib.hid (fun W => by have h := rFits_any c v W n1; rw [hm] at h; exact h)
  have HWY : Hid (∀ W, Calls Tryz.prog 16 #[.int .i64 c.t, .int .i64 d.t] W fun e w' => e = .returned (.bool true) ∧ W = w') := Lib.hid (fun W => by have h := r6Way_any c.t d.t W; rw [hwy] at h; exact h)
  have hkb : (v.k == 0) = false := by simpa using hk
  have HT := Lib.hid hT
  clear h1 n1 h2 n2 hm hwy hk hT
  go_enter Tryz.func11, Tryz.ntmps11
  go_upto_region 1 with fail
  obtain ⟨W1, hW1⟩ : ∃ W1, ((((w.alloc (.cells #[.string c.n, .int .i64 c.t, .int .i64 c.z, .bool c.u] 24)).alloc (.cells #[.string d.n, .int .i64 d.t, .int .i64 d.z, .bool d.u] 24)).alloc (.cells #[.int .i64 v.k, .int .i64 v.i, .int .u64 v.u, .string v.s] 28)).alloc (.cells #[.int .i64 0, .int .i64 0, .int .u64 0, .string ⟨#[]⟩] 28)) = W1 := ⟨_, rfl⟩
  have hB : Below w.heap.size w W1 := by rw [← hW1]; exact ((((Below.refl _ _).alloc (Nat.le_refl _) _).alloc (by simp) _).alloc (by simp; omega) _).alloc (by simp; omega) _
  have a0 : W1.cell? ⟨w.heap.size, 0, none⟩ = some (.string c.n) := by rw [← hW1]; simp [go_sem]
  have a1 : W1.cell? ⟨w.heap.size, 1, none⟩ = some (.int .i64 c.t) := by rw [← hW1]; simp [go_sem]
  have a2 : W1.cell? ⟨w.heap.size, 2, none⟩ = some (.int .i64 c.z) := by rw [← hW1]; simp [go_sem]
  have a3 : W1.cell? ⟨w.heap.size, 3, none⟩ = some (.bool c.u) := by rw [← hW1]; simp [go_sem]
  have b0 : W1.cell? ⟨w.heap.size + 1, 0, none⟩ = some (.string d.n) := by rw [← hW1]; simp [go_sem]
  have b1 : W1.cell? ⟨w.heap.size + 1, 1, none⟩ = some (.int .i64 d.t) := by rw [← hW1]; simp [go_sem]
  have b2 : W1.cell? ⟨w.heap.size + 1, 2, none⟩ = some (.int .i64 d.z) := by rw [← hW1]; simp [go_sem]
  have b3 : W1.cell? ⟨w.heap.size + 1, 3, none⟩ = some (.bool d.u) := by rw [← hW1]; simp [go_sem]
  have v0 : W1.cell? ⟨w.heap.size + 1 + 1, 0, none⟩ = some (.int .i64 v.k) := by rw [← hW1]; simp [go_sem]
  have v1 : W1.cell? ⟨w.heap.size + 1 + 1, 1, none⟩ = some (.int .i64 v.i) := by rw [← hW1]; simp [go_sem]
  have v2 : W1.cell? ⟨w.heap.size + 1 + 1, 2, none⟩ = some (.int .u64 v.u) := by rw [← hW1]; simp [go_sem]
  have v3 : W1.cell? ⟨w.heap.size + 1 + 1, 3, none⟩ = some (.string v.s) := by rw [← hW1]; simp [go_sem]
  have r0 : W1.cell? ⟨w.heap.size + 1 + 1 + 1, 0, none⟩ = some (.int .i64 0) := by rw [← hW1]; simp [go_sem]
  have r1 : W1.cell? ⟨w.heap.size + 1 + 1 + 1, 1, none⟩ = some (.int .i64 0) := by rw [← hW1]; simp [go_sem]
  have r2 : W1.cell? ⟨w.heap.size + 1 + 1 + 1, 2, none⟩ = some (.int .u64 0) := by rw [← hW1]; simp [go_sem]
  have r3 : W1.cell? ⟨w.heap.size + 1 + 1 + 1, 3, none⟩ = some (.string ⟨#[]⟩) := by rw [← hW1]; simp [go_sem]
  have fr0 : W1.frozen? ⟨w.heap.size + 1 + 1 + 1, 0, none⟩ = false := by rw [← hW1]; simp [go_sem]
  have fr1 : W1.frozen? ⟨w.heap.size + 1 + 1 + 1, 1, none⟩ = false := by rw [← hW1]; simp [go_sem]
  have fr2 : W1.frozen? ⟨w.heap.size + 1 + 1 + 1, 2, none⟩ = false := by rw [← hW1]; simp [go_sem]
  have fr3 : W1.frozen? ⟨w.heap.size + 1 + 1 + 1, 3, none⟩ = false := by rw [← hW1]; simp [go_sem]
  rw [hW1]
  clear hW1
  go_wp2_with (first | (go_at_call 29; (with_reducible refine (HRC.out _).mono ?_); rintro e w2 ⟨rfl, hb⟩; replace fr0 := keep_frozen hb (World.block_lt_of_cell? _ _ r0) fr0; replace fr1 := keep_frozen hb (World.block_lt_of_cell? _ _ r1) fr1; replace fr2 := keep_frozen hb (World.block_lt_of_cell? _ _ r2) fr2; replace fr3 := keep_frozen hb (World.block_lt_of_cell? _ _ r3) fr3; replace a0 := keep_cell hb a0; replace a1 := keep_cell hb a1; replace a2 := keep_cell hb a2; replace a3 := keep_cell hb a3; replace b0 := keep_cell hb b0; replace b1 := keep_cell hb b1; replace b2 := keep_cell hb b2; replace b3 := keep_cell hb b3; replace v0 := keep_cell hb v0; replace v1 := keep_cell hb v1; replace v2 := keep_cell hb v2; replace v3 := keep_cell hb v3; replace r0 := keep_cell hb r0; replace r1 := keep_cell hb r1; replace r2 := keep_cell hb r2; replace r3 := keep_cell hb r3; replace hB := held_trans hB hb; clear hb) | (go_at_call 29; (with_reducible refine (HRD.out _).mono ?_); rintro e w2 ⟨rfl, hb⟩; replace fr0 := keep_frozen hb (World.block_lt_of_cell? _ _ r0) fr0; replace fr1 := keep_frozen hb (World.block_lt_of_cell? _ _ r1) fr1; replace fr2 := keep_frozen hb (World.block_lt_of_cell? _ _ r2) fr2; replace fr3 := keep_frozen hb (World.block_lt_of_cell? _ _ r3) fr3; replace a0 := keep_cell hb a0; replace a1 := keep_cell hb a1; replace a2 := keep_cell hb a2; replace a3 := keep_cell hb a3; replace b0 := keep_cell hb b0; replace b1 := keep_cell hb b1; replace b2 := keep_cell hb b2; replace b3 := keep_cell hb b3; replace v0 := keep_cell hb v0; replace v1 := keep_cell hb v1; replace v2 := keep_cell hb v2; replace v3 := keep_cell hb v3; replace r0 := keep_cell hb r0; replace r1 := keep_cell hb r1; replace r2 := keep_cell hb r2; replace r3 := keep_cell hb r3; replace hB := held_trans hB hb; clear hb) | (go_at_call 30; (with_reducible refine (HF1.out _).mono ?_); rintro e w2 ⟨rfl, hb⟩; replace fr0 := keep_frozen hb (World.block_lt_of_cell? _ _ r0) fr0; replace fr1 := keep_frozen hb (World.block_lt_of_cell? _ _ r1) fr1; replace fr2 := keep_frozen hb (World.block_lt_of_cell? _ _ r2) fr2; replace fr3 := keep_frozen hb (World.block_lt_of_cell? _ _ r3) fr3; replace a0 := keep_cell hb a0; replace a1 := keep_cell hb a1; replace a2 := keep_cell hb a2; replace a3 := keep_cell hb a3; replace b0 := keep_cell hb b0; replace b1 := keep_cell hb b1; replace b2 := keep_cell hb b2; replace b3 := keep_cell hb b3; replace v0 := keep_cell hb v0; replace v1 := keep_cell hb v1; replace v2 := keep_cell hb v2; replace v3 := keep_cell hb v3; replace r0 := keep_cell hb r0; replace r1 := keep_cell hb r1; replace r2 := keep_cell hb r2; replace r3 := keep_cell hb r3; replace hB := held_trans hB hb; clear hb) | (go_at_call 16; (with_reducible refine (HWY.out _).mono ?_); rintro e w2 ⟨rfl, rfl⟩))
  refine (HT.out _ hB).mono ?_
  rintro e w2 ⟨rfl, hb⟩
  replace fr0 := keep_frozen hb (World.block_lt_of_cell? _ _ r0) fr0; replace fr1 := keep_frozen hb (World.block_lt_of_cell? _ _ r1) fr1; replace fr2 := keep_frozen hb (World.block_lt_of_cell? _ _ r2) fr2; replace fr3 := keep_frozen hb (World.block_lt_of_cell? _ _ r3) fr3; replace a0 := keep_cell hb a0; replace a1 := keep_cell hb a1; replace a2 := keep_cell hb a2; replace a3 := keep_cell hb a3; replace b0 := keep_cell hb b0; replace b1 := keep_cell hb b1; replace b2 := keep_cell hb b2; replace b3 := keep_cell hb b3; replace v0 := keep_cell hb v0; replace v1 := keep_cell hb v1; replace v2 := keep_cell hb v2; replace v3 := keep_cell hb v3; replace r0 := keep_cell hb r0; replace r1 := keep_cell hb r1; replace r2 := keep_cell hb r2; replace r3 := keep_cell hb r3
  replace hB := held_trans hB hb
  clear hb
  go_upto_region 13 with fail
  obtain ⟨W3, hW3⟩ : ∃ W3, w2.alloc (.cells #[.int .i64 x.k, .int .i64 x.i, .int .u64 x.u, .string x.s] 28) = W3 := ⟨_, rfl⟩
  have hb : Below w2.heap.size w2 W3 := by rw [← hW3]; exact (Below.refl _ _).alloc (Nat.le_refl _) _
  have q0 : W3.cell? ⟨w2.heap.size, 0, none⟩ = some (.int .i64 x.k) := by rw [← hW3]; simp [go_sem]
  have q1 : W3.cell? ⟨w2.heap.size, 1, none⟩ = some (.int .i64 x.i) := by rw [← hW3]; simp [go_sem]
  have q2 : W3.cell? ⟨w2.heap.size, 2, none⟩ = some (.int .u64 x.u) := by rw [← hW3]; simp [go_sem]
  have q3 : W3.cell? ⟨w2.heap.size, 3, none⟩ = some (.string x.s) := by rw [← hW3]; simp [go_sem]
  replace fr0 := keep_frozen hb (World.block_lt_of_cell? _ _ r0) fr0; replace fr1 := keep_frozen hb (World.block_lt_of_cell? _ _ r1) fr1; replace fr2 := keep_frozen hb (World.block_lt_of_cell? _ _ r2) fr2; replace fr3 := keep_frozen hb (World.block_lt_of_cell? _ _ r3) fr3; replace a0 := keep_cell hb a0; replace a1 := keep_cell hb a1; replace a2 := keep_cell hb a2; replace a3 := keep_cell hb a3; replace b0 := keep_cell hb b0; replace b1 := keep_cell hb b1; replace b2 := keep_cell hb b2; replace b3 := keep_cell hb b3; replace v0 := keep_cell hb v0; replace v1 := keep_cell hb v1; replace v2 := keep_cell hb v2; replace v3 := keep_cell hb v3; replace r0 := keep_cell hb r0; replace r1 := keep_cell hb r1; replace r2 := keep_cell hb r2; replace r3 := keep_cell hb r3
  rw [hW3]
  replace hB := held_trans hB hb
  clear hW3 hb
  go_wp2_with fail
  refine bodyPost_ret (v := .tuple #[.agg #[.int .i64 0, .int .i64 0, .int .u64 0, .string ⟨#[]⟩], .int .i64 161]) (by simp [results, Tryz.results11, go_sem, r0, r1, r2, r3]) rfl ⟨rfl, ?_⟩
  repeat' first | exact hB | (refine Below.setCell ?_ (by simp; try omega) _)

set_option maxRecDepth 100000 in
set_option maxHeartbeats 4000000 in
theorem r6conv_unfit2 (c d : Col) (v : Vl) (w : World) (n1 : c.n.size ≤ 9223372036854775807) (h1 : colOk c = true) (n2 : d.n.size ≤ 9223372036854775807) (h2 : colOk d = true) (hm : fitsN c v = 0) (hwy : wayR c.t d.t = true) (hk : v.k ≠ 0) (x : Vl) (hT : ∀ W, Below w.heap.size w W → Calls Tryz.prog 31 #[.agg #[.int .i64 v.k, .int .i64 v.i, .int .u64 v.u, .string v.s], .int .i64 d.t] W fun e w' => e = .returned (.tuple #[.agg #[.int .i64 x.k, .int .i64 x.i, .int .u64 x.u, .string x.s], .bool true]) ∧ Below W.heap.size W w') (m2 : Int) (hm2 : fitsN d x = m2) (h3 : m2 ≠ 0) :
    Calls Tryz.prog 11 #[.agg #[.string c.n, .int .i64 c.t, .int .i64 c.z, .bool c.u], .agg #[.string d.n, .int .i64 d.t, .int .i64 d.z, .bool d.u], .agg #[.int .i64 v.k, .int .i64 v.i, .int .u64 v.u, .string v.s]] w fun e w' => e = .returned (.tuple #[.agg #[.int .i64 0, .int .i64 0, .int .u64 0, .string ⟨#[]⟩], .int .i64 161]) ∧ Below w.heap.size w w' := by
  have HRC : Hid (∀ W, Calls Tryz.prog 29 #[.agg #[.string c.n, .int .i64 c.t, .int .i64 c.z, .bool c.u]] W fun e w' => e = .returned (.bool true) ∧ Below W.heap.size W w') := Lib.hid (fun W => by have h := r6right_any c W n1; rw [h1] at h; exact h)
  have HRD : Hid (∀ W, Calls Tryz.prog 29 #[.agg #[.string d.n, .int .i64 d.t, .int .i64 d.z, .bool d.u]] W fun e w' => e = .returned (.bool true) ∧ Below W.heap.size W w') := Lib.hid (fun W => by have h := r6right_any d W n2; rw [h2] at h; exact h)
  have HF1 : Hid (∀ W, Calls Tryz.prog 30 #[.agg #[.string c.n, .int .i64 c.t, .int .i64 c.z, .bool c.u], .agg #[.int .i64 v.k, .int .i64 v.i, .int .u64 v.u, .string v.s]] W fun e w' => e = .returned (.int .i64 0) ∧ Below W.heap.size W w') := Lib.hid (fun W => by have h := rFits_any c v W n1; rw [hm] at h; exact h)
  have HWY : Hid (∀ W, Calls Tryz.prog 16 #[.int .i64 c.t, .int .i64 d.t] W fun e w' => e = .returned (.bool true) ∧ W = w') := Lib.hid (fun W => by have h := r6Way_any c.t d.t W; rw [hwy] at h; exact h)
  have hkb : (v.k == 0) = false := by simpa using hk
  have HT := Lib.hid hT
  have HF2 : Hid (∀ W, Calls Tryz.prog 30 #[.agg #[.string d.n, .int .i64 d.t, .int .i64 d.z, .bool d.u], .agg #[.int .i64 x.k, .int .i64 x.i, .int .u64 x.u, .string x.s]] W fun e w' => e = .returned (.int .i64 m2) ∧ Below W.heap.size W w') := Lib.hid (fun W => by have h := rFits_any d x W n2; rw [hm2] at h; exact h)
  have hmb : (m2 != 0) = true := by simpa using h3
  clear h1 n1 h2 n2 hm hwy hk hT hm2 h3
  go_enter Tryz.func11, Tryz.ntmps11
  go_upto_region 1 with fail
  obtain ⟨W1, hW1⟩ : ∃ W1, ((((w.alloc (.cells #[.string c.n, .int .i64 c.t, .int .i64 c.z, .bool c.u] 24)).alloc (.cells #[.string d.n, .int .i64 d.t, .int .i64 d.z, .bool d.u] 24)).alloc (.cells #[.int .i64 v.k, .int .i64 v.i, .int .u64 v.u, .string v.s] 28)).alloc (.cells #[.int .i64 0, .int .i64 0, .int .u64 0, .string ⟨#[]⟩] 28)) = W1 := ⟨_, rfl⟩
  have hB : Below w.heap.size w W1 := by rw [← hW1]; exact ((((Below.refl _ _).alloc (Nat.le_refl _) _).alloc (by simp) _).alloc (by simp; omega) _).alloc (by simp; omega) _
  have a0 : W1.cell? ⟨w.heap.size, 0, none⟩ = some (.string c.n) := by rw [← hW1]; simp [go_sem]
  have a1 : W1.cell? ⟨w.heap.size, 1, none⟩ = some (.int .i64 c.t) := by rw [← hW1]; simp [go_sem]
  have a2 : W1.cell? ⟨w.heap.size, 2, none⟩ = some (.int .i64 c.z) := by rw [← hW1]; simp [go_sem]
  have a3 : W1.cell? ⟨w.heap.size, 3, none⟩ = some (.bool c.u) := by rw [← hW1]; simp [go_sem]
  have b0 : W1.cell? ⟨w.heap.size + 1, 0, none⟩ = some (.string d.n) := by rw [← hW1]; simp [go_sem]
  have b1 : W1.cell? ⟨w.heap.size + 1, 1, none⟩ = some (.int .i64 d.t) := by rw [← hW1]; simp [go_sem]
  have b2 : W1.cell? ⟨w.heap.size + 1, 2, none⟩ = some (.int .i64 d.z) := by rw [← hW1]; simp [go_sem]
  have b3 : W1.cell? ⟨w.heap.size + 1, 3, none⟩ = some (.bool d.u) := by rw [← hW1]; simp [go_sem]
  have v0 : W1.cell? ⟨w.heap.size + 1 + 1, 0, none⟩ = some (.int .i64 v.k) := by rw [← hW1]; simp [go_sem]
  have v1 : W1.cell? ⟨w.heap.size + 1 + 1, 1, none⟩ = some (.int .i64 v.i) := by rw [← hW1]; simp [go_sem]
  have v2 : W1.cell? ⟨w.heap.size + 1 + 1, 2, none⟩ = some (.int .u64 v.u) := by rw [← hW1]; simp [go_sem]
  have v3 : W1.cell? ⟨w.heap.size + 1 + 1, 3, none⟩ = some (.string v.s) := by rw [← hW1]; simp [go_sem]
  have r0 : W1.cell? ⟨w.heap.size + 1 + 1 + 1, 0, none⟩ = some (.int .i64 0) := by rw [← hW1]; simp [go_sem]
  have r1 : W1.cell? ⟨w.heap.size + 1 + 1 + 1, 1, none⟩ = some (.int .i64 0) := by rw [← hW1]; simp [go_sem]
  have r2 : W1.cell? ⟨w.heap.size + 1 + 1 + 1, 2, none⟩ = some (.int .u64 0) := by rw [← hW1]; simp [go_sem]
  have r3 : W1.cell? ⟨w.heap.size + 1 + 1 + 1, 3, none⟩ = some (.string ⟨#[]⟩) := by rw [← hW1]; simp [go_sem]
  have fr0 : W1.frozen? ⟨w.heap.size + 1 + 1 + 1, 0, none⟩ = false := by rw [← hW1]; simp [go_sem]
  have fr1 : W1.frozen? ⟨w.heap.size + 1 + 1 + 1, 1, none⟩ = false := by rw [← hW1]; simp [go_sem]
  have fr2 : W1.frozen? ⟨w.heap.size + 1 + 1 + 1, 2, none⟩ = false := by rw [← hW1]; simp [go_sem]
  have fr3 : W1.frozen? ⟨w.heap.size + 1 + 1 + 1, 3, none⟩ = false := by rw [← hW1]; simp [go_sem]
  rw [hW1]
  clear hW1
  go_wp2_with (first | (go_at_call 29; (with_reducible refine (HRC.out _).mono ?_); rintro e w2 ⟨rfl, hb⟩; replace fr0 := keep_frozen hb (World.block_lt_of_cell? _ _ r0) fr0; replace fr1 := keep_frozen hb (World.block_lt_of_cell? _ _ r1) fr1; replace fr2 := keep_frozen hb (World.block_lt_of_cell? _ _ r2) fr2; replace fr3 := keep_frozen hb (World.block_lt_of_cell? _ _ r3) fr3; replace a0 := keep_cell hb a0; replace a1 := keep_cell hb a1; replace a2 := keep_cell hb a2; replace a3 := keep_cell hb a3; replace b0 := keep_cell hb b0; replace b1 := keep_cell hb b1; replace b2 := keep_cell hb b2; replace b3 := keep_cell hb b3; replace v0 := keep_cell hb v0; replace v1 := keep_cell hb v1; replace v2 := keep_cell hb v2; replace v3 := keep_cell hb v3; replace r0 := keep_cell hb r0; replace r1 := keep_cell hb r1; replace r2 := keep_cell hb r2; replace r3 := keep_cell hb r3; replace hB := held_trans hB hb; clear hb) | (go_at_call 29; (with_reducible refine (HRD.out _).mono ?_); rintro e w2 ⟨rfl, hb⟩; replace fr0 := keep_frozen hb (World.block_lt_of_cell? _ _ r0) fr0; replace fr1 := keep_frozen hb (World.block_lt_of_cell? _ _ r1) fr1; replace fr2 := keep_frozen hb (World.block_lt_of_cell? _ _ r2) fr2; replace fr3 := keep_frozen hb (World.block_lt_of_cell? _ _ r3) fr3; replace a0 := keep_cell hb a0; replace a1 := keep_cell hb a1; replace a2 := keep_cell hb a2; replace a3 := keep_cell hb a3; replace b0 := keep_cell hb b0; replace b1 := keep_cell hb b1; replace b2 := keep_cell hb b2; replace b3 := keep_cell hb b3; replace v0 := keep_cell hb v0; replace v1 := keep_cell hb v1; replace v2 := keep_cell hb v2; replace v3 := keep_cell hb v3; replace r0 := keep_cell hb r0; replace r1 := keep_cell hb r1; replace r2 := keep_cell hb r2; replace r3 := keep_cell hb r3; replace hB := held_trans hB hb; clear hb) | (go_at_call 30; (with_reducible refine (HF1.out _).mono ?_); rintro e w2 ⟨rfl, hb⟩; replace fr0 := keep_frozen hb (World.block_lt_of_cell? _ _ r0) fr0; replace fr1 := keep_frozen hb (World.block_lt_of_cell? _ _ r1) fr1; replace fr2 := keep_frozen hb (World.block_lt_of_cell? _ _ r2) fr2; replace fr3 := keep_frozen hb (World.block_lt_of_cell? _ _ r3) fr3; replace a0 := keep_cell hb a0; replace a1 := keep_cell hb a1; replace a2 := keep_cell hb a2; replace a3 := keep_cell hb a3; replace b0 := keep_cell hb b0; replace b1 := keep_cell hb b1; replace b2 := keep_cell hb b2; replace b3 := keep_cell hb b3; replace v0 := keep_cell hb v0; replace v1 := keep_cell hb v1; replace v2 := keep_cell hb v2; replace v3 := keep_cell hb v3; replace r0 := keep_cell hb r0; replace r1 := keep_cell hb r1; replace r2 := keep_cell hb r2; replace r3 := keep_cell hb r3; replace hB := held_trans hB hb; clear hb) | (go_at_call 16; (with_reducible refine (HWY.out _).mono ?_); rintro e w2 ⟨rfl, rfl⟩))
  refine (HT.out _ hB).mono ?_
  rintro e w2 ⟨rfl, hb⟩
  replace fr0 := keep_frozen hb (World.block_lt_of_cell? _ _ r0) fr0; replace fr1 := keep_frozen hb (World.block_lt_of_cell? _ _ r1) fr1; replace fr2 := keep_frozen hb (World.block_lt_of_cell? _ _ r2) fr2; replace fr3 := keep_frozen hb (World.block_lt_of_cell? _ _ r3) fr3; replace a0 := keep_cell hb a0; replace a1 := keep_cell hb a1; replace a2 := keep_cell hb a2; replace a3 := keep_cell hb a3; replace b0 := keep_cell hb b0; replace b1 := keep_cell hb b1; replace b2 := keep_cell hb b2; replace b3 := keep_cell hb b3; replace v0 := keep_cell hb v0; replace v1 := keep_cell hb v1; replace v2 := keep_cell hb v2; replace v3 := keep_cell hb v3; replace r0 := keep_cell hb r0; replace r1 := keep_cell hb r1; replace r2 := keep_cell hb r2; replace r3 := keep_cell hb r3
  replace hB := held_trans hB hb
  clear hb
  go_upto_region 13 with fail
  obtain ⟨W3, hW3⟩ : ∃ W3, w2.alloc (.cells #[.int .i64 x.k, .int .i64 x.i, .int .u64 x.u, .string x.s] 28) = W3 := ⟨_, rfl⟩
  have hb : Below w2.heap.size w2 W3 := by rw [← hW3]; exact (Below.refl _ _).alloc (Nat.le_refl _) _
  have q0 : W3.cell? ⟨w2.heap.size, 0, none⟩ = some (.int .i64 x.k) := by rw [← hW3]; simp [go_sem]
  have q1 : W3.cell? ⟨w2.heap.size, 1, none⟩ = some (.int .i64 x.i) := by rw [← hW3]; simp [go_sem]
  have q2 : W3.cell? ⟨w2.heap.size, 2, none⟩ = some (.int .u64 x.u) := by rw [← hW3]; simp [go_sem]
  have q3 : W3.cell? ⟨w2.heap.size, 3, none⟩ = some (.string x.s) := by rw [← hW3]; simp [go_sem]
  replace fr0 := keep_frozen hb (World.block_lt_of_cell? _ _ r0) fr0; replace fr1 := keep_frozen hb (World.block_lt_of_cell? _ _ r1) fr1; replace fr2 := keep_frozen hb (World.block_lt_of_cell? _ _ r2) fr2; replace fr3 := keep_frozen hb (World.block_lt_of_cell? _ _ r3) fr3; replace a0 := keep_cell hb a0; replace a1 := keep_cell hb a1; replace a2 := keep_cell hb a2; replace a3 := keep_cell hb a3; replace b0 := keep_cell hb b0; replace b1 := keep_cell hb b1; replace b2 := keep_cell hb b2; replace b3 := keep_cell hb b3; replace v0 := keep_cell hb v0; replace v1 := keep_cell hb v1; replace v2 := keep_cell hb v2; replace v3 := keep_cell hb v3; replace r0 := keep_cell hb r0; replace r1 := keep_cell hb r1; replace r2 := keep_cell hb r2; replace r3 := keep_cell hb r3
  rw [hW3]
  replace hB := held_trans hB hb
  clear hW3 hb
  go_wp2_with (first | (go_at_call 30; (with_reducible refine (HF2.out _).mono ?_); rintro e w2 ⟨rfl, hb⟩; replace fr0 := keep_frozen hb (World.block_lt_of_cell? _ _ r0) fr0; replace fr1 := keep_frozen hb (World.block_lt_of_cell? _ _ r1) fr1; replace fr2 := keep_frozen hb (World.block_lt_of_cell? _ _ r2) fr2; replace fr3 := keep_frozen hb (World.block_lt_of_cell? _ _ r3) fr3; replace a0 := keep_cell hb a0; replace a1 := keep_cell hb a1; replace a2 := keep_cell hb a2; replace a3 := keep_cell hb a3; replace b0 := keep_cell hb b0; replace b1 := keep_cell hb b1; replace b2 := keep_cell hb b2; replace b3 := keep_cell hb b3; replace v0 := keep_cell hb v0; replace v1 := keep_cell hb v1; replace v2 := keep_cell hb v2; replace v3 := keep_cell hb v3; replace r0 := keep_cell hb r0; replace r1 := keep_cell hb r1; replace r2 := keep_cell hb r2; replace r3 := keep_cell hb r3; replace q0 := keep_cell hb q0; replace q1 := keep_cell hb q1; replace q2 := keep_cell hb q2; replace q3 := keep_cell hb q3; replace hB := held_trans hB hb; clear hb))
  refine bodyPost_ret (v := .tuple #[.agg #[.int .i64 0, .int .i64 0, .int .u64 0, .string ⟨#[]⟩], .int .i64 161]) (by simp [results, Tryz.results11, go_sem, r0, r1, r2, r3]) rfl ⟨rfl, ?_⟩
  repeat' first | exact hB | (refine Below.setCell ?_ (by simp; try omega) _)

end Go.Proofs.YtmgeefhacnadcaaGreatDoor
namespace Go.Proofs.YtmgeefhacnadcaaGreatDoor
open Go.RowKit

set_option maxRecDepth 100000 in
set_option maxHeartbeats 4000000 in
theorem r6conv_turned (c d : Col) (v : Vl) (w : World) (n1 : c.n.size ≤ 9223372036854775807) (h1 : colOk c = true) (n2 : d.n.size ≤ 9223372036854775807) (h2 : colOk d = true) (hm : fitsN c v = 0) (hwy : wayR c.t d.t = true) (hk : v.k ≠ 0) (x : Vl) (hT : ∀ W, Below w.heap.size w W → Calls Tryz.prog 31 #[.agg #[.int .i64 v.k, .int .i64 v.i, .int .u64 v.u, .string v.s], .int .i64 d.t] W fun e w' => e = .returned (.tuple #[.agg #[.int .i64 x.k, .int .i64 x.i, .int .u64 x.u, .string x.s], .bool true]) ∧ Below W.heap.size W w') (m2 : Int) (hm2 : fitsN d x = m2) (h3 : m2 = 0) :
    Calls Tryz.prog 11 #[.agg #[.string c.n, .int .i64 c.t, .int .i64 c.z, .bool c.u], .agg #[.string d.n, .int .i64 d.t, .int .i64 d.z, .bool d.u], .agg #[.int .i64 v.k, .int .i64 v.i, .int .u64 v.u, .string v.s]] w fun e w' => e = .returned (.tuple #[.agg #[.int .i64 x.k, .int .i64 x.i, .int .u64 x.u, .string x.s], .int .i64 0]) ∧ Below w.heap.size w w' := by
  have HRC : Hid (∀ W, Calls Tryz.prog 29 #[.agg #[.string c.n, .int .i64 c.t, .int .i64 c.z, .bool c.u]] W fun e w' => e = .returned (.bool true) ∧ Below W.heap.size W w') := Lib.hid (fun W => by have h := r6right_any c W n1; rw [h1] at h; exact h)
  have HRD : Hid (∀ W, Calls Tryz.prog 29 #[.agg #[.string d.n, .int .i64 d.t, .int .i64 d.z, .bool d.u]] W fun e w' => e = .returned (.bool true) ∧ Below W.heap.size W w') := Lib.hid (fun W => by have h := r6right_any d W n2; rw [h2] at h; exact h)
  have HF1 : Hid (∀ W, Calls Tryz.prog 30 #[.agg #[.string c.n, .int .i64 c.t, .int .i64 c.z, .bool c.u], .agg #[.int .i64 v.k, .int .i64 v.i, .int .u64 v.u, .string v.s]] W fun e w' => e = .returned (.int .i64 0) ∧ Below W.heap.size W w') := Lib.hid (fun W => by have h := rFits_any c v W n1; rw [hm] at h; exact h)
  have HWY : Hid (∀ W, Calls Tryz.prog 16 #[.int .i64 c.t, .int .i64 d.t] W fun e w' => e = .returned (.bool true) ∧ W = w') := Lib.hid (fun W => by have h := r6Way_any c.t d.t W; rw [hwy] at h; exact h)
  have hkb : (v.k == 0) = false := by simpa using hk
  have HT := Lib.hid hT
  have HF2 : Hid (∀ W, Calls Tryz.prog 30 #[.agg #[.string d.n, .int .i64 d.t, .int .i64 d.z, .bool d.u], .agg #[.int .i64 x.k, .int .i64 x.i, .int .u64 x.u, .string x.s]] W fun e w' => e = .returned (.int .i64 m2) ∧ Below W.heap.size W w') := Lib.hid (fun W => by have h := rFits_any d x W n2; rw [hm2] at h; exact h)
  have hmb : (m2 != 0) = false := by simp [h3]
  clear h1 n1 h2 n2 hm hwy hk hT hm2 h3
  go_enter Tryz.func11, Tryz.ntmps11
  go_upto_region 1 with fail
  obtain ⟨W1, hW1⟩ : ∃ W1, ((((w.alloc (.cells #[.string c.n, .int .i64 c.t, .int .i64 c.z, .bool c.u] 24)).alloc (.cells #[.string d.n, .int .i64 d.t, .int .i64 d.z, .bool d.u] 24)).alloc (.cells #[.int .i64 v.k, .int .i64 v.i, .int .u64 v.u, .string v.s] 28)).alloc (.cells #[.int .i64 0, .int .i64 0, .int .u64 0, .string ⟨#[]⟩] 28)) = W1 := ⟨_, rfl⟩
  have hB : Below w.heap.size w W1 := by rw [← hW1]; exact ((((Below.refl _ _).alloc (Nat.le_refl _) _).alloc (by simp) _).alloc (by simp; omega) _).alloc (by simp; omega) _
  have a0 : W1.cell? ⟨w.heap.size, 0, none⟩ = some (.string c.n) := by rw [← hW1]; simp [go_sem]
  have a1 : W1.cell? ⟨w.heap.size, 1, none⟩ = some (.int .i64 c.t) := by rw [← hW1]; simp [go_sem]
  have a2 : W1.cell? ⟨w.heap.size, 2, none⟩ = some (.int .i64 c.z) := by rw [← hW1]; simp [go_sem]
  have a3 : W1.cell? ⟨w.heap.size, 3, none⟩ = some (.bool c.u) := by rw [← hW1]; simp [go_sem]
  have b0 : W1.cell? ⟨w.heap.size + 1, 0, none⟩ = some (.string d.n) := by rw [← hW1]; simp [go_sem]
  have b1 : W1.cell? ⟨w.heap.size + 1, 1, none⟩ = some (.int .i64 d.t) := by rw [← hW1]; simp [go_sem]
  have b2 : W1.cell? ⟨w.heap.size + 1, 2, none⟩ = some (.int .i64 d.z) := by rw [← hW1]; simp [go_sem]
  have b3 : W1.cell? ⟨w.heap.size + 1, 3, none⟩ = some (.bool d.u) := by rw [← hW1]; simp [go_sem]
  have v0 : W1.cell? ⟨w.heap.size + 1 + 1, 0, none⟩ = some (.int .i64 v.k) := by rw [← hW1]; simp [go_sem]
  have v1 : W1.cell? ⟨w.heap.size + 1 + 1, 1, none⟩ = some (.int .i64 v.i) := by rw [← hW1]; simp [go_sem]
  have v2 : W1.cell? ⟨w.heap.size + 1 + 1, 2, none⟩ = some (.int .u64 v.u) := by rw [← hW1]; simp [go_sem]
  have v3 : W1.cell? ⟨w.heap.size + 1 + 1, 3, none⟩ = some (.string v.s) := by rw [← hW1]; simp [go_sem]
  have r0 : W1.cell? ⟨w.heap.size + 1 + 1 + 1, 0, none⟩ = some (.int .i64 0) := by rw [← hW1]; simp [go_sem]
  have r1 : W1.cell? ⟨w.heap.size + 1 + 1 + 1, 1, none⟩ = some (.int .i64 0) := by rw [← hW1]; simp [go_sem]
  have r2 : W1.cell? ⟨w.heap.size + 1 + 1 + 1, 2, none⟩ = some (.int .u64 0) := by rw [← hW1]; simp [go_sem]
  have r3 : W1.cell? ⟨w.heap.size + 1 + 1 + 1, 3, none⟩ = some (.string ⟨#[]⟩) := by rw [← hW1]; simp [go_sem]
  have fr0 : W1.frozen? ⟨w.heap.size + 1 + 1 + 1, 0, none⟩ = false := by rw [← hW1]; simp [go_sem]
  have fr1 : W1.frozen? ⟨w.heap.size + 1 + 1 + 1, 1, none⟩ = false := by rw [← hW1]; simp [go_sem]
  have fr2 : W1.frozen? ⟨w.heap.size + 1 + 1 + 1, 2, none⟩ = false := by rw [← hW1]; simp [go_sem]
  have fr3 : W1.frozen? ⟨w.heap.size + 1 + 1 + 1, 3, none⟩ = false := by rw [← hW1]; simp [go_sem]
  rw [hW1]
  clear hW1
  go_wp2_with (first | (go_at_call 29; (with_reducible refine (HRC.out _).mono ?_); rintro e w2 ⟨rfl, hb⟩; replace fr0 := keep_frozen hb (World.block_lt_of_cell? _ _ r0) fr0; replace fr1 := keep_frozen hb (World.block_lt_of_cell? _ _ r1) fr1; replace fr2 := keep_frozen hb (World.block_lt_of_cell? _ _ r2) fr2; replace fr3 := keep_frozen hb (World.block_lt_of_cell? _ _ r3) fr3; replace a0 := keep_cell hb a0; replace a1 := keep_cell hb a1; replace a2 := keep_cell hb a2; replace a3 := keep_cell hb a3; replace b0 := keep_cell hb b0; replace b1 := keep_cell hb b1; replace b2 := keep_cell hb b2; replace b3 := keep_cell hb b3; replace v0 := keep_cell hb v0; replace v1 := keep_cell hb v1; replace v2 := keep_cell hb v2; replace v3 := keep_cell hb v3; replace r0 := keep_cell hb r0; replace r1 := keep_cell hb r1; replace r2 := keep_cell hb r2; replace r3 := keep_cell hb r3; replace hB := held_trans hB hb; clear hb) | (go_at_call 29; (with_reducible refine (HRD.out _).mono ?_); rintro e w2 ⟨rfl, hb⟩; replace fr0 := keep_frozen hb (World.block_lt_of_cell? _ _ r0) fr0; replace fr1 := keep_frozen hb (World.block_lt_of_cell? _ _ r1) fr1; replace fr2 := keep_frozen hb (World.block_lt_of_cell? _ _ r2) fr2; replace fr3 := keep_frozen hb (World.block_lt_of_cell? _ _ r3) fr3; replace a0 := keep_cell hb a0; replace a1 := keep_cell hb a1; replace a2 := keep_cell hb a2; replace a3 := keep_cell hb a3; replace b0 := keep_cell hb b0; replace b1 := keep_cell hb b1; replace b2 := keep_cell hb b2; replace b3 := keep_cell hb b3; replace v0 := keep_cell hb v0; replace v1 := keep_cell hb v1; replace v2 := keep_cell hb v2; replace v3 := keep_cell hb v3; replace r0 := keep_cell hb r0; replace r1 := keep_cell hb r1; replace r2 := keep_cell hb r2; replace r3 := keep_cell hb r3; replace hB := held_trans hB hb; clear hb) | (go_at_call 30; (with_reducible refine (HF1.out _).mono ?_); rintro e w2 ⟨rfl, hb⟩; replace fr0 := keep_frozen hb (World.block_lt_of_cell? _ _ r0) fr0; replace fr1 := keep_frozen hb (World.block_lt_of_cell? _ _ r1) fr1; replace fr2 := keep_frozen hb (World.block_lt_of_cell? _ _ r2) fr2; replace fr3 := keep_frozen hb (World.block_lt_of_cell? _ _ r3) fr3; replace a0 := keep_cell hb a0; replace a1 := keep_cell hb a1; replace a2 := keep_cell hb a2; replace a3 := keep_cell hb a3; replace b0 := keep_cell hb b0; replace b1 := keep_cell hb b1; replace b2 := keep_cell hb b2; replace b3 := keep_cell hb b3; replace v0 := keep_cell hb v0; replace v1 := keep_cell hb v1; replace v2 := keep_cell hb v2; replace v3 := keep_cell hb v3; replace r0 := keep_cell hb r0; replace r1 := keep_cell hb r1; replace r2 := keep_cell hb r2; replace r3 := keep_cell hb r3; replace hB := held_trans hB hb; clear hb) | (go_at_call 16; (with_reducible refine (HWY.out _).mono ?_); rintro e w2 ⟨rfl, rfl⟩))
  refine (HT.out _ hB).mono ?_
  rintro e w2 ⟨rfl, hb⟩
  replace fr0 := keep_frozen hb (World.block_lt_of_cell? _ _ r0) fr0; replace fr1 := keep_frozen hb (World.block_lt_of_cell? _ _ r1) fr1; replace fr2 := keep_frozen hb (World.block_lt_of_cell? _ _ r2) fr2; replace fr3 := keep_frozen hb (World.block_lt_of_cell? _ _ r3) fr3; replace a0 := keep_cell hb a0; replace a1 := keep_cell hb a1; replace a2 := keep_cell hb a2; replace a3 := keep_cell hb a3; replace b0 := keep_cell hb b0; replace b1 := keep_cell hb b1; replace b2 := keep_cell hb b2; replace b3 := keep_cell hb b3; replace v0 := keep_cell hb v0; replace v1 := keep_cell hb v1; replace v2 := keep_cell hb v2; replace v3 := keep_cell hb v3; replace r0 := keep_cell hb r0; replace r1 := keep_cell hb r1; replace r2 := keep_cell hb r2; replace r3 := keep_cell hb r3
  replace hB := held_trans hB hb
  clear hb
  go_upto_region 13 with fail
  obtain ⟨W3, hW3⟩ : ∃ W3, w2.alloc (.cells #[.int .i64 x.k, .int .i64 x.i, .int .u64 x.u, .string x.s] 28) = W3 := ⟨_, rfl⟩
  have hb : Below w2.heap.size w2 W3 := by rw [← hW3]; exact (Below.refl _ _).alloc (Nat.le_refl _) _
  have q0 : W3.cell? ⟨w2.heap.size, 0, none⟩ = some (.int .i64 x.k) := by rw [← hW3]; simp [go_sem]
  have q1 : W3.cell? ⟨w2.heap.size, 1, none⟩ = some (.int .i64 x.i) := by rw [← hW3]; simp [go_sem]
  have q2 : W3.cell? ⟨w2.heap.size, 2, none⟩ = some (.int .u64 x.u) := by rw [← hW3]; simp [go_sem]
  have q3 : W3.cell? ⟨w2.heap.size, 3, none⟩ = some (.string x.s) := by rw [← hW3]; simp [go_sem]
  replace fr0 := keep_frozen hb (World.block_lt_of_cell? _ _ r0) fr0; replace fr1 := keep_frozen hb (World.block_lt_of_cell? _ _ r1) fr1; replace fr2 := keep_frozen hb (World.block_lt_of_cell? _ _ r2) fr2; replace fr3 := keep_frozen hb (World.block_lt_of_cell? _ _ r3) fr3; replace a0 := keep_cell hb a0; replace a1 := keep_cell hb a1; replace a2 := keep_cell hb a2; replace a3 := keep_cell hb a3; replace b0 := keep_cell hb b0; replace b1 := keep_cell hb b1; replace b2 := keep_cell hb b2; replace b3 := keep_cell hb b3; replace v0 := keep_cell hb v0; replace v1 := keep_cell hb v1; replace v2 := keep_cell hb v2; replace v3 := keep_cell hb v3; replace r0 := keep_cell hb r0; replace r1 := keep_cell hb r1; replace r2 := keep_cell hb r2; replace r3 := keep_cell hb r3
  rw [hW3]
  replace hB := held_trans hB hb
  clear hW3 hb
  go_wp2_with (first | (go_at_call 30; (with_reducible refine (HF2.out _).mono ?_); rintro e w2 ⟨rfl, hb⟩; replace fr0 := keep_frozen hb (World.block_lt_of_cell? _ _ r0) fr0; replace fr1 := keep_frozen hb (World.block_lt_of_cell? _ _ r1) fr1; replace fr2 := keep_frozen hb (World.block_lt_of_cell? _ _ r2) fr2; replace fr3 := keep_frozen hb (World.block_lt_of_cell? _ _ r3) fr3; replace a0 := keep_cell hb a0; replace a1 := keep_cell hb a1; replace a2 := keep_cell hb a2; replace a3 := keep_cell hb a3; replace b0 := keep_cell hb b0; replace b1 := keep_cell hb b1; replace b2 := keep_cell hb b2; replace b3 := keep_cell hb b3; replace v0 := keep_cell hb v0; replace v1 := keep_cell hb v1; replace v2 := keep_cell hb v2; replace v3 := keep_cell hb v3; replace r0 := keep_cell hb r0; replace r1 := keep_cell hb r1; replace r2 := keep_cell hb r2; replace r3 := keep_cell hb r3; replace q0 := keep_cell hb q0; replace q1 := keep_cell hb q1; replace q2 := keep_cell hb q2; replace q3 := keep_cell hb q3; replace hB := held_trans hB hb; clear hb))
  refine bodyPost_ret (v := .tuple #[.agg #[.int .i64 x.k, .int .i64 x.i, .int .u64 x.u, .string x.s], .int .i64 0]) (by simp [results, Tryz.results11, go_sem, r0, r1, r2, r3]) rfl ⟨rfl, ?_⟩
  repeat' first | exact hB | (refine Below.setCell ?_ (by simp; try omega) _)

end Go.Proofs.YtmgeefhacnadcaaGreatDoor
namespace Go.Proofs.YtmgeefhacnadcaaGreatDoor
open Go.RowKit

/-- a value, and whether it is one: what the reference turns -/
def RTurns (b : Int) (v : Vl) (w : World) (o : Option Vl) : Prop :=
  (∃ x : Vl, o = some x ∧ ∀ W, Below w.heap.size w W → Calls Tryz.prog 31 #[.agg #[.int .i64 v.k, .int .i64 v.i, .int .u64 v.u, .string v.s], .int .i64 b] W fun e w' => e = .returned (.tuple #[.agg #[.int .i64 x.k, .int .i64 x.i, .int .u64 x.u, .string x.s], .bool true]) ∧ Below W.heap.size W w') ∨
  (o = none ∧ ∃ x : Vl, ∀ W, Below w.heap.size w W → Calls Tryz.prog 31 #[.agg #[.int .i64 v.k, .int .i64 v.i, .int .u64 v.u, .string v.s], .int .i64 b] W fun e w' => e = .returned (.tuple #[.agg #[.int .i64 x.k, .int .i64 x.i, .int .u64 x.u, .string x.s], .bool false]) ∧ Below W.heap.size W w')
theorem RTurns.yes {b : Int} {v : Vl} {w : World} {o : Option Vl} (x : Vl) (h : o = some x) (hT : ∀ W, Below w.heap.size w W → Calls Tryz.prog 31 #[.agg #[.int .i64 v.k, .int .i64 v.i, .int .u64 v.u, .string v.s], .int .i64 b] W fun e w' => e = .returned (.tuple #[.agg #[.int .i64 x.k, .int .i64 x.i, .int .u64 x.u, .string x.s], .bool true]) ∧ Below W.heap.size W w') : RTurns b v w o := .inl ⟨x, h, hT⟩
theorem RTurns.no {b : Int} {v : Vl} {w : World} {o : Option Vl} (x : Vl) (h : o = none) (hT : ∀ W, Below w.heap.size w W → Calls Tryz.prog 31 #[.agg #[.int .i64 v.k, .int .i64 v.i, .int .u64 v.u, .string v.s], .int .i64 b] W fun e w' => e = .returned (.tuple #[.agg #[.int .i64 x.k, .int .i64 x.i, .int .u64 x.u, .string x.s], .bool false]) ∧ Below W.heap.size W w') : RTurns b v w o := .inr ⟨h, x, hT⟩
theorem r6turned_any (a b : Int) (ha : a = 1 ∨ a = 2 ∨ a = 3 ∨ a = 4) (hb : b = 1 ∨ b = 2 ∨ b = 3 ∨ b = 4) (hw : wayB a b = true) (v : Vl) (hk : v.k = a) (hv : v.ok) (w : World) (hE : Env w) : RTurns b v w (turnO a b v) := by
  obtain ⟨k, i, u, s⟩ := v
  obtain ⟨i0, i1, u0, u1, z⟩ := hv
  dsimp only at hk i0 i1 u0 u1 z
  subst hk
  have hT : ∀ W, Below w.heap.size w W → HasTab W := fun W hb => (hE.keep hb).tab
  have hz : s.size ≤ 9223372036854775807 := by omega
  rcases ha with rfl | rfl | rfl | rfl <;> rcases hb with rfl | rfl | rfl | rfl
  · exact .yes _ rfl (fun W _ => r6t_11 i u s W)
  · by_cases h : 0 ≤ i
    · exact .yes ⟨2, 0, i, ⟨#[]⟩⟩ (by simp [turnO, h]) (fun W _ => r6t_12y i u s W h i1)
    · exact .no ⟨2, 0, 0, ⟨#[]⟩⟩ (by simp [turnO, h]) (fun W _ => r6t_12n i u s W h)
  · by_cases h0 : i = 0
    · subst h0
      exact .yes ⟨3, 0, 0, ⟨#[]⟩⟩ rfl (fun W _ => r6t_130 u s W)
    · by_cases h1 : i = 1
      · subst h1
        exact .yes ⟨3, 1, 0, ⟨#[]⟩⟩ rfl (fun W _ => r6t_131 u s W)
      · exact .no ⟨3, i, 0, ⟨#[]⟩⟩ (by simp [turnO, h0, h1]) (fun W _ => r6t_13n i u s W h0 h1)
  · exact .yes ⟨4, 0, 0, ⟨(Lib.itoa i).toArray⟩⟩ rfl (fun W hb => r6t_14 i u s W (hT W hb) i0 i1)
  · by_cases h : u ≤ 9223372036854775807
    · exact .yes ⟨1, u, 0, ⟨#[]⟩⟩ (by simp [turnO, h]) (fun W _ => r6t_21y i u s W u0 h)
    · exact .no ⟨1, _, 0, ⟨#[]⟩⟩ (by simp [turnO, h]) (fun W _ => r6t_21n i u s W h _ rfl)
  · exact .yes _ rfl (fun W _ => r6t_22 i u s W)
  · by_cases h0 : u = 0
    · subst h0
      exact .yes ⟨3, 0, 0, ⟨#[]⟩⟩ rfl (fun W _ => r6t_230 i s W)
    · by_cases h1 : u = 1
      · subst h1
        exact .yes ⟨3, 1, 0, ⟨#[]⟩⟩ rfl (fun W _ => r6t_231 i s W)
      · by_cases h : u ≤ 9223372036854775807
        · exact .no ⟨3, u, 0, ⟨#[]⟩⟩ (by simp [turnO, h0, h1]) (fun W _ => r6t_23n i u s W u0 h h0 h1)
        · exact .no ⟨3, _, 0, ⟨#[]⟩⟩ (by simp [turnO, h0, h1]) (fun W _ => r6t_23m i u s W h _ rfl)
  · exact .yes ⟨4, 0, 0, ⟨(Lib.decDigits u.toNat).toArray⟩⟩ rfl (fun W hb => r6t_24 i u s W (hT W hb) u0 u1)
  · exact .yes ⟨1, i, 0, ⟨#[]⟩⟩ rfl (fun W _ => r6t_31 i u s W)
  · by_cases h : 0 ≤ i
    · exact .yes ⟨2, 0, i, ⟨#[]⟩⟩ (by simp [turnO, h]) (fun W _ => r6t_32y i u s W h i1)
    · exact .no ⟨2, 0, 0, ⟨#[]⟩⟩ (by simp [turnO, h]) (fun W _ => r6t_32n i u s W h)
  · exact .yes _ rfl (fun W _ => r6t_33 i u s W)
  · cases hw
  · obtain ⟨x, bb, hbb, hx, hC⟩ := r6signed_any s hz
    cases h : sgnOf s.data.toList with
    | some n =>
      rw [h] at hbb hx
      obtain rfl := hx n rfl
      subst hbb
      exact .yes ⟨1, x, 0, ⟨#[]⟩⟩ (by simp [turnO, h]) (fun W _ => r6t_41 i u s W x true hC)
    | none =>
      rw [h] at hbb
      subst hbb
      exact .no ⟨1, x, 0, ⟨#[]⟩⟩ (by simp [turnO, h]) (fun W _ => r6t_41 i u s W x false hC)
  · have hC := fun W => r6uns_any s W hz
    cases h : numOf M64 s.data.toList with
    | some n =>
      have h' : numOf 18446744073709551615 s.data.toList = some n := h
      rw [h'] at hC
      exact .yes ⟨2, 0, n, ⟨#[]⟩⟩ (by simp [turnO, h]) (fun W _ => r6t_42 i u s W n true hC)
    | none =>
      have h' : numOf 18446744073709551615 s.data.toList = none := h
      rw [h'] at hC
      exact .no ⟨2, 0, 0, ⟨#[]⟩⟩ (by simp [turnO, h]) (fun W _ => r6t_42 i u s W 0 false hC)
  · cases hw
  · exact .yes _ rfl (fun W _ => r6t_44 i u s W)
theorem wayR_of {a b : Int} (ha : a = 1 ∨ a = 2 ∨ a = 3 ∨ a = 4) (hb : b = 1 ∨ b = 2 ∨ b = 3 ∨ b = 4) : wayR a b = wayB a b := by
  unfold wayR
  rw [decide_eq_true (by omega)]
  rfl
theorem r6Convert_any (c d : Col) (v : Vl) (w : World) (hE : Env w) (n1 : c.n.size ≤ 9223372036854775807) (n2 : d.n.size ≤ 9223372036854775807) (hv : v.ok) :
    Calls Tryz.prog 11 #[.agg #[.string c.n, .int .i64 c.t, .int .i64 c.z, .bool c.u], .agg #[.string d.n, .int .i64 d.t, .int .i64 d.z, .bool d.u], .agg #[.int .i64 v.k, .int .i64 v.i, .int .u64 v.u, .string v.s]] w fun e w' => e = .returned (.tuple #[.agg #[.int .i64 (cvO c d v).2.k, .int .i64 (cvO c d v).2.i, .int .u64 (cvO c d v).2.u, .string (cvO c d v).2.s], .int .i64 (cvO c d v).1]) ∧ Below w.heap.size w w' := by
  cases h1 : colOk c
  · rw [show cvO c d v = (2, v0N) by unfold cvO; rw [if_pos (.inl h1)]]
    exact r6conv_bad1 c d v w n1 h1
  cases h2 : colOk d
  · rw [show cvO c d v = (2, v0N) by unfold cvO; rw [if_pos (.inr h2)]]
    exact r6conv_bad2 c d v w n1 h1 n2 h2
  have hc0 : ¬ (colOk c = false ∨ colOk d = false) := by rw [h1, h2]; simp
  have e1 := fits_ok v h1
  by_cases hf : fitN c v = 0
  case neg =>
    rw [show cvO c d v = (fitN c v, v0N) by unfold cvO; rw [if_neg hc0, if_pos hf]]
    exact r6conv_unfit c d v w n1 h1 n2 h2 _ e1 hf
  have hf' : fitsN c v = 0 := by rw [e1]; exact hf
  have hwr := wayR_of (col_types h1) (col_types h2)
  cases hwy : wayB c.t d.t
  · rw [show cvO c d v = (160, v0N) by unfold cvO; rw [if_neg hc0, if_neg (by rw [hf]; simp), if_pos hwy]]
    exact r6conv_noway c d v w n1 h1 n2 h2 hf' (hwr.trans hwy)
  have hwn : ¬ wayB c.t d.t = false := by rw [hwy]; simp
  have hcv : cvO c d v = if v.k = 0 then (if fitN d v = 0 then ((0 : Int), v) else ((161 : Int), v0N)) else match turnO c.t d.t v with
      | none => ((161 : Int), v0N)
      | some x => if fitN d x = 0 then ((0 : Int), x) else ((161 : Int), v0N) := by
    unfold cvO
    rw [if_neg hc0, if_neg (by rw [hf]; simp), if_neg hwn]
    rfl
  by_cases hk : v.k = 0
  · rw [if_pos hk] at hcv
    have hg : fitN d v = if d.u = true then 0 else 131 := by
      unfold fitN
      rw [if_neg (by rw [fit_chk0 hf]; simp), if_pos hk]
    cases hu : d.u
    · rw [hu] at hg
      rw [hcv, hg]
      have h := r6conv_nullbad c d v w n1 h1 n2 h2 hf' (hwr.trans hwy) hk hu
      rw [hu] at h
      exact h
    · rw [hu] at hg
      rw [hcv, hg]
      have h := r6conv_nullgood c d v w n1 h1 n2 h2 hf' (hwr.trans hwy) hk hu
      rw [hu] at h
      exact h
  · rw [if_neg hk] at hcv
    rcases r6turned_any c.t d.t (col_types h1) (col_types h2) hwy v (fit_kind hf hk) hv w hE with ⟨x, ht, hT⟩ | ⟨ht, x, hT⟩
    · rw [ht] at hcv
      have e2 := fits_ok x h2
      by_cases hg : fitN d x = 0
      · rw [hcv.trans (if_pos hg)]
        exact r6conv_turned c d v w n1 h1 n2 h2 hf' (hwr.trans hwy) hk x hT _ e2 hg
      · rw [hcv.trans (if_neg hg)]
        exact r6conv_unfit2 c d v w n1 h1 n2 h2 hf' (hwr.trans hwy) hk x hT _ e2 hg
    · rw [ht] at hcv
      rw [hcv]
      exact r6conv_turnbad c d v w n1 h1 n2 h2 hf' (hwr.trans hwy) hk x hT
end Go.Proofs.YtmgeefhacnadcaaGreatDoor

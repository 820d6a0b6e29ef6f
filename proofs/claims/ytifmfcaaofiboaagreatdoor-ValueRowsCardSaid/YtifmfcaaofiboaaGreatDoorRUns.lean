/-
  swingbridgeref01.digit: the place of a byte among the figures; swingbridgeref01.unsigned: the same as value.number up to 64 bits.
-/
import Derived.Test.YtifmfcaaofiboaaGreatDoorRead
import Derived.Test.YtifmfcaaofiboaaGreatDoorTellBytes
namespace Go.Proofs.YtifmfcaaofiboaaGreatDoor
open Go.RowKit

theorem idx_at : ∀ (l : List UInt8) (k : Nat) (c : UInt8), k < l.length → (∀ j, j < k → l.getD j 0 ≠ c) → l.getD k 0 = c → Lib.indexByte l c = k
  | [], k, c, hk, _, _ => by simp at hk
  | b :: l, 0, c, _, _, h => by
    simp at h
    simp [Lib.indexByte, h]
  | b :: l, k + 1, c, hk, hb, h => by
    have h0 : b ≠ c := by simpa using hb 0 (by omega)
    have ih := idx_at l k c (by simpa using hk) (fun j hj => by simpa using hb (j + 1) (by omega)) (by simpa using h)
    simp only [Lib.indexByte, ih]
    rw [if_neg (by simpa using h0), if_neg (by simp <;> omega)]
    omega
theorem idx_none : ∀ (l : List UInt8) (c : UInt8), (∀ j, j < l.length → l.getD j 0 ≠ c) → Lib.indexByte l c = -1
  | [], c, _ => rfl
  | b :: l, c, hb => by
    have h0 : b ≠ c := by simpa using hb 0 (by simp)
    have ih := idx_none l c (fun j hj => by simpa using hb (j + 1) (by simpa using hj))
    simp only [Lib.indexByte, ih]
    rw [if_neg (by simpa using h0)]
    rfl
def DigRel (k : Nat) (c : UInt8) : Prop := ∀ j, j < k → figs.getD j 0 ≠ c
theorem DigRel.no {k : Nat} {c d : UInt8} (h : DigRel k c) (hd : d = figs.getD k 0) (hne : d ≠ c) : DigRel (k + 1) c := fun j hj => by
  rcases Nat.lt_or_ge j k with h' | h'
  · exact h j h'
  · obtain rfl : j = k := by omega
    rw [← hd]; exact hne
theorem DigRel.yes {k : Nat} {c d : UInt8} (h : DigRel k c) (hk : k < 16) (hd : d = figs.getD k 0) (he : d = c) : dig 16 c = k :=
  idx_at figs k c (by simpa [figs] using hk) h (by rw [← hd]; exact he)
theorem DigRel.all {c : UInt8} (h : DigRel 16 c) : dig 16 c = -1 := idx_none figs c (fun j hj => h j hj)

set_option maxHeartbeats 1000000 in
theorem rdigit_any (c : UInt8) (w : World) :
    Calls Tryz.prog 57 #[.int .u8 (c.toNat : Int)] w fun e w' => e = .returned (.int .i64 (dig 16 c)) ∧ w = w' := by
  go_enter Tryz.func57, Tryz.ntmps57
  go_wp2
  go_loop [3] (fun i => ∃ k : Nat, k ≤ 16 ∧ i = .int .i64 k ∧ DigRel k c) (fun i => 16 - (intOf i).toNat)
  case atStart =>
    exact ⟨0, by omega, rfl, fun j hj => by omega⟩
  case round =>
    obtain ⟨k, hk, rfl, hr⟩ := hrel
    by_cases hlt : k < 16
    · obtain ⟨d, hd⟩ : ∃ d : UInt8, d = figs.getD k 0 := ⟨_, rfl⟩
      have hx : ∀ W, (Instr.index 9 (.string ⟨#[48, 49, 50, 51, 52, 53, 54, 55, 56, 57, 97, 98, 99, 100, 101, 102]⟩) (.int .i64 (k : Int))).run Tryz.prog W = .ok (.int .u8 (d.toNat : Int)) W := fun W => fig_at .i64 k hlt d hd W
      by_cases he : d = c
      · have hy := hr.yes hlt hd he
        have hB : ((d.toNat : Int) == (c.toNat : Int)) = true := by rw [he]; simp
        have HY := Lib.hid hy
        clear hy hr he hd
        go_wp2
        go_ret
        exact ⟨by rw [HY.out]; rfl, rfl⟩
      · have hn := hr.no hd he
        have hB : ((d.toNat : Int) == (c.toNat : Int)) = false := by
          rw [beq_eq_false_iff_ne]
          intro h
          exact he (UInt8.toNat_inj.1 (by omega))
        have HN := Lib.hid hn
        clear hn hr he hd
        go_wp2
        go_round
        case rel => exact ⟨k + 1, by omega, by go_num, HN.out⟩
        case measure => simp [intOf]; omega
    · obtain rfl : k = 16 := by omega
      have HA := Lib.hid hr.all
      clear hr
      go_wp2
      go_ret
      exact ⟨by rw [HA.out]; rfl, rfl⟩
end Go.Proofs.YtifmfcaaofiboaaGreatDoor
namespace Go.Proofs.YtifmfcaaofiboaaGreatDoor
open Go.RowKit

theorem ba_nil (s : ByteArray) (h : s.toList = []) : s = ⟨#[]⟩ := by
  rw [ByteArray.toList_eq] at h
  obtain ⟨⟨l⟩⟩ := s
  simp at h
  subst h
  rfl
theorem dig10_of (c : UInt8) : dig 10 c = if 48 ≤ c.toNat ∧ c.toNat ≤ 57 then (c.toNat : Int) - 48 else -1 := by
  have key : ∀ n : Fin 256, dig 10 (UInt8.ofNat n.1) = if 48 ≤ (UInt8.ofNat n.1).toNat ∧ (UInt8.ofNat n.1).toNat ≤ 57 then ((UInt8.ofNat n.1).toNat : Int) - 48 else -1 := by decide +kernel
  have h := key ⟨c.toNat, c.toNat_lt⟩
  rwa [UInt8.ofNat_toNat] at h
theorem numGo_ge {m : Int} : ∀ (l : List UInt8) (v n : Int), 0 ≤ v → numGo m l v = some n → v * 10 ^ l.length ≤ n
  | [], v, n, _, h => by simp [numGo] at h; simp [h]
  | c :: l, v, n, h0, h => by
    simp only [numGo] at h
    split at h
    · rename_i hc
      have ih := numGo_ge l _ n (by omega) h
      rw [List.length_cons, Int.pow_succ]
      have hp : (0 : Int) ≤ 10 ^ l.length := Int.pow_nonneg (by decide)
      have h2 : (v * 10 + dig 10 c) * 10 ^ l.length = v * (10 ^ l.length * 10) + dig 10 c * 10 ^ l.length := by
        rw [Int.add_mul, Int.mul_assoc, Int.mul_comm 10]
      have h3 : 0 ≤ dig 10 c * 10 ^ l.length := Int.mul_nonneg hc.1 hp
      omega
    · cases h
theorem numOf_long {m : Int} (hm : m ≤ 18446744073709551615) (l : List UInt8) (hl : 20 < l.length) : numOf m l = none := by
  cases hn : numOf m l with
  | none => rfl
  | some n =>
    exfalso
    unfold numOf at hn
    split at hn
    · cases hn
    · rename_i hc
      match l, hl with
      | c :: l, hl =>
        have hc48 : c ≠ 48 := fun h => hc (.inr ⟨by simp at hl ⊢; omega, by simp [h]⟩)
        have hbd := numGo_bd (c :: l) 0 n (by omega) (by
          simp only [numGo] at hn
          split at hn
          · rename_i h; have := dig10_bd c; omega
          · cases hn) hn
        simp only [numGo] at hn
        split at hn
        · rename_i hd
          have hd0 : 1 ≤ dig 10 c := by
            have h := dig10_of c
            have hcn : c.toNat ≠ 48 := fun h => hc48 (UInt8.toNat_inj.1 h)
            split at h <;> omega
          have hge := numGo_ge l _ n (by omega) hn
          have hp : (10 : Int) ^ 20 ≤ 10 ^ l.length := by
            have h := Nat.pow_le_pow_right (n := 10) (by decide) (show 20 ≤ l.length by simp at hl; omega)
            exact_mod_cast h
          have h1 : (10 : Int) ^ l.length ≤ (0 * 10 + dig 10 c) * 10 ^ l.length := by
            have hz : (0 : Int) ≤ 10 ^ l.length := Int.pow_nonneg (by decide)
            have := Int.mul_le_mul_of_nonneg_right hd0 hz
            simpa using this
          have h2 : (10 : Int) ^ 20 = 100000000000000000000 := by decide
          omega
        · cases hn

/-- k digits are read: they make v (as the reference writes it) -/
theorem NumRel.yes' {m : Int} {s : ByteArray} {k : Nat} {v : Int} {c : UInt8} (h : NumRel m s.data.toList k v) (hk : k < s.size) (hc : s[k] = c) (h0 : 48 ≤ (c.toNat : Int)) (h1 : (c.toNat : Int) ≤ 57) (h2 : v ≤ (m - ((c.toNat : Int) - 48)) / 10) : NumRel m s.data.toList (k + 1) (10 * v + ((c.toNat : Int) - 48)) := by
  have hd : dig 10 s[k] = (c.toNat : Int) - 48 := by rw [hc, dig10_of, if_pos ⟨by omega, by omega⟩]
  have := h.yes hk hd (by omega) h2
  rwa [Int.mul_comm v 10] at this
theorem NumRel.no' {m : Int} {s : ByteArray} {k : Nat} {v : Int} {c : UInt8} (h : NumRel m s.data.toList k v) (hk : k < s.size) (hc : s[k] = c) (h0 : ¬ (48 ≤ (c.toNat : Int) ∧ (c.toNat : Int) ≤ 57 ∧ v ≤ (m - ((c.toNat : Int) - 48)) / 10)) : numGo m s.data.toList 0 = none := by
  refine h.no hk ?_
  rw [hc, dig10_of]
  split
  · rename_i hh
    rintro ⟨_, h2⟩
    exact h0 ⟨by omega, by omega, h2⟩
  · rintro ⟨h1, _⟩
    omega

set_option maxRecDepth 100000 in
set_option maxHeartbeats 2000000 in
theorem runs_loop (s : ByteArray) (w : World) (hz : s.size ≤ 20) (h1 : s.toList.isEmpty = false) (_h2 : ¬ s.toList = []) (hp : 0 < s.size) (hlead : ((s[0].toNat : Int) == 48) = false ∨ (((s[0].toNat : Int) == 48) = true ∧ s.size ≤ 1)) :
    Calls Tryz.prog 42 #[.string s] w fun e w' => e = .returned (numRes (numGo 18446744073709551615 s.data.toList 0)) ∧ Below w.heap.size w w' := by
  rcases hlead with hl | ⟨hl, hl1⟩
  · go_enter Tryz.func42, Tryz.ntmps42
    go_wp2
    go_loop [4, 5] (fun n i => ∃ (k : Nat) (v : Int), k ≤ s.size ∧ i = .int .i64 k ∧ n = .int .u64 v ∧ 0 ≤ v ∧ v ≤ 18446744073709551615 ∧ NumRel 18446744073709551615 s.data.toList k v) (fun _ i => s.size - (intOf i).toNat)
    case atStart => exact ⟨0, 0, by omega, rfl, rfl, by omega, by omega, rfl⟩
    case round =>
      obtain ⟨k, v, hk, rfl, rfl, hv0, hv1, hrel⟩ := hrel
      by_cases hlt : k < s.size
      · obtain ⟨c, hc⟩ : ∃ c, s[k] = c := ⟨_, rfl⟩
        have hc0 : (0 : Int) ≤ (c.toNat : Int) := by omega
        have hc256 : (c.toNat : Int) < 256 := by have := c.toNat_lt; omega
        by_cases hlo : (c.toNat : Int) < 48
        · have HN := Lib.hid (hrel.no' hlt hc (by omega))
          clear hrel
          go_wp2
          go_ret2
          exact ⟨by rw [HN.out]; rfl, Below.refl _ _⟩
        · by_cases hhi : 57 < (c.toNat : Int)
          · have HN := Lib.hid (hrel.no' hlt hc (by omega))
            clear hrel
            go_wp2
            go_ret2
            exact ⟨by rw [HN.out]; rfl, Below.refl _ _⟩
          · by_cases hb : v ≤ (18446744073709551615 - ((c.toNat : Int) - 48)) / 10
            · have HN := Lib.hid (hrel.yes' hlt hc (by omega) (by omega) hb)
              clear hrel
              go_wp2
              go_round
              case rel => exact ⟨k + 1, 10 * v + ((c.toNat : Int) - 48), by omega, by go_num, rfl, by omega, by omega, HN.out⟩
              case measure => simp [intOf]; omega
            · have HN := Lib.hid (hrel.no' hlt hc (by omega))
              clear hrel
              go_wp2
              go_ret2
              exact ⟨by rw [HN.out]; rfl, Below.refl _ _⟩
      · obtain rfl : k = s.size := by omega
        have HN := Lib.hid hrel.all
        clear hrel
        go_wp2
        go_ret2
        exact ⟨by rw [HN.out]; rfl, Below.refl _ _⟩
  · go_enter Tryz.func42, Tryz.ntmps42
    go_wp2
    go_loop [4, 5] (fun n i => ∃ (k : Nat) (v : Int), k ≤ s.size ∧ i = .int .i64 k ∧ n = .int .u64 v ∧ 0 ≤ v ∧ v ≤ 18446744073709551615 ∧ NumRel 18446744073709551615 s.data.toList k v) (fun _ i => s.size - (intOf i).toNat)
    case atStart => exact ⟨0, 0, by omega, rfl, rfl, by omega, by omega, rfl⟩
    case round =>
      obtain ⟨k, v, hk, rfl, rfl, hv0, hv1, hrel⟩ := hrel
      by_cases hlt : k < s.size
      · obtain ⟨c, hc⟩ : ∃ c, s[k] = c := ⟨_, rfl⟩
        have hc0 : (0 : Int) ≤ (c.toNat : Int) := by omega
        have hc256 : (c.toNat : Int) < 256 := by have := c.toNat_lt; omega
        by_cases hlo : (c.toNat : Int) < 48
        · have HN := Lib.hid (hrel.no' hlt hc (by omega))
          clear hrel
          go_wp2
          go_ret2
          exact ⟨by rw [HN.out]; rfl, Below.refl _ _⟩
        · by_cases hhi : 57 < (c.toNat : Int)
          · have HN := Lib.hid (hrel.no' hlt hc (by omega))
            clear hrel
            go_wp2
            go_ret2
            exact ⟨by rw [HN.out]; rfl, Below.refl _ _⟩
          · by_cases hb : v ≤ (18446744073709551615 - ((c.toNat : Int) - 48)) / 10
            · have HN := Lib.hid (hrel.yes' hlt hc (by omega) (by omega) hb)
              clear hrel
              go_wp2
              go_round
              case rel => exact ⟨k + 1, 10 * v + ((c.toNat : Int) - 48), by omega, by go_num, rfl, by omega, by omega, HN.out⟩
              case measure => simp [intOf]; omega
            · have HN := Lib.hid (hrel.no' hlt hc (by omega))
              clear hrel
              go_wp2
              go_ret2
              exact ⟨by rw [HN.out]; rfl, Below.refl _ _⟩
      · obtain rfl : k = s.size := by omega
        have HN := Lib.hid hrel.all
        clear hrel
        go_wp2
        go_ret2
        exact ⟨by rw [HN.out]; rfl, Below.refl _ _⟩

theorem runs_empty (w : World) :
    Calls Tryz.prog 42 #[.string ⟨#[]⟩] w fun e w' => e = .returned (.tuple #[.int .u64 0, .bool false]) ∧ Below w.heap.size w w' := by
  go_enter Tryz.func42, Tryz.ntmps42
  go_wp2
  go_ret2
  exact ⟨rfl, Below.refl _ _⟩
theorem runs_long (s : ByteArray) (w : World) (hz : 20 < s.size) (h1 : s.toList.isEmpty = false) (_h2 : ¬ s.toList = []) :
    Calls Tryz.prog 42 #[.string s] w fun e w' => e = .returned (.tuple #[.int .u64 0, .bool false]) ∧ Below w.heap.size w w' := by
  go_enter Tryz.func42, Tryz.ntmps42
  go_wp2
  go_ret2
  exact ⟨rfl, Below.refl _ _⟩
theorem runs_lead (s : ByteArray) (w : World) (hz : s.size ≤ 20) (hl : 1 < s.size) (hp : 0 < s.size) (h1 : s.toList.isEmpty = false) (_h2 : ¬ s.toList = []) (hc : ((s[0].toNat : Int) == 48) = true) :
    Calls Tryz.prog 42 #[.string s] w fun e w' => e = .returned (.tuple #[.int .u64 0, .bool false]) ∧ Below w.heap.size w w' := by
  go_enter Tryz.func42, Tryz.ntmps42
  go_wp2
  go_ret2
  exact ⟨rfl, Below.refl _ _⟩
theorem runs_any (s : ByteArray) (w : World) :
    Calls Tryz.prog 42 #[.string s] w fun e w' => e = .returned (numRes (numOf 18446744073709551615 s.data.toList)) ∧ Below w.heap.size w w' := by
  by_cases he : s.toList = []
  · obtain rfl := ba_nil s he
    exact runs_empty w
  · have h1 : s.toList.isEmpty = false := by cases h : s.toList <;> simp_all
    have hl : s.data.toList ≠ [] := by rw [← ByteArray.toList_eq]; exact he
    have hp : 0 < s.size := by
      rcases Nat.eq_zero_or_pos s.size with h | h
      · exact absurd (List.eq_nil_of_length_eq_zero (by simpa using h)) hl
      · exact h
    by_cases hlong : 20 < s.size
    · rw [numOf_long (by omega) s.data.toList (by simpa using hlong)]
      exact runs_long s w hlong h1 he
    · have hno48 : ((s[0].toNat : Int) == 48) = false ∨ s.size = 1 → numOf 18446744073709551615 s.data.toList = numGo 18446744073709551615 s.data.toList 0 := fun h => by
        unfold numOf
        rw [if_neg]
        rintro (h' | ⟨h', h''⟩)
        · exact hl h'
        · rcases h with h | h
          · rw [head_48 s hp, h] at h''; cases h''
          · simp at h'; omega
      by_cases hb : 1 < s.size
      · cases hc : ((s[0].toNat : Int) == 48)
        · rw [hno48 (.inl hc)]
          exact runs_loop s w (by omega) h1 he hp (.inl hc)
        · have e : numOf 18446744073709551615 s.data.toList = none := by
            unfold numOf
            rw [if_pos (.inr ⟨by simpa using hb, (head_48 s hp).2 hc⟩)]
          rw [e]
          exact runs_lead s w (by omega) hb hp h1 he hc
      · rw [hno48 (.inr (by omega))]
        cases hc : ((s[0].toNat : Int) == 48)
        · exact runs_loop s w (by omega) h1 he hp (.inl hc)
        · exact runs_loop s w (by omega) h1 he hp (.inr ⟨hc, by omega⟩)
end Go.Proofs.YtifmfcaaofiboaaGreatDoor

/-
  swingbridgelaw05.few.
-/
import Derived.Test.YtcedeipmboekaaaGreatDoorKWorks
namespace Go.Proofs.YtcedeipmboekaaaGreatDoor
open Go.RowKit

def fewB (l : List Vl) (many : Int) : Bool := ((l.take (many + 1).toNat).all fun v => decide (v.s.size ≤ 300)) && decide ((l.length : Int) ≤ many)
theorem few_yes {l : List Vl} {k : Nat} {v : Vl} (h : k < l.length) (hv : l[k] = v) (hs : v.s.size ≤ 300) (hall : ((l.take k).all fun v => decide (v.s.size ≤ 300)) = true) : ((l.take (k + 1)).all fun v => decide (v.s.size ≤ 300)) = true := by
  rw [List.take_succ_eq_append_getElem h, List.all_append, hall, hv]
  simpa using hs
theorem few_no {l : List Vl} {many : Int} {k : Nat} {v : Vl} (hm : (k : Int) ≤ many) (h : k < l.length) (hv : l[k] = v) (hs : ¬ v.s.size ≤ 300) : fewB l many = false := by
  unfold fewB
  rw [Bool.and_eq_false_iff]
  refine .inl ?_
  rw [List.all_eq_false]
  refine ⟨v, ?_, by simpa using hs⟩
  rw [← hv]
  exact List.mem_take_iff_getElem.2 ⟨k, by omega, rfl⟩
theorem few_long {l : List Vl} {many : Int} {k : Nat} (h : k < l.length) (hm : ¬ (k : Int) ≤ many) : fewB l many = false := by
  unfold fewB
  rw [Bool.and_eq_false_iff]
  exact .inr (by simp; omega)
theorem few_all {l : List Vl} {many : Int} {k : Nat} (hall : ((l.take k).all fun v => decide (v.s.size ≤ 300)) = true) (hk : k = l.length) (hm : (k : Int) ≤ many + 1) : fewB l many = decide ((l.length : Int) ≤ many) := by
  unfold fewB
  subst hk
  rw [List.take_of_length_le (Nat.le_refl _)] at hall
  rw [List.take_of_length_le (by omega), hall]
  rfl

set_option maxHeartbeats 1000000 in
theorem qfew_any (oa : Option Addr) (cap : Nat) (l : List Vl) (many : Int) (w : World) (hv : ValsK w oa l) (hm : 0 ≤ many) (hm' : many ≤ 1000) (hl : l.length ≤ 9223372036854775807) :
    Calls Tryz.prog 8 #[.slice oa l.length cap, .int .i64 many] w fun e w' => e = .returned (.bool (fewB l many)) ∧ w = w' := by
  go_enter Tryz.func8, Tryz.ntmps8
  go_wp2
  go_loop [5] (fun i => ∃ (k : Nat), (k : Int) ≤ many + 1 ∧ k ≤ l.length ∧ i = .int .i64 k ∧ ((l.take k).all fun v => decide (v.s.size ≤ 300)) = true) (fun i => l.length - (intOf i).toNat)
  case atStart => exact ⟨0, by omega, by omega, rfl, rfl⟩
  case round =>
    obtain ⟨k, hk, hk', rfl, hall⟩ := hrel
    by_cases hlt : k < l.length
    · by_cases hlm : (k : Int) ≤ many
      · obtain ⟨a, rfl, h0, h1, h2, h3⟩ := hv k hlt
        obtain ⟨v, hvk⟩ : ∃ v, l[k] = v := ⟨_, rfl⟩
        rw [hvk] at h0 h1 h2 h3
        by_cases hs : v.s.size ≤ 300
        · have HK := Lib.hid (few_yes hlt hvk hs hall)
          clear hall hvk
          go_wp2
          go_round
          case rel => exact ⟨k + 1, by omega, by omega, by go_num, HK.out⟩
          case measure => simp [intOf]; omega
        · have HK := Lib.hid (few_no hlm hlt hvk hs)
          clear hall hvk
          go_wp2
          go_ret
          exact ⟨by rw [HK.out]; rfl, rfl⟩
      · have HK := Lib.hid (few_long hlt hlm)
        clear hall
        go_wp2
        go_ret
        exact ⟨by rw [HK.out]; simp; omega, rfl⟩
    · have HK := Lib.hid (few_all (k := k) hall (by omega) hk)
      clear hall
      go_wp2
      go_ret
      exact ⟨by rw [HK.out]; rfl, rfl⟩

theorem fewB_spec {l : List Vl} {many : Int} (h : fewB l many = true) : (l.length : Int) ≤ many ∧ ∀ v ∈ l, v.s.size ≤ 300 := by
  unfold fewB at h
  rw [Bool.and_eq_true, decide_eq_true_eq, List.all_eq_true] at h
  obtain ⟨h1, h2⟩ := h
  refine ⟨h2, fun v hv => ?_⟩
  rw [List.take_of_length_le (by omega)] at h1
  simpa using h1 v hv
end Go.Proofs.YtcedeipmboekaaaGreatDoor

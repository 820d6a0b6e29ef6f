/-
  swingbridgeref06.Way, right, digits, Sure.
-/
import Derived.Test.YtmgeefhacnadcaaGreatDoorVConv
namespace Go.Proofs.YtmgeefhacnadcaaGreatDoor
open Go.RowKit

/-- is there a way? -/
def wayR (a b : Int) : Bool := decide ((1 ≤ a ∧ a ≤ 4) ∧ (1 ≤ b ∧ b ≤ 4)) && wayB a b
theorem wayR_out {a b : Int} (h : ¬ ((1 ≤ a ∧ a ≤ 4) ∧ (1 ≤ b ∧ b ≤ 4))) : wayR a b = false := by unfold wayR; rw [decide_eq_false h]; rfl
theorem four_cases {a : Int} (h : 1 ≤ a ∧ a ≤ 4) : a = 1 ∨ a = 2 ∨ a = 3 ∨ a = 4 := by omega
set_option maxRecDepth 100000 in
set_option maxHeartbeats 4000000 in
theorem r6Way_any (a b : Int) (w : World) : Calls Tryz.prog 16 #[.int .i64 a, .int .i64 b] w fun e w' => e = .returned (.bool (wayR a b)) ∧ w = w' := by
  by_cases h1 : a < 1
  · have e1 : decide (a < 1) = true := decide_eq_true h1
    have HR := Lib.hid (wayR_out (a := a) (b := b) (by omega))
    go_enter Tryz.func16, Tryz.ntmps16
    go_wp2
    go_ret
    exact ⟨by rw [HR.out]; rfl, rfl⟩
  have e1 : decide (a < 1) = false := decide_eq_false h1
  by_cases h2 : 4 < a
  · have e2 : decide (4 < a) = true := decide_eq_true h2
    have HR := Lib.hid (wayR_out (a := a) (b := b) (by omega))
    go_enter Tryz.func16, Tryz.ntmps16
    go_wp2
    go_ret
    exact ⟨by rw [HR.out]; rfl, rfl⟩
  have e2 : decide (4 < a) = false := decide_eq_false h2
  by_cases h3 : b < 1
  · have e3 : decide (b < 1) = true := decide_eq_true h3
    have HR := Lib.hid (wayR_out (a := a) (b := b) (by omega))
    go_enter Tryz.func16, Tryz.ntmps16
    go_wp2
    go_ret
    exact ⟨by rw [HR.out]; rfl, rfl⟩
  have e3 : decide (b < 1) = false := decide_eq_false h3
  by_cases h4 : 4 < b
  · have e4 : decide (4 < b) = true := decide_eq_true h4
    have HR := Lib.hid (wayR_out (a := a) (b := b) (by omega))
    go_enter Tryz.func16, Tryz.ntmps16
    go_wp2
    go_ret
    exact ⟨by rw [HR.out]; rfl, rfl⟩
  have ha := four_cases (a := a) (by omega)
  have hb := four_cases (a := b) (by omega)
  clear h1 h2 h3 h4 e1 e2 e3
  rcases ha with rfl | rfl | rfl | rfl <;> rcases hb with rfl | rfl | rfl | rfl
  all_goals
    go_enter Tryz.func16, Tryz.ntmps16
    go_wp2
    go_ret
    exact ⟨rfl, rfl⟩
set_option maxRecDepth 100000 in
set_option maxHeartbeats 4000000 in
theorem xWay_any (a b : Int) (w : World) : Calls Tryz.prog 15 #[.int .i64 a, .int .i64 b] w fun e w' => e = .returned (.bool (wayR a b)) ∧ Below w.heap.size w w' := by
  go_enter Tryz.func15, Tryz.ntmps15
  go_wp2_with fail
  refine (known_any _).mono ?_
  rintro e w3 ⟨rfl, ⟨es, cl, hm, hw⟩, hb3⟩
  by_cases h : wayR a b = true
  · have HR := Lib.hid h
    have h' : (decide ((1 ≤ a ∧ a ≤ 4) ∧ (1 ≤ b ∧ b ≤ 4)) && wayB a b) = true := h
    simp only [Bool.and_eq_true, decide_eq_true_eq] at h'
    obtain ⟨f, g, hx⟩ := ways_in (four_cases h'.1.1) (four_cases h'.1.2) h'.2
    have hl := ways_found hx hm hw
    have HB := Lib.hid hb3
    clear h h' hx hm hw hb3
    go_wp2_with fail
    go_ret
    exact ⟨by rw [HR.out]; rfl, HB.out.alloc HB.out.size _⟩
  · have HR := Lib.hid (show wayR a b = false by simpa using h)
    have hx : ∀ x ∈ waysL, ¬ (a = x.1 ∧ b = x.2.1) := by
      intro x hx hab
      apply h
      have key : ∀ x ∈ waysL, wayR x.1 x.2.1 = true := by decide +kernel
      have := key x hx
      rw [← hab.1, ← hab.2] at this
      exact this
    have hl := ways_none hx hm hw
    have HB := Lib.hid hb3
    clear h hx hm hw hb3
    go_wp2_with fail
    go_ret
    exact ⟨by rw [HR.out]; rfl, HB.out.alloc HB.out.size _⟩
end Go.Proofs.YtmgeefhacnadcaaGreatDoor

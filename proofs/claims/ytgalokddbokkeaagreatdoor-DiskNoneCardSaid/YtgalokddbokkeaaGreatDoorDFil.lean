/-
  disk: Files of none; few of one call.
-/
import Derived.Test.YtgalokddbokkeaaGreatDoorDNil
namespace Go.Proofs.YtgalokddbokkeaaGreatDoor
open Go.RowKit

set_option maxRecDepth 100000 in
set_option maxHeartbeats 1000000 in
theorem Files_no (v : Value) (w : World) (h : NoDisk w v) : Calls Tryz.prog 7 #[v] w fun e w' => (∃ b, w.heap.size ≤ b ∧ e = .returned (.func (.func 24) #[] #[.pointer (some ⟨b, 0, none⟩)]) ∧ w'.cell? ⟨b, 0, none⟩ = some (.map none)) ∧ Below w.heap.size w w' := by
  have hmf : ∀ (fn : Fn) (first cap : Array Value) (w : World), (Instr.makeFunc fn first cap).run Tryz.prog w = .ok (.func fn first cap) w := fun _ _ _ _ => rfl
  have HI := Lib.hid (fun W (hb : Below w.heap.size w W) => isNone_no v W (h.keep hb))
  have hr0 := Below.refl w.heap.size w
  clear h
  go_enter Tryz.func7, Tryz.ntmps7
  go_wp2_with (first | (go_at_call 22; refine (HI.out _ ((Below.refl _ _).alloc (Nat.le_refl _) _)).mono ?_; rintro e w1 ⟨rfl, hb⟩))
  go_ret
  have hl : w.heap.size < (w.alloc (.cells #[.map none] 30)).heap.size := by simp
  refine ⟨⟨_, Nat.le_refl _, rfl, ?_⟩, ((Below.refl _ _).alloc (Nat.le_refl _) _).trans (hb.mono (by simp))⟩
  rw [hb.cell hl]
  simp [go_sem]
set_option maxRecDepth 100000 in
set_option maxHeartbeats 4000000 in
theorem few_one (b : Nat) (oa : Option Addr) (n c : Nat) (w : World) (h : w.cell? ⟨b, 4, none⟩ = some (.slice oa n c)) : Calls Tryz.prog 4 #[.slice (some ⟨b, 0, none⟩) 1 1, .int .i64 1] w fun e w' => e = .returned (.bool (decide (n ≤ 60))) ∧ w' = w := by
  go_enter Tryz.func4, Tryz.ntmps4
  go_wp2
  refine wp_loop_rounds 2 ?_
  rw [rounds_succ]
  go_wp2
  · go_ret
    have hq : (60 : Int) < (n : Int) := by assumption
    have hn : ¬ n ≤ 60 := by omega
    exact ⟨by rw [decide_eq_false hn]; rfl, rfl⟩
  · rw [rounds_succ]
    go_wp2
    go_ret
    have hq : (n : Int) ≤ (60 : Int) := by assumption
    have hn : n ≤ 60 := by omega
    exact ⟨by rw [decide_eq_true hn]; rfl, rfl⟩
end Go.Proofs.YtgalokddbokkeaaGreatDoor

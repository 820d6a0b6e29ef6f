/-
  convert.Sure: 'sureO'.
-/
import Derived.Test.YtbcapmhgilailaaGreatDoorVSureB
import Derived.Test.YtbcapmhgilailaaGreatDoorVConv
namespace Go.Proofs.YtbcapmhgilailaaGreatDoor
open Go.RowKit

theorem call_inG (a b : Int) (f g : Nat) (hx : (a, b, f, g) ∈ waysL) (l : Array Value) (W : World) : (callFunc g l).run Tryz.prog W = .ok (.enter g l) W := by
  simp only [waysL, List.mem_cons, List.not_mem_nil, or_false, Prod.mk.injEq] at hx
  rcases hx with ⟨rfl, rfl, rfl, rfl⟩ | ⟨rfl, rfl, rfl, rfl⟩ | ⟨rfl, rfl, rfl, rfl⟩ | ⟨rfl, rfl, rfl, rfl⟩ | ⟨rfl, rfl, rfl, rfl⟩ | ⟨rfl, rfl, rfl, rfl⟩ | ⟨rfl, rfl, rfl, rfl⟩ | ⟨rfl, rfl, rfl, rfl⟩ | ⟨rfl, rfl, rfl, rfl⟩ | ⟨rfl, rfl, rfl, rfl⟩ | ⟨rfl, rfl, rfl, rfl⟩ | ⟨rfl, rfl, rfl, rfl⟩ | ⟨rfl, rfl, rfl, rfl⟩ | ⟨rfl, rfl, rfl, rfl⟩
  all_goals kernel_rfl
/-- is a way from one type and size to another one sure? -/
def sgB (a b z y : Int) : Bool :=
  if a = b then decide (z ≤ y)
  else if b = 4 then (if a = 1 then decide (digN 1 z ≤ y) else decide (digN 2 z ≤ y))
  else if a = 2 ∧ b = 1 then decide (z < y)
  else decide (a = 3)
theorem sg_any (a b z y : Int) (f g : Nat) (hx : (a, b, f, g) ∈ waysL) (hz : a = 1 ∨ a = 2 → numSz z = true) (W : World) (hT : HasTab W) :
    Calls Tryz.prog g #[.int .i64 z, .int .i64 y] W fun e w' => e = .returned (.bool (sgB a b z y)) ∧ Below W.heap.size W w' := by
  simp only [waysL, List.mem_cons, List.not_mem_nil, or_false, Prod.mk.injEq] at hx
  rcases hx with ⟨rfl, rfl, rfl, rfl⟩ | ⟨rfl, rfl, rfl, rfl⟩ | ⟨rfl, rfl, rfl, rfl⟩ | ⟨rfl, rfl, rfl, rfl⟩ | ⟨rfl, rfl, rfl, rfl⟩ | ⟨rfl, rfl, rfl, rfl⟩ | ⟨rfl, rfl, rfl, rfl⟩ | ⟨rfl, rfl, rfl, rfl⟩ | ⟨rfl, rfl, rfl, rfl⟩ | ⟨rfl, rfl, rfl, rfl⟩ | ⟨rfl, rfl, rfl, rfl⟩ | ⟨rfl, rfl, rfl, rfl⟩ | ⟨rfl, rfl, rfl, rfl⟩ | ⟨rfl, rfl, rfl, rfl⟩
  · rw [show sgB 1 1 z y = decide (z ≤ y) from rfl]
    exact noLess_any z y W
  · rw [show sgB 1 2 z y = false from rfl]
    exact never_any z y W
  · rw [show sgB 1 3 z y = false from rfl]
    exact never_any z y W
  · rw [show sgB 1 4 z y = decide (digN 1 z ≤ y) from rfl]
    exact holdsInts_any z y W hT (hz (.inl rfl))
  · rw [show sgB 2 1 z y = decide (z < y) from rfl]
    exact greater_any z y W
  · rw [show sgB 2 2 z y = decide (z ≤ y) from rfl]
    exact noLess_any z y W
  · rw [show sgB 2 3 z y = false from rfl]
    exact never_any z y W
  · rw [show sgB 2 4 z y = decide (digN 2 z ≤ y) from rfl]
    exact holdsUints_any z y W hT (hz (.inr rfl))
  · rw [show sgB 3 1 z y = true from rfl]
    exact always_any z y W
  · rw [show sgB 3 2 z y = true from rfl]
    exact always_any z y W
  · rw [show sgB 3 3 z y = decide (z ≤ y) from rfl]
    exact noLess_any z y W
  · rw [show sgB 4 1 z y = false from rfl]
    exact never_any z y W
  · rw [show sgB 4 2 z y = false from rfl]
    exact never_any z y W
  · rw [show sgB 4 4 z y = decide (z ≤ y) from rfl]
    exact noLess_any z y W
theorem col_num {c : Col} (h : colOk c = true) (ht : c.t = 1 ∨ c.t = 2) : numSz c.z = true := by
  unfold colOk at h
  rw [Bool.and_eq_true] at h
  have h1 := h.1
  unfold szOk at h1
  split at h1
  · exact h1
  · rename_i h0; exact absurd ht h0
/-- the number and the answer of Sure -/
def sureO (c d : Col) : Int × Bool := if colOk c = false ∨ colOk d = false then (2, false) else (0, wayB c.t d.t && ((d.u || !c.u) && sgB c.t d.t c.z d.z))
theorem Sure_any (c d : Col) (w : World) (hE : Env w) (n1 : c.n.size ≤ 9223372036854775807) (n2 : d.n.size ≤ 9223372036854775807) :
    Calls Tryz.prog 13 #[.agg #[.string c.n, .int .i64 c.t, .int .i64 c.z, .bool c.u], .agg #[.string d.n, .int .i64 d.t, .int .i64 d.z, .bool d.u]] w fun e w' => e = .returned (.tuple #[.bool (sureO c d).2, .int .i64 (sureO c d).1]) ∧ Below w.heap.size w w' := by
  unfold sureO
  cases h1 : colOk c
  · rw [if_pos (.inl rfl)]
    exact Sure_err c d w hE 2 (fun r _ _ W hb _ _ => between_bad1 c d r W (hE.keep hb) n1 h1)
  cases h2 : colOk d
  · rw [if_pos (.inr rfl)]
    exact Sure_err c d w hE 2 (fun r _ _ W hb _ _ => between_bad2 c d r W (hE.keep hb) n1 n2 h1 h2)
  rw [if_neg (by simp)]
  cases hwy : wayB c.t d.t
  · exact Sure_none c d w hE (fun r es cl W hb hm hw => between_ok_none c d r W (hE.keep hb) n1 n2 h1 h2 es cl hm (fun W' hm' => ways_none (ways_out hwy) hm' hw))
  · obtain ⟨f, g, hx⟩ := ways_in (col_types h1) (col_types h2) hwy
    rw [Bool.true_and]
    exact Sure_some c d w hE f g (call_inG _ _ f g hx) _ (fun W hb => sg_any c.t d.t c.z d.z f g hx (col_num h1) W (hE.keep hb).tab) (fun r es cl W hb hm hw => between_ok_found c d r W (hE.keep hb) n1 n2 h1 h2 f g es cl hm (fun W' hm' => ways_found hx hm' hw))
end Go.Proofs.YtbcapmhgilailaaGreatDoor

/-
  slices.Clone at places.
-/
import Derived.Test.YtjlhbpacecbfmaaGreatDoorSMem
import Derived.Deep.OwnRows
import Derived.Lib.SliceRun
namespace Go.Proofs.YtjlhbpacecbfmaaGreatDoor
open Go.RowKit

theorem own_nilI (W : World) (B : Nat) (hB : B ≤ W.heap.size) : (W.alloc (.cells #[] 3)).ownsRow B 3 1 (.slice (some ⟨W.heap.size, 0, none⟩) 0 0) 0 [] := World.ownsRow_made W #[] 0 hB (by decide) (by simp)
theorem add_fromS (g j : Nat) : (⟨g, 0, none⟩ : Addr).add j = ⟨g, j, none⟩ := by
  unfold Addr.add
  split
  · simp_all
  · simp
def ivs (l : List Int) : List Value := l.map fun x => .int .i64 x
theorem own_ints {W : World} {B n : Nat} {v : Value} {l : List Int} (h : W.ownsRow B 3 1 v n (ivs l)) (hn : l.length = n) : ∃ oa cap, v = .slice oa n cap ∧ IntsIn W oa l ∧ n ≤ cap ∧ (∀ a, oa = some a → B ≤ a.block ∧ a.block < W.heap.size) ∧ ∀ a, oa = some a → ∃ cs, W.heap[a.block]? = some (.cells cs 3) := by
  have h0 := h
  rcases h.2 with ⟨e, hn0⟩ | ⟨g, cap, cur, e, _, hgb, hnc, _⟩
  · refine ⟨none, 0, by rw [e, hn0], fun j hj => ?_, by omega, (fun a e => by cases e), fun a e => by cases e⟩
    omega
  · subst e
    have hlt := h.lt g rfl
    refine ⟨_, cap, rfl, fun j hj => ⟨_, rfl, ?_⟩, hnc, (fun a e => by cases e; exact hlt), fun a e => by cases e; exact ⟨_, hgb⟩⟩
    rw [add_fromS]
    have q := h0.cellAt j (by omega)
    rw [q]
    simp [ivs, hj]
theorem infoI : (Tryz.prog.info? 3).map (fun i => (i.zero, i.size, i.bytes)) = some (some (.int .i64 0), 1, 8) := by kernel_rfl
/-- places of the call's own -/
structure NewI (w w' : World) (oa : Option Addr) (cap : Nat) (l : List Int) : Prop where
  ints : IntsIn w' oa l
  cap : l.length ≤ cap
  new : ∀ a, oa = some a → w.heap.size ≤ a.block ∧ a.block < w'.heap.size
  below : Below w.heap.size w w'
  ty : ∀ a, oa = some a → ∃ cs, w'.heap[a.block]? = some (.cells cs 3)
set_option maxRecDepth 100000 in
set_option maxHeartbeats 1000000 in
theorem CloneI_any (oa : Option Addr) (cap : Nat) (l : List Int) (w : World) (hi : IntsIn w oa l) (hl : l.length ≤ 1000) :
    Calls Tryz.prog 35 #[.slice oa l.length cap] w fun e w' => ∃ ob cb, e = .returned (.slice ob l.length cb) ∧ NewI w w' ob cb l := by
  have q23 : ∀ (w : World) (a : Option Addr) (n c n' c' : Nat), (binOp .eql 23 (.slice a n c) (.slice none n' c')).run Tryz.prog w = .ok (.bool a.isNone) w := fun w a n c n' c' => Lib.run_eql_slice_nil w _ _ a n c n' c' Tryz.underlying23
  cases oa with
  | none =>
    have hz : l = [] := by
      cases l with
      | nil => rfl
      | cons x l => obtain ⟨a, e, _⟩ := hi 0 (by simp); cases e
    subst hz
    clear hi
    go_enter Tryz.func35, Tryz.ntmps35
    go_wp2
    go_ret
    exact ⟨none, 0, rfl, ⟨fun j hj => absurd hj (Nat.not_lt_zero j), Nat.le_refl _, (fun _ h => by cases h), Below.refl _ _, fun _ h => by cases h⟩⟩
  | some ad =>
    obtain ⟨i0, hi0, hz0, hz1, hz2⟩ := info_parts infoI
    have HI := Lib.hid hi
    clear hi
    go_enter Tryz.func35, Tryz.ntmps35
    go_wp2_with (first | (at_builtin; refine wpList_append_own _ rfl _ _ 23 rfl w.heap.size 3 i0 (.int .i64 0) 1 8 Tryz.underlying23 hi0 hz0 hz1 hz2 rfl (by decide) _ 0 [] rfl (own_nilI w w.heap.size (Nat.le_refl _)) ad l.length cap (ivs l) rfl (by simp [ivs]) ?e1 ?e2 ?e3 ?e4 ?e5 ?_))
    case e1 =>
      intro j u hj
      have hjl : j < l.length := by have := (List.getElem?_eq_some_iff.1 hj).1; simpa [ivs] using this
      obtain ⟨a, e, hc⟩ := HI.out.keep ((Below.refl _ _).alloc (Nat.le_refl _) (.cells #[] 3)) (Nat.le_refl _) j hjl
      cases e
      rw [hc]
      simpa [ivs, hjl] using hj
    case e2 => intro u hu; simp [ivs] at hu; obtain ⟨x, _, rfl⟩ := hu; rfl
    case e3 => unfold maxLen; omega
    case e4 => omega
    case e5 => simp
    intro v4 w4 hown4 hg4 _
    have hb4 : Below w.heap.size w w4 := ((Below.refl _ _).alloc (Nat.le_refl _) (.cells #[] 3)).grown hg4 (by simp) (fun x hx => by cases hx; exact Nat.le_refl _)
    obtain ⟨ob, cb, rfl, h1, h2, h3, h5⟩ := own_ints hown4 rfl
    have HN := Lib.hid (show NewI w w4 ob cb l from ⟨h1, h2, h3, hb4, h5⟩)
    clear hown4 hg4 hb4 h1 h2 h3 h5
    go_wp2_with fail
    go_ret
    exact ⟨ob, cb, rfl, HN.out⟩
end Go.Proofs.YtjlhbpacecbfmaaGreatDoor

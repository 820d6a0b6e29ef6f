/-
  swingbridgelaw01.ValueOrders: true.
-/
import Derived.Test.YtifmfcaaofiboaaGreatDoorWorks
import Derived.Test.YtifmfcaaofiboaaGreatDoorRLists
import Derived.Test.YtifmfcaaofiboaaGreatDoorRCheck
namespace Go.Proofs.YtifmfcaaofiboaaGreatDoor
open Go.RowKit

theorem SliceOf.keep {w w' : World} {B : Nat} {v : Value} {l : List Vl} (h : SliceOf w v l) (hb : Below B w w') (hB : w.heap.size ≤ B) : SliceOf w' v l := by
  rcases h with ⟨rfl, rfl⟩ | ⟨a, cap, rfl, hc, ha⟩
  · exact .inl ⟨rfl, rfl⟩
  · exact .inr ⟨a, cap, rfl, hc, fun j hj => (ha j hj).keep hb hB⟩
theorem few_two (b o : Nat) (x y : Vl) (W : World) (hx : ValAt W ⟨b, o, none⟩ x) (hy : ValAt W ⟨b, o + 4, none⟩ y) :
    Calls Tryz.prog 8 #[.slice (some ⟨b, o, none⟩) 2 2, .int .i64 2] W fun e w' => e = .returned (.bool (fewB [x, y] 2)) ∧ W = w' :=
  few_any _ [x, y] 2 W (.inr ⟨_, 2, rfl, Nat.le_refl 2, fun j hj => by
    match j, hj with
    | 0, _ => exact hx
    | 1, _ => exact hy⟩) (by decide) (by decide) (by simp)

/-- what is held while two values lie in blocks of their own -/
def Two (w : World) (x y : Vl) (W : World) : Prop :=
  W.cell? ⟨w.heap.size, 0, none⟩ = some (.int .i64 x.k) ∧ W.cell? ⟨w.heap.size, 1, none⟩ = some (.int .i64 x.i) ∧ W.cell? ⟨w.heap.size, 2, none⟩ = some (.int .u64 x.u) ∧ W.cell? ⟨w.heap.size, 3, none⟩ = some (.string x.s) ∧
  W.cell? ⟨w.heap.size + 1, 0, none⟩ = some (.int .i64 y.k) ∧ W.cell? ⟨w.heap.size + 1, 1, none⟩ = some (.int .i64 y.i) ∧ W.cell? ⟨w.heap.size + 1, 2, none⟩ = some (.int .u64 y.u) ∧ W.cell? ⟨w.heap.size + 1, 3, none⟩ = some (.string y.s) ∧ Below w.heap.size w W
theorem Two.keep {w W W' : World} {x y : Vl} (h : Two w x y W) (hb : Below W.heap.size W W') : Two w x y W' := by
  obtain ⟨h0, h1, h2, h3, g0, g1, g2, g3, hw⟩ := h
  have hl1 : w.heap.size + 1 < W.heap.size := cell_lt g0
  have hl : w.heap.size < W.heap.size := by omega
  refine ⟨?_, ?_, ?_, ?_, ?_, ?_, ?_, ?_, hw.trans (hb.mono hw.size)⟩
  · rw [hb.cell (p := ⟨w.heap.size, 0, none⟩) hl]; exact h0
  · rw [hb.cell (p := ⟨w.heap.size, 1, none⟩) hl]; exact h1
  · rw [hb.cell (p := ⟨w.heap.size, 2, none⟩) hl]; exact h2
  · rw [hb.cell (p := ⟨w.heap.size, 3, none⟩) hl]; exact h3
  · rw [hb.cell (p := ⟨w.heap.size + 1, 0, none⟩) hl1]; exact g0
  · rw [hb.cell (p := ⟨w.heap.size + 1, 1, none⟩) hl1]; exact g1
  · rw [hb.cell (p := ⟨w.heap.size + 1, 2, none⟩) hl1]; exact g2
  · rw [hb.cell (p := ⟨w.heap.size + 1, 3, none⟩) hl1]; exact g3

set_option maxRecDepth 100000 in
set_option maxHeartbeats 4000000 in
theorem orders_true (x y : Vl) (sl sm : Value) (l m : List Vl) (w : World) (hl : SliceOf w sl l) (hm : SliceOf w sm m) (hl' : l.length ≤ 9223372036854775807) (hm' : m.length ≤ 9223372036854775807) (ht : HasTab w) (hg : HasET w) :
    Calls Tryz.prog 3 #[x.val, y.val, sl, sm] w fun e w' => e = .returned (.bool true) ∧ Below w.heap.size w w' := by
  have f2 : ∀ W, Below w.heap.size w W → Calls Tryz.prog 8 #[sl, .int .i64 10] W fun e w' => e = .returned (.bool (fewB l 10)) ∧ W = w' := fun W hb => few_any sl l 10 W (hl.keep hb (Nat.le_refl _)) (by decide) (by decide) hl'
  have f3 : ∀ W, Below w.heap.size w W → Calls Tryz.prog 8 #[sm, .int .i64 10] W fun e w' => e = .returned (.bool (fewB m 10)) ∧ W = w' := fun W hb => few_any sm m 10 W (hm.keep hb (Nat.le_refl _)) (by decide) (by decide) hm'
  have wk : ∀ W, Below w.heap.size w W → Calls Tryz.prog 9 #[] W fun e w' => e = .returned (.bool true) ∧ Below W.heap.size W w' := fun W hb => works_true W (ht.below hb ht.lt) (hg.below hb hg.lt)
  have c1 : ∀ W, Below w.heap.size w W → Calls Tryz.prog 11 #[.agg #[.int .i64 x.k, .int .i64 x.i, .int .u64 x.u, .string x.s]] W fun e w' => e = .returned (.int .i64 (x.chk)) ∧ Below W.heap.size W w' := fun W hb => Check_any _ _ _ _ W (hg.below hb hg.lt)
  have c2 : ∀ W, Below w.heap.size w W → Calls Tryz.prog 12 #[.agg #[.int .i64 x.k, .int .i64 x.i, .int .u64 x.u, .string x.s]] W fun e w' => e = .returned (.int .i64 (x.chk)) ∧ Below W.heap.size W w' := fun W _ => rCheck_any _ _ _ _ W
  have c3 : ∀ W, Below w.heap.size w W → Calls Tryz.prog 13 #[.agg #[.int .i64 x.k, .int .i64 x.i, .int .u64 x.u, .string x.s], .agg #[.int .i64 y.k, .int .i64 y.i, .int .u64 y.u, .string y.s]] W fun e w' => e = .returned (.int .i64 (x.ord y)) ∧ Below W.heap.size W w' := fun W _ => Order_any _ _ _ _ _ _ _ _ W
  have c4 : ∀ W, Below w.heap.size w W → Calls Tryz.prog 14 #[.agg #[.int .i64 x.k, .int .i64 x.i, .int .u64 x.u, .string x.s], .agg #[.int .i64 y.k, .int .i64 y.i, .int .u64 y.u, .string y.s]] W fun e w' => e = .returned (.int .i64 (x.ord y)) ∧ Below W.heap.size W w' := fun W _ => rOrder_any _ _ _ _ _ _ _ _ W
  have c5 : ∀ W, Below w.heap.size w W → Calls Tryz.prog 15 #[sl, sm] W fun e w' => e = .returned (.int .i64 (lists l m)) ∧ Below W.heap.size W w' := fun W hb => Lists_any sl sm l m W (hl.keep hb (Nat.le_refl _)) (hm.keep hb (Nat.le_refl _)) hl' hm'
  have c6 : ∀ W, Below w.heap.size w W → Calls Tryz.prog 16 #[sl, sm] W fun e w' => e = .returned (.int .i64 (lists l m)) ∧ Below W.heap.size W w' := fun W hb => rLists_any sl sm l m W (hl.keep hb (Nat.le_refl _)) (hm.keep hb (Nat.le_refl _)) hl' hm'
  have F1 := Lib.hid few_two
  have F2 := Lib.hid f2
  have F3 := Lib.hid f3
  have WK := Lib.hid wk
  obtain ⟨n1, hn1⟩ : ∃ n, x.chk = n := ⟨_, rfl⟩
  obtain ⟨n2, hn2⟩ : ∃ n, x.ord y = n := ⟨_, rfl⟩
  obtain ⟨n3, hn3⟩ : ∃ n, lists l m = n := ⟨_, rfl⟩
  rw [hn1] at c1 c2
  rw [hn2] at c3 c4
  rw [hn3] at c5 c6
  have C1 := Lib.hid c1
  have C2 := Lib.hid c2
  have C3 := Lib.hid c3
  have C4 := Lib.hid c4
  have C5 := Lib.hid c5
  have C6 := Lib.hid c6
  clear f2 f3 wk c1 c2 c3 c4 c5 c6 hn1 hn2 hn3 hl hm hl' hm' ht hg
  unfold Vl.val
  cases hf1 : fewB [x, y] 2
  · go_enter Tryz.func3, Tryz.ntmps3
    go_wp2_with (first | (go_at_call 8; with_reducible refine (F2.out _ (by go_grown)).mono ?_; rintro e w' ⟨he, rfl⟩; rw [hf2] at he; subst he) | (go_at_call 8; with_reducible refine (F3.out _ (by go_grown)).mono ?_; rintro e w' ⟨he, rfl⟩; rw [hf3] at he; subst he) | (go_at_call 8; refine (F1.out _ _ x y _ ?_ ?_).mono ?_; exact ⟨by simp [go_sem], by simp [go_sem], by simp [go_sem], by simp [go_sem]⟩; exact ⟨by simp [go_sem], by simp [go_sem], by simp [go_sem], by simp [go_sem]⟩; rintro e w' ⟨he, rfl⟩; rw [hf1] at he; subst he) | (go_at_call 9; refine (WK.out _ (by go_grown)).mono ?_; rintro e w' ⟨rfl, hb⟩))
    go_ret
    exact ⟨rfl, (show Below w.heap.size w _ from by go_grown).trans (hb.mono (by simp [Nat.add_assoc]))⟩
  cases hf2 : fewB l 10
  · go_enter Tryz.func3, Tryz.ntmps3
    go_wp2_with (first | (go_at_call 8; with_reducible refine (F2.out _ (by go_grown)).mono ?_; rintro e w' ⟨he, rfl⟩; rw [hf2] at he; subst he) | (go_at_call 8; with_reducible refine (F3.out _ (by go_grown)).mono ?_; rintro e w' ⟨he, rfl⟩; rw [hf3] at he; subst he) | (go_at_call 8; refine (F1.out _ _ x y _ ?_ ?_).mono ?_; exact ⟨by simp [go_sem], by simp [go_sem], by simp [go_sem], by simp [go_sem]⟩; exact ⟨by simp [go_sem], by simp [go_sem], by simp [go_sem], by simp [go_sem]⟩; rintro e w' ⟨he, rfl⟩; rw [hf1] at he; subst he) | (go_at_call 9; refine (WK.out _ (by go_grown)).mono ?_; rintro e w' ⟨rfl, hb⟩))
    go_ret
    exact ⟨rfl, (show Below w.heap.size w _ from by go_grown).trans (hb.mono (by simp [Nat.add_assoc]))⟩
  cases hf3 : fewB m 10
  · go_enter Tryz.func3, Tryz.ntmps3
    go_wp2_with (first | (go_at_call 8; with_reducible refine (F2.out _ (by go_grown)).mono ?_; rintro e w' ⟨he, rfl⟩; rw [hf2] at he; subst he) | (go_at_call 8; with_reducible refine (F3.out _ (by go_grown)).mono ?_; rintro e w' ⟨he, rfl⟩; rw [hf3] at he; subst he) | (go_at_call 8; refine (F1.out _ _ x y _ ?_ ?_).mono ?_; exact ⟨by simp [go_sem], by simp [go_sem], by simp [go_sem], by simp [go_sem]⟩; exact ⟨by simp [go_sem], by simp [go_sem], by simp [go_sem], by simp [go_sem]⟩; rintro e w' ⟨he, rfl⟩; rw [hf1] at he; subst he) | (go_at_call 9; refine (WK.out _ (by go_grown)).mono ?_; rintro e w' ⟨rfl, hb⟩))
    go_ret
    exact ⟨rfl, (show Below w.heap.size w _ from by go_grown).trans (hb.mono (by simp [Nat.add_assoc]))⟩
  go_enter Tryz.func3, Tryz.ntmps3
  go_wp2_with (first | (go_at_call 8; with_reducible refine (F2.out _ (by go_grown)).mono ?_; rintro e w' ⟨he, rfl⟩; rw [hf2] at he; subst he) | (go_at_call 8; with_reducible refine (F3.out _ (by go_grown)).mono ?_; rintro e w' ⟨he, rfl⟩; rw [hf3] at he; subst he) | (go_at_call 8; refine (F1.out _ _ x y _ ?_ ?_).mono ?_; exact ⟨by simp [go_sem], by simp [go_sem], by simp [go_sem], by simp [go_sem]⟩; exact ⟨by simp [go_sem], by simp [go_sem], by simp [go_sem], by simp [go_sem]⟩; rintro e w' ⟨he, rfl⟩; rw [hf1] at he; subst he))
  go_region_held3 (fun w' => w'.cell? ⟨w.heap.size, 0, none⟩ = some (.int .i64 x.k) ∧ w'.cell? ⟨w.heap.size, 1, none⟩ = some (.int .i64 x.i) ∧ w'.cell? ⟨w.heap.size, 2, none⟩ = some (.int .u64 x.u) ∧ w'.cell? ⟨w.heap.size, 3, none⟩ = some (.string x.s) ∧ w'.cell? ⟨w.heap.size + 1, 0, none⟩ = some (.int .i64 y.k) ∧ w'.cell? ⟨w.heap.size + 1, 1, none⟩ = some (.int .i64 y.i) ∧ w'.cell? ⟨w.heap.size + 1, 2, none⟩ = some (.int .u64 y.u) ∧ w'.cell? ⟨w.heap.size + 1, 3, none⟩ = some (.string y.s) ∧ Below w.heap.size w w') (first | (go_keep; done) | (simp [*, go_sem]; done) | (refine ⟨?_, ?_, ?_, ?_, ?_, ?_, ?_, ?_, ?_⟩ <;> (first | assumption | (simp [*, go_sem]; done) | go_grown) ; done) | (refine Two.keep (W := _) ?_ hb3; first | assumption | (refine ⟨?_, ?_, ?_, ?_, ?_, ?_, ?_, ?_, ?_⟩ <;> (first | assumption | (simp [*, go_sem]; done) | go_grown))))
    (first | (go_at_call 11; refine (C1.out _ (by first | assumption | (simp only [*]; done) | go_grown)).mono ?_; rintro e w3 ⟨rfl, hb3⟩) | (go_at_call 12; refine (C2.out _ (by first | assumption | (simp only [*]; done) | go_grown)).mono ?_; rintro e w3 ⟨rfl, hb3⟩) | (go_at_call 13; refine (C3.out _ (by first | assumption | (simp only [*]; done) | go_grown)).mono ?_; rintro e w3 ⟨rfl, hb3⟩) | (go_at_call 14; refine (C4.out _ (by first | assumption | (simp only [*]; done) | go_grown)).mono ?_; rintro e w3 ⟨rfl, hb3⟩) | (go_at_call 15; refine (C5.out _ (by first | assumption | (simp only [*]; done) | go_grown)).mono ?_; rintro e w3 ⟨rfl, hb3⟩) | (go_at_call 16; refine (C6.out _ (by first | assumption | (simp only [*]; done) | go_grown)).mono ?_; rintro e w3 ⟨rfl, hb3⟩) | (go_at_call 9; refine (WK.out _ (by first | assumption | (simp only [*]; done) | go_grown)).mono ?_; rintro e w3 ⟨rfl, hb3⟩) | (go_at_call 10; refine (num_any _ _).mono ?_; rintro e w' ⟨rfl, rfl⟩))
  all_goals go_wp2_with fail
  all_goals go_ret
  all_goals exact ⟨rfl, by first | assumption | (simp only [*]; done) | go_grown⟩
end Go.Proofs.YtifmfcaaofiboaaGreatDoor

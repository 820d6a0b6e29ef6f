/-
  swingbridgelaw01.ValueTexts: its walk.
-/
import Derived.Test.YtifmfcaaofiboaaGreatDoorRText
import Derived.Test.YtifmfcaaofiboaaGreatDoorWorks
import Derived.Test.YtifmfcaaofiboaaGreatDoorTextRead
namespace Go.Proofs.YtifmfcaaofiboaaGreatDoor
open Go.RowKit

theorem few_one (B : Nat) (v : Vl) (W : World) (h0 : W.cell? ⟨B, 0, none⟩ = some (.int .i64 v.k)) (h1 : W.cell? ⟨B, 1, none⟩ = some (.int .i64 v.i)) (h2 : W.cell? ⟨B, 2, none⟩ = some (.int .u64 v.u)) (h3 : W.cell? ⟨B, 3, none⟩ = some (.string v.s)) (b : Bool) (hb : decide (v.s.size ≤ 300) = b) :
    Calls Tryz.prog 8 #[.slice (some ⟨B, 0, none⟩) 1 1, .int .i64 1] W fun e w' => e = .returned (.bool b) ∧ W = w' := by
  have C := few_some ⟨B, 0, none⟩ 1 [v] 1 W (fun j hj => by
    obtain rfl : j = 0 := by simpa using hj
    exact ⟨h0, h1, h2, h3⟩) (by decide) (by decide) (by simp)
  have e : fewB [v] 1 = b := by
    rw [← hb]
    simp [fewB]
  rw [e] at C
  exact C
/-- the cells of a boxed value -/
structure Boxed4 (W : World) (B : Nat) (v : Vl) : Prop where
  c0 : W.cell? ⟨B, 0, none⟩ = some (.int .i64 v.k)
  c1 : W.cell? ⟨B, 1, none⟩ = some (.int .i64 v.i)
  c2 : W.cell? ⟨B, 2, none⟩ = some (.int .u64 v.u)
  c3 : W.cell? ⟨B, 3, none⟩ = some (.string v.s)
theorem Boxed4.keep {W W' : World} {B : Nat} {v : Vl} (h : Boxed4 W B v) (hb : Below W.heap.size W W') : Boxed4 W' B v := by
  have hl : B < W.heap.size := World.block_lt_of_cell? W _ h.c0
  exact ⟨by rw [hb.cell (p := ⟨B, 0, none⟩) hl]; exact h.c0, by rw [hb.cell (p := ⟨B, 1, none⟩) hl]; exact h.c1, by rw [hb.cell (p := ⟨B, 2, none⟩) hl]; exact h.c2, by rw [hb.cell (p := ⟨B, 3, none⟩) hl]; exact h.c3⟩

set_option maxRecDepth 100000 in
set_option maxHeartbeats 4000000 in
theorem texts_true (v : Vl) (w : World) (h0 : -9223372036854775808 ≤ v.i) (h1 : v.i ≤ 9223372036854775807) (h2 : 0 ≤ v.u) (h3 : v.u ≤ 18446744073709551615) (ht : HasTab w) (hg : HasET w) :
    Calls Tryz.prog 4 #[v.val] w fun e w' => e = .returned (.bool true) ∧ Below w.heap.size w w' := by
  have WK : Hid (∀ W, Below w.heap.size w W → Calls Tryz.prog 9 #[] W fun e w' => e = .returned (.bool true) ∧ Below W.heap.size W w') := Lib.hid fun W hb => works_true W (ht.below hb ht.lt) (hg.below hb hg.lt)
  have FW := Lib.hid few_one
  by_cases hz : v.s.size ≤ 300
  · have hr : InR v.i v.u v.s := ⟨h0, h1, h2, h3, hz⟩
    obtain ⟨n, hn⟩ : ∃ n, chk v.k v.i v.u v.s = n := ⟨_, rfl⟩
    have hbz : decide (v.s.size ≤ 300) = true := by simpa using hz
    have c1 : ∀ W, Below w.heap.size w W → Calls Tryz.prog 17 #[.agg #[.int .i64 v.k, .int .i64 v.i, .int .u64 v.u, .string v.s]] W fun e w' => e = .returned (textRes v.k v.i v.u v.s) ∧ Below W.heap.size W w' := fun W hb => Text_any _ _ _ _ W hr (ht.below hb ht.lt) (hg.below hb hg.lt)
    have c2 : ∀ W, Below w.heap.size w W → Calls Tryz.prog 18 #[.agg #[.int .i64 v.k, .int .i64 v.i, .int .u64 v.u, .string v.s]] W fun e w' => e = .returned (rTextRes v.k v.i v.u v.s) ∧ Below W.heap.size W w' := fun W hb => rText_any _ _ _ _ W hr (ht.below hb ht.lt)
    unfold textRes at c1
    unfold rTextRes at c2
    by_cases hn0 : n = 0
    · rw [hn, if_pos hn0] at c1 c2
      have hp : ∀ W, Below w.heap.size w W → Calls Tryz.prog 19 #[.string (textOf v.k v.i v.u v.s)] W fun e w' => e = .returned (.tuple #[.agg #[.int .i64 v.k, .int .i64 v.i, .int .u64 v.u, .string v.s], .int .i64 0]) ∧ Below W.heap.size W w' := fun W hb => by
        have hsz : (textOf v.k v.i v.u v.s).size ≤ 800 := by
          have := txt_size v hr
          unfold Vl.txt at this
          simp at this
          omega
        have C := Parse_any (textOf v.k v.i v.u v.s) W hsz (hg.below hb hg.lt)
        have e : parseRes (textOf v.k v.i v.u v.s).data.toList = .tuple #[.agg #[.int .i64 v.k, .int .i64 v.i, .int .u64 v.u, .string v.s], .int .i64 0] := by
          unfold parseRes
          rw [text_read (hn.trans hn0) hr, if_neg (by simp), if_pos (hn.trans hn0)]
        rw [e] at C
        exact C
      have heq : vEqB v.k v.i v.u v.s v.k v.i v.u v.s = true := by simp [vEqB]
      have hev := fun W => run_eql_val v.k v.i v.u v.s v.k v.i v.u v.s W
      simp only [heq] at hev
      generalize textOf v.k v.i v.u v.s = t at c1 c2 hp
      have C1 := Lib.hid c1
      have C2 := Lib.hid c2
      have HP := Lib.hid hp
      clear c1 c2 hp hn hn0 hr ht hg h0 h1 h2 h3 hz heq
      unfold Vl.val
      go_enter Tryz.func4, Tryz.ntmps4
      go_wp2_with fail
      refine (FW.out _ v _ (by simp [go_sem]) (by simp [go_sem]) (by simp [go_sem]) (by simp [go_sem]) true hbz).mono ?_
      rintro e w' ⟨rfl, rfl⟩
      clear hbz
      go_wp2_with fail
      refine (C1.out _ (by go_grown)).mono ?_
      rintro e w2 ⟨rfl, hb2⟩
      have hx2 : Boxed4 w2 w.heap.size v := (Boxed4.keep (W := (w.alloc (.cells #[.int .i64 v.k, .int .i64 v.i, .int .u64 v.u, .string v.s] 25)).alloc (.cells #[.int .i64 v.k, .int .i64 v.i, .int .u64 v.u, .string v.s] 25)) ⟨by simp [go_sem], by simp [go_sem], by simp [go_sem], by simp [go_sem]⟩ hb2)
      have hbw2 : Below w.heap.size w w2 := (show Below w.heap.size w _ from by go_grown).trans (hb2.mono (by simp; omega))
      have HX2 := Lib.hid hx2
      have HW2 := Lib.hid hbw2
      obtain ⟨x0, x1, x2, x3⟩ := hx2
      clear hb2 hbw2
      go_wp2_with fail
      refine (C2.out _ HW2.out).mono ?_
      rintro e w3 ⟨rfl, hb3⟩
      have hx3 := HX2.out.keep hb3
      have HX3 := Lib.hid hx3
      have HW3 := Lib.hid (HW2.out.trans (hb3.mono HW2.out.size))
      clear hb3 x0 x1 x2 x3 hx3
      go_wp2_with (first | (go_at_call 10; refine (num_any _ _).mono ?_; rintro e w' ⟨rfl, rfl⟩))
      refine (HP.out _ HW3.out).mono ?_
      rintro e w4 ⟨rfl, hb4⟩
      have hx4 := HX3.out.keep hb4
      have HW4 := Lib.hid (HW3.out.trans (hb4.mono HW3.out.size))
      have hlt4 : w.heap.size < w4.heap.size := World.block_lt_of_cell? w4 _ hx4.c0
      obtain ⟨x0, x1, x2, x3⟩ := hx4
      clear hb4
      go_wp2_with (first | (go_at_call 10; refine (num_any _ _).mono ?_; rintro e w' ⟨rfl, rfl⟩) | (go_at_call 9; refine (WK.out _ (HW4.out.alloc HW4.out.size _)).mono ?_; rintro e w5 ⟨rfl, hb5⟩))
      go_ret
      exact ⟨rfl, (HW4.out.alloc HW4.out.size _).trans (hb5.mono (by have := HW4.out.size; simp; omega))⟩
    · rw [hn, if_neg hn0] at c1 c2
      have hnb : (n != 0) = true := by simpa using hn0
      have C1 := Lib.hid c1
      have C2 := Lib.hid c2
      clear c1 c2 hn hn0 hr ht hg h0 h1 h2 h3 hz
      unfold Vl.val
      go_enter Tryz.func4, Tryz.ntmps4
      go_wp2_with fail
      refine (FW.out _ v _ (by simp [go_sem]) (by simp [go_sem]) (by simp [go_sem]) (by simp [go_sem]) true hbz).mono ?_
      rintro e w' ⟨rfl, rfl⟩
      clear hbz
      go_wp2_with fail
      refine (C1.out _ (by go_grown)).mono ?_
      rintro e w2 ⟨rfl, hb2⟩
      have hx2 : Boxed4 w2 w.heap.size v := (Boxed4.keep (W := (w.alloc (.cells #[.int .i64 v.k, .int .i64 v.i, .int .u64 v.u, .string v.s] 25)).alloc (.cells #[.int .i64 v.k, .int .i64 v.i, .int .u64 v.u, .string v.s] 25)) ⟨by simp [go_sem], by simp [go_sem], by simp [go_sem], by simp [go_sem]⟩ hb2)
      have hbw2 : Below w.heap.size w w2 := (show Below w.heap.size w _ from by go_grown).trans (hb2.mono (by simp; omega))
      have HW2 := Lib.hid hbw2
      obtain ⟨x0, x1, x2, x3⟩ := hx2
      clear hb2 hbw2
      go_wp2_with fail
      refine (C2.out _ HW2.out).mono ?_
      rintro e w3 ⟨rfl, hb3⟩
      have HW3 := Lib.hid (HW2.out.trans (hb3.mono HW2.out.size))
      clear hb3 x0 x1 x2 x3
      go_wp2_with (first | (go_at_call 10; refine (num_any _ _).mono ?_; rintro e w' ⟨rfl, rfl⟩) | (go_at_call 9; refine (WK.out _ HW3.out).mono ?_; rintro e w5 ⟨rfl, hb5⟩))
      go_ret
      exact ⟨rfl, HW3.out.trans (hb5.mono HW3.out.size)⟩
  · have hbz : decide (v.s.size ≤ 300) = false := by simpa using hz
    clear hz ht hg h0 h1 h2 h3
    unfold Vl.val
    go_enter Tryz.func4, Tryz.ntmps4
    go_wp2_with fail
    refine (FW.out _ v _ (by simp [go_sem]) (by simp [go_sem]) (by simp [go_sem]) (by simp [go_sem]) false hbz).mono ?_
    rintro e w' ⟨rfl, rfl⟩
    clear hbz
    go_wp2_with (first | (go_at_call 9; refine (WK.out _ (by go_grown)).mono ?_; rintro e w5 ⟨rfl, hb5⟩))
    go_ret
    exact ⟨rfl, (show Below w.heap.size w _ from by go_grown).trans (hb5.mono (by simp; omega))⟩
end Go.Proofs.YtifmfcaaofiboaaGreatDoor

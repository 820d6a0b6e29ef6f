/-
  swingbridgelaw01.ValueHolds, where few is told, case 0 of the order: true.
-/
import Derived.Test.YtifmfcaaofiboaaGreatDoorLawHolds
namespace Go.Proofs.YtifmfcaaofiboaaGreatDoor
open Go.RowKit

set_option maxRecDepth 100000 in
set_option maxHeartbeats 8000000 in
theorem holds_0 (x y z : Vl) (w : World) (wx : (Lit.int .i64 x.i).wf = true ∧ (Lit.int .u64 x.u).wf = true) (wy : (Lit.int .i64 y.i).wf = true ∧ (Lit.int .u64 y.u).wf = true) (hf : fewB [x, y, z] 3 = true) (hc : x.ord y = (-1)) (h3 : y.ord z ≤ 0) (ht : HasTab w) (hg : HasET w) :
    Calls Tryz.prog 7 #[.agg #[.int .i64 x.k, .int .i64 x.i, .int .u64 x.u, .string x.s, .int .i64 y.k, .int .i64 y.i, .int .u64 y.u, .string y.s, .int .i64 z.k, .int .i64 z.i, .int .u64 z.u, .string z.s]] w fun e w' => e = .returned (.bool true) ∧ Below w.heap.size w w' := by
  have wk : ∀ W, Below w.heap.size w W → Calls Tryz.prog 9 #[] W fun e w' => e = .returned (.bool true) ∧ Below W.heap.size W w' := fun W hb => works_true W (ht.below hb ht.lt) (hg.below hb hg.lt)
  have d12 : ∀ W, Below w.heap.size w W → Calls Tryz.prog 13 #[.agg #[.int .i64 x.k, .int .i64 x.i, .int .u64 x.u, .string x.s], .agg #[.int .i64 y.k, .int .i64 y.i, .int .u64 y.u, .string y.s]] W fun e w' => e = .returned (.int .i64 (-1)) ∧ Below W.heap.size W w' := fun W _ => by rw [← hc]; exact Order_any _ _ _ _ _ _ _ _ W
  have d21 : ∀ W, Below w.heap.size w W → Calls Tryz.prog 13 #[.agg #[.int .i64 y.k, .int .i64 y.i, .int .u64 y.u, .string y.s], .agg #[.int .i64 x.k, .int .i64 x.i, .int .u64 x.u, .string x.s]] W fun e w' => e = .returned (.int .i64 1) ∧ Below W.heap.size W w' := fun W _ => by rw [show (1 : Int) = y.ord x by first | (rw [ord_anti, hc]; rfl) | rw [ord_anti, hc]]; exact Order_any _ _ _ _ _ _ _ _ W
  have d23 : ∀ W, Below w.heap.size w W → Calls Tryz.prog 13 #[.agg #[.int .i64 y.k, .int .i64 y.i, .int .u64 y.u, .string y.s], .agg #[.int .i64 z.k, .int .i64 z.i, .int .u64 z.u, .string z.s]] W fun e w' => e = .returned (.int .i64 (y.ord z)) ∧ Below W.heap.size W w' := fun W _ => Order_any _ _ _ _ _ _ _ _ W
  have d13 : ∀ W, Below w.heap.size w W → Calls Tryz.prog 13 #[.agg #[.int .i64 x.k, .int .i64 x.i, .int .u64 x.u, .string x.s], .agg #[.int .i64 z.k, .int .i64 z.i, .int .u64 z.u, .string z.s]] W fun e w' => e = .returned (.int .i64 (x.ord z)) ∧ Below W.heap.size W w' := fun W _ => Order_any _ _ _ _ _ _ _ _ W
  have heq : ∀ W, (binOp .eql 25 (.agg #[.int .i64 x.k, .int .i64 x.i, .int .u64 x.u, .string x.s]) (.agg #[.int .i64 y.k, .int .i64 y.i, .int .u64 y.u, .string y.s])).run Tryz.prog W = .ok (.bool false) W := fun W => by rw [show false = (x.ord y == 0) by rw [hc]; rfl, ord_eqB]; exact run_eql_val _ _ _ _ _ _ _ _ W
  have tx : x.ok → ∀ W, Below w.heap.size w W → Calls Tryz.prog 17 #[.agg #[.int .i64 x.k, .int .i64 x.i, .int .u64 x.u, .string x.s]] W fun e w' => e = .returned (textRes x.k x.i x.u x.s) ∧ Below W.heap.size W w' := fun ho W hb => Text_any _ _ _ _ W ho (ht.below hb ht.lt) (hg.below hb hg.lt)
  have ty : y.ok → ∀ W, Below w.heap.size w W → Calls Tryz.prog 17 #[.agg #[.int .i64 y.k, .int .i64 y.i, .int .u64 y.u, .string y.s]] W fun e w' => e = .returned (textRes y.k y.i y.u y.s) ∧ Below W.heap.size W w' := fun ho W hb => Text_any _ _ _ _ W ho (ht.below hb ht.lt) (hg.below hb hg.lt)
  have htq := @txt_eqB x y
  rw [← ord_eqB] at htq
  have hok := fewB_ok x y z wx wy hf
  have h4 : x.ord z ≤ 0 := ord_trans x y z (by omega) h3
  generalize y.ord z = o' at *
  generalize x.ord z = o'' at *
  have HF := Lib.hid hf
  have HC := Lib.hid hc
  have WK := Lib.hid wk
  have D12 := Lib.hid d12
  have D21 := Lib.hid d21
  have D23 := Lib.hid d23
  have D13 := Lib.hid d13
  have TX := Lib.hid tx
  have TY := Lib.hid ty
  have HQ := Lib.hid htq
  have HO := Lib.hid hok
  clear wk d12 d21 d23 d13 tx ty htq hok ht hg wx wy hf hc
  have hw0 : IntKind.i64.wrap (-1) = (-1) := by decide
  have hw2 : ((-1 : Int) != -1) = false := by decide
  have hw3 : ((-1 : Int) == 0) = false := by decide
  go_enter Tryz.func7, Tryz.ntmps7
  go_upto_region 1 with fail
  go_cut [3, 4, 5] (fun sa sb sc wx => ∃ p q r, sa = .pointer (some ⟨p, 0, none⟩) ∧ sb = .pointer (some ⟨q, 0, none⟩) ∧ sc = .pointer (some ⟨r, 0, none⟩) ∧ wx.cell? ⟨p, 0, none⟩ = some (.int .i64 x.k) ∧ wx.cell? ⟨p, 1, none⟩ = some (.int .i64 x.i) ∧ wx.cell? ⟨p, 2, none⟩ = some (.int .u64 x.u) ∧ wx.cell? ⟨p, 3, none⟩ = some (.string x.s) ∧ wx.cell? ⟨q, 0, none⟩ = some (.int .i64 y.k) ∧ wx.cell? ⟨q, 1, none⟩ = some (.int .i64 y.i) ∧ wx.cell? ⟨q, 2, none⟩ = some (.int .u64 y.u) ∧ wx.cell? ⟨q, 3, none⟩ = some (.string y.s) ∧ wx.cell? ⟨r, 0, none⟩ = some (.int .i64 z.k) ∧ wx.cell? ⟨r, 1, none⟩ = some (.int .i64 z.i) ∧ wx.cell? ⟨r, 2, none⟩ = some (.int .u64 z.u) ∧ wx.cell? ⟨r, 3, none⟩ = some (.string z.s) ∧ ThreeAt w x y z wx ∧ Below w.heap.size w wx)
  case first =>
    go_region_held3 (fun w' => w'.cell? ⟨w.heap.size, 0, none⟩ = some (.int .i64 x.k) ∧ w'.cell? ⟨w.heap.size, 1, none⟩ = some (.int .i64 x.i) ∧ w'.cell? ⟨w.heap.size, 2, none⟩ = some (.int .u64 x.u) ∧ w'.cell? ⟨w.heap.size, 3, none⟩ = some (.string x.s) ∧ w'.cell? ⟨w.heap.size, 4, none⟩ = some (.int .i64 y.k) ∧ w'.cell? ⟨w.heap.size, 5, none⟩ = some (.int .i64 y.i) ∧ w'.cell? ⟨w.heap.size, 6, none⟩ = some (.int .u64 y.u) ∧ w'.cell? ⟨w.heap.size, 7, none⟩ = some (.string y.s) ∧ w'.cell? ⟨w.heap.size, 8, none⟩ = some (.int .i64 z.k) ∧ w'.cell? ⟨w.heap.size, 9, none⟩ = some (.int .i64 z.i) ∧ w'.cell? ⟨w.heap.size, 10, none⟩ = some (.int .u64 z.u) ∧ w'.cell? ⟨w.heap.size, 11, none⟩ = some (.string z.s)) (first | (go_keep; done) | (simp [*, go_sem]; done))
      (first | fail)
    all_goals go_wp2_with fail
    all_goals go_meet
    all_goals exact ⟨_, _, _, rfl, rfl, rfl, by simp [go_sem], by simp [go_sem], by simp [go_sem], by simp [go_sem], by simp [go_sem], by simp [go_sem], by simp [go_sem], by simp [go_sem], by simp [go_sem], by simp [go_sem], by simp [go_sem], by simp [go_sem], ⟨⟨by simp [go_sem], by simp [go_sem], by simp [go_sem], by simp [go_sem]⟩, ⟨by simp [go_sem], by simp [go_sem], by simp [go_sem], by simp [go_sem]⟩, ⟨by simp [go_sem], by simp [go_sem], by simp [go_sem], by simp [go_sem]⟩⟩, by go_grown⟩
  case rest =>
    obtain ⟨p, q, r, rfl, rfl, rfl, a0, a1, a2, a3, b0, b1, b2, b3, c0, c1, c2, c3, hth, hbw⟩ := hcut
    have fw : Calls Tryz.prog 8 #[.slice (some ⟨w.heap.size, 0, none⟩) 3 3, .int .i64 3] wc fun e w' => e = .returned (.bool (fewB [x, y, z] 3)) ∧ wc = w' :=
      few_any _ [x, y, z] 3 wc (.inr ⟨_, 3, rfl, Nat.le_refl 3, fun j hj => by
        match j, hj with
        | 0, _ => exact hth.1
        | 1, _ => exact hth.2.1
        | 2, _ => exact hth.2.2⟩) (by decide) (by decide) (by simp)
    have FW := Lib.hid fw
    clear fw hth
    go_upto_if 55 with (first | (go_at_call 8; refine FW.out.mono ?_; rintro e w' ⟨he, rfl⟩; rw [HF.out] at he; subst he))
    go_cut [55] (fun s55 wx => s55 = .bool false ∧ wx.cell? ⟨p, 0, none⟩ = some (.int .i64 x.k) ∧ wx.cell? ⟨p, 1, none⟩ = some (.int .i64 x.i) ∧ wx.cell? ⟨p, 2, none⟩ = some (.int .u64 x.u) ∧ wx.cell? ⟨p, 3, none⟩ = some (.string x.s) ∧ wx.cell? ⟨q, 0, none⟩ = some (.int .i64 y.k) ∧ wx.cell? ⟨q, 1, none⟩ = some (.int .i64 y.i) ∧ wx.cell? ⟨q, 2, none⟩ = some (.int .u64 y.u) ∧ wx.cell? ⟨q, 3, none⟩ = some (.string y.s) ∧ wx.cell? ⟨r, 0, none⟩ = some (.int .i64 z.k) ∧ wx.cell? ⟨r, 1, none⟩ = some (.int .i64 z.i) ∧ wx.cell? ⟨r, 2, none⟩ = some (.int .u64 z.u) ∧ wx.cell? ⟨r, 3, none⟩ = some (.string z.s) ∧ Below w.heap.size w wx)
    case first =>
      go_region_held3 (fun w' => w'.cell? ⟨p, 0, none⟩ = some (.int .i64 x.k) ∧ w'.cell? ⟨p, 1, none⟩ = some (.int .i64 x.i) ∧ w'.cell? ⟨p, 2, none⟩ = some (.int .u64 x.u) ∧ w'.cell? ⟨p, 3, none⟩ = some (.string x.s) ∧ w'.cell? ⟨q, 0, none⟩ = some (.int .i64 y.k) ∧ w'.cell? ⟨q, 1, none⟩ = some (.int .i64 y.i) ∧ w'.cell? ⟨q, 2, none⟩ = some (.int .u64 y.u) ∧ w'.cell? ⟨q, 3, none⟩ = some (.string y.s) ∧ w'.cell? ⟨r, 0, none⟩ = some (.int .i64 z.k) ∧ w'.cell? ⟨r, 1, none⟩ = some (.int .i64 z.i) ∧ w'.cell? ⟨r, 2, none⟩ = some (.int .u64 z.u) ∧ w'.cell? ⟨r, 3, none⟩ = some (.string z.s) ∧ Below w.heap.size w w') (first | (go_keep; done) | (simp [*, go_sem]; done) | (refine ⟨?_, ?_, ?_, ?_, ?_, ?_, ?_, ?_, ?_, ?_, ?_, ?_, ?_⟩ <;> (first | assumption | (simp [*, go_sem]; done) | go_grown) ; done) | (refine Three.keep (W := _) ?_ hb3; first | assumption | (refine ⟨?_, ?_, ?_, ?_, ?_, ?_, ?_, ?_, ?_, ?_, ?_, ?_, ?_⟩ <;> (first | assumption | (simp [*, go_sem]; done) | go_grown))))
        (first | (go_at_call 13; with_reducible refine (D12.out _ (by first | assumption | (simp only [*]; done) | go_grown)).mono ?_; rintro e w3 ⟨rfl, hb3⟩) | (go_at_call 13; with_reducible refine (D21.out _ (by first | assumption | (simp only [*]; done) | go_grown)).mono ?_; rintro e w3 ⟨rfl, hb3⟩) | (go_at_call 13; with_reducible refine (D23.out _ (by first | assumption | (simp only [*]; done) | go_grown)).mono ?_; rintro e w3 ⟨rfl, hb3⟩) | (go_at_call 13; with_reducible refine (D13.out _ (by first | assumption | (simp only [*]; done) | go_grown)).mono ?_; rintro e w3 ⟨rfl, hb3⟩))
      all_goals go_wp2_with fail
      all_goals go_meet
      all_goals refine ⟨by first | rfl | exact congrArg Value.bool (decide_eq_false (by omega)), ?_⟩
      all_goals (first | assumption | (simp only [*]; done) | (refine ⟨?_, ?_, ?_, ?_, ?_, ?_, ?_, ?_, ?_, ?_, ?_, ?_, ?_⟩ <;> (first | assumption | (simp only [*]; done) | go_grown)))
    case rest =>
      clear a0 a1 a2 a3 b0 b1 b2 b3 c0 c1 c2 c3 hbw
      obtain ⟨rfl, a0, a1, a2, a3, b0, b1, b2, b3, c0, c1, c2, c3, hbw⟩ := hcut
      by_cases hz : x.chk = 0 ∧ y.chk = 0
      · have tx' : ∀ W, Below w.heap.size w W → Calls Tryz.prog 17 #[.agg #[.int .i64 x.k, .int .i64 x.i, .int .u64 x.u, .string x.s]] W fun e w' => e = .returned (.tuple #[.string x.txt, .int .i64 0]) ∧ Below W.heap.size W w' := by
          have h := TX.out HO.out.1
          unfold textRes at h
          rw [if_pos (show chk x.k x.i x.u x.s = 0 from hz.1)] at h
          exact h
        have ty' : ∀ W, Below w.heap.size w W → Calls Tryz.prog 17 #[.agg #[.int .i64 y.k, .int .i64 y.i, .int .u64 y.u, .string y.s]] W fun e w' => e = .returned (.tuple #[.string y.txt, .int .i64 0]) ∧ Below W.heap.size W w' := by
          have h := TY.out HO.out.2
          unfold textRes at h
          rw [if_pos (show chk y.k y.i y.u y.s = 0 from hz.2)] at h
          exact h
        have hsb : (x.txt.toList == y.txt.toList) = false := (HQ.out hz.1 hz.2 HO.out.1 HO.out.2).trans (by rw [HC.out]; rfl)
        have TX1 := Lib.hid tx'
        have TY1 := Lib.hid ty'
        clear tx' ty' TX TY HQ HO hz
        generalize x.txt = s1 at *
        generalize y.txt = s2 at *
        go_wp2_with (first | (go_at_call 17; with_reducible refine (TX1.out _ hbw).mono ?_; rintro e w3 ⟨rfl, hb3⟩; have hT := keep3 a0 a1 a2 a3 b0 b1 b2 b3 c0 c1 c2 c3 hbw hb3; clear a0 a1 a2 a3 b0 b1 b2 b3 c0 c1 c2 c3 hbw; obtain ⟨a0, a1, a2, a3, b0, b1, b2, b3, c0, c1, c2, c3, hbw⟩ := hT) | (go_at_call 17; with_reducible refine (TY1.out _ hbw).mono ?_; rintro e w3 ⟨rfl, hb3⟩; have hT := keep3 a0 a1 a2 a3 b0 b1 b2 b3 c0 c1 c2 c3 hbw hb3; clear a0 a1 a2 a3 b0 b1 b2 b3 c0 c1 c2 c3 hbw; obtain ⟨a0, a1, a2, a3, b0, b1, b2, b3, c0, c1, c2, c3, hbw⟩ := hT) | (go_at_call 10; refine (num_any _ _).mono ?_; rintro e w' ⟨rfl, rfl⟩) | (go_at_call 9; refine (WK.out _ hbw).mono ?_; rintro e w' ⟨rfl, hb⟩))
        all_goals go_ret
        all_goals exact ⟨rfl, hbw.trans (hb.mono hbw.size)⟩
      · have tx' : ∃ s1, ∀ W, Below w.heap.size w W → Calls Tryz.prog 17 #[.agg #[.int .i64 x.k, .int .i64 x.i, .int .u64 x.u, .string x.s]] W fun e w' => e = .returned (.tuple #[.string s1, .int .i64 x.chk]) ∧ Below W.heap.size W w' := by
          have h := TX.out HO.out.1
          unfold textRes at h
          by_cases hz' : chk x.k x.i x.u x.s = 0
          · rw [if_pos hz'] at h
            exact ⟨_, by rw [show x.chk = 0 from hz']; exact h⟩
          · rw [if_neg hz'] at h
            exact ⟨_, h⟩
        have ty' : ∃ s1, ∀ W, Below w.heap.size w W → Calls Tryz.prog 17 #[.agg #[.int .i64 y.k, .int .i64 y.i, .int .u64 y.u, .string y.s]] W fun e w' => e = .returned (.tuple #[.string s1, .int .i64 y.chk]) ∧ Below W.heap.size W w' := by
          have h := TY.out HO.out.2
          unfold textRes at h
          by_cases hz' : chk y.k y.i y.u y.s = 0
          · rw [if_pos hz'] at h
            exact ⟨_, by rw [show y.chk = 0 from hz']; exact h⟩
          · rw [if_neg hz'] at h
            exact ⟨_, h⟩
        obtain ⟨s1, t1⟩ := tx'
        obtain ⟨s2, t2⟩ := ty'
        have hr1 : 0 ≤ x.chk ∧ x.chk ≤ 3 := chk_range _ _ _ _
        have hr2 : 0 ≤ y.chk ∧ y.chk ≤ 3 := chk_range _ _ _ _
        have hsum : x.chk + y.chk ≠ 0 := by omega
        have TX1 := Lib.hid t1
        have TY1 := Lib.hid t2
        clear t1 t2 TX TY HQ HO hz
        generalize x.chk = m1 at *
        generalize y.chk = m2 at *
        have hw : IntKind.i64.wrap (m1 + m2) = m1 + m2 := by rw [IntKind.wrap_i64]; omega
        have hs1 : (m1 + m2 != 0) = true := by simpa using hsum
        have hs2 : (m1 + m2 == 0) = false := by simpa using hsum
        go_wp2_with (first | (go_at_call 17; with_reducible refine (TX1.out _ hbw).mono ?_; rintro e w3 ⟨rfl, hb3⟩; have hT := keep3 a0 a1 a2 a3 b0 b1 b2 b3 c0 c1 c2 c3 hbw hb3; clear a0 a1 a2 a3 b0 b1 b2 b3 c0 c1 c2 c3 hbw; obtain ⟨a0, a1, a2, a3, b0, b1, b2, b3, c0, c1, c2, c3, hbw⟩ := hT) | (go_at_call 17; with_reducible refine (TY1.out _ hbw).mono ?_; rintro e w3 ⟨rfl, hb3⟩; have hT := keep3 a0 a1 a2 a3 b0 b1 b2 b3 c0 c1 c2 c3 hbw hb3; clear a0 a1 a2 a3 b0 b1 b2 b3 c0 c1 c2 c3 hbw; obtain ⟨a0, a1, a2, a3, b0, b1, b2, b3, c0, c1, c2, c3, hbw⟩ := hT) | (go_at_call 10; refine (num_any _ _).mono ?_; rintro e w' ⟨rfl, rfl⟩) | (go_at_call 9; refine (WK.out _ hbw).mono ?_; rintro e w' ⟨rfl, hb⟩))
        all_goals go_ret
        all_goals exact ⟨rfl, hbw.trans (hb.mono hbw.size)⟩
end Go.Proofs.YtifmfcaaofiboaaGreatDoor

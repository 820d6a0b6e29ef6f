/-
  disk: Append, Cut.
-/
import Derived.Test.YtbhgcioeibhjeaaGreatDoorDFOp
namespace Go.Proofs.YtbhgcioeibhjeaaGreatDoor
open Go.RowKit

set_option maxRecDepth 100000 in
set_option maxHeartbeats 4000000 in
theorem Append_any {N : Nat} {w : World} {Φ : Nat → Prop} {p : Nat} {D : Dk} (h : DkAt N w Φ p D) (hs : N ≤ w.heap.size) (hi : D.Inv) (hfew : D.L.length < 900) (hET : HasET w) (f : Int) (vb : Value) (l : List UInt8) (hb : BtAt w vb l) :
    Calls Tryz.prog 14 #[.pointer (some ⟨p, 0, none⟩), .int .i64 f, vb] w fun e w' => e = .returned (.int .i64 (appE D f l.length)) ∧ ∃ Φ', DkAt N w' Φ' p (D.app f l) ∧ TurnD w w' Φ Φ' := by
  have hq := isErr_ne
  have hq0 := isErr_eqn
  obtain ⟨oa, cap, hvb, hcl⟩ := id hb
  clear hcl
  have HE := Lib.hid (fun (w1 : World) (b : Nat) (n : Int) (hw : Below w.heap.size w w1) (hc : w1.cell? ⟨b, 1, none⟩ = some (.int .i64 n)) => errno_err b n w1 (hET.below hw hET.lt) hc)
  have HD := Lib.hid (fun (w1 : World) (hw : Below w.heap.size w w1) => And.intro (h.below hw) (TurnD.of_below (Φ := Φ) hw))
  by_cases hf : badFile f
  · have e4 : appE D f l.length = 4 := if_pos hf
    have hD : D.app f l = D := by unfold Dk.app; rw [e4]; rfl
    have HM := Lib.hid (mayPut_bad h f l.length hf)
    rw [e4, hD]
    subst hvb
    clear h hb hi hET hD e4
    generalize l.length = n at *
    go_enter Tryz.func14, Tryz.ntmps14
    go_wp2_with (first | (go_at_call 39; refine HM.out.mono ?_; rintro e w1 ⟨b, rfl, hb, hc, hbw⟩) | (go_at_call 40; refine (HE.out w1 b 4 hbw hc).mono ?_; rintro e w2 ⟨rfl, hb2⟩))
    go_ret
    have hb3 := hbw.trans (hb2.mono hbw.size)
    exact ⟨rfl, Φ, (HD.out _ hb3).1, (HD.out _ hb3).2⟩
  · obtain ⟨k, rfl, hk⟩ := ltFile hf
    have eA : appE D k l.length = if D.left < (l.length : Int) then 190 else 0 := if_neg hf
    have HM := Lib.hid (mayPut_ok h hi.ok (k : Int) l.length hf)
    by_cases hlt : D.left < (l.length : Int)
    · rw [if_pos hlt] at eA HM
      have hD : D.app k l = D := by unfold Dk.app; rw [eA]; rfl
      have HM := Lib.hid (HM.out.mono (fun e w' he => Told.err he (by decide)))
      rw [eA, hD]
      subst hvb
      clear h hb hi hET hD eA hlt
      generalize l.length = n at *
      go_enter Tryz.func14, Tryz.ntmps14
      go_wp2_with (first | (go_at_call 39; refine HM.out.mono ?_; rintro e w1 ⟨b, rfl, hb, hc, hbw⟩) | (go_at_call 40; refine (HE.out w1 b 190 hbw hc).mono ?_; rintro e w2 ⟨rfl, hb2⟩))
      go_ret
      have hb3 := hbw.trans (hb2.mono hbw.size)
      exact ⟨rfl, Φ, (HD.out _ hb3).1, (HD.out _ hb3).2⟩
    · rw [if_neg hlt] at eA HM
      have hD : D.app k l = D.did (.put k ⟨l.toArray⟩) := by
        unfold Dk.app
        rw [eA, if_pos rfl]
        rfl
      have HM := Lib.hid (HM.out.mono (fun e w' he => Told.ok he))
      have HCV := Lib.hid (fun (w1 : World) (hw : Below w.heap.size w w1) => bt_string (hb.keep hw))
      have HP := Lib.hid (fun w1 => putting_any k ⟨l.toArray⟩ w1)
      have HDO : Hid (∀ w1 w2, Below w.heap.size w w1 → Below w1.heap.size w1 w2 → BoxIn w2 (.put k ⟨l.toArray⟩) w1.heap.size (w1.heap.size + 1) → Calls Tryz.prog 41 #[.pointer (some ⟨p, 0, none⟩), .agg (thC (.put k ⟨l.toArray⟩) w1.heap.size (w1.heap.size + 1)).toArray] w2 fun e w' => e = .returned (.tuple #[]) ∧ ∃ Φ', DkAt N w' Φ' p (D.did (.put k ⟨l.toArray⟩)) ∧ TurnD w w' Φ Φ') := Lib.hid fun w1 w2 h1 h2 hbx => by
        obtain ⟨mf, ms, V, U, lv, B, h0⟩ := h
        have h12 : Below w.heap.size w w2 := h1.trans (h2.mono h1.size)
        obtain ⟨h3, ht3⟩ := h0.box hs h12
        have hlt2 := hbx.lt
        have hB : B.length ≤ 1000 := by
          have := congrArg List.length h0.lb
          rw [List.length_map] at this
          omega
        refine (do_put h3 (Nat.le_trans hs h12.size) hbx ⟨.inr ⟨h1.size, hlt2.1⟩, .inr ⟨Nat.le_trans h1.size (Nat.le_succ _), hlt2.2⟩⟩ (did_put_inv hi k l hk hlt hfew).1 hB).mono ?_
        rintro e w' ⟨e0, Φ', h4, h5⟩
        exact ⟨e0, Φ', h4, ht3.trans h5⟩
      rw [eA, hD]
      subst hvb
      clear h hb hi hET hD eA hlt hfew
      go_enter Tryz.func14, Tryz.ntmps14
      go_wp2_with (first | (go_at_call 39; refine HM.out.mono ?_; rintro e w1 ⟨rfl, hb1⟩; have hcv := HCV.out w1 hb1) | (go_at_call 42; refine (HP.out w1).mono ?_; rintro e w2 ⟨rfl, hbx, hb2⟩) | (go_at_call 41; refine (HDO.out w1 w2 hb1 hb2 hbx).mono ?_; rintro e w3 ⟨rfl, Φ', hd, ht⟩))
      go_ret
      exact ⟨rfl, Φ', hd, ht⟩
set_option maxRecDepth 100000 in
set_option maxHeartbeats 4000000 in
theorem Cut_any {N : Nat} {w : World} {Φ : Nat → Prop} {p : Nat} {D : Dk} (h : DkAt N w Φ p D) (hs : N ≤ w.heap.size) (hi : D.Inv) (hfew : D.L.length < 900) (hET : HasET w) (f m : Int) :
    Calls Tryz.prog 30 #[.pointer (some ⟨p, 0, none⟩), .int .i64 f, .int .i64 m] w fun e w' => e = .returned (.int .i64 (cutE D f m)) ∧ ∃ Φ', DkAt N w' Φ' p (D.cutd f m) ∧ TurnD w w' Φ Φ' := by
  have hq := isErr_ne
  have hq0 := isErr_eqn
  have HE := Lib.hid (fun (w1 : World) (b : Nat) (n : Int) (hw : Below w.heap.size w w1) (hc : w1.cell? ⟨b, 1, none⟩ = some (.int .i64 n)) => errno_err b n w1 (hET.below hw hET.lt) hc)
  have HD := Lib.hid (fun (w1 : World) (hw : Below w.heap.size w w1) => And.intro (h.below hw) (TurnD.of_below (Φ := Φ) hw))
  have HM := Lib.hid (mayCut_any h f m)
  by_cases he : cutE D f m = 0
  · rw [he] at HM ⊢
    have HM := Lib.hid (HM.out.mono (fun e w' he => Told.ok he))
    have hD : D.cutd f m = D.did (.cut f.toNat m.toNat) := if_pos he
    obtain ⟨a, b, rfl, rfl, ha, hb⟩ := cutE_zero he
    rw [hD]
    have HP := Lib.hid (fun w1 => cutting_any a b w1)
    have HDO : Hid (∀ w1 w2, Below w.heap.size w w1 → Below w1.heap.size w1 w2 → BoxIn w2 (.cut a b) w1.heap.size (w1.heap.size + 1) → Calls Tryz.prog 41 #[.pointer (some ⟨p, 0, none⟩), .agg (thC (.cut a b) w1.heap.size (w1.heap.size + 1)).toArray] w2 fun e w' => e = .returned (.tuple #[]) ∧ ∃ Φ', DkAt N w' Φ' p (D.did (.cut a b)) ∧ TurnD w w' Φ Φ') := Lib.hid fun w1 w2 h1 h2 hbx => by
      obtain ⟨mf, ms, V, U, lv, B, h0⟩ := h
      have h12 : Below w.heap.size w w2 := h1.trans (h2.mono h1.size)
      obtain ⟨h3, ht3⟩ := h0.box hs h12
      have hlt2 := hbx.lt
      have hB : B.length ≤ 1000 := by
        have := congrArg List.length h0.lb
        rw [List.length_map] at this
        omega
      refine (do_cut h3 (Nat.le_trans hs h12.size) hbx ⟨.inr ⟨h1.size, hlt2.1⟩, .inr ⟨Nat.le_trans h1.size (Nat.le_succ _), hlt2.2⟩⟩ (did_cut_inv hi a b ha hb hfew).1 hB).mono ?_
      rintro e w' ⟨e0, Φ', h4, h5⟩
      exact ⟨e0, Φ', h4, ht3.trans h5⟩
    simp only [Int.toNat_natCast]
    clear h hb hi hET hD he hfew
    go_enter Tryz.func30, Tryz.ntmps30
    go_wp2_with (first | (go_at_call 62; refine HM.out.mono ?_; rintro e w1 ⟨rfl, hb1⟩) | (go_at_call 63; refine (HP.out w1).mono ?_; rintro e w2 ⟨rfl, hbx, hb2⟩) | (go_at_call 41; refine (HDO.out w1 w2 hb1 hb2 hbx).mono ?_; rintro e w3 ⟨rfl, Φ', hd, ht⟩))
    go_ret
    exact ⟨rfl, Φ', hd, ht⟩
  · have HM := Lib.hid (HM.out.mono (fun e w' hx => Told.err hx he))
    have hD : D.cutd f m = D := if_neg he
    rw [hD]
    clear h hi hET hD he
    generalize cutE D f m = n at *
    go_enter Tryz.func30, Tryz.ntmps30
    go_wp2_with (first | (go_at_call 62; refine HM.out.mono ?_; rintro e w1 ⟨b, rfl, hb, hc, hbw⟩) | (go_at_call 40; refine (HE.out w1 b n hbw hc).mono ?_; rintro e w2 ⟨rfl, hb2⟩))
    go_ret
    have hb3 := hbw.trans (hb2.mono hbw.size)
    exact ⟨rfl, Φ, (HD.out _ hb3).1, (HD.out _ hb3).2⟩
end Go.Proofs.YtbhgcioeibhjeaaGreatDoor

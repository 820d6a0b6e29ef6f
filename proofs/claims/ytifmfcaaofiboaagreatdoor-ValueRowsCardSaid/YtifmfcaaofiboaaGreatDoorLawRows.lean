/-
  swingbridgelaw01.ValueRows: its walk.
-/
import Derived.Test.YtifmfcaaofiboaaGreatDoorVGone
import Derived.Test.YtifmfcaaofiboaaGreatDoorRowP
import Derived.Test.YtifmfcaaofiboaaGreatDoorRRowS
import Derived.Test.YtifmfcaaofiboaaGreatDoorRLists
import Derived.Test.YtifmfcaaofiboaaGreatDoorLawTexts
import Derived.Test.YtifmfcaaofiboaaGreatDoorOrdPure
import Derived.OpenShut
namespace Go.Proofs.YtifmfcaaofiboaaGreatDoor
open Go.RowKit Go.ChangeShapes Go.WideShapes

theorem slice_keepR {w w' : World} {B : Nat} {v : Value} {l : List Vl} (h : SliceOf w v l) (hb : Below B w w') (hB : w.heap.size ≤ B) : SliceOf w' v l := by
  rcases h with ⟨rfl, rfl⟩ | ⟨a, cap, rfl, hc, ha⟩
  · exact .inl ⟨rfl, rfl⟩
  · exact .inr ⟨a, cap, rfl, hc, fun j hj => (ha j hj).keep hb hB⟩
theorem okR_of {v : Vl} (h : (Lit.int .i64 v.i).wf = true ∧ (Lit.int .u64 v.u).wf = true) (hs : v.s.size ≤ 300) : v.ok := by
  exact ⟨(bounds_i64 h.1).1, (bounds_i64 h.1).2, (bounds_u64 h.2).1, (bounds_u64 h.2).2, hs⟩
theorem fewR_spec {l : List Vl} (h : fewB l 10 = true) : l.length ≤ 10 ∧ ∀ v ∈ l, v.s.size ≤ 300 := by
  unfold fewB at h
  rw [Bool.and_eq_true, decide_eq_true_eq, List.all_eq_true] at h
  obtain ⟨h1, h2⟩ := h
  refine ⟨by omega, fun v hv => ?_⟩
  rw [List.take_of_length_le (by omega)] at h1
  simpa using h1 v hv
theorem lists_self : ∀ l : List Vl, lists l l = 0
  | [] => rfl
  | x :: l => by
    unfold lists
    rw [if_neg (by rw [(ord_zero x x).2 ⟨rfl, rfl, rfl, rfl⟩]; simp)]
    exact lists_self l
theorem rowRes_form (l : List Vl) (hok : ∀ v ∈ l, v.ok) (hl : l.length ≤ 10) : ∃ (t : ByteArray) (no : Int), rowRes l = .tuple #[.string t, .int .i64 no] ∧ t.size ≤ 100000 ∧ (∀ b ∈ pcs t.data.toList, b.length ≤ 800) ∧ (no = 0 → psV t.data.toList = l) := by
  by_cases h : firstBad l = 0
  · have hr := row_read l h hok
    refine ⟨rowText l, 0, by unfold rowRes; rw [if_pos h], ?_, fun b hb => by have := hr.2 b hb; omega, fun _ => hr.1⟩
    have := join_small l hok
    show (Lib.join _ _).toArray.size ≤ _
    rw [List.size_toArray]
    omega
  · refine ⟨⟨#[]⟩, firstBad l, by unfold rowRes; rw [if_neg h], by simp [ByteArray.size], fun b hb => ?_, fun h0 => absurd h0 h⟩
    have := pcs_small _ b hb
    simp at this
    rw [this]
    simp
set_option maxRecDepth 100000 in
set_option maxHeartbeats 4000000 in
theorem rows_true (v : Value) (l : List Vl) (s : ByteArray) (many mx : Int) (w : World) (hv : SliceOf w v l) (hwf : ∀ x ∈ l, (Lit.int .i64 x.i).wf = true ∧ (Lit.int .u64 x.u).wf = true) (hll : l.length ≤ 9223372036854775807) (hs : s.size ≤ 9223372036854775807) (hmx : w.cell? ⟨2, 0, none⟩ = some (.int .i64 mx)) (hm0 : -9223372036854775808 ≤ many) (hm1 : many ≤ 9223372036854775807) (ht : HasTab w) (hg : HasET w) :
    Calls Tryz.prog 6 #[v, .string s, .int .i64 many] w fun e w' => e = .returned (.bool true) ∧ Below w.heap.size w w' := by
  have WK : Hid (∀ W, Below w.heap.size w W → Calls Tryz.prog 9 #[] W fun e w' => e = .returned (.bool true) ∧ Below W.heap.size W w') := Lib.hid fun W hb => works_true W (ht.below hb ht.lt) (hg.below hb hg.lt)
  have FW : Hid (∀ W, Below w.heap.size w W → Calls Tryz.prog 8 #[v, .int .i64 10] W fun e w' => e = .returned (.bool (fewB l 10)) ∧ W = w') := Lib.hid fun W hb => few_any v l 10 W (slice_keepR hv hb (Nat.le_refl _)) (by decide) (by decide) hll
  have hmxW : ∀ W, Below w.heap.size w W → W.cell? ⟨2, 0, none⟩ = some (.int .i64 mx) := fun W hb => (hb.cell (World.block_lt_of_cell? w _ hmx)).trans hmx
  cases hf : fewB l 10 with
  | false =>
    rw [hf] at FW
    clear hv hwf hmx hmxW ht hg hll hf
    go_enter Tryz.func6, Tryz.ntmps6
    go_wp2_with (first | (go_at_call 8; refine (FW.out _ (Below.refl _ _)).mono ?_; rintro e w2 ⟨rfl, rfl⟩) | (go_at_call 9; refine (WK.out _ (Below.refl _ _)).mono ?_; rintro e w2 ⟨rfl, hb⟩))
    go_ret
    exact ⟨rfl, hb⟩
  | true =>
    rw [hf] at FW
    by_cases hz : s.size ≤ 800
    · have hspec := fewR_spec hf
      have hok : ∀ x ∈ l, x.ok := fun x hx => by
        exact okR_of (hwf x hx) (hspec.2 x hx)
      obtain ⟨t, no, hres, htz, htp, htr⟩ := rowRes_form l hok hspec.1
      have c1 : Hid (∀ W, Below w.heap.size w W → Calls Tryz.prog 21 #[v] W fun e w' => e = .returned (rowRes l) ∧ Below W.heap.size W w') := Lib.hid fun W hb => Row_any v l W (slice_keepR hv hb (Nat.le_refl _)) hok hspec.1 (ht.below hb ht.lt) (hg.below hb hg.lt)
      have c2 : Hid (∀ W, Below w.heap.size w W → Calls Tryz.prog 22 #[v] W fun e w' => e = .returned (rowRes l) ∧ Below W.heap.size W w') := Lib.hid fun W hb => rRowS_any v l W (slice_keepR hv hb (Nat.le_refl _)) hok hspec.1 (ht.below hb ht.lt)
      rw [hres] at c1 c2
      have hsp : ∀ b ∈ pcs s.data.toList, b.length ≤ 800 := fun b hb => Nat.le_trans (pcs_small _ b hb) (by rw [Array.length_toList]; exact hz)
      have c3 : Hid (∀ W, Below w.heap.size w W → Calls Tryz.prog 23 #[.string s, .int .i64 many] W fun e w' => e = .returned (.bool true) ∧ Below W.heap.size W w') := Lib.hid fun W hb => gone_any s many mx W (by omega) (pie_pcs hsp) (hmxW W hb) hm0 hm1
      have c4 : Hid (∀ W, Below w.heap.size w W → Calls Tryz.prog 23 #[.string t, .int .i64 many] W fun e w' => e = .returned (.bool true) ∧ Below W.heap.size W w') := Lib.hid fun W hb => gone_any t many mx W htz (pie_pcs htp) (hmxW W hb) hm0 hm1
      have c5 : Hid (∀ W, Calls Tryz.prog 25 #[.string t] W fun e w' => ∃ u, e = .returned u ∧ SliceOf w' u (psV t.data.toList) ∧ Below W.heap.size W w') := Lib.hid fun W => rParts_any t W htz htp
      have c6 : Hid (no = 0 → ∀ W u, Below w.heap.size w W → SliceOf W u (psV t.data.toList) → Calls Tryz.prog 24 #[u, v] W fun e w' => e = .returned (.bool true) ∧ Below W.heap.size W w') := Lib.hid fun h0 W u hb hu => by
        rw [htr h0] at hu
        have h := rSame_any u v l l W hu (slice_keepR hv hb (Nat.le_refl _)) hll hll
        rwa [show (lists l l == 0) = true by rw [lists_self]; rfl] at h
      have NM : Hid (∀ W, Calls Tryz.prog 10 #[.int .i64 no] W fun e w' => e = .returned (.int .i64 no) ∧ W = w') := Lib.hid fun W => num_any no W
      clear hv hwf hmx hmxW ht hg hll hf hsp htz htp htr hspec hok hres
      have hTT : (t.toList == t.toList) = true := by simp
      have hNN : (no == no) = true := by simp
      by_cases h0 : no = 0
      · subst h0
        have c7 := Lib.hid (c6.out rfl)
        clear c6
        go_enter Tryz.func6, Tryz.ntmps6
        go_wp2_with (first | (go_at_call 8; refine (FW.out _ (Below.refl _ _)).mono ?_; rintro e w2 ⟨rfl, rfl⟩) | (go_at_call 21; refine (c1.out _ (Below.refl _ _)).mono ?_; rintro e w3 ⟨rfl, hb3⟩) | (go_at_call 22; refine (c2.out _ hb3).mono ?_; rintro e w4 ⟨rfl, hb4⟩; have k4 := hb3.trans (hb4.mono hb3.size); clear hb4) | (go_at_call 10; refine (NM.out _).mono ?_; rintro e w5 ⟨rfl, rfl⟩) | (go_at_call 23; refine (c4.out _ k6).mono ?_; rintro e w7 ⟨rfl, hb7⟩; have k7 := k6.trans (hb7.mono k6.size); clear hb7) | (go_at_call 23; refine (c3.out _ k4).mono ?_; rintro e w6 ⟨rfl, hb6⟩; have k6 := k4.trans (hb6.mono k4.size); clear hb6) | (go_at_call 25; refine (c5.out _).mono ?_; rintro e w8 ⟨u, rfl, hu, hb8⟩; have k8 := k7.trans (hb8.mono k7.size); have HU := Lib.hid hu; clear hb8 hu) | (go_at_call 24; refine (c7.out _ _ k8 HU.out).mono ?_; rintro e w9 ⟨rfl, hb9⟩; have k9 := k8.trans (hb9.mono k8.size); clear hb9) | (go_at_call 9; refine (WK.out _ k9).mono ?_; rintro e w10 ⟨rfl, hb10⟩))
        go_ret
        exact ⟨rfl, k9.trans (hb10.mono k9.size)⟩
      · have hnz : (no != 0) = true := bne_iff_ne.2 h0
        go_enter Tryz.func6, Tryz.ntmps6
        go_wp2_with (first | (go_at_call 8; refine (FW.out _ (Below.refl _ _)).mono ?_; rintro e w2 ⟨rfl, rfl⟩) | (go_at_call 21; refine (c1.out _ (Below.refl _ _)).mono ?_; rintro e w3 ⟨rfl, hb3⟩) | (go_at_call 22; refine (c2.out _ hb3).mono ?_; rintro e w4 ⟨rfl, hb4⟩; have k4 := hb3.trans (hb4.mono hb3.size); clear hb4) | (go_at_call 10; refine (NM.out _).mono ?_; rintro e w5 ⟨rfl, rfl⟩) | (go_at_call 23; refine (c4.out _ k6).mono ?_; rintro e w7 ⟨rfl, hb7⟩; have k7 := k6.trans (hb7.mono k6.size); clear hb7) | (go_at_call 23; refine (c3.out _ k4).mono ?_; rintro e w6 ⟨rfl, hb6⟩; have k6 := k4.trans (hb6.mono k4.size); clear hb6) | (go_at_call 9; refine (WK.out _ k7).mono ?_; rintro e w10 ⟨rfl, hb10⟩))
        go_ret
        exact ⟨rfl, k7.trans (hb10.mono k7.size)⟩
    · have hd : decide ((800 : Int) < (s.size : Int)) = true := decide_eq_true (by omega)
      clear hv hwf hmx hmxW ht hg hll hf
      go_enter Tryz.func6, Tryz.ntmps6
      go_wp2_with (first | (go_at_call 8; refine (FW.out _ (Below.refl _ _)).mono ?_; rintro e w2 ⟨rfl, rfl⟩) | (go_at_call 9; refine (WK.out _ (Below.refl _ _)).mono ?_; rintro e w2 ⟨rfl, hb⟩))
      go_ret
      exact ⟨rfl, hb⟩
end Go.Proofs.YtifmfcaaofiboaaGreatDoor

/-
  swingbridgelaw05.KeyHolds: true.
-/
import Derived.Test.YtcedeipmboekaaaGreatDoorKFew
import Derived.Test.YtcedeipmboekaaaGreatDoorKBeh
import Derived.Test.YtcedeipmboekaaaGreatDoorVOL
namespace Go.Proofs.YtcedeipmboekaaaGreatDoor
open Go.RowKit

theorem sliceK {w : World} {oa : Option Addr} {l : List Vl} {ca : Nat} (h : SliceOf w (.slice oa l.length ca) l) : ValsK w oa l := fun j hj => by
  rcases h with ⟨_, rfl⟩ | ⟨a, cap, e, _, hv⟩
  · exact absurd hj (Nat.not_lt_zero j)
  · obtain ⟨rfl, _⟩ : oa = some a ∧ ca = cap := by simpa using e
    exact ⟨a, rfl, hv j hj⟩
theorem chk_range (k i u : Int) (s : ByteArray) : 0 ≤ chk k i u s ∧ chk k i u s ≤ 3 := by
  unfold chk
  split
  · omega
  · split
    · split <;> omega
    · omega
theorem firstE_range : ∀ (l : List Vl), 0 ≤ firstE l ∧ firstE l ≤ 3
  | [] => ⟨by decide, by decide⟩
  | v :: l => by
    unfold firstE
    split
    · exact chk_range _ _ _ _
    · exact firstE_range l
theorem encNo_range (l : List Vl) : 0 ≤ encNo l ∧ encNo l ≤ 3 := by
  have := firstE_range l
  unfold encNo
  split
  · exact this
  · split <;> omega
theorem encNo_zero {l : List Vl} (h : encNo l = 0) : (∀ v ∈ l, v.chk = 0) ∧ (keyL l).length ≤ 2000 ∧ (encTx l).toList = keyL l ∧ (encTx l).size ≤ 2000 := by
  have h' := h
  unfold encNo at h
  split at h
  · exact absurd h (by assumption)
  · split at h
    · omega
    · have h0 : firstE l = 0 := by omega
      have h1 : encTx l = ⟨(keyL l).toArray⟩ := by unfold encTx; rw [if_pos h']
      refine ⟨firstE_zero h0, by omega, ?_, ?_⟩
      · rw [h1, ByteArray.toList_eq]
      · rw [h1]
        show (keyL l).toArray.size ≤ 2000
        simp
        omega
theorem keys_law_enc {l m : List Vl} (hN : ∀ v ∈ l, InN v) (hN' : ∀ v ∈ m, InN v) (h : encNo l = 0) (h' : encNo m = 0) :
    Op.bytesLess (encTx l).toList (encTx m).toList = decide (lists l m < 0) ∧ ((encTx l).toList == (encTx m).toList) = (lists l m == 0) ∧ Op.bytesLess (encTx m).toList (encTx l ++ (⟨#[255]⟩ : ByteArray)).toList = (decide (0 < lists l m) || begB l m) := by
  obtain ⟨c1, _, e1, _⟩ := encNo_zero h
  obtain ⟨c2, _, e2, _⟩ := encNo_zero h'
  rw [to_app, e1, e2]
  exact keys_law l m (fun v hv => ⟨c1 v hv, (hN v hv).i0, (hN v hv).i1, (hN v hv).u0, (hN v hv).u1⟩) (fun v hv => ⟨c2 v hv, (hN' v hv).i0, (hN' v hv).i1, (hN' v hv).u0, (hN' v hv).u1⟩)
theorem lists_range : ∀ (l m : List Vl), lists l m = -1 ∨ lists l m = 0 ∨ lists l m = 1
  | [], m => by unfold lists; exact cmpI_range _ _
  | x :: l, [] => by unfold lists; exact cmpI_range _ _
  | x :: l, y :: m => by
    unfold lists
    split
    · exact ord_range x y
    · exact lists_range l m
set_option maxRecDepth 100000 in
set_option maxHeartbeats 4000000 in
theorem keyHolds_true (oa ob : Option Addr) (ca cb : Nat) (l m : List Vl) (w : World) (hg : HasET w) (hv : SliceOf w (.slice oa l.length ca) l) (hv' : SliceOf w (.slice ob m.length cb) m) (hN : ∀ v ∈ l, InN v) (hN' : ∀ v ∈ m, InN v) (hl : l.length ≤ 9223372036854775807) (hm : m.length ≤ 9223372036854775807) :
    Calls Tryz.prog 7 #[.slice oa l.length ca, .slice ob m.length cb] w fun e w' => e = .returned (.bool true) ∧ Below w.heap.size w w' := by
  have HW : Hid (∀ W, Below w.heap.size w W → Calls Tryz.prog 9 #[] W fun e w' => e = .returned (.bool true) ∧ Below W.heap.size W w') := Lib.hid (fun W hb => qworks_true W (hg.below hb hg.lt))
  have HF1 := Lib.hid (qfew_any oa ca l 5 w (sliceK hv) (by decide) (by decide) hl)
  have HF2 := Lib.hid (qfew_any ob cb m 5 w (sliceK hv') (by decide) (by decide) hm)
  have HE1 : Hid (∀ W, Below w.heap.size w W → Calls Tryz.prog 10 #[.slice oa l.length ca] W fun e w' => e = .returned (.tuple #[.string (encTx l), .int .i64 (encNo l)]) ∧ Below W.heap.size W w') := Lib.hid (fun W hb => qEncode_any oa ca l W ((sliceK hv).keep hb (Nat.le_refl _)) hN hl (hg.below hb hg.lt))
  have HE2 : Hid (∀ W, Below w.heap.size w W → Calls Tryz.prog 10 #[.slice ob m.length cb] W fun e w' => e = .returned (.tuple #[.string (encTx m), .int .i64 (encNo m)]) ∧ Below W.heap.size W w') := Lib.hid (fun W hb => qEncode_any ob cb m W ((sliceK hv').keep hb (Nat.le_refl _)) hN' hm (hg.below hb hg.lt))
  clear hg
  cases hf1 : fewB l 5
  · rw [hf1] at HF1
    clear hf1 hv hv' hN hN'
    go_enter Tryz.func7, Tryz.ntmps7
    go_wp2_with (first | (go_at_call 8; refine HF1.out.mono ?_; rintro e w' ⟨rfl, rfl⟩) | (go_at_call 9; refine (HW.out _ (Below.refl _ _)).mono ?_; rintro e w' ⟨rfl, hb⟩))
    go_ret
    exact ⟨rfl, hb⟩
  cases hf2 : fewB m 5
  · rw [hf1] at HF1
    rw [hf2] at HF2
    clear hf1 hf2 hv hv' hN hN'
    go_enter Tryz.func7, Tryz.ntmps7
    go_wp2_with (first | (go_at_call 8; (first | (with_reducible refine HF1.out.mono ?_) | (with_reducible refine HF2.out.mono ?_)); rintro e w' ⟨rfl, rfl⟩) | (go_at_call 9; refine (HW.out _ (Below.refl _ _)).mono ?_; rintro e w' ⟨rfl, hb⟩))
    go_ret
    exact ⟨rfl, hb⟩
  have h5 := (fewB_spec hf1).1
  have h6 := (fewB_spec hf2).1
  rw [hf1] at HF1
  rw [hf2] at HF2
  clear hf1 hf2
  obtain ⟨n1, hn1⟩ : ∃ n, encNo l = n := ⟨_, rfl⟩
  obtain ⟨n2, hn2⟩ : ∃ n, encNo m = n := ⟨_, rfl⟩
  obtain ⟨x, hx⟩ : ∃ s, encTx l = s := ⟨_, rfl⟩
  obtain ⟨y, hy⟩ : ∃ s, encTx m = s := ⟨_, rfl⟩
  have r1 := encNo_range l
  have r2 := encNo_range m
  rw [hn1] at r1
  rw [hn2] at r2
  rw [hn1, hx] at HE1
  rw [hn2, hy] at HE2
  obtain ⟨r1a, r1b⟩ := r1
  obtain ⟨r2a, r2b⟩ := r2
  by_cases hz : n1 + n2 = 0
  · obtain rfl : n1 = 0 := by omega
    obtain rfl : n2 = 0 := by omega
    obtain ⟨k1, k2, k3⟩ := keys_law_enc hN hN' hn1 hn2
    have s1 := (encNo_zero hn1).2.2.2
    have s2 := (encNo_zero hn2).2.2.2
    rw [hx] at s1 k1 k2 k3
    rw [hy] at s2 k1 k2 k3
    have HA := Lib.hid (fun W => qAll_any x W (by omega))
    have HL : Hid (∀ W, Below w.heap.size w W → Calls Tryz.prog 20 #[.slice oa l.length ca, .slice ob m.length cb] W fun e w' => e = .returned (.int .i64 (lists l m)) ∧ Below W.heap.size W w') := Lib.hid (fun W hb => rLists_any _ _ l m W (hv.keep hb (Nat.le_refl _)) (hv'.keep hb (Nat.le_refl _)) hl hm)
    have HS : Hid (l.length ≤ m.length → ∀ W, Below w.heap.size w W → Calls Tryz.prog 14 #[.slice ob l.length cb, .slice oa l.length ca] W fun e w' => e = .returned (.bool (begB l m)) ∧ Below W.heap.size W w') := Lib.hid (fun hle W hb => by
      have ht : (m.take l.length).length = l.length := by rw [List.length_take]; omega
      have hs : SliceOf w (.slice ob l.length cb) (m.take l.length) := by
        rcases hv' with ⟨e, rfl⟩ | ⟨b, cap, e, hc, hvs⟩
        · obtain ⟨rfl, rfl⟩ : ob = none ∧ cb = 0 := by simpa using e
          obtain rfl : l = [] := List.length_eq_zero_iff.1 (by simpa using hle)
          exact .inl ⟨rfl, rfl⟩
        · obtain ⟨rfl, rfl⟩ : ob = some b ∧ cb = cap := by simpa using e
          refine .inr ⟨b, cb, by rw [ht], by omega, fun j hj => ?_⟩
          rw [List.getElem_take]
          exact hvs j (by omega)
      have h := rSame_any _ _ (m.take l.length) l W (hs.keep hb (Nat.le_refl _)) (hv.keep hb (Nat.le_refl _)) (by omega) hl
      rw [show (lists (m.take l.length) l == 0) = begB l m by unfold begB; simp [hle]] at h
      exact h)
    have hnb : ¬ l.length ≤ m.length → begB l m = false := fun h => by unfold begB; simp [h]
    have hob : ob = none → m.length = 0 ∧ cb = 0 := fun e => by
      subst e
      rcases hv' with ⟨e, rfl⟩ | ⟨b, cap, e, _⟩
      · exact ⟨rfl, by simpa using e⟩
      · cases e
    have hcb : m.length ≤ cb := by
      rcases hv' with ⟨e, rfl⟩ | ⟨b, cap, e, hc, _⟩
      · exact Nat.zero_le _
      · obtain ⟨_, rfl⟩ : ob = some b ∧ cb = cap := by simpa using e
        exact hc
    have hor := lists_range l m
    obtain ⟨o, ho⟩ : ∃ o, lists l m = o := ⟨_, rfl⟩
    obtain ⟨g, hgg⟩ : ∃ g, begB l m = g := ⟨_, rfl⟩
    rw [ho] at HL k1 k2 k3 hor
    rw [hgg] at HS hnb k3
    clear hx hy hn1 hn2 hv hv' hN hN' ho hgg
    go_enter Tryz.func7, Tryz.ntmps7
    go_wp2_with (go_at_call 8; (first | (with_reducible refine HF1.out.mono ?_) | (with_reducible refine HF2.out.mono ?_)); rintro e w' ⟨rfl, rfl⟩)
    refine (HE1.out _ (Below.refl _ _)).mono ?_
    rintro e w1 ⟨rfl, hb1⟩
    have HB1 := Lib.hid hb1
    clear hb1
    go_wp2_with fail
    refine (HE2.out _ HB1.out).mono ?_
    rintro e w2 ⟨rfl, hb2⟩
    have HB2 := Lib.hid (HB1.out.trans (hb2.mono HB1.out.size))
    clear hb2
    go_wp2_with (go_at_call 12; refine (qlnum_any _ _).mono ?_; rintro e w' ⟨rfl, rfl⟩)
    refine (HL.out _ HB2.out).mono ?_
    rintro e w3 ⟨rfl, hb3⟩
    have HB3 := Lib.hid (HB2.out.trans (hb3.mono HB2.out.size))
    clear hb3
    by_cases hle : l.length ≤ m.length
    · have HS2 := Lib.hid (HS.out hle _ HB3.out)
      clear hnb
      cases ob with
      | none =>
        obtain ⟨e1, e2⟩ := hob rfl
        subst e2
        obtain rfl : m = [] := List.length_eq_zero_iff.1 e1
        obtain rfl : l = [] := List.length_eq_zero_iff.1 (by simpa using hle)
        simp only [List.length_nil] at HS2
        rcases hor with rfl | rfl | rfl
        · replace k1 : Op.bytesLess x.toList y.toList = true := k1
          replace k2 : (x.toList == y.toList) = false := k2
          replace k3 : Op.bytesLess y.toList (x ++ (⟨#[255]⟩ : ByteArray)).toList = g := k3
          cases g
          · skip
            go_wp2_with (first | (go_at_call 14; (with_reducible refine HS2.out.mono ?_); rintro e w4 ⟨rfl, hb4⟩; have hbx := HB3.out.trans (hb4.mono HB3.out.size)) | (go_at_call 19; refine (HA.out _).mono ?_; rintro e w' ⟨rfl, rfl⟩) | (go_at_call 9; refine (HW.out _ hbx).mono ?_; rintro e w' ⟨rfl, hb⟩))
            go_ret
            exact ⟨rfl, hbx.trans (hb.mono hbx.size)⟩
          · skip
            go_wp2_with (first | (go_at_call 14; (with_reducible refine HS2.out.mono ?_); rintro e w4 ⟨rfl, hb4⟩; have hbx := HB3.out.trans (hb4.mono HB3.out.size)) | (go_at_call 19; refine (HA.out _).mono ?_; rintro e w' ⟨rfl, rfl⟩) | (go_at_call 9; refine (HW.out _ hbx).mono ?_; rintro e w' ⟨rfl, hb⟩))
            go_ret
            exact ⟨rfl, hbx.trans (hb.mono hbx.size)⟩
        · replace k1 : Op.bytesLess x.toList y.toList = false := k1
          replace k2 : (x.toList == y.toList) = true := k2
          replace k3 : Op.bytesLess y.toList (x ++ (⟨#[255]⟩ : ByteArray)).toList = g := k3
          cases g
          · skip
            go_wp2_with (first | (go_at_call 14; (with_reducible refine HS2.out.mono ?_); rintro e w4 ⟨rfl, hb4⟩; have hbx := HB3.out.trans (hb4.mono HB3.out.size)) | (go_at_call 19; refine (HA.out _).mono ?_; rintro e w' ⟨rfl, rfl⟩) | (go_at_call 9; refine (HW.out _ hbx).mono ?_; rintro e w' ⟨rfl, hb⟩))
            go_ret
            exact ⟨rfl, hbx.trans (hb.mono hbx.size)⟩
          · skip
            go_wp2_with (first | (go_at_call 14; (with_reducible refine HS2.out.mono ?_); rintro e w4 ⟨rfl, hb4⟩; have hbx := HB3.out.trans (hb4.mono HB3.out.size)) | (go_at_call 19; refine (HA.out _).mono ?_; rintro e w' ⟨rfl, rfl⟩) | (go_at_call 9; refine (HW.out _ hbx).mono ?_; rintro e w' ⟨rfl, hb⟩))
            go_ret
            exact ⟨rfl, hbx.trans (hb.mono hbx.size)⟩
        · replace k1 : Op.bytesLess x.toList y.toList = false := k1
          replace k2 : (x.toList == y.toList) = false := k2
          replace k3 : Op.bytesLess y.toList (x ++ (⟨#[255]⟩ : ByteArray)).toList = true := k3
          cases g
          · skip
            go_wp2_with (first | (go_at_call 14; (with_reducible refine HS2.out.mono ?_); rintro e w4 ⟨rfl, hb4⟩; have hbx := HB3.out.trans (hb4.mono HB3.out.size)) | (go_at_call 19; refine (HA.out _).mono ?_; rintro e w' ⟨rfl, rfl⟩) | (go_at_call 9; refine (HW.out _ hbx).mono ?_; rintro e w' ⟨rfl, hb⟩))
            go_ret
            exact ⟨rfl, hbx.trans (hb.mono hbx.size)⟩
          · skip
            go_wp2_with (first | (go_at_call 14; (with_reducible refine HS2.out.mono ?_); rintro e w4 ⟨rfl, hb4⟩; have hbx := HB3.out.trans (hb4.mono HB3.out.size)) | (go_at_call 19; refine (HA.out _).mono ?_; rintro e w' ⟨rfl, rfl⟩) | (go_at_call 9; refine (HW.out _ hbx).mono ?_; rintro e w' ⟨rfl, hb⟩))
            go_ret
            exact ⟨rfl, hbx.trans (hb.mono hbx.size)⟩
      | some b =>
        rcases hor with rfl | rfl | rfl
        · replace k1 : Op.bytesLess x.toList y.toList = true := k1
          replace k2 : (x.toList == y.toList) = false := k2
          replace k3 : Op.bytesLess y.toList (x ++ (⟨#[255]⟩ : ByteArray)).toList = g := k3
          cases g
          · skip
            go_wp2_with (first | (go_at_call 14; (with_reducible refine HS2.out.mono ?_); rintro e w4 ⟨rfl, hb4⟩; have hbx := HB3.out.trans (hb4.mono HB3.out.size)) | (go_at_call 19; refine (HA.out _).mono ?_; rintro e w' ⟨rfl, rfl⟩) | (go_at_call 9; refine (HW.out _ hbx).mono ?_; rintro e w' ⟨rfl, hb⟩))
            go_ret
            exact ⟨rfl, hbx.trans (hb.mono hbx.size)⟩
          · skip
            go_wp2_with (first | (go_at_call 14; (with_reducible refine HS2.out.mono ?_); rintro e w4 ⟨rfl, hb4⟩; have hbx := HB3.out.trans (hb4.mono HB3.out.size)) | (go_at_call 19; refine (HA.out _).mono ?_; rintro e w' ⟨rfl, rfl⟩) | (go_at_call 9; refine (HW.out _ hbx).mono ?_; rintro e w' ⟨rfl, hb⟩))
            go_ret
            exact ⟨rfl, hbx.trans (hb.mono hbx.size)⟩
        · replace k1 : Op.bytesLess x.toList y.toList = false := k1
          replace k2 : (x.toList == y.toList) = true := k2
          replace k3 : Op.bytesLess y.toList (x ++ (⟨#[255]⟩ : ByteArray)).toList = g := k3
          cases g
          · skip
            go_wp2_with (first | (go_at_call 14; (with_reducible refine HS2.out.mono ?_); rintro e w4 ⟨rfl, hb4⟩; have hbx := HB3.out.trans (hb4.mono HB3.out.size)) | (go_at_call 19; refine (HA.out _).mono ?_; rintro e w' ⟨rfl, rfl⟩) | (go_at_call 9; refine (HW.out _ hbx).mono ?_; rintro e w' ⟨rfl, hb⟩))
            go_ret
            exact ⟨rfl, hbx.trans (hb.mono hbx.size)⟩
          · skip
            go_wp2_with (first | (go_at_call 14; (with_reducible refine HS2.out.mono ?_); rintro e w4 ⟨rfl, hb4⟩; have hbx := HB3.out.trans (hb4.mono HB3.out.size)) | (go_at_call 19; refine (HA.out _).mono ?_; rintro e w' ⟨rfl, rfl⟩) | (go_at_call 9; refine (HW.out _ hbx).mono ?_; rintro e w' ⟨rfl, hb⟩))
            go_ret
            exact ⟨rfl, hbx.trans (hb.mono hbx.size)⟩
        · replace k1 : Op.bytesLess x.toList y.toList = false := k1
          replace k2 : (x.toList == y.toList) = false := k2
          replace k3 : Op.bytesLess y.toList (x ++ (⟨#[255]⟩ : ByteArray)).toList = true := k3
          cases g
          · skip
            go_wp2_with (first | (go_at_call 14; (with_reducible refine HS2.out.mono ?_); rintro e w4 ⟨rfl, hb4⟩; have hbx := HB3.out.trans (hb4.mono HB3.out.size)) | (go_at_call 19; refine (HA.out _).mono ?_; rintro e w' ⟨rfl, rfl⟩) | (go_at_call 9; refine (HW.out _ hbx).mono ?_; rintro e w' ⟨rfl, hb⟩))
            go_ret
            exact ⟨rfl, hbx.trans (hb.mono hbx.size)⟩
          · skip
            go_wp2_with (first | (go_at_call 14; (with_reducible refine HS2.out.mono ?_); rintro e w4 ⟨rfl, hb4⟩; have hbx := HB3.out.trans (hb4.mono HB3.out.size)) | (go_at_call 19; refine (HA.out _).mono ?_; rintro e w' ⟨rfl, rfl⟩) | (go_at_call 9; refine (HW.out _ hbx).mono ?_; rintro e w' ⟨rfl, hb⟩))
            go_ret
            exact ⟨rfl, hbx.trans (hb.mono hbx.size)⟩
    · have hg0 := hnb hle
      subst hg0
      rcases hor with rfl | rfl | rfl
      · replace k1 : Op.bytesLess x.toList y.toList = true := k1
        replace k2 : (x.toList == y.toList) = false := k2
        replace k3 : Op.bytesLess y.toList (x ++ (⟨#[255]⟩ : ByteArray)).toList = false := k3
        have hbx := HB3.out
        go_wp2_with (first | (go_at_call 19; refine (HA.out _).mono ?_; rintro e w' ⟨rfl, rfl⟩) | (go_at_call 9; refine (HW.out _ hbx).mono ?_; rintro e w' ⟨rfl, hb⟩))
        go_ret
        exact ⟨rfl, hbx.trans (hb.mono hbx.size)⟩
      · replace k1 : Op.bytesLess x.toList y.toList = false := k1
        replace k2 : (x.toList == y.toList) = true := k2
        replace k3 : Op.bytesLess y.toList (x ++ (⟨#[255]⟩ : ByteArray)).toList = false := k3
        have hbx := HB3.out
        go_wp2_with (first | (go_at_call 19; refine (HA.out _).mono ?_; rintro e w' ⟨rfl, rfl⟩) | (go_at_call 9; refine (HW.out _ hbx).mono ?_; rintro e w' ⟨rfl, hb⟩))
        go_ret
        exact ⟨rfl, hbx.trans (hb.mono hbx.size)⟩
      · replace k1 : Op.bytesLess x.toList y.toList = false := k1
        replace k2 : (x.toList == y.toList) = false := k2
        replace k3 : Op.bytesLess y.toList (x ++ (⟨#[255]⟩ : ByteArray)).toList = true := k3
        have hbx := HB3.out
        go_wp2_with (first | (go_at_call 19; refine (HA.out _).mono ?_; rintro e w' ⟨rfl, rfl⟩) | (go_at_call 9; refine (HW.out _ hbx).mono ?_; rintro e w' ⟨rfl, hb⟩))
        go_ret
        exact ⟨rfl, hbx.trans (hb.mono hbx.size)⟩
  · clear hx hy hn1 hn2 hv hv' hN hN'
    go_enter Tryz.func7, Tryz.ntmps7
    go_wp2_with (go_at_call 8; (first | (with_reducible refine HF1.out.mono ?_) | (with_reducible refine HF2.out.mono ?_)); rintro e w' ⟨rfl, rfl⟩)
    refine (HE1.out _ (Below.refl _ _)).mono ?_
    rintro e w1 ⟨rfl, hb1⟩
    have HB1 := Lib.hid hb1
    clear hb1
    go_wp2_with fail
    refine (HE2.out _ HB1.out).mono ?_
    rintro e w2 ⟨rfl, hb2⟩
    have HB2 := Lib.hid (HB1.out.trans (hb2.mono HB1.out.size))
    clear hb2
    go_wp2_with (first | (go_at_call 12; refine (qlnum_any _ _).mono ?_; rintro e w' ⟨rfl, rfl⟩) | (go_at_call 9; refine (HW.out _ HB2.out).mono ?_; rintro e w' ⟨rfl, hb⟩))
    go_ret
    exact ⟨rfl, HB2.out.trans (hb.mono HB2.out.size)⟩
end Go.Proofs.YtcedeipmboekaaaGreatDoor

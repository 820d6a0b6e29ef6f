/-
  swingbridgelaw05.KeyBytes: true.
-/
import Derived.Test.YtcedeipmboekaaaGreatDoorKLawHolds
import Derived.Test.YtcedeipmboekaaaGreatDoorKREn
namespace Go.Proofs.YtcedeipmboekaaaGreatDoor
open Go.RowKit

/-- what was laid is read -/
theorem decO_enc {l : List Vl} (hN : ∀ v ∈ l, InN v) (h : encNo l = 0) : decO (encTx l) = some l := by
  obtain ⟨c, hk, e, hz⟩ := encNo_zero h
  unfold decO
  rw [if_neg (by omega), show (encTx l).data.toList = keyL l by rw [← ByteArray.toList_eq]; exact e]
  exact readKeys_keyL l _ (fun v hv => ⟨c v hv, (hN v hv).i0, (hN v hv).i1, (hN v hv).u0, (hN v hv).u1⟩) (Nat.le_refl _)
set_option maxRecDepth 100000 in
set_option maxHeartbeats 4000000 in
theorem keyBytes_true (oa : Option Addr) (ca : Nat) (l : List Vl) (w : World) (hg : HasET w) (hv : SliceOf w (.slice oa l.length ca) l) (hN : ∀ v ∈ l, InN v) (hl : l.length ≤ 9223372036854775807) :
    Calls Tryz.prog 3 #[.slice oa l.length ca] w fun e w' => e = .returned (.bool true) ∧ Below w.heap.size w w' := by
  have HW : Hid (∀ W, Below w.heap.size w W → Calls Tryz.prog 9 #[] W fun e w' => e = .returned (.bool true) ∧ Below W.heap.size W w') := Lib.hid (fun W hb => qworks_true W (hg.below hb hg.lt))
  have HF1 := Lib.hid (qfew_any oa ca l 8 w (sliceK hv) (by decide) (by decide) hl)
  have HE1 : Hid (∀ W, Below w.heap.size w W → Calls Tryz.prog 10 #[.slice oa l.length ca] W fun e w' => e = .returned (.tuple #[.string (encTx l), .int .i64 (encNo l)]) ∧ Below W.heap.size W w') := Lib.hid (fun W hb => qEncode_any oa ca l W ((sliceK hv).keep hb (Nat.le_refl _)) hN hl (hg.below hb hg.lt))
  have HE2 : Hid (∀ W, Below w.heap.size w W → Calls Tryz.prog 11 #[.slice oa l.length ca] W fun e w' => e = .returned (.tuple #[.string (encTx l), .int .i64 (encNo l)]) ∧ Below W.heap.size W w') := Lib.hid (fun W hb => rqEncode_any oa ca l W ((sliceK hv).keep hb (Nat.le_refl _)) hN hl)
  have HSV := Lib.hid hv
  have HNN := Lib.hid hN
  clear hg hv hN
  cases hf1 : fewB l 8
  · rw [hf1] at HF1
    clear hf1
    go_enter Tryz.func3, Tryz.ntmps3
    go_wp2_with (first | (go_at_call 8; refine HF1.out.mono ?_; rintro e w' ⟨rfl, rfl⟩) | (go_at_call 9; refine (HW.out _ (Below.refl _ _)).mono ?_; rintro e w' ⟨rfl, hb⟩))
    go_ret
    exact ⟨rfl, hb⟩
  have h5 := (fewB_spec hf1).1
  rw [hf1] at HF1
  clear hf1
  obtain ⟨n1, hn1⟩ : ∃ n, encNo l = n := ⟨_, rfl⟩
  have r1 := encNo_range l
  rw [hn1] at r1 HE1 HE2
  obtain ⟨r1a, r1b⟩ := r1
  by_cases hz : n1 = 0
  · subst hz
    have s1 := (encNo_zero hn1).2.2.2
    have hd := decO_enc HNN.out hn1
    obtain ⟨x, hx⟩ : ∃ s, encTx l = s := ⟨_, rfl⟩
    rw [hx] at HE1 HE2 s1 hd
    have HD : Hid (∀ W, Calls Tryz.prog 13 #[.string x] W fun e w' => (∃ a c, e = .returned (.tuple #[.slice a l.length c, .int .i64 0]) ∧ SliceOf w' (.slice a l.length c) l) ∧ Below W.heap.size W w') := Lib.hid (fun W => by
      have h := qDecode_any x W (by omega)
      unfold DecPostK at h
      rw [hd] at h
      exact h)
    have hlz := lists_refl l
    clear hx hn1 hd
    go_enter Tryz.func3, Tryz.ntmps3
    go_wp2_with (go_at_call 8; refine HF1.out.mono ?_; rintro e w' ⟨rfl, rfl⟩)
    refine (HE1.out _ (Below.refl _ _)).mono ?_
    rintro e w1 ⟨rfl, hb1⟩
    have HB1 := Lib.hid hb1
    clear hb1
    go_wp2_with fail
    refine (HE2.out _ HB1.out).mono ?_
    rintro e w2 ⟨rfl, hb2⟩
    have HB2 := Lib.hid (HB1.out.trans (hb2.mono HB1.out.size))
    clear hb2
    go_wp2_with (go_at_call 12; refine (qlnum_any _ _).mono ?_; rintro e w' ⟨rfl, rfl⟩)
    refine (HD.out _).mono ?_
    rintro e w3 ⟨⟨a3, c3, rfl, hs3⟩, hb3⟩
    have HB3 := Lib.hid (HB2.out.trans (hb3.mono HB2.out.size))
    have C4 := rSame_any _ _ l l w3 hs3 (HSV.out.keep HB3.out (Nat.le_refl _)) hl hl
    rw [hlz] at C4
    have HS4 := Lib.hid C4
    clear hb3 hs3 C4
    go_wp2_with (first | (go_at_call 14; refine HS4.out.mono ?_; rintro e w4 ⟨rfl, hb4⟩; have hbx := HB3.out.trans (hb4.mono HB3.out.size)) | (go_at_call 12; refine (qlnum_any _ _).mono ?_; rintro e w' ⟨rfl, rfl⟩) | (go_at_call 9; refine (HW.out _ hbx).mono ?_; rintro e w' ⟨rfl, hb⟩))
    go_ret
    exact ⟨rfl, hbx.trans (hb.mono hbx.size)⟩
  · clear hn1
    go_enter Tryz.func3, Tryz.ntmps3
    go_wp2_with (go_at_call 8; refine HF1.out.mono ?_; rintro e w' ⟨rfl, rfl⟩)
    refine (HE1.out _ (Below.refl _ _)).mono ?_
    rintro e w1 ⟨rfl, hb1⟩
    have HB1 := Lib.hid hb1
    clear hb1
    go_wp2_with fail
    refine (HE2.out _ HB1.out).mono ?_
    rintro e w2 ⟨rfl, hb2⟩
    have HB2 := Lib.hid (HB1.out.trans (hb2.mono HB1.out.size))
    clear hb2
    go_wp2_with (first | (go_at_call 12; refine (qlnum_any _ _).mono ?_; rintro e w' ⟨rfl, rfl⟩) | (go_at_call 9; refine (HW.out _ HB2.out).mono ?_; rintro e w' ⟨rfl, hb⟩))
    go_ret
    exact ⟨rfl, HB2.out.trans (hb.mono HB2.out.size)⟩
end Go.Proofs.YtcedeipmboekaaaGreatDoor

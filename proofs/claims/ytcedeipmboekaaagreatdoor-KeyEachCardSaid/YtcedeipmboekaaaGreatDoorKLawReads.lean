/-
  swingbridgelaw05.KeyReads: true.
-/
import Derived.Test.YtcedeipmboekaaaGreatDoorKRef
namespace Go.Proofs.YtcedeipmboekaaaGreatDoor
open Go.RowKit

/-- what is read is laid again -/
theorem enc_decO {s : ByteArray} {vs : List Vl} (h : decO s = some vs) : (∀ v ∈ vs, InN v) ∧ encNo vs = 0 ∧ encTx vs = s ∧ vs.length ≤ 2000 := by
  unfold decO at h
  split at h
  · cases h
  · rename_i hs
    obtain ⟨e, hv⟩ := keyL_readKeys _ _ _ h
    have hz : (keyL vs).length = s.size := by rw [e, Array.length_toList]; rfl
    have h0 : firstE vs = 0 := firstE_all (fun j hj => (hv _ (List.getElem_mem hj)).c)
    have h1 : encNo vs = 0 := by unfold encNo; rw [h0]; simp; omega
    refine ⟨fun v hm => ⟨(hv v hm).i0, (hv v hm).i1, (hv v hm).u0, (hv v hm).u1⟩, h1, ?_, ?_⟩
    · unfold encTx
      rw [h1, if_pos rfl, e]
    · have hlen : ∀ l : List Vl, (∀ v ∈ l, VOk v) → l.length ≤ (keyL l).length := by
        intro l
        induction l with
        | nil => intro _; exact Nat.le_refl _
        | cons v l ih =>
          intro hl
          have h1 := ih (fun x hx => hl x (List.mem_cons_of_mem _ hx))
          obtain ⟨_, _, t, e⟩ := key_head (hl v (List.mem_cons_self ..))
          show l.length + 1 ≤ (keyB v ++ keyL l).length
          rw [List.length_append, e, List.length_cons]
          omega
      have := hlen vs hv
      omega
set_option maxRecDepth 100000 in
set_option maxHeartbeats 4000000 in
theorem keyReads_true (s : ByteArray) (w : World) (hg : HasET w) (hs : s.size ≤ 9223372036854775807) :
    Calls Tryz.prog 4 #[.string s] w fun e w' => e = .returned (.bool true) ∧ Below w.heap.size w w' := by
  have HW : Hid (∀ W, Below w.heap.size w W → Calls Tryz.prog 9 #[] W fun e w' => e = .returned (.bool true) ∧ Below W.heap.size W w') := Lib.hid (fun W hb => qworks_true W (hg.below hb hg.lt))
  have HG := Lib.hid hg
  have hgl := hg.lt
  clear hg
  by_cases h24 : s.size ≤ 2400
  · have HD1 := Lib.hid (fun W => qDecode_any s W (by omega))
    have HD2 := Lib.hid (fun W => rqDecode_any s W (by omega))
    unfold DecPostK at HD1 HD2
    cases hd : decO s with
    | none =>
      rw [hd] at HD1 HD2
      have HE1 : Hid (∀ W, Calls Tryz.prog 13 #[.string s] W fun e w' => e = .returned (.tuple #[.slice none 0 0, .int .i64 150]) ∧ Below W.heap.size W w') := HD1
      have HE2 : Hid (∀ W, Calls Tryz.prog 15 #[.string s] W fun e w' => e = .returned (.tuple #[.slice none 0 0, .int .i64 150]) ∧ Below W.heap.size W w') := HD2
      have HS := Lib.hid (fun W => rSame_any (.slice none 0 0) (.slice none 0 0) [] [] W (.inl ⟨rfl, rfl⟩) (.inl ⟨rfl, rfl⟩) (by decide) (by decide))
      rw [lists_refl] at HS
      clear hd HD1 HD2
      go_enter Tryz.func4, Tryz.ntmps4
      go_wp2_with fail
      refine (HE1.out _).mono ?_
      rintro e w1 ⟨rfl, hb1⟩
      have HB1 := Lib.hid hb1
      clear hb1
      go_wp2_with fail
      refine (HE2.out _).mono ?_
      rintro e w2 ⟨rfl, hb2⟩
      have HB2 := Lib.hid (HB1.out.trans (hb2.mono HB1.out.size))
      clear hb2
      go_wp2_with (first | (go_at_call 14; refine (HS.out _).mono ?_; rintro e w3 ⟨rfl, hb3⟩; have hbx := HB2.out.trans (hb3.mono HB2.out.size)) | (go_at_call 12; refine (qlnum_any _ _).mono ?_; rintro e w' ⟨rfl, rfl⟩) | (go_at_call 9; refine (HW.out _ hbx).mono ?_; rintro e w' ⟨rfl, hb⟩))
      go_ret
      exact ⟨rfl, hbx.trans (hb.mono hbx.size)⟩
    | some vs =>
      obtain ⟨hN, hn0, htx, hvl⟩ := enc_decO hd
      rw [hd] at HD1 HD2
      have HE1 : Hid (∀ W, Calls Tryz.prog 13 #[.string s] W fun e w' => (∃ a c, e = .returned (.tuple #[.slice a vs.length c, .int .i64 0]) ∧ SliceOf w' (.slice a vs.length c) vs) ∧ Below W.heap.size W w') := HD1
      have HE2 : Hid (∀ W, Calls Tryz.prog 15 #[.string s] W fun e w' => (∃ a c, e = .returned (.tuple #[.slice a vs.length c, .int .i64 0]) ∧ SliceOf w' (.slice a vs.length c) vs) ∧ Below W.heap.size W w') := HD2
      have HNN := Lib.hid hN
      have H0 := Lib.hid hn0
      have HTX := Lib.hid htx
      have hlz := Lib.hid (lists_refl vs)
      clear hd HD1 HD2 hN hn0 htx
      go_enter Tryz.func4, Tryz.ntmps4
      go_wp2_with fail
      refine (HE1.out _).mono ?_
      rintro e w1 ⟨⟨a1, c1, rfl, hs1⟩, hb1⟩
      have HB1 := Lib.hid hb1
      have HS1 := Lib.hid hs1
      clear hb1 hs1
      go_wp2_with fail
      refine (HE2.out _).mono ?_
      rintro e w2 ⟨⟨a2, c2, rfl, hs2⟩, hb2⟩
      have HB2 := Lib.hid (HB1.out.trans (hb2.mono HB1.out.size))
      have hs1' := HS1.out.keep hb2 (Nat.le_refl _)
      have C3 := rSame_any _ _ vs vs w2 hs1' hs2 (by omega) (by omega)
      rw [hlz.out] at C3
      have HC3 := Lib.hid C3
      have HS12 := Lib.hid hs1'
      clear hb2 hs2 hs1' C3
      go_wp2_with (first | (go_at_call 14; refine HC3.out.mono ?_; rintro e w3 ⟨rfl, hb3⟩; have HB3 := Lib.hid (HB2.out.trans (hb3.mono HB2.out.size)); have HS13 := Lib.hid (HS12.out.keep hb3 (Nat.le_refl _)); clear hb3) | (go_at_call 12; refine (qlnum_any _ _).mono ?_; rintro e w' ⟨rfl, rfl⟩))
      have C4 := qEncode_any a1 c1 vs w3 (sliceK HS13.out) HNN.out (by omega) (HG.out.below HB3.out hgl)
      rw [H0.out, HTX.out] at C4
      refine C4.mono ?_
      rintro e w4 ⟨rfl, hb4⟩
      have HB4 := Lib.hid (HB3.out.trans (hb4.mono HB3.out.size))
      clear hb4
      go_wp2_with (first | (go_at_call 12; refine (qlnum_any _ _).mono ?_; rintro e w' ⟨rfl, rfl⟩) | (go_at_call 9; refine (HW.out _ HB4.out).mono ?_; rintro e w' ⟨rfl, hb⟩))
      go_ret
      exact ⟨rfl, HB4.out.trans (hb.mono HB4.out.size)⟩
  · go_enter Tryz.func4, Tryz.ntmps4
    go_wp2_with (first | (go_at_call 9; refine (HW.out _ (Below.refl _ _)).mono ?_; rintro e w' ⟨rfl, hb⟩))
    go_ret
    exact ⟨rfl, hb⟩
end Go.Proofs.YtcedeipmboekaaaGreatDoor

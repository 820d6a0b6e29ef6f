/-
  swingbridgelaw01.ValueReads: its walk.
-/
import Derived.Test.YtifmfcaaofiboaaGreatDoorRParseW
import Derived.Test.YtifmfcaaofiboaaGreatDoorLawTexts
namespace Go.Proofs.YtifmfcaaofiboaaGreatDoor
open Go.RowKit

theorem readOf_bd (l : List UInt8) : -9223372036854775808 ≤ (readOf l).i ∧ (readOf l).i ≤ 9223372036854775807 ∧ 0 ≤ (readOf l).u ∧ (readOf l).u ≤ 18446744073709551615 := by
  unfold readOf
  split
  · exact ⟨by decide, by decide, by decide, by decide⟩
  · split
    · exact ⟨by decide, by decide, by decide, by decide⟩
    · split
      · exact ⟨by decide, by decide, by decide, by decide⟩
      · split
        · exact ⟨by show (-9223372036854775808 : Int) ≤ 0; omega, by show (0 : Int) ≤ _; omega, by show (0 : Int) ≤ 0; omega, by show (0 : Int) ≤ _; omega⟩
        · split
          · split
            · rename_i n hn
              have := numOf_in (by omega) hn
              exact ⟨by show -9223372036854775808 ≤ (0 : Int); omega, by show (0 : Int) ≤ _; omega, this.1, this.2⟩
            · exact ⟨by decide, by decide, by decide, by decide⟩
          · split
            · split
              · rename_i n hn
                have := numOf_in (by omega) hn
                exact ⟨by show _ ≤ -n; omega, by show -n ≤ _; omega, by show (0 : Int) ≤ 0; omega, by show (0 : Int) ≤ _; omega⟩
              · exact ⟨by decide, by decide, by decide, by decide⟩
            · split
              · rename_i n hn
                have := numOf_in (by omega) hn
                exact ⟨by show _ ≤ n; omega, by show n ≤ _; omega, by show (0 : Int) ≤ 0; omega, by show (0 : Int) ≤ _; omega⟩
              · exact ⟨by decide, by decide, by decide, by decide⟩
theorem parse_form (s : ByteArray) : ∃ (x : Vl) (no : Int), parseRes s.data.toList = .tuple #[.agg #[.int .i64 x.k, .int .i64 x.i, .int .u64 x.u, .string x.s], .int .i64 no] ∧ (no = 0 → chk x.k x.i x.u x.s = 0 ∧ InR x.i x.u x.s ∧ textOf x.k x.i x.u x.s = s) := by
  unfold parseRes
  by_cases hok : (readOf s.data.toList).ok = false
  · rw [if_pos hok]
    exact ⟨⟨0, 0, 0, ⟨#[]⟩⟩, 110, rfl, fun h => by cases h⟩
  · rw [if_neg hok]
    have hok' : (readOf s.data.toList).ok = true := by simpa using hok
    by_cases hc : chk (readOf s.data.toList).k (readOf s.data.toList).i (readOf s.data.toList).u (readOf s.data.toList).v = 0
    · rw [if_pos hc]
      have hb := readOf_bd s.data.toList
      have ht := read_text hok'
      have hz := (chk_fields hc).2.2.2
      refine ⟨⟨_, _, _, _⟩, 0, rfl, fun _ => ⟨hc, ⟨hb.1, hb.2.1, hb.2.2.1, hb.2.2.2, by show (readOf s.data.toList).v.size ≤ 300; omega⟩, ?_⟩⟩
      apply ba_ext
      rw [ByteArray.toList_eq, ByteArray.toList_eq]
      exact ht
    · rw [if_neg hc]
      exact ⟨⟨0, 0, 0, ⟨#[]⟩⟩, _, rfl, fun h => absurd h hc⟩

set_option maxRecDepth 100000 in
set_option maxHeartbeats 4000000 in
theorem reads_true (s : ByteArray) (w : World) (hs : s.size ≤ 9223372036854775807) (ht : HasTab w) (hg : HasET w) :
    Calls Tryz.prog 5 #[.string s] w fun e w' => e = .returned (.bool true) ∧ Below w.heap.size w w' := by
  have WK : Hid (∀ W, Below w.heap.size w W → Calls Tryz.prog 9 #[] W fun e w' => e = .returned (.bool true) ∧ Below W.heap.size W w') := Lib.hid fun W hb => works_true W (ht.below hb ht.lt) (hg.below hb hg.lt)
  by_cases hz : s.size ≤ 800
  · obtain ⟨x, no, hf, hno⟩ := parse_form s
    have c1 : ∀ W, Below w.heap.size w W → Calls Tryz.prog 19 #[.string s] W fun e w' => e = .returned (parseRes s.data.toList) ∧ Below W.heap.size W w' := fun W hb => Parse_any s W hz (hg.below hb hg.lt)
    have c2 : ∀ W, Calls Tryz.prog 20 #[.string s] W fun e w' => e = .returned (parseRes s.data.toList) ∧ Below W.heap.size W w' := fun W => rParse_any s W hz
    rw [hf] at c1 c2
    have heq : vEqB x.k x.i x.u x.s x.k x.i x.u x.s = true := by simp [vEqB]
    have hev := fun W => run_neq_val x.k x.i x.u x.s x.k x.i x.u x.s W
    simp only [heq, Bool.not_true] at hev
    have C1 := Lib.hid c1
    have C2 := Lib.hid c2
    by_cases hn0 : no = 0
    · obtain ⟨hc, hr, htx⟩ := hno hn0
      have c3 : ∀ W, Below w.heap.size w W → Calls Tryz.prog 17 #[.agg #[.int .i64 x.k, .int .i64 x.i, .int .u64 x.u, .string x.s]] W fun e w' => e = .returned (.tuple #[.string s, .int .i64 0]) ∧ Below W.heap.size W w' := fun W hb => by
        have C := Text_any x.k x.i x.u x.s W hr (ht.below hb ht.lt) (hg.below hb hg.lt)
        unfold textRes at C
        rw [if_pos hc, htx] at C
        exact C
      have C3 := Lib.hid c3
      subst hn0
      clear c1 c2 c3 hc hr htx hno hf ht hg heq
      go_enter Tryz.func5, Tryz.ntmps5
      go_wp2_with fail
      refine (C1.out _ (Below.refl _ _)).mono ?_
      rintro e w1 ⟨rfl, hb1⟩
      have HB1 := Lib.hid hb1
      have h1 := hb1.size
      clear hb1
      go_wp2_with fail
      refine (C2.out _).mono ?_
      rintro e w2 ⟨rfl, hb2⟩
      have hx2 : Boxed4 w2 w1.heap.size x := Boxed4.keep (W := w1.alloc (.cells #[.int .i64 x.k, .int .i64 x.i, .int .u64 x.u, .string x.s] 25)) ⟨by simp [go_sem], by simp [go_sem], by simp [go_sem], by simp [go_sem]⟩ hb2
      have h2 : w1.heap.size < w2.heap.size := World.block_lt_of_cell? w2 _ hx2.c0
      have HB2 := Lib.hid ((HB1.out.alloc h1 (.cells #[.int .i64 x.k, .int .i64 x.i, .int .u64 x.u, .string x.s] 25)).trans (hb2.mono (by simp; omega)))
      obtain ⟨x0, x1, x2, x3⟩ := hx2
      clear hb2
      go_wp2_with (first | (go_at_call 10; refine (num_any _ _).mono ?_; rintro e w' ⟨rfl, rfl⟩) | (go_at_call 17; refine (C3.out _ (HB2.out.alloc (by omega) _)).mono ?_; rintro e w3 ⟨rfl, hb3⟩; have hb3' := (HB2.out.alloc (show w.heap.size ≤ w2.heap.size by omega) _).trans (hb3.mono (by simp; omega)); clear hb3) | (go_at_call 9; refine (WK.out _ hb3').mono ?_; rintro e w4 ⟨rfl, hb4⟩))
      go_ret
      exact ⟨rfl, hb3'.trans (hb4.mono hb3'.size)⟩
    · have hnb : (no != 0) = true := by simpa using hn0
      clear c1 c2 hno hn0 hf ht hg heq
      go_enter Tryz.func5, Tryz.ntmps5
      go_wp2_with fail
      refine (C1.out _ (Below.refl _ _)).mono ?_
      rintro e w1 ⟨rfl, hb1⟩
      have HB1 := Lib.hid hb1
      have h1 := hb1.size
      clear hb1
      go_wp2_with fail
      refine (C2.out _).mono ?_
      rintro e w2 ⟨rfl, hb2⟩
      have hx2 : Boxed4 w2 w1.heap.size x := Boxed4.keep (W := w1.alloc (.cells #[.int .i64 x.k, .int .i64 x.i, .int .u64 x.u, .string x.s] 25)) ⟨by simp [go_sem], by simp [go_sem], by simp [go_sem], by simp [go_sem]⟩ hb2
      have h2 : w1.heap.size < w2.heap.size := World.block_lt_of_cell? w2 _ hx2.c0
      have HB2 := Lib.hid ((HB1.out.alloc h1 (.cells #[.int .i64 x.k, .int .i64 x.i, .int .u64 x.u, .string x.s] 25)).trans (hb2.mono (by simp; omega)))
      obtain ⟨x0, x1, x2, x3⟩ := hx2
      clear hb2
      go_wp2_with (first | (go_at_call 10; refine (num_any _ _).mono ?_; rintro e w' ⟨rfl, rfl⟩) | (go_at_call 9; refine (WK.out _ (HB2.out.alloc (by omega) _)).mono ?_; rintro e w4 ⟨rfl, hb4⟩))
      go_ret
      exact ⟨rfl, (HB2.out.alloc (show w.heap.size ≤ w2.heap.size by omega) _).trans (hb4.mono (by simp; omega))⟩
  · have hz' : 800 < s.size := by omega
    clear ht hg
    go_enter Tryz.func5, Tryz.ntmps5
    go_wp2_with (first | (go_at_call 9; refine (WK.out _ (Below.refl _ _)).mono ?_; rintro e w4 ⟨rfl, hb4⟩))
    go_ret
    exact ⟨rfl, hb4⟩
end Go.Proofs.YtifmfcaaofiboaaGreatDoor

/-
  swingbridgeref02.Fixed.
-/
import Derived.Test.YtdbjdebffngngaaORefB
import Derived.Deep.OwnRows
namespace Go.Proofs.Ytdbjdebffngngaa
open Go.RowKit

theorem tell_pad (n : Nat) (hn : n < 18446744073709551616) : ∀ m, sizeOf8 n ≤ m → tellL n m = List.replicate (m - sizeOf8 n) 0 ++ tellL n (sizeOf8 n)
  | 0, h => by
    have : sizeOf8 n = 0 := by omega
    rw [this]; rfl
  | m + 1, h => by
    by_cases he : sizeOf8 n = m + 1
    · rw [he, Nat.sub_self]; rfl
    · have ih := tell_pad n hn m (by omega)
      have h0 : byteAt n m = 0 := by
        apply UInt8.toNat_inj.1
        rw [byteAt_toNat, Nat.div_eq_of_lt (Nat.lt_of_lt_of_le (sizeOf8_lt n hn) (Nat.pow_le_pow_right (by decide) (by omega)))]
        rfl
      show byteAt n m :: tellL n m = _
      rw [h0, ih, show m + 1 - sizeOf8 n = (m - sizeOf8 n) + 1 by omega, List.replicate_succ]
      rfl
theorem own_zeros (W : World) (B k : Nat) (hB : B ≤ W.heap.size) (hk : k ≤ 8) : (W.alloc (.cells (madeCells #[.int .u8 0] k) 5)).ownsRow B 5 1 (.slice (some ⟨W.heap.size, 0, none⟩) k k) k (u8s (List.replicate k 0)) := by
  refine ⟨by simp [u8s], .inr ⟨W.heap.size, k, _, rfl, hB, heap_alloc_new W _, Nat.le_refl _, by unfold maxLen; omega, ?_, ?_⟩⟩
  · rw [size_madeCells]; omega
  · rw [toList_madeCells_one, List.take_of_length_le (by simp)]
    simp [u8s]
set_option maxHeartbeats 1000000 in
theorem rFixed_any (n : Nat) (many : Int) (w : World) (hn : n < 18446744073709551616) :
    Calls Try.prog 20 #[.int .u64 n, .int .i64 many] w fun e w' => ∃ v, e = .returned (.tuple #[v, .int .i64 (fixNo n many)]) ∧ BytesOf w' v (fixL n many) ∧ Below w.heap.size w w' := by
  by_cases h1 : many < 1
  · have hno : fixNo n many = 2 := by unfold fixNo; rw [if_pos (.inl h1)]
    have hl : fixL n many = [] := by unfold fixL; rw [hno]; rfl
    rw [hno, hl]
    clear hno hl
    go_enter Try.func20, Try.ntmps20
    go_wp2
    go_ret2
    exact ⟨_, rfl, .inl ⟨rfl, rfl⟩, Below.refl _ _⟩
  · by_cases h8 : 8 < many
    · have hno : fixNo n many = 2 := by unfold fixNo; rw [if_pos (.inr h8)]
      have hl : fixL n many = [] := by unfold fixL; rw [hno]; rfl
      rw [hno, hl]
      clear hno hl
      go_enter Try.func20, Try.ntmps20
      go_wp2
      go_ret2
      exact ⟨_, rfl, .inl ⟨rfl, rfl⟩, Below.refl _ _⟩
    · obtain ⟨m, rfl⟩ := Int.eq_ofNat_of_zero_le (show 0 ≤ many by omega)
      have C := high_any n n (Nat.le_refl _) hn w
      obtain ⟨k, hk⟩ : ∃ k, sizeOf8 n = k := ⟨_, rfl⟩
      have hlen := tellL_length n (sizeOf8 n)
      have hpad := tell_pad n hn m
      unfold OwnBytes at C
      rw [hk] at C hlen hpad
      generalize hL : tellL n k = L at C hlen hpad
      by_cases h4 : (m : Int) < k
      · have hno : fixNo n m = 4 := by unfold fixNo; rw [if_neg (by omega), hk, if_pos h4]
        have hl : fixL n m = [] := by unfold fixL; rw [hno]; rfl
        rw [hno, hl]
        have hlk : (m : Int) < L.length := by omega
        have HC := Lib.hid C
        clear hno hl hk hlen hpad hL C hn h4
        go_enter Try.func20, Try.ntmps20
        go_wp2_with fail
        refine HC.out.mono ?_
        rintro e w1 ⟨v, rfl, hown, hb⟩
        obtain ⟨oa, cap, rfl, _⟩ := (BytesOf.own hown).at
        clear hown
        go_wp2_with fail
        go_ret2
        exact ⟨_, rfl, .inl ⟨rfl, rfl⟩, hb⟩
      · have hno : fixNo n m = 0 := by unfold fixNo; rw [if_neg (by omega), hk, if_neg h4]
        have hl : fixL n m = List.replicate (m - L.length) 0 ++ L := by
          have h0 := hpad (by omega)
          unfold fixL; rw [hno, if_pos rfl, Int.toNat_natCast, h0, hlen]
        rw [hno, hl]
        have hlk : L.length ≤ m := by omega
        have HC := Lib.hid C
        clear hno hl hk hlen hpad hL C hn h4
        obtain ⟨K, hK⟩ : ∃ K, K = m - L.length := ⟨_, rfl⟩
        rw [← hK]
        have hsub : (m : Int) - (L.length : Int) = (K : Int) := by omega
        have hK8 : K ≤ 8 := by omega
        have hL8 : L.length ≤ 8 := by omega
        have HOZ := Lib.hid own_zeros
        clear hK
        have hmk : ∀ W, (Instr.makeSlice 23 (.int .i64 (K : Int)) (.int .i64 (K : Int))).run Try.prog W = .ok (.slice (some ⟨W.heap.size, 0, none⟩) K K) (W.alloc (.cells (madeCells #[.int .u8 0] K) 5)) :=
          run_make_row' 23 5 (.int .u8 0) 1 Try.underlying23 infoU8 rfl .i64 .i64 K (by omega) (by omega)
        go_enter Try.func20, Try.ntmps20
        go_wp2_with fail
        refine HC.out.mono ?_
        rintro e w1 ⟨v, rfl, hown, hb⟩
        have HV := Lib.hid (BytesOf.own hown)
        obtain ⟨oa, cap, rfl, _⟩ := HV.out.at
        have hbs := hb.size
        have HB := Lib.hid hb
        clear hown hb
        go_wp2_with (first | (at_builtin; refine wpList_append_bytes rfl _ _ rfl w.heap.size _ (.slice oa L.length cap) K (List.replicate K 0) L rfl rfl (HOZ.out w1 w.heap.size K hbs hK8) (by simp) (HV.out.keep ((Below.refl _ _).alloc (Nat.le_refl _) _) (Nat.le_refl _)) ?c1 ?c2 ?_))
        case c1 => omega
        case c2 => simp; omega
        intro v2 w2 hown2 hg2
        have hb2 : Below w.heap.size w w2 := (HB.out.alloc hbs _).grown hg2 (by simp; omega) (fun x hx => by cases hx; exact hbs)
        have HF := Lib.hid (And.intro hown2 hb2)
        clear hown2 hg2 hb2
        go_wp2
        go_ret2
        refine ⟨_, rfl, BytesOf.own (B := w.heap.size) ?_, HF.out.2⟩
        have h := HF.out.1
        rw [List.length_append, List.length_replicate]
        exact h
end Go.Proofs.Ytdbjdebffngngaa

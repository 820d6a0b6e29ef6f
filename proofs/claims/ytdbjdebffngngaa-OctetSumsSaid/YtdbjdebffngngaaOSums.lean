/-
  swingbridgelaw02.OctetSums: its walk.
-/
import Derived.Test.YtdbjdebffngngaaOFixR
import Derived.Test.YtdbjdebffngngaaONumbers
namespace Go.Proofs.Ytdbjdebffngngaa
open Go.RowKit

def rf1 (l : List UInt8) : Nat := if 1 ≤ l.length ∧ l.length ≤ 8 then valOf l 0 else 0
def rf2 (l : List UInt8) : Int := if 1 ≤ l.length ∧ l.length ≤ 8 then 0 else 2
theorem rf_eq (l : List UInt8) : (if 1 ≤ l.length ∧ l.length ≤ 8 then Value.tuple #[.int .u64 (valOf l 0 : Nat), .int .i64 0] else .tuple #[.int .u64 0, .int .i64 2]) = .tuple #[.int .u64 (rf1 l), .int .i64 (rf2 l)] := by
  unfold rf1 rf2
  split <;> rfl
theorem fix_back {n : Nat} {many : Int} (hn : n < 18446744073709551616) (h : fixNo n many = 0) : rf1 (fixL n many) = n ∧ rf2 (fixL n many) = 0 := by
  unfold fixL
  rw [if_pos h]
  unfold fixNo at h
  split at h
  · cases h
  · rename_i h1
    split at h
    · cases h
    · rename_i h2
      have hl := tellL_length n many.toNat
      unfold rf1 rf2
      rw [hl, if_pos (by omega), if_pos (by omega)]
      refine ⟨?_, rfl⟩
      rw [valOf_tell, Nat.mod_eq_of_lt ((sizeOf8_le_iff n _ hn).1 (by omega))]
      omega

theorem fixL_len (n : Nat) (many : Int) : (fixL n many).length ≤ 8 := by
  unfold fixL
  by_cases h : fixNo n many = 0
  · rw [if_pos h, tellL_length]
    unfold fixNo at h
    split at h
    · cases h
    · omega
  · rw [if_neg h]; simp
set_option maxRecDepth 100000 in
set_option maxHeartbeats 1000000 in
theorem sums_works (n : Nat) (many : Int) (vb : Value) (b : List UInt8) (cut : Int) (w : World) (hv : BytesAt w vb b) (hb : b.length ≤ 9223372036854775807) (h : 300 < b.length) :
    Calls Try.prog 6 #[.int .u64 n, .int .i64 many, vb, .int .i64 cut] w fun e w' => e = .returned (.bool true) ∧ Below w.heap.size w w' := by
  obtain ⟨oa, cap, rfl, _, hv⟩ := hv
  clear hv
  have HW := Lib.hid works_true
  go_enter Try.func6, Try.ntmps6
  go_wp2_with (first | (go_at_call 8; refine (HW.out _).mono ?_; rintro e w' ⟨rfl, hb1⟩))
  go_ret
  exact ⟨rfl, hb1⟩

theorem elem_size (W : World) : (sizeOf (Try.prog.elem 23)).run Try.prog W = .ok 1 W := by kernel_rfl
theorem elem_is : Try.prog.underlying 23 = some (.slice (Try.prog.elem 23)) := by kernel_rfl
theorem sl_h (oa : Option Addr) (n cap t : Nat) (W : World) (h : t ≤ cap) : (Instr.sliceAt 23 (.slice oa n cap) none (some (.int .i64 (t : Int))) none).run Try.prog W = .ok (sliced oa 0 t cap 1) W := by
  rw [run_sliceAt_slice W 23 _ _ _ _ elem_is, run_slice_h W 23 oa n cap elem_is .i64 t (by omega) (by omega), elem_size, Int.toNat_natCast]
  rfl
theorem sl_l (oa : Option Addr) (n cap t : Nat) (W : World) (h : t ≤ n) : (Instr.sliceAt 23 (.slice oa n cap) (some (.int .i64 (t : Int))) none none).run Try.prog W = .ok (sliced oa t n cap 1) W := by
  rw [run_sliceAt_slice W 23 _ _ _ _ elem_is, run_slice_l W 23 oa n cap elem_is .i64 t (by omega) (by omega), elem_size, Int.toNat_natCast]
  rfl
theorem sliced_at {w : World} {oa : Option Addr} {cap i k : Nat} {l : List UInt8} (h : BytesAt w (.slice oa l.length cap) l) (hi : i ≤ k) (hk : k ≤ l.length) : BytesAt w (sliced oa i k cap 1) ((l.drop i).take (k - i)) := by
  have h' := h
  obtain ⟨_, _, he, hcap, _⟩ := h'
  cases he
  exact h.cut (by omega) _ (by rw [Nat.mul_one]) (cap - i) (by omega)
theorem row_two {W : World} {v u : Value} {l m : List UInt8} (h : BytesAt W v l) (h' : BytesAt W u m) (t : TypeId) : RowsAt (W.alloc (.cells #[v, u] t)) (.slice (some ⟨W.heap.size, 0, none⟩) 2 2) [(v, l), (u, m)] := by
  have hb := (Below.refl W.heap.size W).alloc (Nat.le_refl _) (.cells #[v, u] t)
  refine ⟨_, 2, rfl, fun j hj => ⟨_, rfl, ?_, ?_⟩⟩
  · rcases (show j = 0 ∨ j = 1 by simp at hj; omega) with rfl | rfl <;> simp [go_sem]
  · rcases (show j = 0 ∨ j = 1 by simp at hj; omega) with rfl | rfl
    · exact h.keep hb (Nat.le_refl _)
    · exact h'.keep hb (Nat.le_refl _)
theorem sum_two {W : World} {v u : Value} {l m : List UInt8} {t : TypeId} {n K : Nat} (h : BytesAt W v l) (h' : BytesAt W u m) (hl : (l ++ m).length ≤ 300) (hn : W.heap.size = n) (hK : crc (l ++ m) = K) :
    Calls Try.prog 23 #[.slice (some ⟨n, 0, none⟩) 2 2] (W.alloc (.cells #[v, u] t)) fun e w' => e = .returned (.int .u32 (K : Int)) ∧ W.alloc (.cells #[v, u] t) = w' := by
  subst hn hK
  rw [List.length_append] at hl
  refine (Sum_any _ _ _ (row_two h h' t) (by simp) (by simp; omega)).mono ?_
  rintro e w' ⟨rfl, rfl⟩
  exact ⟨by simp [catL], rfl⟩
theorem sum_one' {W : World} {v : Value} {l : List UInt8} {t : TypeId} {n K : Nat} (h : BytesAt W v l) (hl : l.length ≤ 300) (hn : W.heap.size = n) (hK : crc l = K) :
    Calls Try.prog 23 #[.slice (some ⟨n, 0, none⟩) 1 1] (W.alloc (.cells #[v] t)) fun e w' => e = .returned (.int .u32 (K : Int)) ∧ W.alloc (.cells #[v] t) = w' := by
  subst hn hK
  refine (Sum_any _ _ _ (row_one h t) (by simp) (by simp; omega)).mono ?_
  rintro e w' ⟨rfl, rfl⟩
  exact ⟨by simp [catL], rfl⟩
set_option maxRecDepth 100000 in
set_option maxHeartbeats 16000000 in
theorem sums_deep (n : Nat) (many : Int) (vb : Value) (b : List UInt8) (cut : Int) (w : World) (hn : n < 18446744073709551616) (hv : BytesOf w vb b) (h : b.length ≤ 300) (hc0 : -9223372036854775808 ≤ cut) (hc1 : cut ≤ 9223372036854775807) :
    Calls Try.prog 6 #[.int .u64 n, .int .i64 many, vb, .int .i64 cut] w fun e w' => e = .returned (.bool true) ∧ Below w.heap.size w w' := by
  have HW := Lib.hid works_true
  have HF := Lib.hid (Fixed_any n many · hn)
  have HG := Lib.hid (rFixed_any n many · hn)
  have hbk := fun h => fix_back (n := n) (many := many) hn h
  have HV := Lib.hid hv
  obtain ⟨oa, cap, rfl, hcap, _⟩ := hv.at
  have A1 : ∀ W v l, BytesAt W v l → l.length ≤ 1000000 → Calls Try.prog 21 #[v] W fun e w' => e = .returned (.tuple #[.int .u64 (rf1 l), .int .i64 (rf2 l)]) ∧ W = w' := fun W v l h hl => by rw [← rf_eq]; exact ReadFixed_any v l W h hl
  have A2 : ∀ W v l, BytesAt W v l → l.length ≤ 1000000 → Calls Try.prog 22 #[v] W fun e w' => e = .returned (.tuple #[.int .u64 (rf1 l), .int .i64 (rf2 l)]) ∧ W = w' := fun W v l h hl => by rw [← rf_eq]; exact rReadFixed_any v l W h hl
  have R1 : ∀ W, Below w.heap.size w W → Calls Try.prog 21 #[.slice oa b.length cap] W fun e w' => e = .returned (.tuple #[.int .u64 (rf1 b), .int .i64 (rf2 b)]) ∧ W = w' := fun W hb => A1 W _ b (HV.out.keep hb (Nat.le_refl _)).at (by omega)
  have R2 : ∀ W, Below w.heap.size w W → Calls Try.prog 22 #[.slice oa b.length cap] W fun e w' => e = .returned (.tuple #[.int .u64 (rf1 b), .int .i64 (rf2 b)]) ∧ W = w' := fun W hb => A2 W _ b (HV.out.keep hb (Nat.le_refl _)).at (by omega)
  generalize rf1 b = x1 at R1 R2
  generalize rf2 b = x2 at R1 R2
  have HA1 := Lib.hid A1
  have HR1 := Lib.hid R1
  have HR2 := Lib.hid R2
  have hfl := fixL_len n many
  generalize fixL n many = L at HF HG hbk hfl
  generalize fixNo n many = E at HF HG hbk
  have HBK := Lib.hid hbk
  clear A1 A2 R1 R2 hv hn hbk
  go_enter Try.func6, Try.ntmps6
  go_wp2_with fail
  refine (HF.out _).mono ?_
  rintro e w1 ⟨v1, rfl, hv1, hb1⟩
  have HV1 := Lib.hid hv1
  have HB1 := Lib.hid hb1
  clear hv1 hb1
  go_wp2_with fail
  refine (HG.out _).mono ?_
  rintro e w2 ⟨v2, rfl, hv2, hb2⟩
  have hcv1 := bytes_string (HV1.out.keep hb2 (Nat.le_refl _))
  have hcv2 := bytes_string hv2.at
  have HB2 := Lib.hid (held_trans HB1.out hb2)
  have HV1' := Lib.hid (HV1.out.keep hb2 (Nat.le_refl _))
  clear hv2 hb2
  generalize (⟨L.toArray⟩ : ByteArray) = str at hcv1 hcv2
  go_wp2_with fail
  refine (HR1.out _ HB2.out).mono ?_
  rintro e w' ⟨rfl, rfl⟩
  go_wp2_with fail
  refine (HR2.out _ HB2.out).mono ?_
  rintro e w' ⟨rfl, rfl⟩
  go_upto_region 9 with (go_at_call 13; refine (num_id _ _).mono ?_; rintro e w' ⟨rfl, rfl⟩)
  go_cut [69] (fun s wx => s = .bool (E == 0) ∧ wx = w2)
  case first =>
    go_wp2_with fail
    go_meet
    case rel => exact ⟨rfl, rfl⟩
  case rest =>
    obtain ⟨rfl, rfl⟩ := hcut
    go_upto_if 69 with (fail)
    go_cut [8] (fun s wx => s = .bool false ∧ wx = wc)
    case first =>
      by_cases hE : E = 0
      · have hE' : (E == 0) = true := by simpa using hE
        obtain ⟨hk1, hk2⟩ := HBK.out hE
        have hC := HA1.out wc v1 L HV1'.out (by omega)
        rw [hk1, hk2] at hC
        have HC := Lib.hid hC
        clear hk1 hk2 hC hE
        go_wp2_with (first | (go_at_call 13; refine (num_id _ _).mono ?_; rintro e w' ⟨rfl, rfl⟩) | (go_at_call 21; refine HC.out.mono ?_; rintro e w' ⟨rfl, rfl⟩))
        go_meet
        case rel => exact ⟨rfl, rfl⟩
      · have hE' : (E == 0) = false := by simpa using hE
        clear hE
        go_wp2_with fail
        go_meet
        case rel => exact ⟨rfl, rfl⟩
    case rest =>
      obtain ⟨rfl, rfl⟩ := hcut
      clear HF HG HA1 HR1 HR2 HV1 HV1' HBK HB1 hcv1 hcv2
      obtain ⟨K, hK⟩ : ∃ K, crc b = K := ⟨_, rfl⟩
      obtain ⟨t, ht⟩ := Int.eq_ofNat_of_zero_le (show 0 ≤ min (b.length : Int) (max 0 cut) by omega)
      have htl : t ≤ b.length := by omega
      have hb : BytesAt wc (.slice oa b.length cap) b := (HV.out.keep HB2.out (Nat.le_refl _)).at
      have hs1 := sliced_at (i := 0) (k := t) hb (by omega) htl
      have hs2 := sliced_at (i := t) (k := b.length) hb htl (Nat.le_refl _)
      have hz1 := fun W => sl_h oa b.length cap t W (by omega)
      have hz2 := fun W => sl_l oa b.length cap t W htl
      obtain ⟨o1, n1, c1, e1⟩ : ∃ o n c, sliced oa 0 t cap 1 = .slice o n c := ⟨_, _, _, rfl⟩
      obtain ⟨o2, n2, c2, e2⟩ : ∃ o n c, sliced oa t b.length cap 1 = .slice o n c := ⟨_, _, _, rfl⟩
      rw [e1] at hs1
      rw [e2] at hs2
      simp only [e1] at hz1
      simp only [e2] at hz2
      have hcat : (List.drop 0 b).take (t - 0) ++ (List.drop t b).take (b.length - t) = b := by
        have h1 : (List.drop t b).take (b.length - t) = List.drop t b := List.take_of_length_le (by simp)
        rw [List.drop_zero, Nat.sub_zero, h1, List.take_append_drop]
      have hk := Below.refl wc.heap.size wc
      have hS1 := sum_two (W := wc.drew) (t := 23) (n := wc.heap.size) (K := K) (hs1.keep hk.drew (Nat.le_refl _)) (hs2.keep hk.drew (Nat.le_refl _)) (by rw [hcat]; omega) rfl (by rw [hcat]; exact hK)
      have hS2 := sum_one' (W := wc.drew.alloc (.cells #[.slice o1 n1 c1, .slice o2 n2 c2] 23)) (t := 23) (n := wc.heap.size + 1) (K := K) (hb.keep (hk.drew.alloc (Nat.le_refl _) _) (Nat.le_refl _)) (by omega) (by simp) hK
      have hRS : ∀ W, Below wc.heap.size wc W → Calls Try.prog 24 #[.slice oa b.length cap] W fun e w' => e = .returned (.int .u32 (K : Int)) ∧ W = w' := fun W hb' => by
        rw [← hK]; exact rSum_any _ b W (hb.keep hb' (Nat.le_refl _)) (by omega)
      have HS1 : Hid (Calls Try.prog 23 #[.slice (some ⟨wc.heap.size, 0, none⟩) 2 2] (wc.alloc (.cells #[.slice o1 n1 c1, .slice o2 n2 c2] 23)).drew fun e w' => e = .returned (.int .u32 (K : Int)) ∧ (wc.alloc (.cells #[.slice o1 n1 c1, .slice o2 n2 c2] 23)).drew = w') := Lib.hid hS1
      have HS2 : Hid (Calls Try.prog 23 #[.slice (some ⟨wc.heap.size + 1, 0, none⟩) 1 1] ((wc.alloc (.cells #[.slice o1 n1 c1, .slice o2 n2 c2] 23)).alloc (.cells #[.slice oa b.length cap] 23)).drew fun e w' => e = .returned (.int .u32 (K : Int)) ∧ ((wc.alloc (.cells #[.slice o1 n1 c1, .slice o2 n2 c2] 23)).alloc (.cells #[.slice oa b.length cap] 23)).drew = w') := Lib.hid hS2
      have HRS := Lib.hid hRS
      clear hS1 hS2 hRS hs1 hs2 hcat hb hK e1 e2
      go_wp2_with fail
      go_region_held3 (fun w' => Below wc.heap.size wc w') (first | assumption | exact Below.drew (Below.refl _ _) | exact Below.drew (by assumption) | exact held_trans (by assumption) hb6 | go_grown)
        (first | (go_at_call 23; with_reducible refine HS1.out.mono ?_; rintro e w6 ⟨rfl, rfl⟩) | (go_at_call 23; with_reducible refine HS2.out.mono ?_; rintro e w6 ⟨rfl, rfl⟩) | (go_at_call 24; refine (HRS.out _ (by first | assumption | (simp only [*]; done) | go_grown)).mono ?_; rintro e w6 ⟨rfl, rfl⟩) | (go_at_call 8; refine (HW.out _).mono ?_; rintro e w6 ⟨rfl, hb6⟩))
      all_goals go_wp2_with fail
      all_goals go_ret
      all_goals exact ⟨rfl, held_trans HB2.out (by assumption)⟩
theorem sums_true (n : Nat) (many : Int) (vb : Value) (b : List UInt8) (cut : Int) (w : World) (hn : n < 18446744073709551616) (hv : BytesOf w vb b) (hb : b.length ≤ 9223372036854775807) (hc0 : -9223372036854775808 ≤ cut) (hc1 : cut ≤ 9223372036854775807) :
    Calls Try.prog 6 #[.int .u64 n, .int .i64 many, vb, .int .i64 cut] w fun e w' => e = .returned (.bool true) ∧ Below w.heap.size w w' := by
  by_cases h : b.length ≤ 300
  · exact sums_deep n many vb b cut w hn hv h hc0 hc1
  · exact sums_works n many vb b cut w hv.at hb (by omega)
end Go.Proofs.Ytdbjdebffngngaa

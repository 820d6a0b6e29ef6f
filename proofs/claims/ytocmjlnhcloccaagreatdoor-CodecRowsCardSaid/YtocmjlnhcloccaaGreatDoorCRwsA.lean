/-
  the law of rows.
-/
import Derived.Test.YtocmjlnhcloccaaGreatDoorSSch
import Derived.Test.YtocmjlnhcloccaaGreatDoorCEnc
import Derived.Test.YtocmjlnhcloccaaGreatDoorCLawHolds
namespace Go.Proofs.YtocmjlnhcloccaaGreatDoor
open Go.RowKit

set_option maxRecDepth 100000 in
set_option maxHeartbeats 4000000 in
theorem rRow_any (p : SchV) (S : Sch) (oa : Option Addr) (ca : Nat) (row : List Vl) (w : World) (hnm : ∀ c ∈ S.cols, c.n.size ≤ 9223372036854775807) (hcl : S.cols.length ≤ 1000) (hul : S.uqs.length ≤ 1000) (hkl : S.key.length ≤ 1000) (hpl : ∀ l ∈ S.uqs, l.length ≤ 1000) (hS : SchIn w p S) (_hrl : row.length ≤ 1000) (hr : ValsIn w oa row) :
    Calls Tryz.prog 30 #[.agg #[.slice p.oc S.cols.length p.cc, .slice p.ok S.key.length p.ck, .slice p.ou S.uqs.length p.cu], .slice oa row.length ca] w fun e w' => e = .returned (.int .i64 (rowN S row)) ∧ Below w.heap.size w w' := by
  have HRT := Lib.hid (fun A => rRight_any p S (w.alloc A) hnm hcl hul hkl hpl (hS.keep ((Below.refl _ _).alloc (Nat.le_refl _) _) (Nat.le_refl _)))
  have HNM := Lib.hid hnm
  have HR := Lib.hid hr
  have hcols := hS.cols
  clear hnm hS hr hpl
  obtain ⟨oc, cc, ok, ck, ou, cu⟩ := p
  simp only at hcols HRT ⊢
  have HCO := Lib.hid hcols
  clear hcols
  cases hsk : schOk S
  · have HSK := Lib.hid hsk
    have HNO := Lib.hid (show rowN S row = 2 by unfold rowN; rw [hsk]; rfl)
    clear hsk
    go_enter Tryz.func30, Tryz.ntmps30
    go_wp2_with (first | (go_at_call 19; refine (HRT.out _).mono ?_; rintro e w1 ⟨he, hb1⟩; rw [HSK.out] at he; subst he))
    go_ret
    exact ⟨by rw [HNO.out]; rfl, ((Below.refl _ _).alloc (Nat.le_refl _) _).trans (hb1.mono (by simp))⟩
  · have HOK := Lib.hid hsk
    clear hsk
    go_enter Tryz.func30, Tryz.ntmps30
    go_wp2_with fail
    refine (HRT.out _).mono ?_
    rintro e w1 ⟨he, hb1⟩
    rw [HOK.out] at he
    subst he
    have HB1 := Lib.hid (((Below.refl w.heap.size w).alloc (Nat.le_refl _) (.cells #[.slice oc S.cols.length cc, .slice ok S.key.length ck, .slice ou S.uqs.length cu] 26)).trans (hb1.mono (by simp)))
    have k0 : w1.cell? ⟨w.heap.size, 0, none⟩ = some (.slice oc S.cols.length cc) := cell_old (by simp [go_sem]) hb1
    have hs1 : w.heap.size < w1.heap.size := by have := hb1.size; simp at this; omega
    clear hb1 HRT
    by_cases hlen : row.length = S.cols.length
    · have hne : ((row.length : Int) != (S.cols.length : Int)) = false := by rw [hlen]; simp
      have HRN := Lib.hid (show rowN S row = firstFit S.cols row by unfold rowN; rw [if_pos HOK.out, if_pos hlen])
      have HLEN := Lib.hid hlen
      clear hlen
      go_wp2_with fail
      go_loopw [5] (fun i wr => ∃ k : Nat, k ≤ row.length ∧ i = .int .i64 k ∧ Hid (FFRel S.cols row k) ∧ Hid (Below w1.heap.size w1 wr)) (fun i _ => row.length - (intOf i).toNat)
      case atStart => exact ⟨0, Nat.zero_le _, rfl, Lib.hid rfl, Lib.hid (Below.refl _ _)⟩
      case round =>
        obtain ⟨k, hk, rfl, HK, HB⟩ := hrel
        have HBW := Lib.hid (HB1.out.trans (HB.out.mono HB1.out.size))
        have m0 : wr.cell? ⟨w.heap.size, 0, none⟩ = some (.slice oc S.cols.length cc) := cell_old k0 HB.out
        have hsw : w.heap.size < wr.heap.size := by have := HB.out.size; omega
        clear k0
        by_cases hlt : k < row.length
        · have hlc : k < S.cols.length := by have := HLEN.out; omega
          obtain ⟨c, hc⟩ : ∃ c, S.cols[k] = c := ⟨_, rfl⟩
          obtain ⟨v, hv⟩ : ∃ v, row[k] = v := ⟨_, rfl⟩
          obtain ⟨ac, rfl, hat⟩ := HCO.out.keep HBW.out (Nat.le_refl _) k hlc
          obtain ⟨av, rfl, hvt⟩ := HR.out.keep HBW.out (Nat.le_refl _) k hlt
          rw [hc] at hat
          rw [hv] at hvt
          have l0 : ∀ p : Later wr, p.W.cell? ⟨w.heap.size, 0, none⟩ = some (.slice (some ac) S.cols.length cc) := later_cell m0
          have l1 : ∀ p : Later wr, p.W.cell? (ac.add (k * 4)) = some (.string c.n) := later_cell hat.1
          have l2 : ∀ p : Later wr, p.W.cell? ⟨(ac.add (k * 4)).block, (ac.add (k * 4)).off + 1, none⟩ = some (.int .i64 c.t) := later_cell hat.2.1
          have l3 : ∀ p : Later wr, p.W.cell? ⟨(ac.add (k * 4)).block, (ac.add (k * 4)).off + 2, none⟩ = some (.int .i64 c.z) := later_cell hat.2.2.1
          have l4 : ∀ p : Later wr, p.W.cell? ⟨(ac.add (k * 4)).block, (ac.add (k * 4)).off + 3, none⟩ = some (.bool c.u) := later_cell hat.2.2.2
          have l5 : ∀ p : Later wr, p.W.cell? (av.add (k * 4)) = some (.int .i64 v.k) := later_cell hvt.1
          have l6 : ∀ p : Later wr, p.W.cell? ⟨(av.add (k * 4)).block, (av.add (k * 4)).off + 1, none⟩ = some (.int .i64 v.i) := later_cell hvt.2.1
          have l7 : ∀ p : Later wr, p.W.cell? ⟨(av.add (k * 4)).block, (av.add (k * 4)).off + 2, none⟩ = some (.int .u64 v.u) := later_cell hvt.2.2.1
          have l8 : ∀ p : Later wr, p.W.cell? ⟨(av.add (k * 4)).block, (av.add (k * 4)).off + 3, none⟩ = some (.string v.s) := later_cell hvt.2.2.2
          have b0 : (0 : Int) ≤ (k : Int) := by omega
          have b1 : (k : Int) < (row.length : Int) := by omega
          have b2 : (k : Int) < (S.cols.length : Int) := by omega
          clear hat hvt
          have HF : Hid (∀ W', Calls Tryz.prog 62 #[.agg #[.string c.n, .int .i64 c.t, .int .i64 c.z, .bool c.u], .agg #[.int .i64 v.k, .int .i64 v.i, .int .u64 v.u, .string v.s]] W' fun e w' => e = .returned (.int .i64 (fitN c v)) ∧ Below W'.heap.size W' w') := Lib.hid (fun W' => by
            have h := rFits_any c v W' (HNM.out c (hc ▸ List.getElem_mem hlc))
            unfold fitsN at h
            rw [if_pos (schOk_col HOK.out hlc hc)] at h
            exact h)
          by_cases h0 : fitN c v = 0
          · have HNX := Lib.hid (HK.out.next hlc hlt hc hv h0)
            rw [h0] at HF
            clear h0 hc hv
            go_wp2_with fail
            refine wp_region_later (by kernel_rfl) (by kernel_rfl) ?_
            repeat (go_big_quiet_step ((go_at_call 62; exact Calls.later (HF.out _))))
            refine wpQuiet_nil ?_
            rintro w3 ⟨⟨W3, hb3⟩, rfl⟩
            have HB3 := Lib.hid (HB.out.trans (hb3.mono HB.out.size))
            clear hb3
            go_wp2_with fail
            go_roundw
            case rel => exact ⟨k + 1, by omega, by go_num, HNX, HB3⟩
            case measure => simp [intOf]; omega
          · have HNO := Lib.hid (HRN.out.trans (HK.out.hit hlc hlt hc hv h0))
            have hne2 : (fitN c v != 0) = true := by simpa using h0
            generalize fitN c v = m at *
            clear h0 hc hv
            go_wp2_with fail
            refine wp_region_later (by kernel_rfl) (by kernel_rfl) ?_
            repeat (go_big_quiet_step ((go_at_call 62; exact Calls.later (HF.out _))))
            refine wpQuiet_nil ?_
            rintro w3 ⟨⟨W3, hb3⟩, rfl⟩
            go_wp2_with fail
            go_ret
            exact ⟨by rw [HNO.out]; rfl, HBW.out.trans (hb3.mono HBW.out.size)⟩
        · have HNO := Lib.hid (HRN.out.trans (HK.out.done (by omega)))
          go_wp2_with fail
          go_ret
          exact ⟨by rw [HNO.out]; rfl, HBW.out⟩
    · have hne : ((row.length : Int) != (S.cols.length : Int)) = true := by
        rw [bne_iff_ne]
        omega
      have HNO := Lib.hid (show rowN S row = 130 by unfold rowN; rw [if_pos HOK.out, if_neg hlen])
      clear hlen
      go_wp2_with fail
      go_ret
      exact ⟨by rw [HNO.out]; rfl, HB1.out⟩
end Go.Proofs.YtocmjlnhcloccaaGreatDoor
namespace Go.Proofs.YtocmjlnhcloccaaGreatDoor
open Go.RowKit

theorem u8b (n j : Nat) : ((byteAt n j).toNat : Int) = (n : Int) / 2 ^ (8 * j) % 256 := by
  rw [← shr_byte, show (8 * (j : Int)).toNat = 8 * j by omega]
theorem own_lays {w w' : World} {v : Value} {l : List UInt8} (h : w'.ownsRow w.heap.size 5 1 v l.length (u8s l)) (hb : Below w.heap.size w w') : LaysB w l (.returned v) w' := ⟨v, rfl, BytesOf.own h, hb⟩

set_option maxRecDepth 100000 in
set_option maxHeartbeats 1000000 in
theorem rone_null (c : Col) (v : Vl) (w : World) (h0 : v.k = 0) :
    Calls Tryz.prog 31 #[.agg #[.string c.n, .int .i64 c.t, .int .i64 c.z, .bool c.u], .agg #[.int .i64 v.k, .int .i64 v.i, .int .u64 v.u, .string v.s]] w (LaysB w (valB c v)) := by
  have HV := Lib.hid (show valB c v = [0] by unfold valB; rw [if_pos h0])
  obtain ⟨k, i, u, s⟩ := v
  simp only at h0
  subst h0
  go_enter Tryz.func31, Tryz.ntmps31
  go_wp2_with fail
  go_ret
  rw [HV.out]
  refine ⟨_, rfl, ?_, by go_grown⟩
  exact one_at _ 0 _ (by simp)
set_option maxRecDepth 100000 in
set_option maxHeartbeats 2000000 in
theorem rone1 (n : ByteArray) (z : Int) (u : Bool) (v : Vl) (w : World) (hz : szOk 1 z = true) (h0 : v.k ≠ 0) :
    Calls Tryz.prog 31 #[.agg #[.string n, .int .i64 1, .int .i64 z, .bool u], .agg #[.int .i64 v.k, .int .i64 v.i, .int .u64 v.u, .string v.s]] w (LaysB w (1 :: tellL (v.i % 18446744073709551616).toNat z.toNat)) := by
  have hzb := sz_bd hz
  have hz1 := sz_num hz (.inl rfl)
  have hz8 : 1 ≤ z ∧ z ≤ 8 := by omega
  obtain ⟨m, rfl⟩ := Int.eq_ofNat_of_zero_le hzb.1
  have hk : (v.k == 0) = false := by simpa using h0
  have hcv : IntKind.u64.wrap v.i = (((v.i % 18446744073709551616).toNat : Nat) : Int) := u64_of v.i
  obtain ⟨q, hq⟩ : ∃ q, (v.i % 18446744073709551616).toNat = q := ⟨_, rfl⟩
  rw [hq] at hcv
  rw [hq, Int.toNat_natCast]
  have HCV := Lib.hid hcv
  clear hz hz1 h0 hq hcv
  go_enter Tryz.func31, Tryz.ntmps31
  go_wp2_with fail
  rw [HCV.out]
  have hown : Hid (World.ownsRow ((((w.alloc (.cells #[.string n, .int .i64 1, .int .i64 m, .bool u] 64)).alloc (.cells #[.int .i64 v.k, .int .i64 v.i, .int .u64 v.u, .string v.s] 68)).alloc (.cells #[.int .u8 1] 5))) w.heap.size 5 1 (.slice (some ⟨w.heap.size + 1 + 1, 0, none⟩) 1 1) 1 (u8s [1])) := Lib.hid (by
    have h := own_lit ((w.alloc (.cells #[.string n, .int .i64 1, .int .i64 m, .bool u] 64)).alloc (.cells #[.int .i64 v.k, .int .i64 v.i, .int .u64 v.u, .string v.s] 68)) w.heap.size 1 (by simp; omega)
    simpa using h)
  have HB1 : Hid (Below w.heap.size w (((w.alloc (.cells #[.string n, .int .i64 1, .int .i64 m, .bool u] 64)).alloc (.cells #[.int .i64 v.k, .int .i64 v.i, .int .u64 v.u, .string v.s] 68)).alloc (.cells #[.int .u8 1] 5))) := Lib.hid (by go_grown)
  go_loopw [5, 7] (fun a i wr => ∃ (k : Nat) (x : Int) (l' : List UInt8), Hid (x + 1 = k) ∧ -1 ≤ x ∧ x < m ∧ i = .int .i64 x ∧ l'.length + k ≤ 9 ∧ Hid (l' ++ tellL q k = 1 :: tellL q m) ∧ Hid (wr.ownsRow w.heap.size 5 1 a l'.length (u8s l')) ∧ Hid (Below w.heap.size w wr)) (fun _ i _ => (intOf i + 1).toNat)
  case atStart => exact ⟨m, m - 1, [1], Lib.hid (by omega), by omega, by omega, by first | rfl | go_num, by simp; omega, Lib.hid rfl, hown, HB1⟩
  case round =>
    obtain ⟨k, x, l', HX, hx0, hx1, rfl, hlk, HL, HO, HB⟩ := hrel
    clear hown HB1
    by_cases hv : 0 ≤ x
    · obtain ⟨j, rfl⟩ := Int.eq_ofNat_of_zero_le hv
      obtain rfl : k = j + 1 := by have := HX.out; omega
      have HT := Lib.hid (tell_next HL.out)
      clear HX HL
      have hj8 : j < 8 := by omega
      go_wp2_with (at_builtin; refine wpList_append_bytes rfl _ _ rfl w.heap.size _ _ _ l' [byteAt q j] rfl rfl (HO.out.alloc _) rfl ?e0 ?e1 ?e2 ?_)
      case e0 =>
        have h := one_at wr (byteAt q j) wr.heap.size rfl
        rw [u8b] at h
        exact h
      case e1 => simp; omega
      case e2 => have := HB.out.size; simp; omega
      intro v4 w4 hown4 hg4
      have hb4 : Below w.heap.size w w4 := (HB.out.alloc HB.out.size _).grown hg4 (by have := HB.out.size; simp; omega) (fun x h => (HO.out.lt x h).1)
      have HO4 := Lib.hid (show w4.ownsRow w.heap.size 5 1 v4 (l' ++ [byteAt q j]).length (u8s (l' ++ [byteAt q j])) by rw [List.length_append]; exact hown4)
      have HB4 := Lib.hid hb4
      clear hown4 hg4 hb4
      go_wp2_with fail
      go_roundw
      case rel => exact ⟨j, (j : Int) - 1, l' ++ [byteAt q j], Lib.hid (by omega), by omega, by omega, by first | rfl | go_num, by simp; omega, HT, HO4, HB4⟩
      case measure => simp [intOf]
    · obtain rfl : k = 0 := by have := HX.out; omega
      have hd : (0 ≤ x) = False := by simpa using hv
      have hl := HL.out
      rw [show tellL q 0 = [] from rfl, List.append_nil] at hl
      subst hl
      go_wp2_with fail
      go_ret
      exact own_lays HO.out HB.out
set_option maxRecDepth 100000 in
set_option maxHeartbeats 2000000 in
theorem rone2 (n : ByteArray) (z : Int) (u : Bool) (v : Vl) (w : World) (hz : szOk 2 z = true) (h0 : v.k ≠ 0) (hu : 0 ≤ v.u) :
    Calls Tryz.prog 31 #[.agg #[.string n, .int .i64 2, .int .i64 z, .bool u], .agg #[.int .i64 v.k, .int .i64 v.i, .int .u64 v.u, .string v.s]] w (LaysB w (1 :: tellL v.u.toNat z.toNat)) := by
  have hzb := sz_bd hz
  have hz1 := sz_num hz (.inr rfl)
  have hz8 : 1 ≤ z ∧ z ≤ 8 := by omega
  obtain ⟨m, rfl⟩ := Int.eq_ofNat_of_zero_le hzb.1
  obtain ⟨vk, vi, vu, vs⟩ := v
  simp only at h0 hu ⊢
  obtain ⟨q, rfl⟩ := Int.eq_ofNat_of_zero_le hu
  rw [Int.toNat_natCast]
  have hk : (vk == 0) = false := by simpa using h0
  clear hz hz1 h0
  go_enter Tryz.func31, Tryz.ntmps31
  go_wp2_with fail
  have hown : Hid (World.ownsRow ((((w.alloc (.cells #[.string n, .int .i64 2, .int .i64 m, .bool u] 64)).alloc (.cells #[.int .i64 vk, .int .i64 vi, .int .u64 (q : Int), .string vs] 68)).alloc (.cells #[.int .u8 1] 5))) w.heap.size 5 1 (.slice (some ⟨w.heap.size + 1 + 1, 0, none⟩) 1 1) 1 (u8s [1])) := Lib.hid (by
    have h := own_lit ((w.alloc (.cells #[.string n, .int .i64 2, .int .i64 m, .bool u] 64)).alloc (.cells #[.int .i64 vk, .int .i64 vi, .int .u64 (q : Int), .string vs] 68)) w.heap.size 1 (by simp; omega)
    simpa using h)
  have HB1 : Hid (Below w.heap.size w (((w.alloc (.cells #[.string n, .int .i64 2, .int .i64 m, .bool u] 64)).alloc (.cells #[.int .i64 vk, .int .i64 vi, .int .u64 (q : Int), .string vs] 68)).alloc (.cells #[.int .u8 1] 5))) := Lib.hid (by go_grown)
  go_loopw [5, 7] (fun a i wr => ∃ (k : Nat) (x : Int) (l' : List UInt8), Hid (x + 1 = k) ∧ -1 ≤ x ∧ x < m ∧ i = .int .i64 x ∧ l'.length + k ≤ 9 ∧ Hid (l' ++ tellL q k = 1 :: tellL q m) ∧ Hid (wr.ownsRow w.heap.size 5 1 a l'.length (u8s l')) ∧ Hid (Below w.heap.size w wr)) (fun _ i _ => (intOf i + 1).toNat)
  case atStart => exact ⟨m, m - 1, [1], Lib.hid (by omega), by omega, by omega, by first | rfl | go_num, by simp; omega, Lib.hid rfl, hown, HB1⟩
  case round =>
    obtain ⟨k, x, l', HX, hx0, hx1, rfl, hlk, HL, HO, HB⟩ := hrel
    clear hown HB1
    by_cases hv : 0 ≤ x
    · obtain ⟨j, rfl⟩ := Int.eq_ofNat_of_zero_le hv
      obtain rfl : k = j + 1 := by have := HX.out; omega
      have HT := Lib.hid (tell_next HL.out)
      clear HX HL
      have hj8 : j < 8 := by omega
      go_wp2_with (at_builtin; refine wpList_append_bytes rfl _ _ rfl w.heap.size _ _ _ l' [byteAt q j] rfl rfl (HO.out.alloc _) rfl ?e0 ?e1 ?e2 ?_)
      case e0 =>
        have h := one_at wr (byteAt q j) wr.heap.size rfl
        rw [u8b] at h
        exact h
      case e1 => simp; omega
      case e2 => have := HB.out.size; simp; omega
      intro v4 w4 hown4 hg4
      have hb4 : Below w.heap.size w w4 := (HB.out.alloc HB.out.size _).grown hg4 (by have := HB.out.size; simp; omega) (fun x h => (HO.out.lt x h).1)
      have HO4 := Lib.hid (show w4.ownsRow w.heap.size 5 1 v4 (l' ++ [byteAt q j]).length (u8s (l' ++ [byteAt q j])) by rw [List.length_append]; exact hown4)
      have HB4 := Lib.hid hb4
      clear hown4 hg4 hb4
      go_wp2_with fail
      go_roundw
      case rel => exact ⟨j, (j : Int) - 1, l' ++ [byteAt q j], Lib.hid (by omega), by omega, by omega, by first | rfl | go_num, by simp; omega, HT, HO4, HB4⟩
      case measure => simp [intOf]
    · obtain rfl : k = 0 := by have := HX.out; omega
      have hd : (0 ≤ x) = False := by simpa using hv
      have hl := HL.out
      rw [show tellL q 0 = [] from rfl, List.append_nil] at hl
      subst hl
      go_wp2_with fail
      go_ret
      exact own_lays HO.out HB.out
set_option maxRecDepth 100000 in
set_option maxHeartbeats 1000000 in
theorem rone3 (n : ByteArray) (z : Int) (u : Bool) (v : Vl) (w : World) (h0 : v.k ≠ 0) :
    Calls Tryz.prog 31 #[.agg #[.string n, .int .i64 3, .int .i64 z, .bool u], .agg #[.int .i64 v.k, .int .i64 v.i, .int .u64 v.u, .string v.s]] w (LaysB w [1, UInt8.ofNat (v.i % 256).toNat]) := by
  have hk : (v.k == 0) = false := by simpa using h0
  have HC := Lib.hid (show ((UInt8.ofNat (v.i % 256).toNat).toNat : Int) = v.i % 256 by rw [UInt8.toNat_ofNat']; omega)
  have hown : Hid (World.ownsRow ((((w.alloc (.cells #[.string n, .int .i64 3, .int .i64 z, .bool u] 64)).alloc (.cells #[.int .i64 v.k, .int .i64 v.i, .int .u64 v.u, .string v.s] 68)).alloc (.cells #[.int .u8 1] 5))) w.heap.size 5 1 (.slice (some ⟨w.heap.size + 1 + 1, 0, none⟩) 1 1) 1 (u8s [1])) := Lib.hid (by
    have h := own_lit ((w.alloc (.cells #[.string n, .int .i64 3, .int .i64 z, .bool u] 64)).alloc (.cells #[.int .i64 v.k, .int .i64 v.i, .int .u64 v.u, .string v.s] 68)) w.heap.size 1 (by simp; omega)
    simpa using h)
  have HB1 : Hid (Below w.heap.size w (((w.alloc (.cells #[.string n, .int .i64 3, .int .i64 z, .bool u] 64)).alloc (.cells #[.int .i64 v.k, .int .i64 v.i, .int .u64 v.u, .string v.s] 68)).alloc (.cells #[.int .u8 1] 5))) := Lib.hid (by go_grown)
  clear h0
  go_enter Tryz.func31, Tryz.ntmps31
  go_wp2_with (at_builtin; refine wpList_append_bytes rfl _ _ rfl w.heap.size _ _ _ [1] [UInt8.ofNat (v.i % 256).toNat] rfl rfl (hown.out.alloc _) rfl ?e0 ?e1 ?e2 ?_)
  case e0 =>
    have h := one_at (((w.alloc (.cells #[.string n, .int .i64 3, .int .i64 z, .bool u] 64)).alloc (.cells #[.int .i64 v.k, .int .i64 v.i, .int .u64 v.u, .string v.s] 68)).alloc (.cells #[.int .u8 1] 5)) (UInt8.ofNat (v.i % 256).toNat) _ rfl
    rw [HC.out] at h
    simp only [World.size_alloc] at h
    exact h
  case e1 => simp
  case e2 => simp; omega
  intro v4 w4 hown4 hg4
  have hb4 : Below w.heap.size w w4 := (HB1.out.alloc HB1.out.size _).grown hg4 (by simp; omega) (fun x h => (hown.out.lt x h).1)
  have HO4 := Lib.hid (show w4.ownsRow w.heap.size 5 1 v4 [1, UInt8.ofNat (v.i % 256).toNat].length (u8s [1, UInt8.ofNat (v.i % 256).toNat]) from hown4)
  have HB4 := Lib.hid hb4
  clear hown4 hg4 hb4
  go_wp2_with fail
  go_ret
  exact own_lays HO4.out HB4.out
set_option maxRecDepth 100000 in
set_option maxHeartbeats 1000000 in
theorem rone4 (n : ByteArray) (z : Int) (u : Bool) (v : Vl) (w : World) (h0 : v.k ≠ 0) (hs : v.s.size ≤ 1000) :
    Calls Tryz.prog 31 #[.agg #[.string n, .int .i64 4, .int .i64 z, .bool u], .agg #[.int .i64 v.k, .int .i64 v.i, .int .u64 v.u, .string v.s]] w (LaysB w (1 :: txtL v.s.data.toList)) := by
  have hk : (v.k == 0) = false := by simpa using h0
  have HT := Lib.hid (fun W => rText_any v.s W (by omega))
  have hl : v.s.data.toList.length = v.s.size := by rw [Array.length_toList]; rfl
  have hlt := txt_len v.s.data.toList (by omega)
  have hown : Hid (World.ownsRow ((((w.alloc (.cells #[.string n, .int .i64 4, .int .i64 z, .bool u] 64)).alloc (.cells #[.int .i64 v.k, .int .i64 v.i, .int .u64 v.u, .string v.s] 68)).alloc (.cells #[.int .u8 1] 5))) w.heap.size 5 1 (.slice (some ⟨w.heap.size + 1 + 1, 0, none⟩) 1 1) 1 (u8s [1])) := Lib.hid (by
    have h := own_lit ((w.alloc (.cells #[.string n, .int .i64 4, .int .i64 z, .bool u] 64)).alloc (.cells #[.int .i64 v.k, .int .i64 v.i, .int .u64 v.u, .string v.s] 68)) w.heap.size 1 (by simp; omega)
    simpa using h)
  have HB1 : Hid (Below w.heap.size w (((w.alloc (.cells #[.string n, .int .i64 4, .int .i64 z, .bool u] 64)).alloc (.cells #[.int .i64 v.k, .int .i64 v.i, .int .u64 v.u, .string v.s] 68)).alloc (.cells #[.int .u8 1] 5))) := Lib.hid (by go_grown)
  generalize txtL v.s.data.toList = L at HT hlt ⊢
  have hL : L.length ≤ 2000 := by omega
  clear h0 hl hlt hs
  go_enter Tryz.func31, Tryz.ntmps31
  go_wp2_with fail
  refine (HT.out _).mono ?_
  rintro e w2 ⟨x, rfl, hx, hb2⟩
  have HX := Lib.hid (BytesOf.own hx)
  have HOW := Lib.hid (own_keep hown.out hb2)
  have HB2 := Lib.hid (HB1.out.trans (hb2.mono HB1.out.size))
  clear hx hb2
  go_wp2_with (at_builtin; refine wpList_append_bytes rfl _ _ rfl w.heap.size _ _ _ [1] L rfl rfl HOW.out rfl HX.out ?e1 ?e2 ?_)
  case e1 => omega
  case e2 => have := HB2.out.size; omega
  intro v4 w4 hown4 hg4
  have hb4 : Below w.heap.size w w4 := HB2.out.grown hg4 HB2.out.size (fun x h => (HOW.out.lt x h).1)
  have HO4 := Lib.hid (show w4.ownsRow w.heap.size 5 1 v4 (1 :: L).length (u8s (1 :: L)) from hown4)
  have HB4 := Lib.hid hb4
  clear hown4 hg4 hb4
  go_wp2_with fail
  go_ret
  exact own_lays HO4.out HB4.out
theorem rone_any (c : Col) (v : Vl) (w : World) (hz : szOk c.t c.z = true) (hu : 0 ≤ v.u) (hs : v.s.size ≤ 1000) :
    Calls Tryz.prog 31 #[.agg #[.string c.n, .int .i64 c.t, .int .i64 c.z, .bool c.u], .agg #[.int .i64 v.k, .int .i64 v.i, .int .u64 v.u, .string v.s]] w (LaysB w (valB c v)) := by
  by_cases h0 : v.k = 0
  · exact rone_null c v w h0
  · rw [valB_layV h0]
    obtain ⟨n, t, z, u⟩ := c
    simp only at hz ⊢
    rcases type_cases t with ht | rfl | rfl | rfl | rfl
    · rw [szOk_none ht] at hz; cases hz
    · exact rone1 n z u v w hz h0
    · exact rone2 n z u v w hz h0 hu
    · exact rone3 n z u v w h0
    · exact rone4 n z u v w h0 hs

/-- what the region that lays a value reads -/
def LT (W : World) (B0 : Nat) (oc : Option Addr) (nc cc : Nat) (ac av : Addr) (c : Col) (v : Vl) : Prop := W.cell? ⟨B0, 0, none⟩ = some (.slice oc nc cc) ∧ W.cell? ac = some (.string c.n) ∧ W.cell? ⟨ac.block, ac.off + 1, none⟩ = some (.int .i64 c.t) ∧ W.cell? ⟨ac.block, ac.off + 2, none⟩ = some (.int .i64 c.z) ∧ W.cell? ⟨ac.block, ac.off + 3, none⟩ = some (.bool c.u) ∧ W.cell? av = some (.int .i64 v.k) ∧ W.cell? ⟨av.block, av.off + 1, none⟩ = some (.int .i64 v.i) ∧ W.cell? ⟨av.block, av.off + 2, none⟩ = some (.int .u64 v.u) ∧ W.cell? ⟨av.block, av.off + 3, none⟩ = some (.string v.s)
theorem LT.keep {W W' : World} {B0 : Nat} {oc : Option Addr} {nc cc : Nat} {ac av : Addr} {c : Col} {v : Vl} (h : LT W B0 oc nc cc ac av c v) (hb : Below W.heap.size W W') : LT W' B0 oc nc cc ac av c v := by
  obtain ⟨h0, h1, h2, h3, h4, h5, h6, h7, h8⟩ := h
  exact ⟨cell_old h0 hb, cell_old h1 hb, cell_old h2 hb, cell_old h3 hb, cell_old h4 hb, cell_old h5 hb, cell_old h6 hb, cell_old h7 hb, cell_old h8 hb⟩
theorem LT.grown {W W' : World} {B0 : Nat} {oc : Option Addr} {nc cc : Nat} {ac av : Addr} {c : Col} {v : Vl} {row : Option Nat} (h : LT W B0 oc nc cc ac av c v) (hg : W.grownBy W' row) (n0 : some B0 ≠ row) (n1 : some ac.block ≠ row) (n2 : some av.block ≠ row) : LT W' B0 oc nc cc ac av c v := by
  obtain ⟨h0, h1, h2, h3, h4, h5, h6, h7, h8⟩ := h
  have q : ∀ {p : Addr} {x : Value}, W.cell? p = some x → some p.block ≠ row → W'.cell? p = some x := fun {p x} hp hn => by rw [hg.cell_far p (World.block_lt_of_cell? W _ hp) hn]; exact hp
  exact ⟨q h0 n0, q h1 n1, q h2 n1, q h3 n1, q h4 n1, q h5 n2, q h6 n2, q h7 n2, q h8 n2⟩
theorem valB_ne (c : Col) (v : Vl) : valB c v ≠ [] := by
  unfold valB
  split
  · simp
  · split
    · simp
    · split
      · simp
      · split <;> simp
set_option maxRecDepth 100000 in
set_option maxHeartbeats 4000000 in
theorem rEncode_any (p : SchV) (S : Sch) (oa : Option Addr) (ca : Nat) (row : List Vl) (w : World) (hnm : ∀ c ∈ S.cols, c.n.size ≤ 9223372036854775807) (hcl : S.cols.length ≤ 1000) (hul : S.uqs.length ≤ 1000) (hkl : S.key.length ≤ 1000) (hpl : ∀ l ∈ S.uqs, l.length ≤ 1000) (hS : SchIn w p S) (hrl : row.length ≤ 1000) (hr : ValsIn w oa row) (hs : ∀ v ∈ row, v.s.size ≤ 300) (hu : ∀ v ∈ row, 0 ≤ v.u ∧ v.u < 18446744073709551616) :
    Calls Tryz.prog 12 #[.agg #[.slice p.oc S.cols.length p.cc, .slice p.ok S.key.length p.ck, .slice p.ou S.uqs.length p.cu], .slice oa row.length ca] w (EncPost S row w) := by
  have HR := Lib.hid (fun W (hb : Below w.heap.size w W) => rRow_any p S oa ca row W hnm hcl hul hkl hpl (hS.keep hb (Nat.le_refl _)) hrl (hr.keep hb (Nat.le_refl _)))
  have HC := Lib.hid hS.cols
  have HV := Lib.hid hr
  have HSS := Lib.hid hs
  have HU := Lib.hid hu
  clear hnm hul hkl hpl hS hr hs hu
  cases hn : (rowN S row == 0)
  · have hne : ¬ rowN S row = 0 := by simpa using hn
    have HL := Lib.hid (show encL S row = [] by unfold encL; rw [if_neg hne])
    unfold EncPost
    generalize rowN S row = m at hn hne HR ⊢
    clear hne
    have hn2 : (m != 0) = true := by simpa using hn
    go_enter Tryz.func12, Tryz.ntmps12
    go_wp2_with fail
    refine (HR.out _ ((Below.refl _ _).alloc (Nat.le_refl _) _)).mono ?_
    rintro e w1 ⟨rfl, hb1⟩
    go_wp2_with fail
    go_ret2
    exact ⟨_, rfl, by rw [HL.out]; exact .inl ⟨rfl, rfl⟩, ((Below.refl _ _).alloc (Nat.le_refl _) _).trans (hb1.mono (by simp))⟩
  · have h0 : rowN S row = 0 := by simpa using hn
    obtain ⟨hok, hfit⟩ := rowN_fit (fun v hv => (HU.out v hv).1) h0
    have HL := Lib.hid (show encL S row = rowB S.cols row by unfold encL; rw [if_pos h0])
    unfold EncPost
    rw [h0] at HR ⊢
    have HZ := Lib.hid (cols_sz hok)
    have hlen := fitAll_len hfit
    have l1 : row.length ≤ S.cols.length := by omega
    have l2 : S.cols.length ≤ row.length := by omega
    clear hok hfit h0 hn hlen
    obtain ⟨oc, cc, ok, ck, ou, cu⟩ := p
    go_enter Tryz.func12, Tryz.ntmps12
    go_wp2_with fail
    refine (HR.out _ ((Below.refl _ _).alloc (Nat.le_refl _) _)).mono ?_
    rintro e w1 ⟨rfl, hb1⟩
    have HB1 := Lib.hid (((Below.refl w.heap.size w).alloc (Nat.le_refl _) (.cells #[.slice oc S.cols.length cc, .slice ok S.key.length ck, .slice ou S.uqs.length cu] 26)).trans (hb1.mono (by simp)))
    have HK0 := Lib.hid (show w1.cell? ⟨w.heap.size, 0, none⟩ = some (.slice oc S.cols.length cc) from cell_old (by simp [go_sem]) hb1)
    clear hb1
    go_wp2_with fail
    go_loopw [7, 8] (fun b v wr => ∃ (k : Nat), k ≤ row.length ∧ v = .int .i64 k ∧ Hid (wr.ownsRow (w.heap.size + 1) 5 1 b (rowB (S.cols.take k) (row.take k)).length (u8s (rowB (S.cols.take k) (row.take k)))) ∧ Hid (wr.cell? ⟨w.heap.size, 0, none⟩ = some (.slice oc S.cols.length cc)) ∧ Hid (Below w.heap.size w wr)) (fun _ v _ => row.length - (intOf v).toNat)
    case atStart => exact ⟨0, by omega, rfl, Lib.hid (World.ownsRow_nil _ _ _ _), HK0, HB1⟩
    case round =>
      obtain ⟨k, hk, rfl, HO, HX, HB⟩ := hrel
      have hlx : w.heap.size < wr.heap.size := World.block_lt_of_cell? wr _ HX.out
      by_cases hkv : k < row.length
      · have hkl : k < S.cols.length := by omega
        obtain ⟨c, hcc⟩ : ∃ c, S.cols[k] = c := ⟨_, rfl⟩
        obtain ⟨v, hvv⟩ : ∃ v, row[k] = v := ⟨_, rfl⟩
        obtain ⟨ac, rfl, hat⟩ := HC.out.keep HB.out (Nat.le_refl _) k hkl
        obtain ⟨av, rfl, hvt⟩ := HV.out.keep HB.out (Nat.le_refl _) k hkv
        have hcb : (ac.add (k * 4)).block < w.heap.size := by
          obtain ⟨a, e, h⟩ := HC.out k hkl
          cases e
          exact World.block_lt_of_cell? w _ h.1
        have hvb : (av.add (k * 4)).block < w.heap.size := by
          obtain ⟨a, e, h⟩ := HV.out k hkv
          cases e
          exact World.block_lt_of_cell? w _ h.1
        rw [hcc] at hat
        rw [hvv] at hvt
        have hszc := HZ.out c (hcc ▸ List.getElem_mem hkl)
        have hsv := HSS.out v (hvv ▸ List.getElem_mem hkv)
        have huv := HU.out v (hvv ▸ List.getElem_mem hkv)
        have HN := Lib.hid (rowB_take hkl hkv hcc hvv)
        have hrl2 : (rowB (S.cols.take k) (row.take k)).length ≤ 400 * 1000 := by
          have := rowB_len (S.cols.take k) (row.take k) (fun c hc => HZ.out c (List.mem_of_mem_take hc)) (fun v hv => HSS.out v (List.mem_of_mem_take hv))
          rw [List.length_take] at this
          omega
        have hvl := valB_len (v := v) hszc hsv
        have HLT := Lib.hid (show LT wr.drew w.heap.size (some ac) S.cols.length cc (ac.add (k * 4)) (av.add (k * 4)) c v from ⟨HX.out, hat.1, hat.2.1, hat.2.2.1, hat.2.2.2, hvt.1, hvt.2.1, hvt.2.2.1, hvt.2.2.2⟩)
        have HCL := Lib.hid (fun W => rone_any c v W hszc huv.1 (by omega))
        have HNE := Lib.hid (valB_ne c v)
        have hL6 := Lib.hid (show (rowB (S.cols.take k) (row.take k)).length + (valB c v).length ≤ 1000000 by omega)
        have b0 : (0 : Int) ≤ (k : Int) := by omega
        have b1 : (k : Int) < (S.cols.length : Int) := by omega
        have b2 : (k : Int) < (row.length : Int) := by omega
        have HOD := Lib.hid (show wr.drew.ownsRow (w.heap.size + 1) 5 1 _ (rowB (S.cols.take k) (row.take k)).length (u8s (rowB (S.cols.take k) (row.take k))) from HO.out)
        have hx0 := HX.out
        clear hcc hvv hat hvt hszc hsv huv hvl hrl2
        go_wp2_with fail
        have HR0 := Lib.hid (show some w.heap.size ≠ Value.ownBlock _ from fun e => by have := (HO.out.lt _ e.symm).1; omega)
        have HR1 := Lib.hid (show some (ac.add (k * 4)).block ≠ Value.ownBlock _ from fun e => by have := (HO.out.lt _ e.symm).1; omega)
        have HR2 := Lib.hid (show some (av.add (k * 4)).block ≠ Value.ownBlock _ from fun e => by have := (HO.out.lt _ e.symm).1; omega)
        go_region_held3 (fun W => W.cell? ⟨w.heap.size, 0, none⟩ = some (.slice (some ac) S.cols.length cc) ∧ W.cell? (ac.add (k * 4)) = some (.string c.n) ∧ W.cell? ⟨(ac.add (k * 4)).block, (ac.add (k * 4)).off + 1, none⟩ = some (.int .i64 c.t) ∧ W.cell? ⟨(ac.add (k * 4)).block, (ac.add (k * 4)).off + 2, none⟩ = some (.int .i64 c.z) ∧ W.cell? ⟨(ac.add (k * 4)).block, (ac.add (k * 4)).off + 3, none⟩ = some (.bool c.u) ∧ W.cell? (av.add (k * 4)) = some (.int .i64 v.k) ∧ W.cell? ⟨(av.add (k * 4)).block, (av.add (k * 4)).off + 1, none⟩ = some (.int .i64 v.i) ∧ W.cell? ⟨(av.add (k * 4)).block, (av.add (k * 4)).off + 2, none⟩ = some (.int .u64 v.u) ∧ W.cell? ⟨(av.add (k * 4)).block, (av.add (k * 4)).off + 3, none⟩ = some (.string v.s)) (first | (exact LT.grown (HLT.out.keep hb5) hg6 HR0.out HR1.out HR2.out) | (exact HLT.out.keep hb5) | (exact HLT.out))
          (first | ((refine step_append_bytes (by rfl) _ _ (by rfl) (w.heap.size + 1) _ _ _ (rowB (S.cols.take k) (row.take k)) (valB c v) (by rfl) (by rfl) (own_keep HOD.out hb5) (by rfl) HV5.out HNE.out hL6.out hB5 ?_; intro v6 w6 hown6 hg6)) | (go_at_call 31; refine (HCL.out _).mono ?_; rintro e w5 ⟨x, rfl, hx, hb5⟩; have HV5 := Lib.hid hx; have hB5 := base5 hlx hb5))
        have HO6 := Lib.hid (show w6.ownsRow (w.heap.size + 1) 5 1 v6 (rowB (S.cols.take (k + 1)) (row.take (k + 1))).length (u8s (rowB (S.cols.take (k + 1)) (row.take (k + 1)))) by rw [HN.out]; exact hown6)
        have hb5' : Below wr.heap.size wr w5 := Below.drew_left hb5
        have HX6 := Lib.hid (show w6.cell? ⟨w.heap.size, 0, none⟩ = some (.slice (some ac) S.cols.length cc) by
          rw [hg6.cell_far _ (by have := hb5'.size; simp; omega) HR0.out]
          exact cell_old hx0 hb5')
        have HB6 := Lib.hid (show Below w.heap.size w w6 from (HB.out.trans (hb5'.mono HB.out.size)).grown hg6 (by have := hb5'.size; omega) (fun x h => by have := (HO.out.lt x h).1; omega))
        clear hown6 hg6 hx hb5 hb5' hB5
        go_wp2_with fail
        go_roundw
        case rel => exact ⟨k + 1, by omega, by go_num, HO6, HX6, HB6⟩
        case measure => simp [intOf]; omega
      · obtain rfl : k = row.length := by omega
        have ho := HO.out
        rw [List.take_of_length_le l2, List.take_of_length_le (Nat.le_refl _)] at ho
        have HF := Lib.hid (BytesOf.own ho)
        clear ho
        go_wp2_with fail
        go_ret2
        exact ⟨_, rfl, by rw [HL.out]; exact HF.out, HB.out⟩
end Go.Proofs.YtocmjlnhcloccaaGreatDoor
namespace Go.Proofs.YtocmjlnhcloccaaGreatDoor
open Go.RowKit

theorem rt_decR {S : Sch} {row : List Vl} (_hok : schOk S = true) (hf : FitAll S.cols row) : decR S (rowB S.cols row) = some (row, (rowB S.cols row).length) := by
  unfold decR
  have := readRow_rowB S.cols row [] hf
  rw [List.append_nil] at this
  rw [this]
  simp [wholeO]
theorem rt_decL {S : Sch} {row : List Vl} (hok : schOk S = true) (hf : FitAll S.cols row) : decL S (rowB S.cols row) = row := by
  unfold decL
  rw [if_pos hok, rt_decR hok hf]
theorem rt_decE {S : Sch} {row : List Vl} (hok : schOk S = true) (hf : FitAll S.cols row) : decE S (rowB S.cols row) = 0 := by
  unfold decE
  rw [if_pos hok, rt_decR hok hf]

set_option maxRecDepth 100000 in
set_option maxHeartbeats 8000000 in
theorem lawCRows_true (p : SchV) (S : Sch) (oa : Option Addr) (ca : Nat) (row : List Vl) (w : World) (hg : HasET w) (hS : SchIn w p S) (m0 : S.cols.length ≤ 9223372036854775807) (m1 : S.key.length ≤ 9223372036854775807) (m2 : S.uqs.length ≤ 9223372036854775807) (m3 : ∀ c ∈ S.cols, c.n.size ≤ 9223372036854775807) (m4 : ∀ l ∈ S.uqs, l.length ≤ 9223372036854775807)
    (hr : ValsIn w oa row) (n0 : row.length ≤ 9223372036854775807) (n1 : row.length ≤ ca) (n2 : ∀ v ∈ row, v.s.size ≤ 9223372036854775807 ∧ 0 ≤ v.u ∧ v.u < 18446744073709551616) :
    Calls Tryz.prog 3 #[.agg #[.slice p.oc S.cols.length p.cc, .slice p.ok S.key.length p.ck, .slice p.ou S.uqs.length p.cu], .slice oa row.length ca] w fun e w' => e = .returned (.bool true) ∧ Below w.heap.size w w' := by
  have HW : Hid (∀ W, Below w.heap.size w W → Calls Tryz.prog 10 #[] W fun e w' => e = .returned (.bool true) ∧ Below W.heap.size W w') := Lib.hid (fun W hb => cworks_true W (hg.below hb hg.lt))
  have HFW : Hid (∀ W, Below w.heap.size w W → Calls Tryz.prog 8 #[.agg #[.slice p.oc S.cols.length p.cc, .slice p.ok S.key.length p.ck, .slice p.ou S.uqs.length p.cu]] W fun e w' => e = .returned (.bool (fewOk S)) ∧ Below W.heap.size W w') := Lib.hid (fun W hb => few4_any p S W (hS.keep hb (Nat.le_refl _)) m0 m1 m2 m3 m4)
  have HS1 : Hid (∀ W, Below w.heap.size w W → Calls Tryz.prog 9 #[.slice oa row.length ca, .int .i64 12] W fun e w' => e = .returned (.bool (shortOk row 12)) ∧ W = w') := Lib.hid (fun W hb => short4_rows oa ca row W n0 (hr.keep hb (Nat.le_refl _)) (fun v hv => (n2 v hv).1))
  cases hf : fewOk S
  · have HQ := Lib.hid hf
    clear hf hg hS m0 m1 m2 m3 m4 hr n0 n1 n2
    go_enter Tryz.func3, Tryz.ntmps3
    go_wp2_with (first | (go_at_call 8; refine (HFW.out _ ((Below.refl _ _).alloc (Nat.le_refl _) _)).mono ?_; rintro e w1 ⟨he, hb1⟩; rw [HQ.out] at he; subst he; have hb := ((Below.refl w.heap.size w).alloc (Nat.le_refl _) (.cells #[.slice p.oc S.cols.length p.cc, .slice p.ok S.key.length p.ck, .slice p.ou S.uqs.length p.cu] 26)).trans (hb1.mono (by simp))) | (go_at_call 10; refine (HW.out _ hb).mono ?_; rintro e w2 ⟨rfl, hb2⟩))
    go_ret
    exact ⟨rfl, hb.trans (hb2.mono hb.size)⟩
  cases h1 : shortOk row 12
  · have HQ := Lib.hid hf
    have HQ1 := Lib.hid h1
    clear hf h1 hg hS m0 m1 m2 m3 m4 hr n0 n1 n2
    go_enter Tryz.func3, Tryz.ntmps3
    go_wp2_with (first | (go_at_call 8; refine (HFW.out _ ((Below.refl _ _).alloc (Nat.le_refl _) _)).mono ?_; rintro e w1 ⟨he, hb1⟩; rw [HQ.out] at he; subst he; have hb := ((Below.refl w.heap.size w).alloc (Nat.le_refl _) (.cells #[.slice p.oc S.cols.length p.cc, .slice p.ok S.key.length p.ck, .slice p.ou S.uqs.length p.cu] 26)).trans (hb1.mono (by simp))) | (go_at_call 9; refine (HS1.out _ hb).mono ?_; rintro e w' ⟨he, rfl⟩; rw [HQ1.out] at he; subst he) | (go_at_call 10; refine (HW.out _ hb).mono ?_; rintro e w2 ⟨rfl, hb2⟩))
    go_ret
    exact ⟨rfl, hb.trans (hb2.mono hb.size)⟩
  have hfs := fewOk_spec hf
  have hs1 := shortOk_spec h1
  have hcl : S.cols.length ≤ 1000 := by have := hfs.cols; omega
  have HE1 := Lib.hid (fun W (hb : Below w.heap.size w W) => Encode_any p S oa ca row W (hg.below hb hg.lt) m3 hcl hfs.uqs (hS.keep hb (Nat.le_refl _)) (by have := hs1.1; omega) (hr.keep hb (Nat.le_refl _)) hs1.2 (fun v hv => (n2 v hv).2))
  have HE2 := Lib.hid (fun W (hb : Below w.heap.size w W) => rEncode_any p S oa ca row W m3 hcl (by have := hfs.uqs; omega) (by have := hfs.key; omega) (fun l hl => by have := hfs.places l hl; omega) (hS.keep hb (Nat.le_refl _)) (by have := hs1.1; omega) (hr.keep hb (Nat.le_refl _)) hs1.2 (fun v hv => (n2 v hv).2))
  have HW1 := Lib.hid (fun W (hb : Below w.heap.size w W) => Width_any p S W (hg.below hb hg.lt) m3 hcl hfs.uqs (hS.keep hb (Nat.le_refl _)))
  have HW2 := Lib.hid (fun W (hb : Below w.heap.size w W) => rWidth_any p S W m3 hcl (by have := hfs.uqs; omega) (by have := hfs.key; omega) (fun l hl => by have := hfs.places l hl; omega) (hS.keep hb (Nat.le_refl _)))
  have HDE := Lib.hid (fun W ob cap l (hb : Below w.heap.size w W) (hn : l.length ≤ 1000000) (hv : BytesAt W (.slice ob l.length cap) l) => Decode_any p S ob cap l W (hg.below hb hg.lt) m3 hcl hfs.uqs (hS.keep hb (Nat.le_refl _)) hv hn)
  have HR := Lib.hid hr
  have HQ := Lib.hid hf
  have HQ1 := Lib.hid h1
  have hn1 : (rowN S row != rowN S row) = false := by simp
  have hlo : (widLo S != widLo S) = false := by simp
  have hhi : (widHi S != widHi S) = false := by simp
  have hsn : (schN S != schN S) = false := by simp
  by_cases hz : rowN S row = 0
  · obtain ⟨hok, fit1⟩ := rowN_fit (fun v hv => (n2 v hv).2.1) hz
    have hwid := rowB_wide S.cols row fit1
    have hbl := rowB_len S.cols row (cols_sz hok) hs1.2
    have t1 : encL S row = rowB S.cols row := by unfold encL; rw [if_pos hz]
    have t2 : widLo S = rowLo S.cols := by unfold widLo; rw [if_pos hok]
    have t3 : widHi S = rowHi S.cols := by unfold widHi; rw [if_pos hok]
    have t4 := rt_decL hok fit1
    have t5 := rt_decE hok fit1
    have hlen := schOk_len hok
    have hl1 := fitAll_len fit1
    have ne1 : rowB S.cols row ≠ [] := fun e => by
      have := (rowB_readRow S.cols _ row _ (cols_sz hok) (by have h := readRow_rowB S.cols row [] fit1; rw [List.append_nil] at h; exact h)).2.1
      have h3 : S.cols.length ≤ 0 := by rw [e] at this; exact this
      omega
    obtain ⟨ar, ear, har⟩ := hr 0 (by omega)
    clear har
    subst ear
    have HSM : Hid (∀ W v, Below w.heap.size w W → SliceOf W v row → Calls Tryz.prog 17 #[v, .slice (some ar) row.length ca] W fun e w' => e = .returned (.bool true) ∧ Below W.heap.size W w') := Lib.hid (fun W v hb hv => (rSame_any _ _ row row W hv ((HR.out.keep hb (Nat.le_refl _)).sl n1) n0 n0).mono fun e w' ⟨he, hb'⟩ => ⟨by rw [he, lists_same]; rfl, hb'⟩)
    unfold EncPost at HE1 HE2
    rw [hz, t1] at HE1 HE2
    rw [t2, t3] at HW1 HW2
    have HL2 := Lib.hid (fun W ob cap hb hv => HDE.out W ob cap (rowB S.cols row) hb (by omega) hv)
    unfold DecPost at HL2
    rw [t4, t5] at HL2
    have hsch : schN S = 0 := by unfold schN; rw [if_pos hok]
    rw [hsch] at HW1 HW2
    clear hsch t1 t2 t3 t4 t5 hok fit1 hfs hs1 hlen hl1 HDE hn1 hlo hhi hsn
    generalize rowB S.cols row = A at *
    generalize rowLo S.cols = lo at *
    generalize rowHi S.cols = hi at *
    have HNA := Lib.hid ne1
    have hw1 := hwid.1
    have hw2 := hwid.2
    clear ne1 hwid hz hf h1 hg hS m0 m1 m2 m3 m4 n0 n1 n2 hr
    go_enter Tryz.func3, Tryz.ntmps3
    go_wp2_with (first | (go_at_call 8; refine (HFW.out _ ((Below.refl _ _).alloc (Nat.le_refl _) _)).mono ?_; rintro e w1 ⟨he, hb1⟩; rw [HQ.out] at he; subst he; have hb := ((Below.refl w.heap.size w).alloc (Nat.le_refl _) (.cells #[.slice p.oc S.cols.length p.cc, .slice p.ok S.key.length p.ck, .slice p.ou S.uqs.length p.cu] 26)).trans (hb1.mono (by simp)); have x0 : w1.cell? ⟨w.heap.size, 0, none⟩ = some (.slice p.oc S.cols.length p.cc) := cell_old (by simp [go_sem]) hb1; have x1 : w1.cell? ⟨w.heap.size, 1, none⟩ = some (.slice p.ok S.key.length p.ck) := cell_old (by simp [go_sem]) hb1; have x2 : w1.cell? ⟨w.heap.size, 2, none⟩ = some (.slice p.ou S.uqs.length p.cu) := cell_old (by simp [go_sem]) hb1) | (go_at_call 9; refine (HS1.out _ hb).mono ?_; rintro e w' ⟨he, rfl⟩; rw [HQ1.out] at he; subst he))
    refine (HE1.out _ hb).mono ?_
    rintro e w2 ⟨va, rfl, hva, hb2⟩
    obtain ⟨aa, cpa, rfl, hca, hba⟩ := hva.some HNA.out
    have HB2 := Lib.hid (hb.trans (hb2.mono hb.size))
    have x0 : w2.cell? ⟨w.heap.size, 0, none⟩ = some (.slice p.oc S.cols.length p.cc) := cell_old x0 hb2
    have x1 : w2.cell? ⟨w.heap.size, 1, none⟩ = some (.slice p.ok S.key.length p.ck) := cell_old x1 hb2
    have x2 : w2.cell? ⟨w.heap.size, 2, none⟩ = some (.slice p.ou S.uqs.length p.cu) := cell_old x2 hb2
    have HA2 := Lib.hid hba
    clear hva hb2 hba hb1 hb
    go_wp2_with fail
    refine (HE2.out _ HB2.out).mono ?_
    rintro e w3 ⟨vb, rfl, hvb, hb3⟩
    obtain ⟨ab, cpb, rfl, hcb, hbb⟩ := hvb.some HNA.out
    have HB3 := Lib.hid (HB2.out.trans (hb3.mono HB2.out.size))
    have x0 : w3.cell? ⟨w.heap.size, 0, none⟩ = some (.slice p.oc S.cols.length p.cc) := cell_old x0 hb3
    have x1 : w3.cell? ⟨w.heap.size, 1, none⟩ = some (.slice p.ok S.key.length p.ck) := cell_old x1 hb3
    have x2 : w3.cell? ⟨w.heap.size, 2, none⟩ = some (.slice p.ou S.uqs.length p.cu) := cell_old x2 hb3
    have HA3 := Lib.hid (HA2.out.keep hb3 (Nat.le_refl _))
    have HC3 := Lib.hid hbb
    clear hvb hb3 hbb
    go_wp2_with fail
    refine (HW1.out _ HB3.out).mono ?_
    rintro e w4 ⟨rfl, hb4⟩
    have HB4 := Lib.hid (HB3.out.trans (hb4.mono HB3.out.size))
    have x0 : w4.cell? ⟨w.heap.size, 0, none⟩ = some (.slice p.oc S.cols.length p.cc) := cell_old x0 hb4
    have x1 : w4.cell? ⟨w.heap.size, 1, none⟩ = some (.slice p.ok S.key.length p.ck) := cell_old x1 hb4
    have x2 : w4.cell? ⟨w.heap.size, 2, none⟩ = some (.slice p.ou S.uqs.length p.cu) := cell_old x2 hb4
    have HA4 := Lib.hid (HA3.out.keep hb4 (Nat.le_refl _))
    have HC4 := Lib.hid (HC3.out.keep hb4 (Nat.le_refl _))
    clear hb4
    go_wp2_with fail
    refine (HW2.out _ HB4.out).mono ?_
    rintro e w5 ⟨rfl, hb5⟩
    have HB5 := Lib.hid (HB4.out.trans (hb5.mono HB4.out.size))
    have x0 : w5.cell? ⟨w.heap.size, 0, none⟩ = some (.slice p.oc S.cols.length p.cc) := cell_old x0 hb5
    have x1 : w5.cell? ⟨w.heap.size, 1, none⟩ = some (.slice p.ok S.key.length p.ck) := cell_old x1 hb5
    have x2 : w5.cell? ⟨w.heap.size, 2, none⟩ = some (.slice p.ou S.uqs.length p.cu) := cell_old x2 hb5
    have HA5 := Lib.hid (HA4.out.keep hb5 (Nat.le_refl _))
    have cA := bytes_string HA5.out
    have cB := bytes_string (HC4.out.keep hb5 (Nat.le_refl _))
    generalize (⟨A.toArray⟩ : ByteArray) = sA at cA cB
    have hss : (sA.toList != sA.toList) = false := by simp
    have hl1 : (lo != lo) = false := by simp
    have hh1 : (hi != hi) = false := by simp
    clear hb5
    go_wp2_with (first | (go_at_call 15; refine (l4num_any _ _).mono ?_; rintro e w' ⟨rfl, rfl⟩))
    refine (HL2.out _ _ _ HB5.out HA5.out).mono ?_
    rintro e w6 ⟨vd, rfl, hvd, hb6⟩
    have HB6 := Lib.hid (HB5.out.trans (hb6.mono HB5.out.size))
    have HD6 := Lib.hid hvd
    clear hb6 hvd x0 x1 x2
    go_wp2_with fail
    refine (HSM.out _ _ HB6.out HD6.out).mono ?_
    rintro e w7 ⟨rfl, hb7⟩
    have HB7 := Lib.hid (HB6.out.trans (hb7.mono HB6.out.size))
    have d1 : decide (lo ≤ (A.length : Int)) = true := by simpa using hw1
    have d2 : decide ((A.length : Int) ≤ hi) = true := by simpa using hw2
    clear hb7
    go_wp2_with (first | (go_at_call 15; refine (l4num_any _ _).mono ?_; rintro e w' ⟨rfl, rfl⟩) | (go_at_call 10; refine (HW.out _ HB7.out).mono ?_; rintro e w8 ⟨rfl, hb8⟩))
    go_ret
    exact ⟨rfl, HB7.out.trans (hb8.mono HB7.out.size)⟩
  · have hne : (rowN S row != 0) = true := by simpa using hz
    have t1 : encL S row = [] := by unfold encL; rw [if_neg hz]
    unfold EncPost at HE1 HE2
    rw [t1] at HE1 HE2
    generalize rowN S row = r1 at *
    generalize widLo S = lo at *
    generalize widHi S = hi at *
    generalize schN S = sn at *
    clear t1 hz hf h1 hfs hs1 HDE hg hS m0 m1 m2 m3 m4 hr n0 n1 n2
    go_enter Tryz.func3, Tryz.ntmps3
    go_wp2_with (first | (go_at_call 8; refine (HFW.out _ ((Below.refl _ _).alloc (Nat.le_refl _) _)).mono ?_; rintro e w1 ⟨he, hb1⟩; rw [HQ.out] at he; subst he; have hb := ((Below.refl w.heap.size w).alloc (Nat.le_refl _) (.cells #[.slice p.oc S.cols.length p.cc, .slice p.ok S.key.length p.ck, .slice p.ou S.uqs.length p.cu] 26)).trans (hb1.mono (by simp)); have x0 : w1.cell? ⟨w.heap.size, 0, none⟩ = some (.slice p.oc S.cols.length p.cc) := cell_old (by simp [go_sem]) hb1; have x1 : w1.cell? ⟨w.heap.size, 1, none⟩ = some (.slice p.ok S.key.length p.ck) := cell_old (by simp [go_sem]) hb1; have x2 : w1.cell? ⟨w.heap.size, 2, none⟩ = some (.slice p.ou S.uqs.length p.cu) := cell_old (by simp [go_sem]) hb1) | (go_at_call 9; refine (HS1.out _ hb).mono ?_; rintro e w' ⟨he, rfl⟩; rw [HQ1.out] at he; subst he))
    refine (HE1.out _ hb).mono ?_
    rintro e w2 ⟨va, rfl, hva, hb2⟩
    have HB2 := Lib.hid (hb.trans (hb2.mono hb.size))
    have x0 : w2.cell? ⟨w.heap.size, 0, none⟩ = some (.slice p.oc S.cols.length p.cc) := cell_old x0 hb2
    have x1 : w2.cell? ⟨w.heap.size, 1, none⟩ = some (.slice p.ok S.key.length p.ck) := cell_old x1 hb2
    have x2 : w2.cell? ⟨w.heap.size, 2, none⟩ = some (.slice p.ou S.uqs.length p.cu) := cell_old x2 hb2
    have HA2 := Lib.hid hva
    clear hva hb2 hb1 hb
    go_wp2_with fail
    refine (HE2.out _ HB2.out).mono ?_
    rintro e w3 ⟨vb, rfl, hvb, hb3⟩
    have HB3 := Lib.hid (HB2.out.trans (hb3.mono HB2.out.size))
    have x0 : w3.cell? ⟨w.heap.size, 0, none⟩ = some (.slice p.oc S.cols.length p.cc) := cell_old x0 hb3
    have x1 : w3.cell? ⟨w.heap.size, 1, none⟩ = some (.slice p.ok S.key.length p.ck) := cell_old x1 hb3
    have x2 : w3.cell? ⟨w.heap.size, 2, none⟩ = some (.slice p.ou S.uqs.length p.cu) := cell_old x2 hb3
    have HA3 := Lib.hid (HA2.out.keep hb3 (Nat.le_refl _))
    have HC3 := Lib.hid hvb
    clear hvb hb3
    go_wp2_with fail
    refine (HW1.out _ HB3.out).mono ?_
    rintro e w4 ⟨rfl, hb4⟩
    have HB4 := Lib.hid (HB3.out.trans (hb4.mono HB3.out.size))
    have x0 : w4.cell? ⟨w.heap.size, 0, none⟩ = some (.slice p.oc S.cols.length p.cc) := cell_old x0 hb4
    have x1 : w4.cell? ⟨w.heap.size, 1, none⟩ = some (.slice p.ok S.key.length p.ck) := cell_old x1 hb4
    have x2 : w4.cell? ⟨w.heap.size, 2, none⟩ = some (.slice p.ou S.uqs.length p.cu) := cell_old x2 hb4
    have HA4 := Lib.hid (HA3.out.keep hb4 (Nat.le_refl _))
    have HC4 := Lib.hid (HC3.out.keep hb4 (Nat.le_refl _))
    clear hb4
    go_wp2_with fail
    refine (HW2.out _ HB4.out).mono ?_
    rintro e w5 ⟨rfl, hb5⟩
    have HB5 := Lib.hid (HB4.out.trans (hb5.mono HB4.out.size))
    have cA := bytes_string (HA4.out.keep hb5 (Nat.le_refl _)).at
    have cB := bytes_string (HC4.out.keep hb5 (Nat.le_refl _)).at
    clear hb5 x0 x1 x2
    go_wp2_with (first | (go_at_call 15; refine (l4num_any _ _).mono ?_; rintro e w' ⟨rfl, rfl⟩) | (go_at_call 10; refine (HW.out _ HB5.out).mono ?_; rintro e w8 ⟨rfl, hb8⟩))
    go_ret
    exact ⟨rfl, HB5.out.trans (hb8.mono HB5.out.size)⟩
end Go.Proofs.YtocmjlnhcloccaaGreatDoor

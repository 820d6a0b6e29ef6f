/-
  swingbridgelaw02.OctetHolds: its walk.
-/
import Derived.Test.YtdbjdebffngngaaOWorks
import Derived.Deep.RegionWith
namespace Go.Proofs.Ytdbjdebffngngaa
open Go.RowKit

/-- what is told as bytes can be read as a text, later too -/
def TellsAll (W : World) (l : List UInt8) (e : Ending) (w' : World) : Prop := ∃ v, e = .returned v ∧ (∀ W', Below w'.heap.size w' W' → (convert 23 9 v).run Try.prog W' = .ok (.string ⟨l.toArray⟩) W') ∧ Below W.heap.size W w'
theorem nb_all (n : Nat) (hn : n < 18446744073709551616) (W : World) : Calls Try.prog 9 #[.int .u64 n] W (TellsAll W (numB n)) :=
  (Number_any n W hn).mono fun _ _ ⟨v, he, h⟩ => ⟨v, he, fun _ hb => bytes_string (h.at.1.keep hb (Nat.le_refl _)), h.at.2⟩

set_option maxRecDepth 100000 in
set_option maxHeartbeats 1000000 in
theorem holds_works (m n : Nat) (vb : Value) (b : List UInt8) (bit : Int) (w : World) (hv : BytesAt w vb b) (hb : b.length ≤ 9223372036854775807) (h : 300 < b.length ∨ bit < 0 ∨ 8 * (b.length : Int) ≤ bit) :
    Calls Try.prog 7 #[.int .u64 m, .int .u64 n, vb, .int .i64 bit] w fun e w' => e = .returned (.bool true) ∧ Below w.heap.size w w' := by
  obtain ⟨oa, cap, rfl, _, hv⟩ := hv
  clear hv
  have HW := Lib.hid works_true
  by_cases h1 : 300 < b.length
  · go_enter Try.func7, Try.ntmps7
    go_wp2_with (first | (go_at_call 8; refine (HW.out _).mono ?_; rintro e w' ⟨rfl, hb1⟩))
    go_ret
    exact ⟨rfl, hb1⟩
  · by_cases h2 : bit < 0
    · go_enter Try.func7, Try.ntmps7
      go_wp2_with (first | (go_at_call 8; refine (HW.out _).mono ?_; rintro e w' ⟨rfl, hb1⟩))
      go_ret
      exact ⟨rfl, hb1⟩
    · have h3 : 8 * (b.length : Int) ≤ bit := by omega
      go_enter Try.func7, Try.ntmps7
      go_wp2_with (first | (go_at_call 8; refine (HW.out _).mono ?_; rintro e w' ⟨rfl, hb1⟩))
      go_ret
      exact ⟨rfl, hb1⟩

theorem toL (l : List UInt8) : (⟨l.toArray⟩ : ByteArray).toList = l := by rw [ByteArray.toList_eq]
theorem no_pre (m n : Nat) (hm : m < 18446744073709551616) (hn : n < 18446744073709551616) (h : m ≠ n) :
    (((⟨(numB n).toArray⟩ : ByteArray).extract 0 (⟨(numB m).toArray⟩ : ByteArray).size).toList == (⟨(numB m).toArray⟩ : ByteArray).toList) = false := by
  rw [toL (numB m), Lib.extract_toList, beq_eq_false_iff_ne]
  intro he
  have e : (⟨(numB m).toArray⟩ : ByteArray).size = (numB m).length := by show (numB m).toArray.size = _; simp
  simp only [List.drop_zero, Nat.sub_zero, e] at he
  have h2 : numB n = numB m ++ (numB n).drop (numB m).length := by conv => lhs; rw [← List.take_append_drop (numB m).length (numB n), he]
  exact h (numB_pre m n _ hm hn h2)
/-- a bit turned over -/
theorem flip_bit (x : UInt8) (r : Nat) (hr : r < 8) : ∃ y : UInt8, bits BinOp.xor IntKind.u8 (x.toNat : Int) ((2 ^ r : Nat) : Int) = (y.toNat : Int) ∧ y ≠ x ∧ (2 ^ r : Nat) < 256 := by
  have h2 : (2 : Nat) ^ r < 256 := Nat.pow_lt_pow_right (by decide) (show r < 8 from hr)
  have hx := x.toNat_lt
  have h3 : x.toNat ^^^ 2 ^ r < 256 := Nat.xor_lt_two_pow (n := 8) hx h2
  refine ⟨UInt8.ofNat (x.toNat ^^^ 2 ^ r), ?_, ?_, h2⟩
  · rw [u8_xor_nat _ _ hx h2, UInt8.toNat_ofNat', Nat.mod_eq_of_lt h3]
  · intro he
    have h4 := congrArg UInt8.toNat he
    rw [UInt8.toNat_ofNat', Nat.mod_eq_of_lt h3] at h4
    have h5 : x.toNat ^^^ 2 ^ r = x.toNat ^^^ 0 := by rw [h4, Nat.xor_zero]
    have h6 := xor_cancel_l h5
    have := Nat.pow_pos (n := r) (show 0 < 2 by decide)
    omega
theorem own_free {w : World} {B g n cap i : Nat} {e : TypeId} {xs : List Value} (h : w.ownsRow B e 1 (.slice (some ⟨g, 0, none⟩) n cap) n xs) : w.frozen? ⟨g, i, none⟩ = false := by
  rcases h.2 with ⟨h0, _⟩ | ⟨g', cap', cur, he, _, hg, _⟩
  · cases h0
  · cases he
    simp [World.frozen?, hg]
theorem own_set {w : World} {B g cap i : Nat} {l : List UInt8} (h : w.ownsRow B 5 1 (.slice (some ⟨g, 0, none⟩) l.length cap) l.length (u8s l)) (y : UInt8) (hi : i < l.length) :
    BytesAt (w.setCell ⟨g, i, none⟩ (.int .u8 y.toNat)) (.slice (some ⟨g, 0, none⟩) l.length cap) (l.set i y) := by
  have hcap : l.length ≤ cap := by
    rcases h.2 with ⟨h, _⟩ | ⟨g', cap, cur, he, _, _, hn, _⟩
    · cases h
    · cases he; exact hn
  have hc : ∀ j, (hj : j < l.length) → w.cell? ⟨g, j, none⟩ = some (.int .u8 (l[j].toNat : Int)) := fun j hj => by
    have := h.cells rfl j (.int .u8 (l[j].toNat : Int)) (by simp [u8s, hj])
    rwa [Addr.add_lit, Nat.zero_add] at this
  refine ⟨some ⟨g, 0, none⟩, cap, by simp, by simpa using hcap, fun j hj => ⟨_, rfl, ?_⟩⟩
  rw [Addr.add_lit, Nat.zero_add]
  have hj' : j < l.length := by simpa using hj
  by_cases hij : i = j
  · subst hij
    rw [World.cell?_setCell_same' _ _ _ (by rw [hc i hi]; rfl)]
    simp
  · rw [World.cell?_setCell_other _ _ _ _ (by simp), hc j hj']
    simp [hij]
theorem sum_one {W : World} {v : Value} {l : List UInt8} {t : TypeId} {n K : Nat} (h : BytesAt W v l) (hl : l.length ≤ 300) (hn : W.heap.size = n) (hK : crc l = K) :
    Calls Try.prog 23 #[.slice (some ⟨n, 0, none⟩) 1 1] (W.alloc (.cells #[v] t)) fun e w' => e = .returned (.int .u32 (K : Int)) ∧ W.alloc (.cells #[v] t) = w' := by
  subst hn hK
  refine (Sum_any _ _ _ (row_one h t) (by simp) (by simp; omega)).mono ?_
  rintro e w' ⟨rfl, rfl⟩
  exact ⟨by simp [catL], rfl⟩
theorem chain2 {w a b : World} (h : Below w.drew.heap.size w.drew a) (k : Below a.heap.size a b) : Below w.heap.size w b :=
  ((Below.refl w.heap.size w).drew.trans h).trans (k.mono h.size)
set_option maxRecDepth 100000 in
set_option maxHeartbeats 4000000 in
theorem holds_deep (m n : Nat) (vb : Value) (b : List UInt8) (bit : Int) (w : World) (hm : m < 18446744073709551616) (hn : n < 18446744073709551616) (hv : BytesAt w vb b) (h1 : b.length ≤ 300) (h2 : 0 ≤ bit) (h3 : bit < 8 * (b.length : Int)) :
    Calls Try.prog 7 #[.int .u64 m, .int .u64 n, vb, .int .i64 bit] w fun e w' => e = .returned (.bool true) ∧ Below w.heap.size w w' := by
  have HW := Lib.hid works_true
  have HM := Lib.hid (nb_all m hm)
  have HN := Lib.hid (nb_all n hn)
  have HV := Lib.hid hv
  obtain ⟨oa, cap, rfl, hcap, hcell⟩ := hv
  obtain ⟨a, rfl, _⟩ := hcell 0 (by omega)
  clear hcell
  obtain ⟨x, hx⟩ : ∃ x : ByteArray, (⟨(numB m).toArray⟩ : ByteArray) = x := ⟨_, rfl⟩
  obtain ⟨y, hy⟩ : ∃ y : ByteArray, (⟨(numB n).toArray⟩ : ByteArray) = y := ⟨_, rfl⟩
  unfold TellsAll at HM HN
  rw [hx] at HM
  rw [hy] at HN
  have HX := Lib.hid hx
  have HY := Lib.hid hy
  have Hm := Lib.hid hm
  have Hn := Lib.hid hn
  clear hx hy hm hn
  have hrf := Below.refl
  go_enter Try.func7, Try.ntmps7
  go_wp2_with fail
  go_cut [9, 10] (fun s9 s10 wx => s9 = .string x ∧ s10 = .string y ∧ Below w.heap.size w wx)
  case first =>
    go_region_with (first | (go_at_call_of 9 m; refine (HM.out _).mono ?_; rintro e w1 ⟨v1, rfl, hc1, hb1⟩) | (go_at_call_of 9 n; refine (HN.out _).mono ?_; rintro e w2 ⟨v2, rfl, hc2, hb2⟩))
    all_goals go_wp2_with fail
    all_goals go_meet
    all_goals exact ⟨rfl, rfl, by first | exact chain2 hb1 hb2 | exact chain2 hb2 hb1⟩
  case rest =>
    obtain ⟨rfl, rfl, hbx⟩ := hcut
    clear HM HN hrf
    go_upto_region 4 with (fail)
    go_cut [68] (fun s wx => s = .bool false ∧ wx = wc)
    case first =>
      rcases Nat.lt_trichotomy m n with hmn | hmn | hmn
      · have c1 : Op.bytesLess x.toList y.toList = true := by rw [← HX.out, ← HY.out, toL, toL, numB_less m n Hm.out Hn.out]; simpa using hmn
        have c2 : (x.toList == y.toList) = false := by rw [← HX.out, ← HY.out, toL, toL, beq_eq_false_iff_ne]; intro he; have := numB_inj m n Hm.out Hn.out he; omega
        have c3 : decide ((m : Int) < n) = true := by simpa using hmn
        have c4 : ((m : Int) == n) = false := by simp; omega
        have c5 : ((m : Int) != n) = true := by simp; omega
        by_cases hs : x.size ≤ y.size
        · have c6 : ((y.extract 0 x.size).toList == x.toList) = false := by rw [← HX.out, ← HY.out]; exact no_pre m n Hm.out Hn.out (by omega)
          go_wp2_with fail
          go_meet
          case rel => exact ⟨by first | rfl | (simp; omega), rfl⟩
        · go_wp2_with fail
          go_meet
          case rel => exact ⟨by first | rfl | (simp; omega), rfl⟩
      · have hxy : x = y := by rw [← HX.out, ← HY.out, hmn]
        subst hxy hmn
        have c1 : Op.bytesLess x.toList x.toList = false := by rw [← HX.out, toL, numB_less m m Hm.out Hm.out]; simp
        have c2 : (x.toList == x.toList) = true := by simp
        have c3 : decide ((m : Int) < m) = false := by simp
        have c4 : ((m : Int) == m) = true := by simp
        have c5 : ((m : Int) != m) = false := by simp
        go_wp2_with fail
        go_meet
        case rel => exact ⟨by first | rfl | (simp; omega), rfl⟩
      · have c1 : Op.bytesLess x.toList y.toList = false := by rw [← HX.out, ← HY.out, toL, toL, numB_less m n Hm.out Hn.out]; simp; omega
        have c2 : (x.toList == y.toList) = false := by rw [← HX.out, ← HY.out, toL, toL, beq_eq_false_iff_ne]; intro he; have := numB_inj m n Hm.out Hn.out he; omega
        have c3 : decide ((m : Int) < n) = false := by simp; omega
        have c4 : ((m : Int) == n) = false := by simp; omega
        have c5 : ((m : Int) != n) = true := by simp; omega
        by_cases hs : x.size ≤ y.size
        · have c6 : ((y.extract 0 x.size).toList == x.toList) = false := by rw [← HX.out, ← HY.out]; exact no_pre m n Hm.out Hn.out (by omega)
          go_wp2_with fail
          go_meet
          case rel => exact ⟨by first | rfl | (simp; omega), rfl⟩
        · go_wp2_with fail
          go_meet
          case rel => exact ⟨by first | rfl | (simp; omega), rfl⟩
    case rest =>
      obtain ⟨rfl, rfl⟩ := hcut
      clear HX HY Hm Hn
      obtain ⟨i0, hi0, hz0, hz1, hz2⟩ := info_parts infoU8
      obtain ⟨i, hq⟩ := Int.eq_ofNat_of_zero_le (show 0 ≤ bit / 8 by omega)
      obtain ⟨r, hr⟩ := Int.eq_ofNat_of_zero_le (show 0 ≤ bit % 8 by omega)
      have hib : i < b.length := by omega
      have hr8 : r < 8 := by omega
      have hown0 : (wc.alloc (.cells #[] 5)).ownsRow wc.heap.size 5 1 (.slice (some ⟨wc.heap.size, 0, none⟩) 0 0) 0 [] := World.ownsRow_made wc #[] 0 (Nat.le_refl _) (by decide) (by simp)
      have HB := Lib.hid (HV.out.keep hbx (Nat.le_refl _))
      go_wp2_with (first | (at_builtin; refine wpList_append_own _ rfl _ _ 23 rfl wc.heap.size 5 i0 (.int .u8 0) 1 1 Try.underlying23 hi0 hz0 hz1 hz2 rfl (by decide) _ _ _ rfl hown0 a b.length cap (u8s b) rfl ?e0 ?e1 ?e2 ?e3 ?e4 ?e5 ?_))
      case e0 => simp [u8s]
      case e1 =>
        obtain ⟨_, _, he, _, hc⟩ := HB.out
        cases he
        intro j u hj
        have hj' : j < b.length := by have := (List.getElem?_eq_some_iff.1 hj).1; simpa [u8s] using this
        obtain ⟨a', ha', hcell⟩ := hc j hj'
        cases ha'
        rw [World.cell?_alloc_lt _ _ _ (World.block_lt_of_cell? wc _ hcell), hcell, ← hj]
        simp [u8s, hj']
      case e2 =>
        intro u hu
        simp only [u8s, List.mem_map] at hu
        obtain ⟨c, _, rfl⟩ := hu
        rfl
      case e3 => unfold maxLen; omega
      case e4 => omega
      case e5 => simp
      intro v4 w4 hown4 hg4 _
      obtain ⟨g, cap4, rfl⟩ := Joins.ownsRow_form hown4 (by omega)
      have hbw4 : Below w.heap.size w w4 := (hbx.alloc hbx.size _).grown hg4 (by have := hbx.size; simp; omega) (fun x h => by cases h; exact hbx.size)
      have hgw : w.heap.size ≤ g := by have := (hown4.lt g rfl).1; have := hbx.size; omega
      obtain ⟨x, hx⟩ : ∃ x, b[i] = x := ⟨_, rfl⟩
      obtain ⟨y', hy', hyne, hyx⟩ := flip_bit x r hr8
      have hcell4 : w4.cell? ⟨g, i, none⟩ = some (.int .u8 (x.toNat : Int)) := by
        have := hown4.cells rfl i (.int .u8 (x.toNat : Int)) (by simp [u8s, hib, hx])
        rwa [Addr.add_lit, Nat.zero_add] at this
      have hfr4 : w4.frozen? ⟨g, i, none⟩ = false := own_free hown4
      have HO := Lib.hid hown4
      have hx256 : (x.toNat : Int) < 256 := by have := x.toNat_lt; omega
      clear hown4 hg4
      have HX := Lib.hid hx
      have HBW := Lib.hid hbw4
      clear hx hbw4
      have hfl : bits BinOp.xor IntKind.u8 (x.toNat : Int) (2 ^ r % 256) = (y'.toNat : Int) := by
        rw [← hy', Int.natCast_pow, Int.emod_eq_of_lt (Int.le_of_lt (Int.pow_pos (by decide))) (by have : ((2 ^ r : Nat) : Int) < 256 := by omega
                                                                                                   rw [Int.natCast_pow] at this; exact this)]
        rfl
      have hlt : i < b.length := hib
      obtain ⟨K1, hK1⟩ : ∃ K, crc b = K := ⟨_, rfl⟩
      obtain ⟨K2, hK2⟩ : ∃ K, crc (b.set i y') = K := ⟨_, rfl⟩
      have hKK : ((K1 : Int) != K2) = true := by
        have := crc_set b i hib y' (by rw [HX.out]; exact hyne)
        rw [hK1, hK2] at this
        simp; omega
      have HBS : Hid (Below w.heap.size w (w4.setCell ⟨g, i, none⟩ (.int .u8 y'.toNat))) := Lib.hid (HBW.out.setCell hgw _)
      have hs1 := sum_one (t := 23) (HV.out.keep HBS.out (Nat.le_refl _)) h1 rfl hK1
      have hs2 := sum_one (t := 23) ((own_set HO.out y' hib).keep ((Below.refl _ _).alloc (Nat.le_refl _) (.cells #[.slice (some a) b.length cap] 23)) (Nat.le_refl _)) (by simpa using h1) rfl hK2
      have HS1 := Lib.hid hs1
      have HS2 := Lib.hid hs2
      clear hs1 hs2 hK1 hK2 hy'
      simp only [World.size_alloc, World.size_setCell] at HS1 HS2
      go_wp2_with fail
      refine HS1.out.mono ?_
      rintro e w' ⟨rfl, rfl⟩
      go_wp2_with fail
      refine HS2.out.mono ?_
      rintro e w' ⟨rfl, rfl⟩
      go_wp2_with (first | (go_at_call 8; refine (HW.out _).mono ?_; rintro e w' ⟨rfl, hb9⟩; have HB9 := Lib.hid hb9; clear hb9))
      go_ret
      exact ⟨rfl, ((HBS.out.alloc HBS.out.size _).alloc (by have := HBS.out.size; simp at this ⊢; omega) _).trans (HB9.out.mono (by have := HBS.out.size; simp at this ⊢; omega))⟩

theorem holds_true (m n : Nat) (vb : Value) (b : List UInt8) (bit : Int) (w : World) (hm : m < 18446744073709551616) (hn : n < 18446744073709551616) (hv : BytesAt w vb b) (hb : b.length ≤ 9223372036854775807) (_h0 : -9223372036854775808 ≤ bit) (_h1 : bit ≤ 9223372036854775807) :
    Calls Try.prog 7 #[.int .u64 m, .int .u64 n, vb, .int .i64 bit] w fun e w' => e = .returned (.bool true) ∧ Below w.heap.size w w' := by
  by_cases h1 : b.length ≤ 300
  · by_cases h2 : 0 ≤ bit
    · by_cases h3 : bit < 8 * (b.length : Int)
      · exact holds_deep m n vb b bit w hm hn hv h1 h2 h3
      · exact holds_works m n vb b bit w hv hb (.inr (.inr (by omega)))
    · exact holds_works m n vb b bit w hv hb (.inr (.inl (by omega)))
  · exact holds_works m n vb b bit w hv hb (.inl (by omega))
end Go.Proofs.Ytdbjdebffngngaa

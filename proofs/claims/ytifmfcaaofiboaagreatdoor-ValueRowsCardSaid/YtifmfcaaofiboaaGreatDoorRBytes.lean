/-
  swingbridgeref01: bytes, signed, Parse.
-/
import Derived.Test.YtifmfcaaofiboaaGreatDoorReadText
import Derived.Test.YtifmfcaaofiboaaGreatDoorRText
namespace Go.Proofs.YtifmfcaaofiboaaGreatDoor
open Go.RowKit

/-- a result of ref bytes -/
def rbRes (l : List UInt8) : Value := if l.length % 2 = 0 ∧ (prsGo l []).isSome = true then .tuple #[.string ⟨((prsGo l []).getD []).toArray⟩, .bool true] else .tuple #[.string ⟨#[]⟩, .bool false]
def bRow (bs : List UInt8) (j : Nat) : Value := .int .u8 (match bs[j]? with | some b => (b.toNat : Int) | none => 0)
theorem bRow_next (bs : List UInt8) (c : UInt8) (j : Nat) : (if j = bs.length then Value.int .u8 (c.toNat : Int) else bRow bs j) = bRow (bs ++ [c]) j := by
  unfold bRow
  by_cases h : j = bs.length
  · subst h; rw [if_pos rfl]; simp
  · rw [if_neg h]
    by_cases h1 : j < bs.length
    · rw [List.getElem?_append_left h1]
    · rw [List.getElem?_eq_none (by omega), List.getElem?_eq_none (by simp; omega)]
theorem rdigit_q (c : UInt8) (w : World) (n : Nat) : Calls Tryz.prog 57 #[.int .u8 (c.toNat : Int)] (w.drewN n) fun e w'' => e = .returned (.int .i64 (dig 16 c)) ∧ ∃ m, w'' = w.drewN m :=
  (rdigit_any c (w.drewN n)).mono fun _ _ ⟨he, hm⟩ => ⟨he, n, hm.symm⟩
theorem byte_of (a b : UInt8) (h0 : 0 ≤ dig 16 a) (h1 : 0 ≤ dig 16 b) : 16 * dig 16 a + dig 16 b = ((byteOf a b).toNat : Int) := by
  have h2 := dig16_bd a
  have h3 := dig16_bd b
  unfold byteOf
  rw [UInt8.toNat_ofNat']
  omega
set_option maxRecDepth 100000 in
set_option maxHeartbeats 1600000 in
theorem rbytes_even (s : ByteArray) (w : World) (hs : s.size ≤ 800) (hev : s.size % 2 = 0) :
    Calls Tryz.prog 41 #[.string s] w fun e w' => e = .returned (rbRes s.data.toList) ∧ Below w.heap.size w w' := by
  obtain ⟨n, hn⟩ : ∃ n, s.size = 2 * n := ⟨s.size / 2, by omega⟩
  have hmk : ∀ W, (Instr.makeSlice 70 (.int .i64 (n : Int)) (.int .i64 (n : Int))).run Tryz.prog W = .ok (.slice (some ⟨W.heap.size, 0, none⟩) n n) (W.alloc (.cells (madeCells #[.int .u8 0] n) 5)) :=
    run_make_row' (P := Tryz.prog) 70 5 (.int .u8 0) 1 Tryz.underlying70 infoU8 rfl .i64 .i64 n (by omega) (by omega)
  have hodd : ((s.size : Int) % 2 == 1) = false := by rw [beq_eq_false_iff_ne]; omega
  have hhalf : (s.size : Int) / 2 = (n : Int) := by omega
  have hlen : s.data.toList.length % 2 = 0 := by simpa using hev
  have HLEN := Lib.hid hlen
  have HN := Lib.hid hn
  have hn4 : n ≤ 400 := by omega
  clear hev hlen hn
  go_enter Tryz.func41, Tryz.ntmps41
  go_wp2_with fail
  have hrow0 := World.rowIs_made w (.int .u8 0) n 5
  have hb0 : Below w.heap.size w (w.alloc (.cells (madeCells #[.int .u8 0] n) 5)) := (Below.refl _ _).alloc (Nat.le_refl _) _
  go_loopw [5] (fun v wr => ∃ (k : Nat) (bs : List UInt8), k ≤ n ∧ v = .int .i64 k ∧ bs.length = k ∧ PrsRel s.data.toList k bs ∧ wr.rowIs w.heap.size 5 n (bRow bs) ∧ Below w.heap.size w wr) (fun v _ => n - (intOf v).toNat)
  case atStart => exact ⟨0, [], by omega, rfl, rfl, rfl, hrow0.congr (fun j _ => by simp [bRow]), hb0⟩
  case round =>
    clear hrow0 hb0
    obtain ⟨k, bs, hk, rfl, hbl, hrel, hrow, hbw⟩ := hrel
    by_cases hlt : k < n
    · have hA : 2 * k < s.size := by have := HN.out; omega
      have hB : 2 * k + 1 < s.size := by have := HN.out; omega
      have hx1 : ∀ W, (Instr.index 9 (.string s) (.int .i64 (2 * (k : Int)))).run Tryz.prog W = .ok (.int .u8 (s[2 * k].toNat : Int)) W := fun W => by
        rw [run_index_string W 9 _ .i64 _ Tryz.underlying9, dif_pos ⟨by omega, by omega⟩]
        have e : (2 * (k : Int)).toNat = 2 * k := by omega
        simp only [e]
      have hx2 : ∀ W, (Instr.index 9 (.string s) (.int .i64 (2 * (k : Int) + 1))).run Tryz.prog W = .ok (.int .u8 (s[2 * k + 1].toNat : Int)) W := fun W => by
        rw [run_index_string W 9 _ .i64 _ Tryz.underlying9, dif_pos ⟨by omega, by omega⟩]
        have e : (2 * (k : Int) + 1).toNat = 2 * k + 1 := by omega
        simp only [e]
      have hq5 : IntKind.i64.wrap (2 * (k : Int)) = 2 * (k : Int) := IntWalk.i64_in _ (by omega)
      have hq6 : IntKind.i64.wrap (2 * (k : Int) + 1) = 2 * (k : Int) + 1 := IntWalk.i64_in _ (by omega)
      have HY := Lib.hid (fun ha hb => hrel.yes hB ha hb)
      have HNO := Lib.hid (fun hab => hrel.no hB hab)
      have HBY := Lib.hid (byte_of s[2 * k] s[2 * k + 1])
      have hd1 := dig16_bd s[2 * k]
      have hd2 := dig16_bd s[2 * k + 1]
      have HQ := Lib.hid rdigit_q
      generalize s[2 * k] = c1 at *
      generalize s[2 * k + 1] = c2 at *
      have hcell := hrow.cell (i := k) hlt
      have hfr := hrow.frozen k
      have HROW := Lib.hid hrow
      have HBW := Lib.hid hbw
      have HBL := Lib.hid hbl
      have HNB := Lib.hid (fun j => bRow_next bs (byteOf c1 c2) j)
      clear hrow hbw hrel hA hB hbl
      go_wp2_with fail
      go_quiet ((go_at_call 57; exact HQ.out _ _ _))
      clear hx1 hx2 hq5 hq6
      by_cases hdd : 0 ≤ dig 16 c1 ∧ 0 ≤ dig 16 c2
      · obtain ⟨h1, h2⟩ := hdd
        have HB8 := Lib.hid (HBY.out h1 h2)
        have HY' := Lib.hid (HY.out h1 h2)
        generalize dig 16 c1 = d1 at *
        generalize dig 16 c2 = d2 at *
        generalize byteOf c1 c2 = c at *
        clear HY HNO HBY
        go_wp2_with fail
        go_roundw
        case rel => exact ⟨k + 1, bs ++ [c], by omega, by go_num, by simp [HBL.out], HY'.out, by
            have e := HBL.out
            exact ((show World.rowIs (World.drewN _ _) _ _ _ _ from HROW.out).set k _).congr (fun j _ => by rw [HB8.out, ← e]; exact HNB.out j), (below_drewN HBW.out _).setCell (Nat.le_refl _) _⟩
        case measure => simp [intOf]; omega
      · have hno := HNO.out hdd
        have HNO' := Lib.hid hno
        have hpar : dig 16 c1 < 0 ∨ dig 16 c2 < 0 := by omega
        generalize dig 16 c1 = d1 at *
        generalize dig 16 c2 = d2 at *
        clear HY HNO HBY hno hdd
        by_cases h1 : d1 < 0
        · go_wp2_with fail
          go_ret2
          exact ⟨by unfold rbRes; rw [HNO'.out, if_neg (by simp)]; rfl, below_drewN HBW.out _⟩
        · have h2 : d2 < 0 := by omega
          go_wp2_with fail
          go_ret2
          exact ⟨by unfold rbRes; rw [HNO'.out, if_neg (by simp)]; rfl, below_drewN HBW.out _⟩
    · obtain rfl : k = n := by omega
      have hall := hrel.all (by have := HN.out; omega)
      have hcv : (convert 70 9 (.slice (some ⟨w.heap.size, 0, none⟩) k k)).run Tryz.prog wr = .ok (.string ⟨bs.toArray⟩) wr := by
        have h := run_convert_bytes_back wr 70 9 5 ⟨w.heap.size, 0, none⟩ k bs Tryz.underlying70 Tryz.underlying5 Tryz.underlying9 (fun j hj => by
          rw [Lib.add_plain, Nat.zero_add, hrow.cell (by omega)]
          unfold bRow
          rw [List.getElem?_eq_getElem hj])
        rw [hbl] at h
        exact h
      have HA := Lib.hid hall
      have HBW := Lib.hid hbw
      clear hrow hbw hrel hall hbl
      go_wp2_with fail
      go_ret2
      exact ⟨by unfold rbRes; rw [HA.out, if_pos ⟨HLEN.out, rfl⟩]; rfl, HBW.out⟩
theorem rbytes_odd (s : ByteArray) (w : World) (hs : s.size ≤ 800) (hod : s.size % 2 = 1) :
    Calls Tryz.prog 41 #[.string s] w fun e w' => e = .returned (rbRes s.data.toList) ∧ Below w.heap.size w w' := by
  have hodd : ((s.size : Int) % 2 == 1) = true := by rw [beq_iff_eq]; omega
  have hr : rbRes s.data.toList = .tuple #[.string ⟨#[]⟩, .bool false] := by
    unfold rbRes
    rw [if_neg]
    rintro ⟨h, _⟩
    simp at h
    omega
  rw [hr]
  clear hr hod
  go_enter Tryz.func41, Tryz.ntmps41
  go_wp2_with fail
  go_ret2
  exact ⟨rfl, Below.refl _ _⟩
theorem rbytes_any (s : ByteArray) (w : World) (hs : s.size ≤ 800) :
    Calls Tryz.prog 41 #[.string s] w fun e w' => e = .returned (rbRes s.data.toList) ∧ Below w.heap.size w w' := by
  rcases Nat.mod_two_eq_zero_or_one s.size with h | h
  · exact rbytes_even s w hs h
  · exact rbytes_odd s w hs h
end Go.Proofs.YtifmfcaaofiboaaGreatDoor
namespace Go.Proofs.YtifmfcaaofiboaaGreatDoor
open Go.RowKit

/-- a number with a sign, as it is written -/
def sg (l : List UInt8) : Option Int :=
  if Lib.hasPrefix l [45] = true then (match numOf 9223372036854775808 (Lib.trimPrefix l [45]) with | some n => if 1 ≤ n then some (-n) else none | none => none)
  else numOf 9223372036854775807 l
theorem pre_one (s : ByteArray) (c : UInt8) : Lib.hasPrefix s.data.toList [c] = true ↔ ∃ h : 0 < s.size, s[0] = c := by
  obtain ⟨⟨l⟩⟩ := s
  cases l with
  | nil =>
    constructor
    · intro h; simp [Lib.hasPrefix] at h
    · rintro ⟨h, _⟩; simp [ByteArray.size] at h
  | cons a l =>
    show Lib.hasPrefix (a :: l) [c] = true ↔ ∃ h : _, a = c
    unfold Lib.hasPrefix
    constructor
    · intro h
      refine ⟨by simp [ByteArray.size], ?_⟩
      simp [List.isPrefixOf] at h
      exact h.symm
    · rintro ⟨_, rfl⟩
      simp [List.isPrefixOf]
theorem pre_drop (s : ByteArray) (c : UInt8) (h : Lib.hasPrefix s.data.toList [c] = true) : (s.extract 1 s.size).data.toList = Lib.trimPrefix s.data.toList [c] := by
  rw [Lib.extract_data]
  unfold Lib.trimPrefix
  rw [if_pos h]
  show (List.drop 1 _).take (s.size - 1) = List.drop 1 _
  exact List.take_of_length_le (by simp)
theorem ret2_eq {a b c d : Value} (h : a = c) (k : b = d) : Ending.returned (.tuple #[a, b]) = .returned (.tuple #[c, d]) := by rw [h, k]
/-- what ref signed answers -/
def SgPost (l : List UInt8) (w : World) (e : Ending) (w' : World) : Prop := ∃ v, e = .returned (.tuple #[.int .i64 v, .bool (sg l).isSome]) ∧ (∀ x, sg l = some x → v = x) ∧ Below w.heap.size w w'
set_option maxHeartbeats 1000000 in
theorem rsigned_neg (s : ByteArray) (w : World) (hz : s.size ≤ 800) (hp : Lib.hasPrefix s.data.toList [45] = true) :
    Calls Tryz.prog 43 #[.string s] w (SgPost s.data.toList w) := by
  obtain ⟨h0, h1⟩ := (pre_one s 45).1 hp
  have C := runs_any (s.extract 1 s.size) w
  rw [pre_drop s 45 hp] at C
  have hcap := numOf_cap (m := 9223372036854775808) (M := 18446744073709551615) (by omega) (by omega) (Lib.trimPrefix s.data.toList [45])
  have hsg : sg s.data.toList = (match capAt 9223372036854775808 (numOf 18446744073709551615 (Lib.trimPrefix s.data.toList [45])) with | some n => if 1 ≤ n then some (-n) else none | none => none) := by
    unfold sg
    rw [if_pos hp, hcap]
  have hb : ((s[0].toNat : Int) == 45) = true := by rw [h1]; rfl
  have h0' : (0 : Int) < (s.size : Int) := by omega
  cases hN : numOf 18446744073709551615 (Lib.trimPrefix s.data.toList [45]) with
  | none =>
    rw [hN] at C hsg
    rw [show numRes none = .tuple #[.int .u64 0, .bool false] from rfl] at C
    have HC := Lib.hid C
    have HS := Lib.hid (show sg s.data.toList = none from hsg)
    clear C hsg hcap hN hp h1
    unfold SgPost
    go_enter Tryz.func43, Tryz.ntmps43
    go_wp2_with (first | (go_at_call 42; refine HC.out.mono ?_; rintro e w1 ⟨rfl, hb1⟩))
    go_ret2
    exact ⟨0, by rw [HS.out]; rfl, (fun x hx => by rw [HS.out] at hx; cases hx), hb1⟩
  | some n =>
    obtain ⟨hn0, hn1⟩ := numOf_in (by omega) hN
    rw [hN] at C hsg
    rw [show numRes (some n) = .tuple #[.int .u64 n, .bool true] from rfl] at C
    have HC := Lib.hid C
    by_cases hz0 : n = 0
    · have HS := Lib.hid (show sg s.data.toList = none by rw [hsg, hz0]; rfl)
      have hzb : (n == 0) = true := by simpa using hz0
      clear C hsg hcap hN hp h1 hz0
      unfold SgPost
      go_enter Tryz.func43, Tryz.ntmps43
      go_wp2_with (first | (go_at_call 42; refine HC.out.mono ?_; rintro e w1 ⟨rfl, hb1⟩))
      go_ret2
      exact ⟨0, by rw [HS.out]; rfl, (fun x hx => by rw [HS.out] at hx; cases hx), hb1⟩
    · have hzb : (n == 0) = false := by simpa using hz0
      by_cases hbig : n ≤ 9223372036854775808
      · have HS := Lib.hid (show sg s.data.toList = some (-n) by rw [hsg]; show (match (if n ≤ 9223372036854775808 then some n else none) with | some n => if 1 ≤ n then some (-n) else none | none => none) = _; rw [if_pos hbig]; show (if 1 ≤ n then some (-n) else none) = _; rw [if_pos (by omega)])
        have hn1' : 1 ≤ n := by omega
        clear C hsg hcap hN hp h1 hz0
        unfold SgPost
        go_enter Tryz.func43, Tryz.ntmps43
        go_wp2_with (first | (go_at_call 42; refine HC.out.mono ?_; rintro e w1 ⟨rfl, hb1⟩))
        go_ret2
        exact ⟨_, by rw [HS.out]; rfl, (fun x hx => by rw [HS.out] at hx; cases hx; show _ - 1 = -n; omega), hb1⟩
      · have HS := Lib.hid (show sg s.data.toList = none by rw [hsg]; show (match (if n ≤ 9223372036854775808 then some n else none) with | some n => if 1 ≤ n then some (-n) else none | none => none) = _; rw [if_neg hbig])
        have hbig' : 9223372036854775808 < n := by omega
        clear C hsg hcap hN hp h1 hz0 hbig
        unfold SgPost
        go_enter Tryz.func43, Tryz.ntmps43
        go_wp2_with (first | (go_at_call 42; refine HC.out.mono ?_; rintro e w1 ⟨rfl, hb1⟩))
        go_ret2
        exact ⟨0, by rw [HS.out]; rfl, (fun x hx => by rw [HS.out] at hx; cases hx), hb1⟩

set_option maxHeartbeats 1000000 in
theorem rsigned_pos (s : ByteArray) (w : World) (_hz : s.size ≤ 800) (hp : ¬ Lib.hasPrefix s.data.toList [45] = true) :
    Calls Tryz.prog 43 #[.string s] w (SgPost s.data.toList w) := by
  have C := runs_any s w
  have hcap := numOf_cap (m := 9223372036854775807) (M := 18446744073709551615) (by omega) (by omega) s.data.toList
  have hsg : sg s.data.toList = capAt 9223372036854775807 (numOf 18446744073709551615 s.data.toList) := by
    unfold sg
    rw [if_neg hp, hcap]
  have hg : s.size = 0 ∨ (0 < s.size ∧ ∃ h : 0 < s.size, ((s[0].toNat : Int) == 45) = false) := by
    rcases Nat.eq_zero_or_pos s.size with h | h
    · exact .inl h
    · refine .inr ⟨h, h, ?_⟩
      rw [beq_eq_false_iff_ne]
      intro he
      exact hp ((pre_one s 45).2 ⟨h, UInt8.toNat_inj.1 (show s[0].toNat = (45 : UInt8).toNat by show s[0].toNat = 45; omega)⟩)
  cases hN : numOf 18446744073709551615 s.data.toList with
  | none =>
    rw [hN] at C hsg
    rw [show numRes none = .tuple #[.int .u64 0, .bool false] from rfl] at C
    have HC := Lib.hid C
    have HS := Lib.hid (show sg s.data.toList = none from hsg)
    clear C hsg hcap hN hp
    unfold SgPost
    rcases hg with hg | ⟨hg, hg1, hg2⟩
    all_goals
      go_enter Tryz.func43, Tryz.ntmps43
      go_wp2_with (first | (go_at_call 42; refine HC.out.mono ?_; rintro e w1 ⟨rfl, hb1⟩))
      go_ret2
      exact ⟨_, by rw [HS.out]; rfl, (fun x hx => by rw [HS.out] at hx; cases hx), hb1⟩
  | some n =>
    obtain ⟨hn0, hn1⟩ := numOf_in (by omega) hN
    rw [hN] at C hsg
    rw [show numRes (some n) = .tuple #[.int .u64 n, .bool true] from rfl] at C
    have HC := Lib.hid C
    by_cases hbig : n ≤ 9223372036854775807
    · have HS := Lib.hid (show sg s.data.toList = some n by rw [hsg]; show (if n ≤ 9223372036854775807 then some n else none) = _; rw [if_pos hbig])
      clear C hsg hcap hN hp
      unfold SgPost
      rcases hg with hg | ⟨hg, hg1, hg2⟩
      all_goals
        go_enter Tryz.func43, Tryz.ntmps43
        go_wp2_with (first | (go_at_call 42; refine HC.out.mono ?_; rintro e w1 ⟨rfl, hb1⟩))
        go_ret2
        exact ⟨_, by rw [HS.out]; exact ret2_eq rfl (by first | rfl | (simp; done) | (simp; omega)), (fun x hx => by rw [HS.out] at hx; cases hx; show _ = n; omega), hb1⟩
    · have HS := Lib.hid (show sg s.data.toList = none by rw [hsg]; show (if n ≤ 9223372036854775807 then some n else none) = _; rw [if_neg hbig])
      have hbig' : 9223372036854775808 ≤ n := by omega
      clear C hsg hcap hN hp hbig
      unfold SgPost
      rcases hg with hg | ⟨hg, hg1, hg2⟩
      all_goals
        go_enter Tryz.func43, Tryz.ntmps43
        go_wp2_with (first | (go_at_call 42; refine HC.out.mono ?_; rintro e w1 ⟨rfl, hb1⟩))
        go_ret2
        exact ⟨_, by rw [HS.out]; exact ret2_eq rfl (by first | rfl | (simp; done) | (simp; omega)), (fun x hx => by rw [HS.out] at hx; cases hx), hb1⟩
theorem rsigned_any (s : ByteArray) (w : World) (hz : s.size ≤ 800) : Calls Tryz.prog 43 #[.string s] w (SgPost s.data.toList w) := by
  by_cases hp : Lib.hasPrefix s.data.toList [45] = true
  · exact rsigned_neg s w hz hp
  · exact rsigned_pos s w hz hp
end Go.Proofs.YtifmfcaaofiboaaGreatDoor
namespace Go.Proofs.YtifmfcaaofiboaaGreatDoor
open Go.RowKit

/-- are they bytes' text, as ref Parse sees it? -/
def isX (s : ByteArray) : Bool := decide (3 ≤ s.size) && (((s.extract 0 2).toList == [120, 39]) && (match s.data.toList.getLast? with | some c => c.toNat == 39 | none => false))
theorem pre_two (s : ByteArray) : Lib.hasPrefix s.data.toList [120, 39] = true ↔ (s.extract 0 2).toList = [120, 39] := by
  rw [Lib.extract_toList]
  simp only [List.drop_zero, Nat.sub_zero]
  unfold Lib.hasPrefix
  rw [List.isPrefixOf_iff_prefix, List.prefix_iff_eq_take]
  exact ⟨fun h => h.symm, fun h => h.symm⟩
theorem suf_last (l : List UInt8) (c : UInt8) : Lib.hasSuffix l [c] = true ↔ l.getLast? = some c := by
  unfold Lib.hasSuffix
  rw [List.isSuffixOf_iff_suffix]
  constructor
  · rintro ⟨t, rfl⟩; simp
  · intro h
    obtain ⟨t, rfl⟩ := List.getLast?_eq_some_iff.1 h
    exact ⟨t, rfl⟩
theorem last_app (p : List UInt8) {t : List UInt8} (ht : t ≠ []) : (p ++ t).getLast? = t.getLast? := by
  rw [List.getLast?_append]
  cases h : t.getLast? with
  | none => exact absurd (List.getLast?_eq_none_iff.1 h) ht
  | some c => rfl
theorem isX_iff (s : ByteArray) : isX s = true ↔ Lib.hasPrefix s.data.toList [120, 39] = true ∧ closedOf s.data.toList = true := by
  unfold isX
  simp only [Bool.and_eq_true, decide_eq_true_eq, beq_iff_eq]
  rw [pre_two]
  constructor
  · rintro ⟨h3, hp, hl⟩
    refine ⟨hp, ?_⟩
    unfold closedOf
    rw [suf_last]
    have hp' := (pre_two s).2 hp
    have e := pre_split hp'
    have hlen : s.data.toList.length = s.size := by simp
    generalize Lib.trimPrefix s.data.toList [120, 39] = t at e ⊢
    have ht : t ≠ [] := by rintro rfl; rw [e] at hlen; simp at hlen; omega
    rw [e, last_app _ ht] at hl
    cases hg : t.getLast? with
    | none => rw [hg] at hl; cases hl
    | some c =>
      rw [hg] at hl
      have h39 : c.toNat = 39 := by simpa using hl
      exact congrArg some (UInt8.toNat_inj.1 h39)
  · rintro ⟨hp, hc⟩
    have hp' := (pre_two s).2 hp
    have e := pre_split hp'
    unfold closedOf at hc
    rw [suf_last] at hc
    have hlen : s.data.toList.length = s.size := by simp
    generalize Lib.trimPrefix s.data.toList [120, 39] = t at e hc
    have ht : t ≠ [] := by rintro rfl; cases hc
    refine ⟨?_, hp, ?_⟩
    · rw [e] at hlen
      cases t with
      | nil => exact absurd rfl ht
      | cons a r => simp at hlen; omega
    · rw [e, last_app _ ht, hc]
      rfl
/-- what ref Parse answers of what is no word and no bytes -/
def restRes (l : List UInt8) : Value :=
  if Lib.hasSuffix l [117] = true then (match numOf 18446744073709551615 (Lib.trimSuffix l [117]) with | some n => .tuple #[.agg #[.int .i64 2, .int .i64 0, .int .u64 n, .string ⟨#[]⟩], .int .i64 0] | none => .tuple #[zeroV, .int .i64 110])
  else (match sg l with | some n => .tuple #[.agg #[.int .i64 1, .int .i64 n, .int .u64 0, .string ⟨#[]⟩], .int .i64 0] | none => .tuple #[zeroV, .int .i64 110])
/-- what it answers of bytes -/
def xRes (l : List UInt8) : Value :=
  if (innerOf l).length % 2 = 0 ∧ (prsGo (innerOf l) []).isSome = true then (if 200 < ((prsGo (innerOf l) []).getD []).length then .tuple #[zeroV, .int .i64 3] else .tuple #[.agg #[.int .i64 4, .int .i64 0, .int .u64 0, .string ⟨((prsGo (innerOf l) []).getD []).toArray⟩], .int .i64 0])
  else .tuple #[zeroV, .int .i64 110]
theorem chk1 (i : Int) : chk 1 i 0 ⟨#[]⟩ = 0 := by simp [chk, vEqB, onlyI, onlyU, onlyS, emptyZ]
theorem chk2 (u : Int) : chk 2 0 u ⟨#[]⟩ = 0 := by simp [chk, vEqB, onlyI, onlyU, onlyS, emptyZ]
theorem chk4 (s : ByteArray) : chk 4 0 0 s = if 200 < s.size then 3 else 0 := by
  by_cases h : 200 < s.size
  · rw [if_pos h]; simp [chk, vEqB, onlyI, onlyU, onlyS]; omega
  · rw [if_neg h]; simp [chk, vEqB, onlyI, onlyU, onlyS]; omega
theorem parse_x {l : List UInt8} (n1 : l ≠ [110, 117, 108, 108]) (n2 : l ≠ [102, 97, 108, 115, 101]) (n3 : l ≠ [116, 114, 117, 101]) (hp : Lib.hasPrefix l [120, 39] = true) (hc : closedOf l = true) : parseRes l = xRes l := by
  have e : readOf l = ⟨4, 0, 0, ⟨((prsGo (innerOf l) []).getD []).toArray⟩, bytesOk l⟩ := by
    unfold readOf
    rw [if_neg n1, if_neg n2, if_neg n3, if_pos hp]
  unfold parseRes xRes
  rw [e]
  simp only
  unfold bytesOk
  rw [hc]
  by_cases hs : (prsGo (innerOf l) []).isSome = true
  · by_cases hv : (innerOf l).length % 2 = 0
    · rw [if_neg (by simp [hs, hv]), chk4]
      have hz : (⟨((prsGo (innerOf l) []).getD []).toArray⟩ : ByteArray).size = ((prsGo (innerOf l) []).getD []).length := by show Array.size _ = _; simp
      rw [hz]
      by_cases hb : 200 < ((prsGo (innerOf l) []).getD []).length
      · simp [hb, hv, hs]
      · simp [hb, hv, hs]
    · rw [if_pos (by simp [hv]), if_neg (fun h => hv h.1)]
  · rw [if_pos (by simp [hs]), if_neg (fun h => hs h.2)]
theorem num_x {m : Int} (r : List UInt8) : numOf m (120 :: r) = none := by
  unfold numOf
  split
  · rfl
  · simp only [numGo]
    rw [if_neg]
    rintro ⟨h, _⟩
    exact absurd h (by decide)
theorem parse_rest {l : List UInt8} (n1 : l ≠ [110, 117, 108, 108]) (n2 : l ≠ [102, 97, 108, 115, 101]) (n3 : l ≠ [116, 114, 117, 101]) (h : ¬ (Lib.hasPrefix l [120, 39] = true ∧ closedOf l = true)) : parseRes l = restRes l := by
  by_cases hp : Lib.hasPrefix l [120, 39] = true
  · have hc : closedOf l = false := by cases hc : closedOf l; rfl; exact absurd ⟨hp, hc⟩ h
    have e : readOf l = ⟨4, 0, 0, ⟨((prsGo (innerOf l) []).getD []).toArray⟩, bytesOk l⟩ := by
      unfold readOf
      rw [if_neg n1, if_neg n2, if_neg n3, if_pos hp]
    have hl := pre_split hp
    unfold parseRes restRes
    rw [e]
    simp only
    unfold bytesOk
    rw [hc, Bool.false_and, if_pos rfl]
    split
    · rename_i hs
      have ht := suf_split hs
      have hn : numOf 18446744073709551615 (Lib.trimSuffix l [117]) = none := by
        generalize Lib.trimSuffix l [117] = t at ht ⊢
        generalize Lib.trimPrefix l [120, 39] = r at hl
        rw [ht] at hl
        cases t with
        | nil => cases hl
        | cons a t =>
          have : a = 120 := (List.cons.inj hl).1
          rw [this]; exact num_x t
      rw [hn]
    · have hn : sg l = none := by
        rw [hl]
        unfold sg
        rw [if_neg (by simp [Lib.hasPrefix, List.isPrefixOf])]
        exact num_x _
      rw [hn]
  · unfold parseRes restRes
    by_cases hs : Lib.hasSuffix l [117] = true
    · rw [if_pos hs]
      cases hn : numOf 18446744073709551615 (Lib.trimSuffix l [117]) with
      | none =>
        have e : readOf l = ⟨2, 0, 0, ⟨#[]⟩, false⟩ := by unfold readOf; rw [if_neg n1, if_neg n2, if_neg n3, if_neg hp, if_pos hs, hn]
        rw [e, if_pos rfl]
      | some n =>
        have e : readOf l = ⟨2, 0, n, ⟨#[]⟩, true⟩ := by unfold readOf; rw [if_neg n1, if_neg n2, if_neg n3, if_neg hp, if_pos hs, hn]
        rw [e, if_neg (by simp), if_pos (chk2 n)]
    · rw [if_neg hs]
      unfold sg
      by_cases hm : Lib.hasPrefix l [45] = true
      · rw [if_pos hm]
        cases hn : numOf 9223372036854775808 (Lib.trimPrefix l [45]) with
        | none =>
          have e : readOf l = ⟨1, 0, 0, ⟨#[]⟩, false⟩ := by unfold readOf; rw [if_neg n1, if_neg n2, if_neg n3, if_neg hp, if_neg hs, if_pos hm, hn]
          rw [e, if_pos rfl]
        | some n =>
          have e : readOf l = ⟨1, -n, 0, ⟨#[]⟩, decide (1 ≤ n)⟩ := by unfold readOf; rw [if_neg n1, if_neg n2, if_neg n3, if_neg hp, if_neg hs, if_pos hm, hn]
          rw [e]
          by_cases h1 : 1 ≤ n
          · rw [if_neg (by simpa using h1), if_pos (chk1 _)]
            simp [h1]
          · rw [if_pos (by simpa using h1)]
            simp [h1]
      · rw [if_neg hm]
        cases hn : numOf 9223372036854775807 l with
        | none =>
          have e : readOf l = ⟨1, 0, 0, ⟨#[]⟩, false⟩ := by unfold readOf; rw [if_neg n1, if_neg n2, if_neg n3, if_neg hp, if_neg hs, if_neg hm, hn]
          rw [e, if_pos rfl]
        | some n =>
          have e : readOf l = ⟨1, n, 0, ⟨#[]⟩, true⟩ := by unfold readOf; rw [if_neg n1, if_neg n2, if_neg n3, if_neg hp, if_neg hs, if_neg hm, hn]
          rw [e, if_neg (by simp), if_pos (chk1 n)]
end Go.Proofs.YtifmfcaaofiboaaGreatDoor

/-
  swingbridgeref01.Text.
-/
import Derived.Test.YtifmfcaaofiboaaGreatDoorRow
import Derived.IntWalk
namespace Go.Proofs.YtifmfcaaofiboaaGreatDoor
open Go.RowKit

/-- a result of ref Text -/
def rTextRes (k i u : Int) (s : ByteArray) : Value := if chk k i u s = 0 then .tuple #[.string (textOf k i u s), .int .i64 0] else .tuple #[.string ⟨#[]⟩, .int .i64 (chk k i u s)]

set_option maxHeartbeats 400000 in
theorem rText_err (k i u n : Int) (s : ByteArray) (w : World) (h : chk k i u s = n) (hn : n ≠ 0) :
    Calls Tryz.prog 18 #[.agg #[.int .i64 k, .int .i64 i, .int .u64 u, .string s]] w fun e w' => e = .returned (.tuple #[.string ⟨#[]⟩, .int .i64 n]) ∧ Below w.heap.size w w' := by
  have C := rCheck_any k i u s (w.alloc (.cells #[.int .i64 k, .int .i64 i, .int .u64 u, .string s] 25))
  rw [h] at C
  have HC := Lib.hid C
  have hn1 : (n != 0) = true := by simpa using hn
  clear C h hn
  go_enter Tryz.func18, Tryz.ntmps18
  go_wp2_with (first | (go_at_call 12; refine HC.out.mono ?_; rintro e w1 ⟨rfl, hb⟩; have HB := Lib.hid (below_box hb); clear hb))
  go_ret2
  exact ⟨rfl, HB.out⟩
/-- behind the check -/
theorem rcheck_ok {k i u : Int} {s : ByteArray} (h : chk k i u s = 0) (W : World) :
    Calls Tryz.prog 12 #[.agg #[.int .i64 k, .int .i64 i, .int .u64 u, .string s]] W fun e w' => e = .returned (.int .i64 0) ∧ Below W.heap.size W w' := by
  have C := rCheck_any k i u s W
  rw [h] at C
  exact C
set_option maxHeartbeats 400000 in
theorem rText_0 (i u : Int) (s : ByteArray) (w : World) (h : chk 0 i u s = 0) :
    Calls Tryz.prog 18 #[.agg #[.int .i64 0, .int .i64 i, .int .u64 u, .string s]] w fun e w' => e = .returned (.tuple #[.string ⟨#[110, 117, 108, 108]⟩, .int .i64 0]) ∧ Below w.heap.size w w' := by
  have HC := Lib.hid (rcheck_ok h (w.alloc (.cells #[.int .i64 0, .int .i64 i, .int .u64 u, .string s] 25)))
  clear h
  go_enter Tryz.func18, Tryz.ntmps18
  go_wp2_with fail
  refine HC.out.mono ?_
  rintro e w1 ⟨rfl, hb⟩
  obtain ⟨hc, hf, hsz⟩ := box_after hb
  have c0 : w1.cell? ⟨w.heap.size, 0, none⟩ = some (.int .i64 0) := hc 0
  have HB := Lib.hid (below_box hb)
  clear hb hc hf
  go_wp2_with fail
  go_ret2
  exact ⟨rfl, HB.out⟩
set_option maxHeartbeats 400000 in
theorem rText_1 (i u : Int) (s : ByteArray) (w : World) (h : chk 1 i u s = 0) (h0 : -9223372036854775808 ≤ i) (h1 : i ≤ 9223372036854775807) (ht : HasTab w) :
    Calls Tryz.prog 18 #[.agg #[.int .i64 1, .int .i64 i, .int .u64 u, .string s]] w fun e w' => e = .returned (.tuple #[.string ⟨(Lib.itoa i).toArray⟩, .int .i64 0]) ∧ Below w.heap.size w w' := by
  have HC := Lib.hid (rcheck_ok h (w.alloc (.cells #[.int .i64 1, .int .i64 i, .int .u64 u, .string s] 25)))
  have HF := Lib.hid (fun W hb => FormatInt_10 i h0 h1 W (ht.below (B := w.heap.size) hb ht.lt))
  clear h h0 h1 ht
  go_enter Tryz.func18, Tryz.ntmps18
  go_wp2_with fail
  refine HC.out.mono ?_
  rintro e w1 ⟨rfl, hb⟩
  obtain ⟨hc, hf, hsz⟩ := box_after hb
  have c0 : w1.cell? ⟨w.heap.size, 0, none⟩ = some (.int .i64 1) := hc 0
  have c1 : w1.cell? ⟨w.heap.size, 1, none⟩ = some (.int .i64 i) := hc 1
  have HB := Lib.hid (below_box hb)
  clear hb hc hf
  go_wp2_with fail
  refine (HF.out _ HB.out).mono ?_
  rintro e w2 ⟨rfl, hb2⟩
  go_wp2_with fail
  go_ret2
  exact ⟨rfl, HB.out.trans (hb2.mono HB.out.size)⟩
set_option maxHeartbeats 400000 in
theorem rText_2 (i u : Int) (s : ByteArray) (w : World) (h : chk 2 i u s = 0) (h0 : 0 ≤ u) (h1 : u ≤ 18446744073709551615) (ht : HasTab w) :
    Calls Tryz.prog 18 #[.agg #[.int .i64 2, .int .i64 i, .int .u64 u, .string s]] w fun e w' => e = .returned (.tuple #[.string (⟨(Lib.decDigits u.toNat).toArray⟩ ++ ⟨#[117]⟩), .int .i64 0]) ∧ Below w.heap.size w w' := by
  have HC := Lib.hid (rcheck_ok h (w.alloc (.cells #[.int .i64 2, .int .i64 i, .int .u64 u, .string s] 25)))
  have HF := Lib.hid (fun W hb => FormatUint_10 u h0 h1 W (ht.below (B := w.heap.size) hb ht.lt))
  have hl : (Lib.decDigits u.toNat).length ≤ 20 := by rw [Lib.decDigits_length]; exact Lib.nDigits_le20 _ (by omega)
  clear h h0 h1 ht
  go_enter Tryz.func18, Tryz.ntmps18
  go_wp2_with fail
  refine HC.out.mono ?_
  rintro e w1 ⟨rfl, hb⟩
  obtain ⟨hc, hf, hsz⟩ := box_after hb
  have c0 : w1.cell? ⟨w.heap.size, 0, none⟩ = some (.int .i64 2) := hc 0
  have c2 : w1.cell? ⟨w.heap.size, 2, none⟩ = some (.int .u64 u) := hc 2
  have HB := Lib.hid (below_box hb)
  clear hb hc hf
  go_wp2_with fail
  refine (HF.out _ HB.out).mono ?_
  rintro e w2 ⟨rfl, hb2⟩
  go_wp2_with fail
  go_ret2
  exact ⟨rfl, HB.out.trans (hb2.mono HB.out.size)⟩
set_option maxHeartbeats 400000 in
theorem rText_3 (i u : Int) (s : ByteArray) (w : World) (h : chk 3 i u s = 0) (b : Bool) (hb1 : (i == 1) = b) :
    Calls Tryz.prog 18 #[.agg #[.int .i64 3, .int .i64 i, .int .u64 u, .string s]] w fun e w' => e = .returned (.tuple #[.string (if b then ⟨#[116, 114, 117, 101]⟩ else ⟨#[102, 97, 108, 115, 101]⟩), .int .i64 0]) ∧ Below w.heap.size w w' := by
  have HC := Lib.hid (rcheck_ok h (w.alloc (.cells #[.int .i64 3, .int .i64 i, .int .u64 u, .string s] 25)))
  clear h
  cases b
  all_goals
    go_enter Tryz.func18, Tryz.ntmps18
    go_wp2_with fail
    refine HC.out.mono ?_
    rintro e w1 ⟨rfl, hb⟩
    obtain ⟨hc, hf, hsz⟩ := box_after hb
    have c0 : w1.cell? ⟨w.heap.size, 0, none⟩ = some (.int .i64 3) := hc 0
    have c1 : w1.cell? ⟨w.heap.size, 1, none⟩ = some (.int .i64 i) := hc 1
    have HB := Lib.hid (below_box hb)
    clear hb hc hf
    go_wp2_with fail
    go_ret2
    exact ⟨rfl, HB.out⟩

theorem flat_hx : ∀ (l : List UInt8) (k : Nat) (h : k < l.length), (l.flatMap hx)[2 * k]? = some (figs.getD (l[k].toNat / 16) 0) ∧ (l.flatMap hx)[2 * k + 1]? = some (figs.getD (l[k].toNat % 16) 0)
  | c :: l, 0, _ => ⟨rfl, rfl⟩
  | c :: l, k + 1, h => by
    have ih := flat_hx l k (by simpa using h)
    rw [List.flatMap_cons]
    show (_ :: _ :: l.flatMap hx)[2 * (k + 1)]? = _ ∧ (_ :: _ :: l.flatMap hx)[2 * (k + 1) + 1]? = _
    rw [show 2 * (k + 1) = 2 * k + 1 + 1 by omega, show 2 * k + 1 + 1 + 1 = (2 * k + 1) + 1 + 1 by omega, List.getElem?_cons_succ, List.getElem?_cons_succ, List.getElem?_cons_succ, List.getElem?_cons_succ]
    exact ih
theorem flat_len (l : List UInt8) : (l.flatMap hx).length = 2 * l.length := by
  induction l with
  | nil => rfl
  | cons c l ih => rw [List.flatMap_cons, List.length_append, ih]; simp [hx]; omega
theorem txt_join (l : List UInt8) : (⟨#[120, 39]⟩ : ByteArray) ++ ⟨(l.flatMap hx).toArray⟩ ++ ⟨#[39]⟩ = ⟨(txtBytes l).toArray⟩ := by
  apply ByteArray.ext
  unfold txtBytes txtB
  simp
/-- the row behind k rounds -/
def hexRow (l : List UInt8) (k j : Nat) : Value := .int .u8 (if j < 2 * k then (((l.flatMap hx)[j]?.getD 0).toNat : Int) else 0)
theorem hexRow_next {l : List UInt8} {k : Nat} {d1 d2 : UInt8} (h1 : (l.flatMap hx)[2 * k]? = some d1) (h2 : (l.flatMap hx)[2 * k + 1]? = some d2) (j : Nat) :
    (if j = 2 * k + 1 then Value.int .u8 (d2.toNat : Int) else if j = 2 * k then Value.int .u8 (d1.toNat : Int) else hexRow l k j) = hexRow l (k + 1) j := by
  unfold hexRow
  by_cases e2 : j = 2 * k + 1
  · subst e2; rw [if_pos rfl, if_pos (by omega), h2]; rfl
  · rw [if_neg e2]
    by_cases e1 : j = 2 * k
    · subst e1; rw [if_pos rfl, if_pos (by omega), h1]; rfl
    · rw [if_neg e1]
      by_cases h : j < 2 * k
      · rw [if_pos h, if_pos (by omega)]
      · rw [if_neg h, if_neg (by omega)]
theorem hexRow_next' {l : List UInt8} {k : Nat} {d1 d2 : UInt8} (h1 : (l.flatMap hx)[2 * k]? = some d1) (h2 : (l.flatMap hx)[2 * k + 1]? = some d2) (j : Nat) :
    (if j = 2 * k then Value.int .u8 (d1.toNat : Int) else if j = 2 * k + 1 then Value.int .u8 (d2.toNat : Int) else hexRow l k j) = hexRow l (k + 1) j := by
  rw [← hexRow_next h1 h2 j]
  by_cases e1 : j = 2 * k
  · subst e1; rw [if_pos rfl, if_neg (by omega), if_pos rfl]
  · rw [if_neg e1, if_neg e1]
set_option maxRecDepth 100000 in
set_option maxHeartbeats 1600000 in
theorem rText_4 (i u : Int) (s : ByteArray) (w : World) (h : chk 4 i u s = 0) (hs : s.size ≤ 300) :
    Calls Tryz.prog 18 #[.agg #[.int .i64 4, .int .i64 i, .int .u64 u, .string s]] w fun e w' => e = .returned (.tuple #[.string ⟨(txtBytes s.data.toList).toArray⟩, .int .i64 0]) ∧ Below w.heap.size w w' := by
  have HC := Lib.hid (rcheck_ok h (w.alloc (.cells #[.int .i64 4, .int .i64 i, .int .u64 u, .string s] 25)))
  clear h
  have hmk : ∀ W, (Instr.makeSlice 70 (.int .i64 (2 * (s.size : Int))) (.int .i64 (2 * (s.size : Int)))).run Tryz.prog W = .ok (.slice (some ⟨W.heap.size, 0, none⟩) (2 * s.size) (2 * s.size)) (W.alloc (.cells (madeCells #[.int .u8 0] (2 * s.size)) 5)) := fun W => by
    have := run_make_row' (P := Tryz.prog) 70 5 (.int .u8 0) 1 Tryz.underlying70 infoU8 rfl .i64 .i64 (2 * s.size) (by omega) (by omega) W
    exact this
  go_enter Tryz.func18, Tryz.ntmps18
  go_wp2_with fail
  refine HC.out.mono ?_
  rintro e w1 ⟨rfl, hb⟩
  obtain ⟨hc, hf, hsz⟩ := box_after hb
  have c0 : w1.cell? ⟨w.heap.size, 0, none⟩ = some (.int .i64 4) := hc 0
  have c3 : w1.cell? ⟨w.heap.size, 3, none⟩ = some (.string s) := hc 3
  have HB := Lib.hid (below_box hb)
  clear hb hc hf
  go_wp2_with fail
  have hrow0 := World.rowIs_made w1 (.int .u8 0) (2 * s.size) 5
  have hb0 : Below w.heap.size w (w1.alloc (.cells (madeCells #[.int .u8 0] (2 * s.size)) 5)) := HB.out.alloc HB.out.size _
  have hg0 := HB.out.size
  have hcell0 : (w1.alloc (.cells (madeCells #[.int .u8 0] (2 * s.size)) 5)).cell? ⟨w.heap.size, 3, none⟩ = some (.string s) := by rw [World.cell?_alloc_lt _ _ _ (by simp; omega)]; exact c3
  go_loopw [6] (fun v wr => ∃ k : Nat, k ≤ s.size ∧ v = .int .i64 k ∧ wr.rowIs w1.heap.size 5 (2 * s.size) (hexRow s.data.toList k) ∧ wr.cell? ⟨w.heap.size, 3, none⟩ = some (.string s) ∧ Below w.heap.size w wr) (fun v _ => s.size - (intOf v).toNat)
  case atStart => exact ⟨0, by omega, rfl, hrow0.congr (fun j _ => by simp [hexRow]), hcell0, hb0⟩
  case round =>
    clear hrow0 hb0 hcell0 c0 c3
    obtain ⟨k, hk, rfl, hrow, hcell, hbw⟩ := hrel
    by_cases hlt : k < s.size
    · have hj0 : (0 : Int) ≤ (k : Int) := by omega
      have hj1 : (k : Int) < (s.size : Int) := by omega
      obtain ⟨hf1, hf2⟩ := flat_hx s.data.toList k (by simpa using hlt)
      rw [show s.data.toList[k]'(by simpa using hlt) = s[k] from rfl] at hf1 hf2
      obtain ⟨c, hc⟩ : ∃ c, s[k] = c := ⟨_, rfl⟩
      rw [hc] at hf1 hf2
      have hc256 : (c.toNat : Int) < 256 := by have := c.toNat_lt; omega
      obtain ⟨d1, hd1⟩ : ∃ d : UInt8, d = figs.getD (c.toNat / 16) 0 := ⟨_, rfl⟩
      obtain ⟨d2, hd2⟩ : ∃ d : UInt8, d = figs.getD (c.toNat % 16) 0 := ⟨_, rfl⟩
      rw [← hd1] at hf1
      rw [← hd2] at hf2
      have hx1 : ∀ W, (Instr.index 9 (.string ⟨#[48, 49, 50, 51, 52, 53, 54, 55, 56, 57, 97, 98, 99, 100, 101, 102]⟩) (.int .u8 ((c.toNat : Int) / 16))).run Tryz.prog W = .ok (.int .u8 (d1.toNat : Int)) W := fun W => fig_at .u8 (c.toNat / 16) (by have := c.toNat_lt; omega) d1 hd1 W
      have hx2 : ∀ W, (Instr.index 9 (.string ⟨#[48, 49, 50, 51, 52, 53, 54, 55, 56, 57, 97, 98, 99, 100, 101, 102]⟩) (.int .u8 ((c.toNat : Int) % 16))).run Tryz.prog W = .ok (.int .u8 (d2.toNat : Int)) W := fun W => fig_at .u8 (c.toNat % 16) (by omega) d2 hd2 W
      have HN := Lib.hid (fun j => hexRow_next hf1 hf2 j)
      have HN' := Lib.hid (fun j => hexRow_next' hf1 hf2 j)
      have hcA := hrow.cell (i := 2 * k) (by omega)
      have hcB := hrow.cell (i := 2 * k + 1) (by omega)
      have hfA := hrow.frozen (2 * k)
      have hfB := hrow.frozen (2 * k + 1)
      have hgB := hrow.lt
      have HROW := Lib.hid hrow
      have HBW := Lib.hid hbw
      have HCELL := Lib.hid hcell
      have hne : w.heap.size ≠ w1.heap.size := by omega
      have hq1 : Int.tdiv (c.toNat : Int) 16 = (c.toNat : Int) / 16 := Int.tdiv_eq_ediv_of_nonneg (by omega)
      have hq2 : Int.tmod (c.toNat : Int) 16 = (c.toNat : Int) % 16 := Int.tmod_eq_emod_of_nonneg (by omega)
      have hq3 : IntKind.u8.wrap ((c.toNat : Int) / 16) = (c.toNat : Int) / 16 := by rw [IntKind.wrap_u8]; omega
      have hq4 : IntKind.u8.wrap ((c.toNat : Int) % 16) = (c.toNat : Int) % 16 := by rw [IntKind.wrap_u8]; omega
      have hq5 : IntKind.i64.wrap (2 * (k : Int)) = 2 * (k : Int) := IntWalk.i64_in _ (by omega)
      have hq6 : IntKind.i64.wrap (2 * (k : Int) + 1) = 2 * (k : Int) + 1 := IntWalk.i64_in _ (by omega)
      have hq7 : (2 * (k : Int)).toNat = 2 * k := by omega
      have hq8 : (2 * (k : Int) + 1).toNat = 2 * k + 1 := by omega
      have hq9 : (0 : Int) ≤ 2 * (k : Int) := by omega
      have hq12 : (0 : Int) ≤ 2 * (k : Int) + 1 := by omega
      have hq13 : 2 * (k : Int) + 1 < 2 * (s.size : Int) := by omega
      have hq14 : 2 * (k : Int) < 2 * (s.size : Int) := by omega
      have hq10 : 2 * (k : Int) + 1 < ((2 * s.size : Nat) : Int) := by omega
      have hq11 : 2 * (k : Int) < ((2 * s.size : Nat) : Int) := by omega
      clear hd1 hd2 hf1 hf2 hrow hbw
      go_wp2_with fail
      go_region_held3 (fun w' => w'.cell? ⟨w.heap.size, 3, none⟩ = some (.string s)) (first | (go_keep; done) | (simp [*, go_sem]; done)) (fail)
      all_goals
        go_wp2_with fail
        go_roundw
        case rel => exact ⟨k + 1, by omega, by go_num, by first | exact ((HROW.out.set (2 * k) _).set (2 * k + 1) _).congr (fun j _ => HN.out j) | exact ((HROW.out.set (2 * k + 1) _).set (2 * k) _).congr (fun j _ => HN'.out j), by simp [go_sem, HCELL.out], ((HBW.out.setCell (by exact hg0) _).setCell (by exact hg0) _).drew⟩
        case measure => simp [intOf]; omega
    · obtain rfl : k = s.size := by omega
      have hcv : (convert 70 9 (.slice (some ⟨w1.heap.size, 0, none⟩) (2 * s.size) (2 * s.size))).run Tryz.prog wr = .ok (.string ⟨(s.data.toList.flatMap hx).toArray⟩) wr := by
        have hfl : (s.data.toList.flatMap hx).length = 2 * s.size := by rw [flat_len]; simp
        have h := run_convert_bytes_back wr 70 9 5 ⟨w1.heap.size, 0, none⟩ (2 * s.size) (s.data.toList.flatMap hx) Tryz.underlying70 Tryz.underlying5 Tryz.underlying9 (fun j hj => by
          rw [Lib.add_plain, Nat.zero_add, hrow.cell (by omega)]
          unfold hexRow
          rw [if_pos (by omega), List.getElem?_eq_getElem hj]
          rfl)
        rw [hfl] at h
        exact h
      have HBW := Lib.hid hbw
      have HT := Lib.hid (txt_join s.data.toList)
      have hstr : (⟨(s.data.toList.flatMap hx).toArray⟩ : ByteArray).size ≤ 600 := by
        show (s.data.toList.flatMap hx).toArray.size ≤ 600
        rw [List.size_toArray, flat_len]
        simp
        omega
      clear hrow hbw
      generalize (⟨(s.data.toList.flatMap hx).toArray⟩ : ByteArray) = str at *
      go_wp2_with fail
      go_ret2
      exact ⟨by rw [← HT.out]; rfl, HBW.out⟩

theorem rText_any (k i u : Int) (s : ByteArray) (w : World) (hr : InR i u s) (ht : HasTab w) :
    Calls Tryz.prog 18 #[.agg #[.int .i64 k, .int .i64 i, .int .u64 u, .string s]] w fun e w' => e = .returned (rTextRes k i u s) ∧ Below w.heap.size w w' := by
  unfold rTextRes
  by_cases h : chk k i u s = 0
  · rw [if_pos h]
    rcases kinds_cases k with hk | rfl | rfl | rfl | rfl | rfl
    · exact absurd hk (chk_kind h)
    · exact rText_0 i u s w h
    · exact rText_1 i u s w h hr.i0 hr.i1 ht
    · exact rText_2 i u s w h hr.u0 hr.u1 ht
    · rcases chk_bool h with rfl | rfl
      · exact rText_3 0 u s w h false rfl
      · exact rText_3 1 u s w h true rfl
    · exact rText_4 i u s w h hr.z
  · rw [if_neg h]
    exact rText_err k i u _ s w rfl h
end Go.Proofs.YtifmfcaaofiboaaGreatDoor

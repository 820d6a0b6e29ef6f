/-
  parts that belong together.
-/
import Derived.Test.YtbhgcioeibhjeaaGreatDoorLRDk
import Derived.Test.YtbhgcioeibhjeaaGreatDoorLRef
import Derived.Test.YtbhgcioeibhjeaaGreatDoorLAllP
namespace Go.Proofs.YtbhgcioeibhjeaaGreatDoor
open Go.RowKit

theorem manyO_drop (l : List UInt8) (i : Nat) : manyO (l.drop i) 0 = manyO l i := by unfold manyO; rw [List.drop_zero]
theorem sumO_drop (l : List UInt8) (i : Nat) : sumO (l.drop i) 0 = sumO l i := by unfold sumO; rw [List.drop_drop, Nat.zero_add]
theorem pieceO_drop (l : List UInt8) (i : Nat) : pieceO (l.drop i) 0 = pieceO l i := by
  unfold pieceO
  rw [manyO_drop, List.drop_drop, List.length_drop, Nat.zero_add]
  by_cases h : i + 8 ≤ l.length ∧ manyO l i ≤ 60000 ∧ i + 8 + manyO l i ≤ l.length
  · rw [if_pos h, if_pos (by omega)]
  · rw [if_neg h, if_neg (by omega)]
theorem wholeO_drop (l : List UInt8) (i : Nat) : wholeO (l.drop i) 0 = wholeO l i := by unfold wholeO; rw [pieceO_drop, sumO_drop]
theorem ext_list (l : List UInt8) (i j : Nat) : (⟨l.toArray⟩ : ByteArray).extract i j = ⟨((l.drop i).take (j - i)).toArray⟩ := by
  apply ByteArray.ext
  rw [ByteArray.data_extract]
  simp
theorem ext_end (l : List UInt8) (i : Nat) : (⟨l.toArray⟩ : ByteArray).extract i l.length = ⟨(l.drop i).toArray⟩ := by
  rw [ext_list, List.take_of_length_le (by simp)]
theorem rRF4 (v : Value) (l : List UInt8) (w : World) (hv : BytesAt w v l) (hl : l.length = 4) : Calls Tryz.prog 75 #[v] w fun e w' => e = .returned (.tuple #[.int .u64 (valOf l 0 : Nat), .int .i64 0]) ∧ w = w' := by
  have h := rReadFixed_any v l w hv (by omega)
  rwa [if_pos (by omega)] at h
theorem str_bytesL (W : World) (l : List UInt8) : ∃ v W', (convert 9 43 (.string ⟨l.toArray⟩)).run Tryz.prog W = .ok v W' ∧ BytesAt W' v l ∧ Below W.heap.size W W' := str_bytes W ⟨l.toArray⟩
theorem slice_str (s : ByteArray) (i k : Nat) (h1 : i ≤ k) (h2 : k ≤ s.size) (W : World) : (Instr.sliceAt 9 (.string s) (some (.int .i64 (i : Int))) (some (.int .i64 (k : Int))) none).run Tryz.prog W = .ok (.string (s.extract i k)) W := by
  have g1 : (0 : Int) ≤ (i : Int) := by omega
  have g2 : (0 : Int) ≤ (k : Int) := by omega
  have g3 : (i : Int) ≤ (k : Int) := by omega
  have g4 : (k : Int) ≤ (s.size : Int) := by omega
  go_simp
theorem slice_strE (s : ByteArray) (i : Nat) (h1 : i ≤ s.size) (W : World) : (Instr.sliceAt 9 (.string s) (some (.int .i64 (i : Int))) none none).run Tryz.prog W = .ok (.string (s.extract i s.size)) W := by
  have g1 : (0 : Int) ≤ (i : Int) := by omega
  have g4 : (i : Int) ≤ (s.size : Int) := by omega
  go_simp
/-- what first tells -/
def FstP (l : List UInt8) (w : World) : Ending → World → Prop := fun e w' => (match wholeO l 0 with
  | some b => e = .returned (.tuple #[.string ⟨b.toArray⟩, .bool true])
  | none => ∃ s, e = .returned (.tuple #[.string s, .bool false])) ∧ Below w.heap.size w w'
set_option maxRecDepth 100000 in
set_option maxHeartbeats 2000000 in
theorem rfirst_short (l : List UInt8) (w : World) (h8 : l.length < 8) : Calls Tryz.prog 46 #[.string ⟨l.toArray⟩] w fun e w' => e = .returned (.tuple #[.string ⟨#[]⟩, .bool false]) ∧ Below w.heap.size w w' := by
  have hsz : ((⟨l.toArray⟩ : ByteArray).size : Int) < 8 := by show ((l.length : Nat) : Int) < 8; omega
  generalize (⟨l.toArray⟩ : ByteArray) = s at *
  go_enter Tryz.func46, Tryz.ntmps46
  go_wp2_with fail
  go_ret2
  exact ⟨rfl, Below.refl _ _⟩
set_option maxRecDepth 100000 in
set_option maxHeartbeats 4000000 in
theorem rfirst_bad (l : List UInt8) (w : World) (h8 : 8 ≤ l.length) (hl : l.length ≤ 100000000) (hbad : 60000 < manyO l 0 ∨ l.length < 8 + manyO l 0) : Calls Tryz.prog 46 #[.string ⟨l.toArray⟩] w fun e w' => e = .returned (.tuple #[.string ⟨#[]⟩, .bool false]) ∧ Below w.heap.size w w' := by
  have hsz : ((⟨l.toArray⟩ : ByteArray).size : Int) = l.length := rfl
  have e1 := ext_list l 0 4
  have e2 := ext_list l 4 8
  obtain ⟨v1, w1, hcv1, hb1, hw1⟩ := str_bytesL w ((l.drop 0).take 4)
  obtain ⟨v2, w2, hcv2, hb2, hw2⟩ := str_bytesL w1 ((l.drop 4).take 4)
  have H1 := Lib.hid (rRF4 v1 _ w1 hb1 (by rw [List.length_take, List.length_drop]; omega))
  have H2 := Lib.hid (rRF4 v2 _ w2 hb2 (by rw [List.length_take, List.length_drop]; omega))
  have HB := Lib.hid (hw1.trans (hw2.mono hw1.size))
  have hm1 : valOf ((l.drop 0).take 4) 0 = manyO l 0 := rfl
  have hm2 : valOf ((l.drop 4).take 4) 0 = sumO l 0 := rfl
  rw [hm1] at H1
  rw [hm2] at H2
  simp only [Nat.sub_zero, Nat.reduceSub] at e1 e2
  rw [← e1] at hcv1
  rw [← e2] at hcv2
  have hmm := manyO_lt l 0
  clear hb1 hb2 hw1 hw2 hm1 hm2 e1 e2
  generalize manyO l 0 = m at *
  generalize sumO l 0 = sm at *
  have hgs : 8 ≤ ((⟨l.toArray⟩ : ByteArray).size : Int) := by rw [hsz]; omega
  have hgs2 : ((⟨l.toArray⟩ : ByteArray).size : Int) ≤ 100000000 := by rw [hsz]; omega
  have hbad2 : 60000 < m ∨ ((⟨l.toArray⟩ : ByteArray).size : Int) - 8 < m := by rw [hsz]; omega
  clear hsz hbad h8 hl
  generalize (⟨l.toArray⟩ : ByteArray) = s at *
  have hcon : IntKind.u64.wrap ((s.size : Int) - 8) = (s.size : Int) - 8 := by rw [IntKind.wrap_u64]; omega
  have hg4 : ¬ ((s.size : Int) < 4) := by omega
  have hg8 : ¬ ((s.size : Int) < 8) := by omega
  have hs1 : ∀ W, (Instr.sliceAt 9 (.string s) none (some (.int .i64 4)) none).run Tryz.prog W = .ok (.string (s.extract 0 4)) W := fun W => by
    go_simp
  have hs2 : ∀ W, (Instr.sliceAt 9 (.string s) (some (.int .i64 4)) (some (.int .i64 8)) none).run Tryz.prog W = .ok (.string (s.extract 4 8)) W := fun W => by
    go_simp
  rcases hbad2 with h | h
  · go_enter Tryz.func46, Tryz.ntmps46
    go_wp2_with (first | (go_at_call 75; with_reducible refine H1.out.mono ?_; rintro e wx ⟨rfl, rfl⟩) | (go_at_call 75; with_reducible refine H2.out.mono ?_; rintro e wx ⟨rfl, rfl⟩))
    go_ret2
    exact ⟨rfl, HB.out⟩
  · by_cases h6 : 60000 < m
    · go_enter Tryz.func46, Tryz.ntmps46
      go_wp2_with (first | (go_at_call 75; with_reducible refine H1.out.mono ?_; rintro e wx ⟨rfl, rfl⟩) | (go_at_call 75; with_reducible refine H2.out.mono ?_; rintro e wx ⟨rfl, rfl⟩))
      go_ret2
      exact ⟨rfl, HB.out⟩
    · go_enter Tryz.func46, Tryz.ntmps46
      go_wp2_with (first | (go_at_call 75; with_reducible refine H1.out.mono ?_; rintro e wx ⟨rfl, rfl⟩) | (go_at_call 75; with_reducible refine H2.out.mono ?_; rintro e wx ⟨rfl, rfl⟩))
      go_ret2
      exact ⟨rfl, HB.out⟩
set_option maxRecDepth 100000 in
set_option maxHeartbeats 4000000 in
theorem rfirst_some (l b : List UInt8) (w : World) (hl : l.length ≤ 100000000) (hp : pieceO l 0 = some b) : Calls Tryz.prog 46 #[.string ⟨l.toArray⟩] w fun e w' => e = .returned (.tuple #[.string ⟨b.toArray⟩, .bool (decide (crc b = sumO l 0))]) ∧ Below w.heap.size w w' := by
  obtain ⟨hbl, hble, hb6⟩ := pieceO_len hp
  obtain ⟨hbv, _⟩ := pieceO_val hp
  have hsz : ((⟨l.toArray⟩ : ByteArray).size : Int) = l.length := rfl
  have e1 := ext_list l 0 4
  have e2 := ext_list l 4 8
  have e3 := ext_list l 8 (8 + b.length)
  rw [show 8 + b.length - 8 = b.length by omega, show 8 = 0 + 8 by rfl, ← hbv] at e3
  obtain ⟨v1, w1, hcv1, hb1, hw1⟩ := str_bytesL w ((l.drop 0).take 4)
  obtain ⟨v2, w2, hcv2, hb2, hw2⟩ := str_bytesL w1 ((l.drop 4).take 4)
  obtain ⟨v3, w3, hcv3, hb3, hw3⟩ := str_bytesL w2 b
  have H1 := Lib.hid (rRF4 v1 _ w1 hb1 (by rw [List.length_take, List.length_drop]; omega))
  have H2 := Lib.hid (rRF4 v2 _ w2 hb2 (by rw [List.length_take, List.length_drop]; omega))
  have H3 := Lib.hid (rSum_any v3 b w3 hb3 (by omega))
  have HB := Lib.hid (hw1.trans ((hw2.trans (hw3.mono hw2.size)).mono hw1.size))
  have hm1 : valOf ((l.drop 0).take 4) 0 = manyO l 0 := rfl
  have hm2 : valOf ((l.drop 4).take 4) 0 = sumO l 0 := rfl
  rw [hm1, ← hbl] at H1
  rw [hm2] at H2
  simp only [Nat.sub_zero, Nat.reduceSub] at e1 e2
  rw [← e1] at hcv1
  rw [← e2] at hcv2
  have hcr : crc b < 4294967296 := by unfold crc; omega
  have hsm := sumO_lt l 0
  clear hb1 hb2 hb3 hw1 hw2 hw3 hm1 hm2 e1 e2 hp hbv hbl
  generalize sumO l 0 = sm at *
  generalize crc b = cb at *
  have hgs : 8 + (b.length : Int) ≤ ((⟨l.toArray⟩ : ByteArray).size : Int) := by rw [hsz]; omega
  have hgs2 : ((⟨l.toArray⟩ : ByteArray).size : Int) ≤ 100000000 := by rw [hsz]; omega
  clear hsz hl hble
  have e4 : (⟨b.toArray⟩ : ByteArray) = (⟨l.toArray⟩ : ByteArray).extract 8 (8 + b.length) := e3.symm
  generalize (⟨b.toArray⟩ : ByteArray) = bs at *
  generalize (⟨l.toArray⟩ : ByteArray) = s at *
  generalize b.length = m at *
  have hcon : IntKind.u64.wrap ((s.size : Int) - 8) = (s.size : Int) - 8 := by rw [IntKind.wrap_u64]; omega
  have hg4 : ¬ ((s.size : Int) < 4) := by omega
  have hg8 : ¬ ((s.size : Int) < 8) := by omega
  have hg9 : ¬ ((s.size : Int) < 8 + (m : Int)) := by omega
  have hg10 : ¬ (60000 < (m : Int)) := by omega
  have hg11 : ¬ ((s.size : Int) - 8 < (m : Int)) := by omega
  have hs1 : ∀ W, (Instr.sliceAt 9 (.string s) none (some (.int .i64 4)) none).run Tryz.prog W = .ok (.string (s.extract 0 4)) W := fun W => by
    go_simp
  have hs2 : ∀ W, (Instr.sliceAt 9 (.string s) (some (.int .i64 4)) (some (.int .i64 8)) none).run Tryz.prog W = .ok (.string (s.extract 4 8)) W := fun W => by
    go_simp
  have hs3 : ∀ W, (Instr.sliceAt 9 (.string s) (some (.int .i64 8)) (some (.int .i64 (8 + (m : Int)))) none).run Tryz.prog W = .ok (.string bs) W := fun W => by
    rw [e4, show (8 : Int) + (m : Int) = ((8 + m : Nat) : Int) by omega]
    exact slice_str s 8 (8 + m) (by omega) (by omega) W
  clear e3 e4
  have HEQ : Hid (((cb : Int) == (sm : Int)) = decide (cb = sm)) := Lib.hid (by
    by_cases h : cb = sm
    · subst h; simp
    · have h2 : ¬ ((cb : Int) = (sm : Int)) := by omega
      simp [h, h2])
  go_enter Tryz.func46, Tryz.ntmps46
  go_wp2_with (first | (go_at_call 75; with_reducible refine H1.out.mono ?_; rintro e wx ⟨rfl, rfl⟩) | (go_at_call 75; with_reducible refine H2.out.mono ?_; rintro e wx ⟨rfl, rfl⟩) | (go_at_call 76; with_reducible refine H3.out.mono ?_; rintro e wx ⟨rfl, rfl⟩))
  go_ret2
  exact ⟨by show Ending.returned (.tuple #[.string bs, .bool ((cb : Int) == (sm : Int))]) = _; rw [HEQ.out], HB.out⟩
theorem rfirst_any (l : List UInt8) (w : World) (hl : l.length ≤ 100000000) : Calls Tryz.prog 46 #[.string ⟨l.toArray⟩] w (FstP l w) := by
  unfold FstP
  cases hp : pieceO l 0 with
  | none =>
    have hw : wholeO l 0 = none := by unfold wholeO; rw [hp]
    rw [hw]
    by_cases h8 : l.length < 8
    · exact (rfirst_short l w h8).mono fun e w' ⟨h1, h2⟩ => ⟨⟨_, h1⟩, h2⟩
    · refine (rfirst_bad l w (by omega) hl ?_).mono fun e w' ⟨h1, h2⟩ => ⟨⟨_, h1⟩, h2⟩
      unfold pieceO at hp
      split at hp
      · cases hp
      · omega
  | some b =>
    refine (rfirst_some l b w hl hp).mono fun e w' ⟨h1, h2⟩ => ⟨?_, h2⟩
    unfold wholeO
    rw [hp]
    by_cases h : crc b = sumO l 0
    · simp only [h, if_true]
      rw [h1, h]
      simp
    · simp only [h, if_false]
      exact ⟨⟨b.toArray⟩, by rw [h1]; simp [h]⟩
/-- first of what stands behind a place -/
theorem rfirst_at (l : List UInt8) (i : Nat) (w : World) (hl : l.length ≤ 100000000) : Calls Tryz.prog 46 #[.string ⟨(l.drop i).toArray⟩] w fun e w' => (match wholeO l i with
  | some b => e = .returned (.tuple #[.string ⟨b.toArray⟩, .bool true])
  | none => ∃ s, e = .returned (.tuple #[.string s, .bool false])) ∧ Below w.heap.size w w' := by
  have h := rfirst_any (l.drop i) w (by rw [List.length_drop]; omega)
  unfold FstP at h
  rwa [wholeO_drop] at h
set_option maxRecDepth 100000 in
set_option maxHeartbeats 4000000 in
theorem rWhole_any (l : List UInt8) (w : World) (hl : l.length ≤ 100000000) : Calls Tryz.prog 17 #[.string ⟨l.toArray⟩] w fun e w' => e = .returned (.int .i64 (wholeN l : Nat)) ∧ Below w.heap.size w w' := by
  have HF := Lib.hid (fun i w => rfirst_at l i w hl)
  have HP : Hid (∀ i b, wholeO l i = some b → i + 8 + b.length ≤ l.length) := Lib.hid (step_whole l)
  have HS : Hid (∀ i b, wholeO l i = some b → walkW l.length (wholeO l) i = (i, b) :: walkW l.length (wholeO l) (i + 8 + b.length)) := Lib.hid fun i b h => walkW_some (step_whole l) h
  have HN : Hid (∀ i, wholeO l i = none → walkW l.length (wholeO l) i = []) := Lib.hid fun i h => walkW_none h
  have HE : Hid (∀ i, i ≤ l.length → ∀ W, (Instr.sliceAt 9 (.string ⟨l.toArray⟩) (some (.int .i64 (i : Int))) none none).run Tryz.prog W = .ok (.string ⟨(l.drop i).toArray⟩) W) := Lib.hid fun i hi W => by
    rw [slice_strE _ i (by show i ≤ l.length; exact hi), show (⟨l.toArray⟩ : ByteArray).size = l.length from rfl, ext_end]
  have HW : Hid (wholeN l = endF 0 (walkW l.length (wholeO l) 0)) := Lib.hid (by unfold wholeN; rw [endW_endF])
  generalize wholeN l = wn at *
  generalize walkW l.length (wholeO l) = WK at *
  generalize (⟨l.toArray⟩ : ByteArray) = s at *
  go_enter Tryz.func17, Tryz.ntmps17
  go_wp2_with fail
  go_loopw [3] (fun i wr => ∃ k : Nat, k ≤ l.length ∧ i = .int .i64 k ∧ Hid (endF 0 (WK 0) = endF k (WK k)) ∧ Below w.heap.size w wr) (fun i _ => l.length - (intOf i).toNat)
  case atStart => exact ⟨0, by omega, rfl, Lib.hid rfl, Below.refl _ _⟩
  case round =>
    obtain ⟨k, hk, rfl, HI, hb⟩ := hrel
    have hsl := HE.out k hk
    have hF := HF.out k wr
    generalize (⟨(l.drop k).toArray⟩ : ByteArray) = sk at *
    cases ho : wholeO l k with
    | none =>
      rw [ho] at hF
      have HFF := Lib.hid hF
      have hz : wn = k := by rw [HW.out, HI.out, HN.out k ho]; rfl
      subst hz
      clear hF ho HI HW
      go_wp2_with (first | (go_at_call 46; refine HFF.out.mono ?_; rintro e w2 ⟨⟨s2, rfl⟩, hb2⟩))
      go_ret
      exact ⟨rfl, hb.trans (hb2.mono hb.size)⟩
    | some b =>
      rw [ho] at hF
      have HFF := Lib.hid hF
      have hp := HP.out k b ho
      have HI2 : Hid (endF 0 (WK 0) = endF (k + 8 + b.length) (WK (k + 8 + b.length))) := Lib.hid (by rw [HI.out, HS.out k b ho, endF_cons])
      have hbs : ((⟨b.toArray⟩ : ByteArray).size : Int) = b.length := rfl
      have hcast : ((k + 8 + b.length : Nat) : Int) = (k : Int) + 8 + ((⟨b.toArray⟩ : ByteArray).size : Int) := by rw [hbs]; omega
      have hbl : ((⟨b.toArray⟩ : ByteArray).size : Int) ≤ l.length := by rw [hbs]; omega
      clear hF ho HI HW
      generalize hbb : (⟨b.toArray⟩ : ByteArray) = bs at *
      go_wp2_with (first | (go_at_call 46; refine HFF.out.mono ?_; rintro e w2 ⟨rfl, hb2⟩))
      go_roundw
      case rel => exact ⟨k + 8 + b.length, by omega, by first | rfl | (congr 1; omega), HI2, hb.trans (hb2.mono hb.size)⟩
      case measure => simp [intOf]; omega
end Go.Proofs.YtbhgcioeibhjeaaGreatDoor
namespace Go.Proofs.YtbhgcioeibhjeaaGreatDoor
open Go.RowKit

/-- a log's 68 cells -/
structure RLg (W : World) (cl : Array Value) (D : Dk) (f : Nat) (t : Int) : Prop where
  size : cl.size = 68
  one : cl.all (·.oneCell') = true
  disk : RDs W (cl.extract 0 66) D
  file : cl[66]? = some (.int .i64 f)
  torn : cl[67]? = some (.int .i64 t)
theorem RLg.keep {W W' : World} {cl : Array Value} {D : Dk} {f : Nat} {t : Int} (h : RLg W cl D f t) (hb : Below W.heap.size W W') : RLg W' cl D f t := ⟨h.size, h.one, h.disk.keep hb, h.file, h.torn⟩
/-- a block that holds a log -/
def LBox (W : World) (b : Nat) (cl : Array Value) : Prop := W.heap[b]? = some (.cells cl 38 (0, 0))
theorem LBox.range {W : World} {b : Nat} {cl : Array Value} (h : LBox W b cl) : W.rangeAt b 0 cl.toList := fun j v hv => by
  rw [Nat.zero_add]
  simp only [World.cell?]
  rw [show W.heap[b]? = _ from h]
  simpa using hv
theorem LBox.disk {W : World} {b : Nat} {cl : Array Value} (h : LBox W b cl) : W.rangeAt b 0 (cl.extract 0 66).toList := fun j v hv => by
  rw [Nat.zero_add]
  simp only [World.cell?]
  rw [show W.heap[b]? = _ from h]
  have h1 : (cl.toList.take 66)[j]? = some v := by
    have e : (cl.extract 0 66).toList = cl.toList.take 66 := by simp
    rwa [← e]
  have hj : j < 66 := by
    have := (List.getElem?_eq_some_iff.1 h1).1
    rw [List.length_take] at this
    omega
  rw [List.getElem?_take_of_lt hj] at h1
  simpa using h1
theorem LBox.cell {W : World} {b : Nat} {cl : Array Value} (h : LBox W b cl) {j : Nat} {v : Value} (hv : cl[j]? = some v) : W.cell? ⟨b, j, none⟩ = some v := by
  simp only [World.cell?]
  rw [show W.heap[b]? = _ from h]
  simpa using hv
theorem LBox.keep {W W' : World} {b : Nat} {cl : Array Value} (h : LBox W b cl) (hb : Below W.heap.size W W') : LBox W' b cl := (hb.block b (Array.getElem?_eq_some_iff.1 h).1).trans h
theorem info68 : (Tryz.prog.info? 38).map (·.size) = some 68 := by kernel_rfl
theorem disk_size {cl : Array Value} (h : cl.size = 68) : (cl.extract 0 66).toList.length = 66 := by
  rw [Array.length_toList, Array.size_extract, h]
  rfl
set_option maxRecDepth 1000000 in
set_option maxHeartbeats 2000000 in
theorem rEnd_any {w : World} {cl : Array Value} {D : Dk} {f : Nat} {t : Int} (h : RLg w cl D f t) (hi : D.Inv) (hf : f < 64) : Calls Tryz.prog 38 #[.agg cl] w fun e w' => e = .returned (.int .i64 ((D.F f).length : Nat)) ∧ Below w.heap.size w w' := by
  have hbx : LBox (w.alloc (.cells cl 38)) w.heap.size cl := heap_alloc_at w _
  have hb : Below w.heap.size w (w.alloc (.cells cl 38)) := (Below.refl _ w).alloc (Nat.le_refl _) _
  have c66 := hbx.cell h.file
  have hr := hbx.disk
  have hu := Tryz.underlying36
  have hinf : (Tryz.prog.info? 36).map (·.size) = some (cl.extract 0 66).toList.length := by rw [disk_size h.size]; exact info66r
  have hcc : (cl.extract 0 66).toList.toArray = cl.extract 0 66 := Array.toArray_toList
  obtain ⟨v, hv⟩ := (h.keep hb).disk
  have HF := Lib.hid (rrFile_any hv hi f hf)
  have HB := Lib.hid hb
  have hsz : ((⟨(D.F f).toArray⟩ : ByteArray).size : Int) = (D.F f).length := rfl
  rw [← hsz]
  clear h hi hv hb hbx hsz
  generalize (⟨(D.F f).toArray⟩ : ByteArray) = fs at *
  generalize cl.extract 0 66 = c at *
  go_enter Tryz.func38, Tryz.ntmps38
  go_wp2_with (first | (refine wpList_load_mid rfl 36 _ rfl _ _ rfl _ _ hr hu rfl hinf ?_; simp only [Act.put, hcc, List.setIfInBounds_toArray, List.set_cons_zero, List.set_cons_succ]) | (go_at_call 31; refine HF.out.mono ?_; rintro e w1 ⟨rfl, hb1⟩))
  go_ret
  exact ⟨rfl, HB.out.trans (hb1.mono HB.out.size)⟩
end Go.Proofs.YtbhgcioeibhjeaaGreatDoor
namespace Go.Proofs.YtbhgcioeibhjeaaGreatDoor
open Go.RowKit

def rwR (x : Nat × List UInt8) : List Value := [.int .i64 x.1, .string ⟨x.2.toArray⟩]
def rwsR (R : List (Nat × List UInt8)) : List Value := R.flatMap rwR
theorem rwsR_length (R : List (Nat × List UInt8)) : (rwsR R).length = 2 * R.length := by
  induction R with
  | nil => rfl
  | cons t L ih => simp only [rwsR, List.flatMap_cons, List.length_append, List.length_cons] at ih ⊢; simp only [rwR, List.length_cons, List.length_nil] at ih ⊢; omega
theorem rwsR_get (R : List (Nat × List UInt8)) (k : Nat) (hk : k < R.length) : (rwsR R)[2 * k]? = some (.int .i64 R[k].1) ∧ (rwsR R)[2 * k + 1]? = some (.string ⟨R[k].2.toArray⟩) := by
  induction R generalizing k with
  | nil => simp at hk
  | cons t L ih =>
    cases k with
    | zero => exact ⟨rfl, rfl⟩
    | succ k =>
      have h := ih k (by simpa using hk)
      exact ⟨h.1, h.2⟩
theorem infoRw : (Tryz.prog.info? 84).map (fun i => (i.zero, i.size, i.bytes)) = some (some (.agg #[.int .i64 0, .string ⟨#[]⟩]), 2, 24) := by kernel_rfl
/-- a row more -/
theorem rows_more (w : World) (w2 : World) (hw : Below w.heap.size w w2) (v1 : Value) (M : List (Nat × List UInt8)) (hv : w2.ownsRow w.heap.size 84 2 v1 M.length (rwsR M)) (hM : M.length ≤ 100000000) (x : Nat × List UInt8) :
    ∃ v' w4, (Builtin.append_ #[81, 81] 81 #[v1, .slice (some ⟨w2.heap.size, 0, none⟩) 1 1]).run Tryz.prog (w2.alloc (.cells (rwR x).toArray 84)) = .ok v' w4 ∧ w4.ownsRow w.heap.size 84 2 v' (M ++ [x]).length (rwsR (M ++ [x])) ∧ Below w.heap.size w w4 := by
  obtain ⟨i0, hi0, hz0, hz1, hz2⟩ := info_parts infoRw
  have hcells := lit_cells w2 (rwR x) 84
  have hb3 : Below w2.heap.size w2 (w2.alloc (.cells (rwR x).toArray 84)) := (Below.refl _ w2).alloc (Nat.le_refl _) _
  have hown : (w2.alloc (.cells (rwR x).toArray 84)).ownsRow w.heap.size 84 2 v1 M.length (rwsR M) := by
    refine ⟨hv.1, ?_⟩
    rcases hv.2 with h0 | ⟨g, cap, cur, e0, h1, h2, h3⟩
    · exact .inl h0
    · exact .inr ⟨g, cap, cur, e0, h1, (hb3.block g (Array.getElem?_eq_some_iff.1 h2).1).trans h2, h3⟩
  obtain ⟨w3, hw3⟩ : ∃ w3, w2.alloc (.cells (rwR x).toArray 84) = w3 := ⟨_, rfl⟩
  rw [hw3] at hcells hb3 hown ⊢
  have hB : w.heap.size ≤ w3.heap.size := Nat.le_trans hw.size hb3.size
  obtain ⟨v', w4, hr, hrow, hgr, _⟩ := run_append_own_at (P := Tryz.prog) w3 w.heap.size 81 81 84 i0 _ 2 24 Tryz.underlying81 hi0 hz0 hz1 hz2 rfl (by decide) v1 M.length (rwsR M) hown ⟨w2.heap.size, 0, none⟩ 1 1 (rwR x) rfl hcells (by
    intro u hu
    simp only [rwR, List.mem_cons, List.not_mem_nil, or_false] at hu
    rcases hu with rfl | rfl <;> rfl) (by unfold maxLen; omega) (by omega) hB
  have e : rwsR (M ++ [x]) = rwsR M ++ rwR x := by simp [rwsR]
  refine ⟨v', w4, hr, ?_, (hw.trans (hb3.mono hw.size)).grown hgr hB (fun k hk => ?_)⟩
  · rw [e, List.length_append]
    exact hrow
  · rcases hv.2 with ⟨e0, _⟩ | ⟨g, cap, cur, e0, h1, _⟩
    · rw [e0] at hk; cases hk
    · rw [e0] at hk
      simp [Value.ownBlock] at hk
      omega
set_option maxRecDepth 1000000 in
set_option maxHeartbeats 4000000 in
theorem rAll_any {w : World} {cl : Array Value} {D : Dk} {f : Nat} {t : Int} (h : RLg w cl D f t) (hi : D.Inv) (hf : f < 64) : Calls Tryz.prog 66 #[.agg cl] w fun e w' => ∃ v, e = .returned v ∧ w'.ownsRow w.heap.size 84 2 v (recsAt 0 (recsL (D.F f))).length (rwsR (recsAt 0 (recsL (D.F f)))) ∧ Below w.heap.size w w' := by
  have hbx : LBox (w.alloc (.cells cl 38)) w.heap.size cl := heap_alloc_at w _
  have hb : Below w.heap.size w (w.alloc (.cells cl 38)) := (Below.refl _ w).alloc (Nat.le_refl _) _
  have c66 := hbx.cell h.file
  have hr := hbx.disk
  have hu := Tryz.underlying36
  have hinf : (Tryz.prog.info? 36).map (·.size) = some (cl.extract 0 66).toList.length := by rw [disk_size h.size]; exact info66r
  have hcc : (cl.extract 0 66).toList.toArray = cl.extract 0 66 := Array.toArray_toList
  obtain ⟨v, hv⟩ := (h.keep hb).disk
  have HD := Lib.hid (rrFile_any hv hi f hf)
  have HB := Lib.hid hb
  have hl : (D.F f).length ≤ 100000000 := hi.len f hf
  have hrec : recsAt 0 (recsL (D.F f)) = walkW (D.F f).length (wholeO (D.F f)) 0 := ((walk_split (l := D.F f) ((D.F f).length + 1 - 0) 0).2.1).symm
  rw [hrec]
  clear h hi hv hb hbx hrec
  generalize D.F f = l at *
  have HF := Lib.hid (fun i w => rfirst_at l i w hl)
  have HP : Hid (∀ i b, wholeO l i = some b → i + 8 + b.length ≤ l.length) := Lib.hid (step_whole l)
  have HS : Hid (∀ i b, wholeO l i = some b → walkW l.length (wholeO l) i = (i, b) :: walkW l.length (wholeO l) (i + 8 + b.length)) := Lib.hid fun i b h => walkW_some (step_whole l) h
  have HN : Hid (∀ i, wholeO l i = none → walkW l.length (wholeO l) i = []) := Lib.hid fun i h => walkW_none h
  have HNE : Hid (wholeO l l.length = none) := Lib.hid (by
    cases h : wholeO l l.length with
    | none => rfl
    | some b => have := HP.out _ _ h; omega)
  have HE : Hid (∀ i, i ≤ l.length → ∀ W, (Instr.sliceAt 9 (.string ⟨l.toArray⟩) (some (.int .i64 (i : Int))) none none).run Tryz.prog W = .ok (.string ⟨(l.drop i).toArray⟩) W) := Lib.hid fun i hi W => by
    rw [slice_strE _ i (by show i ≤ l.length; exact hi), show (⟨l.toArray⟩ : ByteArray).size = l.length from rfl, ext_end]
  have hsz : ((⟨l.toArray⟩ : ByteArray).size : Int) = l.length := rfl
  generalize walkW l.length (wholeO l) = WK at *
  generalize (⟨l.toArray⟩ : ByteArray) = s at *
  generalize cl.extract 0 66 = c at *
  go_enter Tryz.func66, Tryz.ntmps66
  go_wp2_with (first | (refine wpList_load_mid rfl 36 _ rfl _ _ rfl _ _ hr hu rfl hinf ?_; simp only [Act.put, hcc, List.setIfInBounds_toArray, List.set_cons_zero, List.set_cons_succ]) | (go_at_call 31; refine HD.out.mono ?_; rintro e w1 ⟨rfl, hb1⟩; have HB1 := Lib.hid (HB.out.trans (hb1.mono HB.out.size)); clear hb1))
  go_loopw [4, 5] (fun o i wr => ∃ (k : Nat) (xs : List (Nat × List UInt8)), k ≤ l.length ∧ 8 * xs.length ≤ k ∧ i = .int .i64 k ∧ Hid (xs ++ WK k = WK 0) ∧ Hid (Below w.heap.size w wr) ∧ Hid (wr.ownsRow w.heap.size 84 2 o xs.length (rwsR xs))) (fun _ i _ => l.length - (intOf i).toNat)
  case atStart => exact ⟨0, [], by omega, by simp, rfl, Lib.hid rfl, HB1, Lib.hid (World.ownsRow_nil _ _ _ _)⟩
  case round =>
    obtain ⟨k, xs, hk, hx8, rfl, HI, HBk, HO⟩ := hrel
    by_cases hlt : k < l.length
    · have hkl : (k : Int) < (s.size : Int) := by rw [hsz]; omega
      have hsl := HE.out k hk
      have hF := HF.out k wr
      generalize (⟨(l.drop k).toArray⟩ : ByteArray) = sk at *
      cases ho : wholeO l k with
      | none =>
        rw [ho] at hF
        have HFF := Lib.hid hF
        have hz : xs = WK 0 := by rw [← HI.out, HN.out k ho, List.append_nil]
        subst hz
        clear hF ho HI
        go_wp2_with (first | (go_at_call 46; refine HFF.out.mono ?_; rintro e w2 ⟨⟨s2, rfl⟩, hb2⟩))
        go_ret
        refine ⟨_, rfl, ?_, HBk.out.trans (hb2.mono HBk.out.size)⟩
        exact ownsRow_same HO.out (fun g hg => hb2.block g (HO.out.lt g hg).2)
      | some b =>
        rw [ho] at hF
        have HFF := Lib.hid hF
        have hp := HP.out k b ho
        have HI2 : Hid ((xs ++ [(k, b)]) ++ WK (k + 8 + b.length) = WK 0) := Lib.hid (by rw [← HI.out, HS.out k b ho, List.append_assoc]; rfl)
        have hbs : ((⟨b.toArray⟩ : ByteArray).size : Int) = b.length := rfl
        clear hF ho HI
        go_upto_region 8 with (first | (go_at_call 46; refine HFF.out.mono ?_; rintro e w2 ⟨rfl, hb2⟩))
        obtain ⟨v', w4, hr4, hrow4, hb4⟩ := rows_more w w2 (HBk.out.trans (hb2.mono HBk.out.size)) _ xs (ownsRow_same HO.out (fun g hg => hb2.block g (HO.out.lt g hg).2)) (by omega) (k, b)
        have H4 := Lib.hid (And.intro hrow4 hb4)
        simp only [rwR] at hr4
        clear hrow4 hb4
        go_wp2_with (first | (at_builtin; refine wpList_app rfl _ _ _ _ rfl _ (.slice (some ⟨w2.heap.size, 0, none⟩) 1 1) rfl rfl _ w4 hr4 ?_))
        go_roundw
        case rel => exact ⟨k + 8 + b.length, xs ++ [(k, b)], by omega, by rw [List.length_append]; simp; omega, by first | rfl | (congr 1; omega), HI2, Lib.hid H4.out.2, Lib.hid H4.out.1⟩
        case measure => simp [intOf]; omega
    · obtain rfl : k = l.length := by omega
      have hkl : ¬ ((l.length : Int) < (s.size : Int)) := by rw [hsz]; omega
      have hz : xs = WK 0 := by rw [← HI.out, HN.out _ HNE.out, List.append_nil]
      subst hz
      clear HI
      go_wp2_with fail
      go_ret
      exact ⟨_, rfl, HO.out, HBk.out⟩
end Go.Proofs.YtbhgcioeibhjeaaGreatDoor
namespace Go.Proofs.YtbhgcioeibhjeaaGreatDoor
open Go.RowKit

theorem catR_few (L : List (List UInt8)) : 8 * L.length ≤ (catR L).length := by
  induction L with
  | nil => simp [catR]
  | cons b L ih => rw [catR_cons, List.length_append, recL_length, List.length_cons]; omega
theorem recsL_few (l : List UInt8) : 8 * (recsL l).length ≤ l.length := by
  have h1 := catR_few (recsL l)
  rw [recsL_len] at h1
  exact Nat.le_trans h1 (wholeN_le l)
/-- rows in memory -/
def RwsIn (W : World) (v : Value) (R : List (Nat × List UInt8)) : Prop := ∃ oa cap, v = .slice oa R.length cap ∧ ∀ (j : Nat) (h : j < R.length), ∃ a, oa = some a ∧ W.cell? (a.add (j * 2)) = some (.int .i64 R[j].1) ∧ W.cell? ⟨(a.add (j * 2)).block, (a.add (j * 2)).off + 1, none⟩ = some (.string ⟨R[j].2.toArray⟩)
theorem RwsIn.keep {W W' : World} {v : Value} {R : List (Nat × List UInt8)} (h : RwsIn W v R) (hb : Below W.heap.size W W') : RwsIn W' v R := by
  obtain ⟨oa, cap, e, hc⟩ := h
  refine ⟨oa, cap, e, fun j hj => ?_⟩
  obtain ⟨a, ha, h1, h2⟩ := hc j hj
  exact ⟨a, ha, by rw [hb.cell (World.block_lt_of_cell? W _ h1)]; exact h1, by rw [hb.cell (World.block_lt_of_cell? W _ h2)]; exact h2⟩
theorem add0 (g n : Nat) : ((⟨g, 0, none⟩ : Addr).add n) = ⟨g, n, none⟩ := by
  unfold Addr.add
  split
  · simp_all
  · simp
theorem addK (g k j : Nat) : ((⟨g, k * 2, none⟩ : Addr).add (j * 2)) = ⟨g, (k + j) * 2, none⟩ := by
  unfold Addr.add
  rw [Nat.add_mul]
  split
  · rename_i h
    rw [h]
    rfl
  · rfl
theorem rows_at {W : World} {B : Nat} {v : Value} {R : List (Nat × List UInt8)} (h : W.ownsRow B 84 2 v R.length (rwsR R)) (k : Nat) (hk : k < R.length) :
    ∃ g cap, v = .slice (some ⟨g, 0, none⟩) R.length cap ∧ R.length ≤ cap ∧ ∀ j (hj : j < R.length), W.cell? ⟨g, j * 2, none⟩ = some (.int .i64 R[j].1) ∧ W.cell? ⟨g, j * 2 + 1, none⟩ = some (.string ⟨R[j].2.toArray⟩) := by
  rcases h.2 with ⟨_, e1⟩ | ⟨g, cap, cur, e0, _, h2, h3, _, _, h6⟩
  · omega
  · refine ⟨g, cap, e0, h3, fun j hj => ?_⟩
    obtain ⟨r1, r2⟩ := rwsR_get R j hj
    rw [← h6, List.getElem?_take_of_lt (by omega), Array.getElem?_toList] at r1 r2
    simp only [World.cell?, h2]
    rw [show j * 2 = 2 * j by omega]
    exact ⟨by simpa using r1, by simpa using r2⟩
/-- the rows from a position on -/
def fromL (R : List (Nat × List UInt8)) (p : Int) : List (Nat × List UInt8) := R.dropWhile fun x => !decide ((x.1 : Int) = p)
theorem fromL_hit {R : List (Nat × List UInt8)} {p : Int} : ∀ {k : Nat} (hk : k < R.length), (∀ j (hj : j < k), ¬ ((R[j].1 : Int) = p)) → (R[k].1 : Int) = p → fromL R p = R.drop k := by
  induction R with
  | nil => intro k hk; simp at hk
  | cons x R ih =>
    intro k hk hn he
    cases k with
    | zero =>
      have hx : (x.1 : Int) = p := he
      simp [fromL, hx]
    | succ k =>
      have hx : ¬ ((x.1 : Int) = p) := hn 0 (by omega)
      have := ih (k := k) (by simpa using hk) (fun j hj => hn (j + 1) (by omega)) he
      simp only [fromL] at this ⊢
      rw [List.dropWhile_cons_of_pos (by simp [hx]), this]
      rfl
theorem fromL_none {R : List (Nat × List UInt8)} {p : Int} (h : ∀ j (hj : j < R.length), ¬ ((R[j].1 : Int) = p)) : fromL R p = [] := by
  induction R with
  | nil => rfl
  | cons x R ih =>
    have hx : ¬ ((x.1 : Int) = p) := h 0 (by simp)
    have := ih (fun j hj => h (j + 1) (by simpa using hj))
    simp only [fromL] at this ⊢
    rw [List.dropWhile_cons_of_pos (by simp [hx]), this]
set_option maxRecDepth 1000000 in
set_option maxHeartbeats 4000000 in
theorem rFrom_any {w : World} {cl : Array Value} {D : Dk} {f : Nat} {t : Int} (h : RLg w cl D f t) (hi : D.Inv) (hf : f < 64) (p : Int) : Calls Tryz.prog 37 #[.agg cl, .int .i64 p] w fun e w' => ∃ v, e = .returned v ∧ RwsIn w' v (fromL (recsAt 0 (recsL (D.F f))) p) ∧ Below w.heap.size w w' := by
  have hbx : LBox (w.alloc (.cells cl 38)) w.heap.size cl := heap_alloc_at w _
  have hb : Below w.heap.size w (w.alloc (.cells cl 38)) := (Below.refl _ w).alloc (Nat.le_refl _) _
  have hr := hbx.range
  have hu := Tryz.underlying38
  have hinf : (Tryz.prog.info? 38).map (·.size) = some cl.toList.length := by rw [Array.length_toList, h.size]; exact info68
  have hcc : cl.toList.toArray = cl := Array.toArray_toList
  have HA := Lib.hid (rAll_any (h.keep hb) hi hf)
  have HB := Lib.hid hb
  clear h hb hbx
  have hfewR : (recsAt 0 (recsL (D.F f))).length ≤ 100000000 := by
    have h1 := recsL_few (D.F f)
    have h2 := hi.len f hf
    rw [recs_len]
    omega
  clear hi
  generalize recsAt 0 (recsL (D.F f)) = R at *
  obtain ⟨n, hn⟩ : ∃ n, R.length = n := ⟨_, rfl⟩
  go_enter Tryz.func37, Tryz.ntmps37
  go_upto_region 2 with (first | (refine wpList_load_mid rfl 38 _ rfl _ _ rfl _ _ hr hu rfl hinf ?_; simp only [Act.put, hcc, List.setIfInBounds_toArray, List.set_cons_zero, List.set_cons_succ]) | (go_at_call 66; refine HA.out.mono ?_; rintro e w1 ⟨v, rfl, hrow, hb1⟩))
  have HB1 := Lib.hid (HB.out.trans (hb1.mono HB.out.size))
  have HR1 := Lib.hid hrow
  clear hr hb1 hinf hcc hu
  obtain ⟨oa, cap, hvf⟩ : ∃ oa cap, v = .slice oa n cap := by
    rw [← hn]
    rcases hrow.2 with ⟨e0, e1⟩ | ⟨g, cap, _, e0, _⟩
    · exact ⟨none, 0, by rw [e0, e1]⟩
    · exact ⟨_, _, e0⟩
  subst hvf
  clear hrow
  go_wp2_with fail
  go_loopw [6] (fun i wr => ∃ k : Nat, k ≤ n ∧ i = .int .i64 k ∧ Hid (∀ j (hj : j < R.length), j < k → ¬ ((R[j].1 : Int) = p)) ∧ wr = w1) (fun i _ => n - (intOf i).toNat)
  case atStart => exact ⟨0, by omega, rfl, Lib.hid fun j hj h0 => absurd h0 (Nat.not_lt_zero j), rfl⟩
  case round =>
    obtain ⟨k, hk, rfl, HN, hwr⟩ := hrel
    by_cases hlt : k < n
    · have hkR : k < R.length := by omega
      obtain ⟨g, cap', hv', hcap, hcells⟩ := rows_at HR1.out k hkR
      rw [hn] at hv' hcap
      cases hv'
      obtain ⟨x, hx⟩ : ∃ x, R[k] = x := ⟨_, rfl⟩
      have hc1 := (hcells k hkR).1
      have HC := Lib.hid hcells
      rw [hx] at hc1
      rw [← hwr] at hc1
      have hcapi : (n : Int) ≤ (cap : Int) := by omega
      clear hcells
      by_cases he : (x.1 : Int) = p
      · have HE := Lib.hid (fromL_hit hkR (fun j hj => HN.out j (by omega) hj) (by rw [hx]; exact he))
        subst hwr
        clear hx HN
        obtain ⟨x1, x2⟩ := x
        simp only at he hc1
        subst he
        go_wp2_with fail
        go_ret
        rw [HE.out]
        refine ⟨_, rfl, ⟨some ⟨g, k * 2, none⟩, cap - k, by rw [List.length_drop, hn]; rfl, fun j hj => ?_⟩, HB1.out⟩
        rw [List.length_drop] at hj
        have hc := HC.out (k + j) (by omega)
        rw [List.getElem_drop]
        refine ⟨_, rfl, ?_, ?_⟩
        · have e : ((⟨g, k * 2, none⟩ : Addr).add (j * 2)) = ⟨g, (k + j) * 2, none⟩ := addK g k j
          rw [e]
          exact hc.1
        · have e : ((⟨g, k * 2, none⟩ : Addr).add (j * 2)) = ⟨g, (k + j) * 2, none⟩ := addK g k j
          rw [e]
          exact hc.2
      · have HN2 : Hid (∀ j (hj : j < R.length), j < k + 1 → ¬ ((R[j].1 : Int) = p)) := Lib.hid fun j hj h1 => by
          by_cases hjk : j < k
          · exact HN.out j hj hjk
          · obtain rfl : j = k := by omega
            rw [hx]
            exact he
        subst hwr
        clear hx HN
        obtain ⟨x1, x2⟩ := x
        simp only at he hc1
        go_wp2_with fail
        go_roundw
        case rel => exact ⟨k + 1, by omega, by go_num, HN2, trivial⟩
        case measure => simp [intOf]; omega
    · have HE : Hid (fromL R p = []) := Lib.hid (fromL_none fun j hj => HN.out j hj (by omega))
      go_wp2_with fail
      go_ret
      rw [HE.out]
      exact ⟨_, rfl, ⟨none, 0, rfl, fun j hj => absurd hj (Nat.not_lt_zero j)⟩, HB1.out⟩
end Go.Proofs.YtbhgcioeibhjeaaGreatDoor

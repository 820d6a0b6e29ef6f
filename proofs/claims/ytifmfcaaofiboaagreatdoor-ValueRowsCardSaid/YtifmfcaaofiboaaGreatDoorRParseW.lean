/-
  swingbridgeref01.Parse: its walk.
-/
import Derived.Test.YtifmfcaaofiboaaGreatDoorRBytes
namespace Go.Proofs.YtifmfcaaofiboaaGreatDoor
open Go.RowKit

theorem wordB {s : ByteArray} {l : List UInt8} (h : s.data.toList ≠ l) : (s.toList == l) = false := by rw [ByteArray.toList_eq, beq_eq_false_iff_ne]; exact h
theorem wordT {s : ByteArray} {l : List UInt8} (h : s.data.toList = l) : (s.toList == l) = true := by rw [ByteArray.toList_eq, beq_iff_eq]; exact h
theorem lastAt {s : ByteArray} {m : Nat} (h : s.size = m + 1) : s.data.toList.getLast? = some (s[m]'(by omega)) := by
  rw [List.getLast?_eq_getElem?]
  have hl : s.data.toList.length = m + 1 := by simp; exact h
  rw [hl, Nat.add_sub_cancel, List.getElem?_eq_getElem (by omega)]
  rfl
theorem trimS_take {s : ByteArray} {m : Nat} (h : s.size = m + 1) (hs : Lib.hasSuffix s.data.toList [117] = true) : (s.extract 0 m).data.toList = Lib.trimSuffix s.data.toList [117] := by
  rw [Lib.extract_data]
  unfold Lib.trimSuffix
  rw [if_pos hs]
  have hl : s.data.toList.length = m + 1 := by simp; exact h
  rw [hl]
  rfl
theorem inner_take {s : ByteArray} {m : Nat} (h : s.size = m + 1) (hp : Lib.hasPrefix s.data.toList [120, 39] = true) (hc : closedOf s.data.toList = true) : (s.extract 2 m).data.toList = innerOf s.data.toList := by
  rw [Lib.extract_data]
  unfold innerOf Lib.trimSuffix
  unfold closedOf at hc
  rw [if_pos hc]
  unfold Lib.trimPrefix
  rw [if_pos hp]
  have hl : s.data.toList.length = m + 1 := by simp; exact h
  show (List.drop 2 _).take (m - 2) = (List.drop 2 _).take ((List.drop 2 _).length - 1)
  rw [List.length_drop, hl, show m + 1 - 2 - 1 = m - 2 by omega]

set_option maxRecDepth 100000 in
set_option maxHeartbeats 1000000 in
theorem rparse_word (s : ByteArray) (w : World) (hw : s.data.toList = [110, 117, 108, 108] ∨ s.data.toList = [102, 97, 108, 115, 101] ∨ s.data.toList = [116, 114, 117, 101]) :
    Calls Tryz.prog 20 #[.string s] w fun e w' => e = .returned (parseRes s.data.toList) ∧ Below w.heap.size w w' := by
  rcases hw with h | h | h
  · have hB := wordT h
    rw [h, show parseRes [110, 117, 108, 108] = .tuple #[.agg #[.int .i64 0, .int .i64 0, .int .u64 0, .string ⟨#[]⟩], .int .i64 0] by unfold parseRes; rw [show readOf [110, 117, 108, 108] = ⟨0, 0, 0, ⟨#[]⟩, true⟩ from rfl, if_neg (by simp), if_pos chk0]]
    clear h
    go_enter Tryz.func20, Tryz.ntmps20
    go_wp2
    exact bodyPost_ret (v := .tuple #[.agg #[.int .i64 0, .int .i64 0, .int .u64 0, .string ⟨#[]⟩], .int .i64 0]) (by simp [results, Tryz.results20, go_sem]) rfl ⟨rfl, by go_grown⟩
  · have hB := wordT h
    have hA := wordB (l := [110, 117, 108, 108]) (by rw [h]; decide)
    rw [h, show parseRes [102, 97, 108, 115, 101] = .tuple #[.agg #[.int .i64 3, .int .i64 0, .int .u64 0, .string ⟨#[]⟩], .int .i64 0] by unfold parseRes; rw [show readOf [102, 97, 108, 115, 101] = ⟨3, 0, 0, ⟨#[]⟩, true⟩ from rfl, if_neg (by simp), if_pos chk30]]
    clear h
    go_enter Tryz.func20, Tryz.ntmps20
    go_wp2
    exact bodyPost_ret (v := .tuple #[.agg #[.int .i64 3, .int .i64 0, .int .u64 0, .string ⟨#[]⟩], .int .i64 0]) (by simp [results, Tryz.results20, go_sem]) rfl ⟨rfl, by go_grown⟩
  · have hB := wordT h
    have hA := wordB (l := [110, 117, 108, 108]) (by rw [h]; decide)
    have hC := wordB (l := [102, 97, 108, 115, 101]) (by rw [h]; decide)
    rw [h, show parseRes [116, 114, 117, 101] = .tuple #[.agg #[.int .i64 3, .int .i64 1, .int .u64 0, .string ⟨#[]⟩], .int .i64 0] by unfold parseRes; rw [show readOf [116, 114, 117, 101] = ⟨3, 1, 0, ⟨#[]⟩, true⟩ from rfl, if_neg (by simp), if_pos chk31]]
    clear h
    go_enter Tryz.func20, Tryz.ntmps20
    go_wp2
    exact bodyPost_ret (v := .tuple #[.agg #[.int .i64 3, .int .i64 1, .int .u64 0, .string ⟨#[]⟩], .int .i64 0]) (by simp [results, Tryz.results20, go_sem]) rfl ⟨rfl, by go_grown⟩

set_option maxRecDepth 100000 in
set_option maxHeartbeats 4000000 in
theorem rparse_deep (s : ByteArray) (w : World) (hz : s.size ≤ 800) (n1 : s.data.toList ≠ [110, 117, 108, 108]) (n2 : s.data.toList ≠ [102, 97, 108, 115, 101]) (n3 : s.data.toList ≠ [116, 114, 117, 101]) :
    Calls Tryz.prog 20 #[.string s] w fun e w' => e = .returned (parseRes s.data.toList) ∧ Below w.heap.size w w' := by
  have hB1 := wordB n1
  have hB2 := wordB n2
  have hB3 := wordB n3
  have HX := Lib.hid (parse_x n1 n2 n3)
  have HR := Lib.hid (parse_rest n1 n2 n3)
  clear n1 n2 n3
  go_enter Tryz.func20, Tryz.ntmps20
  go_upto_region 9 with (fail)
  clear hB1 hB2 hB3
  go_cut [37] (fun s37 wx => s37 = .bool (isX s) ∧ wx = w.alloc (.cells #[.int .i64 0, .int .i64 0, .int .u64 0, .string ⟨#[]⟩] 25))
  case first =>
    by_cases h3 : 3 ≤ s.size
    · obtain ⟨m, hm⟩ : ∃ m, s.size = m + 1 := ⟨s.size - 1, by omega⟩
      have hl := lastAt hm
      have hsm : (s.size : Int) - 1 = (m : Int) := by omega
      have hidx : ∀ W, (Instr.index 9 (.string s) (.int .i64 (m : Int))).run Tryz.prog W = .ok (.int .u8 (s[m].toNat : Int)) W := fun W => by
        rw [run_index_string W 9 _ .i64 _ Tryz.underlying9, dif_pos ⟨by omega, by omega⟩]
        simp only [Int.toNat_natCast]
      generalize s[m] = c at hl hidx
      clear hm
      by_cases hp : (s.extract 0 2).toList = [120, 39]
      · have hpB : ((s.extract 0 2).toList == [120, 39]) = true := by simpa using hp
        by_cases hc : c.toNat = 39
        · have hx : isX s = true := by unfold isX; rw [hpB, hl]; simp [h3, hc]
          have hcB : ((c.toNat : Int) == 39) = true := by simp; omega
          have HXB := Lib.hid hx
          clear hx hp hl hc
          go_wp2_with fail
          go_meet
          case rel => exact ⟨by rw [HXB.out], rfl⟩
        · have hx : isX s = false := by unfold isX; rw [hpB, hl]; simp [h3, hc]
          have hcB : ((c.toNat : Int) == 39) = false := by simp; omega
          have HXB := Lib.hid hx
          clear hx hp hl hc
          go_wp2_with fail
          go_meet
          case rel => exact ⟨by rw [HXB.out], rfl⟩
      · have hpB : ((s.extract 0 2).toList == [120, 39]) = false := by simpa using hp
        have hx : isX s = false := by unfold isX; rw [hpB]; simp
        have HXB := Lib.hid hx
        clear hx hp hl
        go_wp2_with fail
        go_meet
        case rel => exact ⟨by rw [HXB.out], rfl⟩
    · have hx : isX s = false := by unfold isX; simp [h3]
      have HXB := Lib.hid hx
      clear hx
      go_wp2_with fail
      go_meet
      case rel => exact ⟨by rw [HXB.out], rfl⟩
  case rest =>
    obtain ⟨rfl, rfl⟩ := hcut
    by_cases hx : isX s = true
    · rw [hx]
      obtain ⟨hp, hc⟩ := (isX_iff s).1 hx
      have hres := HX.out hp hc
      have h3 : 3 ≤ s.size := by unfold isX at hx; simp only [Bool.and_eq_true, decide_eq_true_eq] at hx; exact hx.1
      obtain ⟨m, hm⟩ : ∃ m, s.size = m + 1 := ⟨s.size - 1, by omega⟩
      have hsm : (s.size : Int) - 1 = (m : Int) := by omega
      have hin := inner_take hm hp hc
      have C := fun W => rbytes_any (s.extract 2 m) W (by rw [ByteArray.size_extract]; omega)
      rw [hin] at C
      unfold rbRes at C
      unfold xRes at hres
      have hm2 : 2 ≤ m := by omega
      clear hx hp hc hin hm
      by_cases hok : (innerOf s.data.toList).length % 2 = 0 ∧ (prsGo (innerOf s.data.toList) []).isSome = true
      · simp only [if_pos hok] at C
        rw [if_pos hok] at hres
        generalize (prsGo (innerOf s.data.toList) []).getD [] = bs at C hres
        have hbsz : (⟨bs.toArray⟩ : ByteArray).size = bs.length := by show Array.size _ = _; simp
        generalize hstr : (⟨bs.toArray⟩ : ByteArray) = str at C hres hbsz
        by_cases hbig : 200 < bs.length
        · rw [if_pos hbig] at hres
          have HRES := Lib.hid hres
          have HC := Lib.hid C
          have hb2 : (200 : Int) < (str.size : Int) := by omega
          clear C hres hok hbsz hbig hstr
          go_wp2_with fail
          refine (HC.out _).mono ?_
          rintro e w1 ⟨rfl, hb⟩
          obtain ⟨hc, hf, hsz⟩ := box_after hb
          have c0 : w1.cell? ⟨w.heap.size, 0, none⟩ = some (.int .i64 0) := hc 0
          have c1 : w1.cell? ⟨w.heap.size, 1, none⟩ = some (.int .i64 0) := hc 1
          have c2 : w1.cell? ⟨w.heap.size, 2, none⟩ = some (.int .u64 0) := hc 2
          have c3 : w1.cell? ⟨w.heap.size, 3, none⟩ = some (.string ⟨#[]⟩) := hc 3
          have f0 := hf 0
          have f1 := hf 1
          have f2 := hf 2
          have f3 := hf 3
          have HB := Lib.hid (below_box hb)
          clear hc hf hb
          go_wp2
          refine bodyPost_ret (v := .tuple #[.agg #[.int .i64 0, .int .i64 0, .int .u64 0, .string ⟨#[]⟩], .int .i64 3]) (by simp [results, Tryz.results20, go_sem, c0, c1, c2, c3]) rfl ⟨by (rw [HRES.out]) <;> rfl, ?_⟩
          repeat' first | exact HB.out | (refine Below.setCell ?_ (by simp) _)
        · rw [if_neg hbig] at hres
          have HRES := Lib.hid hres
          have HC := Lib.hid C
          have hb2 : (str.size : Int) ≤ 200 := by omega
          clear C hres hok hbsz hbig hstr
          go_wp2_with fail
          refine (HC.out _).mono ?_
          rintro e w1 ⟨rfl, hb⟩
          obtain ⟨hc, hf, hsz⟩ := box_after hb
          have c0 : w1.cell? ⟨w.heap.size, 0, none⟩ = some (.int .i64 0) := hc 0
          have c1 : w1.cell? ⟨w.heap.size, 1, none⟩ = some (.int .i64 0) := hc 1
          have c2 : w1.cell? ⟨w.heap.size, 2, none⟩ = some (.int .u64 0) := hc 2
          have c3 : w1.cell? ⟨w.heap.size, 3, none⟩ = some (.string ⟨#[]⟩) := hc 3
          have f0 := hf 0
          have f1 := hf 1
          have f2 := hf 2
          have f3 := hf 3
          have HB := Lib.hid (below_box hb)
          clear hc hf hb
          go_wp2
          refine bodyPost_ret (v := .tuple #[.agg #[.int .i64 4, .int .i64 0, .int .u64 0, .string str], .int .i64 0]) (by simp [results, Tryz.results20, go_sem, c0, c1, c2, c3]) rfl ⟨by (rw [HRES.out]) <;> rfl, ?_⟩
          repeat' first | exact HB.out | (refine Below.setCell ?_ (by simp) _)
      · simp only [if_neg hok] at C
        rw [if_neg hok] at hres
        have HRES := Lib.hid hres
        have HC := Lib.hid C
        clear C hres hok
        go_wp2_with fail
        refine (HC.out _).mono ?_
        rintro e w1 ⟨rfl, hb⟩
        obtain ⟨hc, hf, hsz⟩ := box_after hb
        have c0 : w1.cell? ⟨w.heap.size, 0, none⟩ = some (.int .i64 0) := hc 0
        have c1 : w1.cell? ⟨w.heap.size, 1, none⟩ = some (.int .i64 0) := hc 1
        have c2 : w1.cell? ⟨w.heap.size, 2, none⟩ = some (.int .u64 0) := hc 2
        have c3 : w1.cell? ⟨w.heap.size, 3, none⟩ = some (.string ⟨#[]⟩) := hc 3
        have f0 := hf 0
        have f1 := hf 1
        have f2 := hf 2
        have f3 := hf 3
        have HB := Lib.hid (below_box hb)
        clear hc hf hb
        go_wp2
        refine bodyPost_ret (v := .tuple #[.agg #[.int .i64 0, .int .i64 0, .int .u64 0, .string ⟨#[]⟩], .int .i64 110]) (by simp [results, Tryz.results20, go_sem, c0, c1, c2, c3]) rfl ⟨by (rw [HRES.out]) <;> rfl, ?_⟩
        repeat' first | exact HB.out | (refine Below.setCell ?_ (by simp) _)
    · have hxf : isX s = false := by cases h : isX s; rfl; exact absurd h hx
      rw [hxf]
      have hres := HR.out (fun h => hx ((isX_iff s).2 h))
      unfold restRes at hres
      clear hx hxf
      by_cases hsu : Lib.hasSuffix s.data.toList [117] = true
      · rw [if_pos hsu] at hres
        have hl0 := (suf_last _ _).1 hsu
        obtain ⟨m, hm⟩ : ∃ m, s.size = m + 1 := by
          rcases Nat.eq_zero_or_pos s.size with h | h
          · have : s.data.toList = [] := List.eq_nil_of_length_eq_zero (by simpa using h)
            rw [this] at hl0; cases hl0
          · exact ⟨s.size - 1, by omega⟩
        have hl := lastAt hm
        rw [hl0] at hl
        have hc117 : s[m] = 117 := (Option.some.inj hl).symm
        have hsm : (s.size : Int) - 1 = (m : Int) := by omega
        have hidx : ∀ W, (Instr.index 9 (.string s) (.int .i64 (m : Int))).run Tryz.prog W = .ok (.int .u8 117) W := fun W => by
          rw [run_index_string W 9 _ .i64 _ Tryz.underlying9, dif_pos ⟨by omega, by omega⟩]
          simp only [Int.toNat_natCast, hc117]
          rfl
        have C := fun W => runs_any (s.extract 0 m) W
        rw [trimS_take hm hsu] at C
        have hm0 : (0 : Int) ≤ (m : Int) := by omega
        clear hl hl0 hc117 hm hsu
        cases hn : numOf 18446744073709551615 (Lib.trimSuffix s.data.toList [117]) with
        | none =>
          rw [hn] at C hres
          simp only [numRes] at C
          have HRES := Lib.hid hres
          have HC := Lib.hid C
          clear C hres hn
          go_wp2_with fail
          refine (HC.out _).mono ?_
          rintro e w1 ⟨rfl, hb⟩
          obtain ⟨hc, hf, hsz⟩ := box_after hb
          have c0 : w1.cell? ⟨w.heap.size, 0, none⟩ = some (.int .i64 0) := hc 0
          have c1 : w1.cell? ⟨w.heap.size, 1, none⟩ = some (.int .i64 0) := hc 1
          have c2 : w1.cell? ⟨w.heap.size, 2, none⟩ = some (.int .u64 0) := hc 2
          have c3 : w1.cell? ⟨w.heap.size, 3, none⟩ = some (.string ⟨#[]⟩) := hc 3
          have f0 := hf 0
          have f1 := hf 1
          have f2 := hf 2
          have f3 := hf 3
          have HB := Lib.hid (below_box hb)
          clear hc hf hb
          go_wp2
          refine bodyPost_ret (v := .tuple #[.agg #[.int .i64 0, .int .i64 0, .int .u64 0, .string ⟨#[]⟩], .int .i64 110]) (by simp [results, Tryz.results20, go_sem, c0, c1, c2, c3]) rfl ⟨by (rw [HRES.out]) <;> rfl, ?_⟩
          repeat' first | exact HB.out | (refine Below.setCell ?_ (by simp) _)
        | some n =>
          rw [hn] at C hres
          simp only [numRes] at C
          have HRES := Lib.hid hres
          have HC := Lib.hid C
          clear C hres hn
          go_wp2_with fail
          refine (HC.out _).mono ?_
          rintro e w1 ⟨rfl, hb⟩
          obtain ⟨hc, hf, hsz⟩ := box_after hb
          have c0 : w1.cell? ⟨w.heap.size, 0, none⟩ = some (.int .i64 0) := hc 0
          have c1 : w1.cell? ⟨w.heap.size, 1, none⟩ = some (.int .i64 0) := hc 1
          have c2 : w1.cell? ⟨w.heap.size, 2, none⟩ = some (.int .u64 0) := hc 2
          have c3 : w1.cell? ⟨w.heap.size, 3, none⟩ = some (.string ⟨#[]⟩) := hc 3
          have f0 := hf 0
          have f1 := hf 1
          have f2 := hf 2
          have f3 := hf 3
          have HB := Lib.hid (below_box hb)
          clear hc hf hb
          go_wp2
          refine bodyPost_ret (v := .tuple #[.agg #[.int .i64 2, .int .i64 0, .int .u64 n, .string ⟨#[]⟩], .int .i64 0]) (by simp [results, Tryz.results20, go_sem, c0, c1, c2, c3]) rfl ⟨by (rw [HRES.out]) <;> rfl, ?_⟩
          repeat' first | exact HB.out | (refine Below.setCell ?_ (by simp) _)
      · rw [if_neg hsu] at hres
        have hg : s.size = 0 ∨ (∃ m c, s.size = m + 1 ∧ (∀ W, (Instr.index 9 (.string s) (.int .i64 (m : Int))).run Tryz.prog W = .ok (.int .u8 c) W) ∧ (c == 117) = false) := by
          rcases Nat.eq_zero_or_pos s.size with h | h
          · exact .inl h
          · obtain ⟨m, hm⟩ : ∃ m, s.size = m + 1 := ⟨s.size - 1, by omega⟩
            refine .inr ⟨m, s[m].toNat, hm, fun W => ?_, ?_⟩
            · rw [run_index_string W 9 _ .i64 _ Tryz.underlying9, dif_pos ⟨by omega, by omega⟩]
              simp only [Int.toNat_natCast]
            · rw [beq_eq_false_iff_ne]
              intro he
              apply hsu
              rw [suf_last, lastAt hm]
              exact congrArg some (UInt8.toNat_inj.1 (show s[m].toNat = 117 by omega))
        have C := fun W => rsigned_any s W hz
        unfold SgPost at C
        clear hsu
        cases hn : sg s.data.toList with
        | none =>
          rw [hn] at C hres
          have HRES := Lib.hid hres
          have HC := Lib.hid C
          clear C hres hn
          rcases hg with hg | ⟨m, c, hm, hidx, hc⟩
          · have hs0 : (s.size : Int) - 1 = -1 := by omega
            clear hg
            go_wp2_with fail
            refine (HC.out _).mono ?_
            rintro e w1 ⟨v, rfl, hv, hb⟩
            clear hv
            obtain ⟨hc, hf, hsz⟩ := box_after hb
            have c0 : w1.cell? ⟨w.heap.size, 0, none⟩ = some (.int .i64 0) := hc 0
            have c1 : w1.cell? ⟨w.heap.size, 1, none⟩ = some (.int .i64 0) := hc 1
            have c2 : w1.cell? ⟨w.heap.size, 2, none⟩ = some (.int .u64 0) := hc 2
            have c3 : w1.cell? ⟨w.heap.size, 3, none⟩ = some (.string ⟨#[]⟩) := hc 3
            have f0 := hf 0
            have f1 := hf 1
            have f2 := hf 2
            have f3 := hf 3
            have HB := Lib.hid (below_box hb)
            clear hc hf hb
            go_wp2
            refine bodyPost_ret (v := .tuple #[.agg #[.int .i64 0, .int .i64 0, .int .u64 0, .string ⟨#[]⟩], .int .i64 110]) (by simp [results, Tryz.results20, go_sem, c0, c1, c2, c3]) rfl ⟨by (rw [HRES.out]) <;> rfl, ?_⟩
            repeat' first | exact HB.out | (refine Below.setCell ?_ (by simp) _)
          · have hsm : (s.size : Int) - 1 = (m : Int) := by omega
            have hm0 : (0 : Int) ≤ (m : Int) := by omega
            clear hm
            go_wp2_with fail
            refine (HC.out _).mono ?_
            rintro e w1 ⟨v, rfl, hv, hb⟩
            clear hv
            obtain ⟨hc, hf, hsz⟩ := box_after hb
            have c0 : w1.cell? ⟨w.heap.size, 0, none⟩ = some (.int .i64 0) := hc 0
            have c1 : w1.cell? ⟨w.heap.size, 1, none⟩ = some (.int .i64 0) := hc 1
            have c2 : w1.cell? ⟨w.heap.size, 2, none⟩ = some (.int .u64 0) := hc 2
            have c3 : w1.cell? ⟨w.heap.size, 3, none⟩ = some (.string ⟨#[]⟩) := hc 3
            have f0 := hf 0
            have f1 := hf 1
            have f2 := hf 2
            have f3 := hf 3
            have HB := Lib.hid (below_box hb)
            clear hc hf hb
            go_wp2
            refine bodyPost_ret (v := .tuple #[.agg #[.int .i64 0, .int .i64 0, .int .u64 0, .string ⟨#[]⟩], .int .i64 110]) (by simp [results, Tryz.results20, go_sem, c0, c1, c2, c3]) rfl ⟨by (rw [HRES.out]) <;> rfl, ?_⟩
            repeat' first | exact HB.out | (refine Below.setCell ?_ (by simp) _)
        | some n =>
          rw [hn] at C hres
          have HRES := Lib.hid hres
          have HC := Lib.hid C
          clear C hres hn
          rcases hg with hg | ⟨m, c, hm, hidx, hc⟩
          · have hs0 : (s.size : Int) - 1 = -1 := by omega
            clear hg
            go_wp2_with fail
            refine (HC.out _).mono ?_
            rintro e w1 ⟨v, rfl, hv, hb⟩
            obtain rfl := hv n rfl
            clear hv
            obtain ⟨hc, hf, hsz⟩ := box_after hb
            have c0 : w1.cell? ⟨w.heap.size, 0, none⟩ = some (.int .i64 0) := hc 0
            have c1 : w1.cell? ⟨w.heap.size, 1, none⟩ = some (.int .i64 0) := hc 1
            have c2 : w1.cell? ⟨w.heap.size, 2, none⟩ = some (.int .u64 0) := hc 2
            have c3 : w1.cell? ⟨w.heap.size, 3, none⟩ = some (.string ⟨#[]⟩) := hc 3
            have f0 := hf 0
            have f1 := hf 1
            have f2 := hf 2
            have f3 := hf 3
            have HB := Lib.hid (below_box hb)
            clear hc hf hb
            go_wp2
            refine bodyPost_ret (v := .tuple #[.agg #[.int .i64 1, .int .i64 v, .int .u64 0, .string ⟨#[]⟩], .int .i64 0]) (by simp [results, Tryz.results20, go_sem, c0, c1, c2, c3]) rfl ⟨by (rw [HRES.out]) <;> rfl, ?_⟩
            repeat' first | exact HB.out | (refine Below.setCell ?_ (by simp) _)
          · have hsm : (s.size : Int) - 1 = (m : Int) := by omega
            have hm0 : (0 : Int) ≤ (m : Int) := by omega
            clear hm
            go_wp2_with fail
            refine (HC.out _).mono ?_
            rintro e w1 ⟨v, rfl, hv, hb⟩
            obtain rfl := hv n rfl
            clear hv
            obtain ⟨hc, hf, hsz⟩ := box_after hb
            have c0 : w1.cell? ⟨w.heap.size, 0, none⟩ = some (.int .i64 0) := hc 0
            have c1 : w1.cell? ⟨w.heap.size, 1, none⟩ = some (.int .i64 0) := hc 1
            have c2 : w1.cell? ⟨w.heap.size, 2, none⟩ = some (.int .u64 0) := hc 2
            have c3 : w1.cell? ⟨w.heap.size, 3, none⟩ = some (.string ⟨#[]⟩) := hc 3
            have f0 := hf 0
            have f1 := hf 1
            have f2 := hf 2
            have f3 := hf 3
            have HB := Lib.hid (below_box hb)
            clear hc hf hb
            go_wp2
            refine bodyPost_ret (v := .tuple #[.agg #[.int .i64 1, .int .i64 v, .int .u64 0, .string ⟨#[]⟩], .int .i64 0]) (by simp [results, Tryz.results20, go_sem, c0, c1, c2, c3]) rfl ⟨by (rw [HRES.out]) <;> rfl, ?_⟩
            repeat' first | exact HB.out | (refine Below.setCell ?_ (by simp) _)
theorem rParse_any (s : ByteArray) (w : World) (hz : s.size ≤ 800) :
    Calls Tryz.prog 20 #[.string s] w fun e w' => e = .returned (parseRes s.data.toList) ∧ Below w.heap.size w w' := by
  by_cases h1 : s.data.toList = [110, 117, 108, 108]
  · exact rparse_word s w (.inl h1)
  · by_cases h2 : s.data.toList = [102, 97, 108, 115, 101]
    · exact rparse_word s w (.inr (.inl h2))
    · by_cases h3 : s.data.toList = [116, 114, 117, 101]
      · exact rparse_word s w (.inr (.inr h3))
      · exact rparse_deep s w hz h1 h2 h3
end Go.Proofs.YtifmfcaaofiboaaGreatDoor

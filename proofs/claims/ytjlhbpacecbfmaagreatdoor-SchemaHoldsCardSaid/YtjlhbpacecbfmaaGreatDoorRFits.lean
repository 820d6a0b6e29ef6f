/-
  swingbridgeref03.Fits answers as schema.Fits: 'fitsN'.
-/
import Derived.Test.YtjlhbpacecbfmaaGreatDoorSFits
import Derived.Test.YtjlhbpacecbfmaaGreatDoorBelowQ
namespace Go.Proofs.YtjlhbpacecbfmaaGreatDoor
open Go.RowKit

set_option maxHeartbeats 400000 in
theorem rleast_any (z : Int) (w : World) (h : numSz z = true) : Calls Tryz.prog 44 #[.int .i64 z] w fun e w' => e = .returned (.int .i64 (leastI z)) ∧ Below w.heap.size w w' := by
  rcases numSz_cases h with rfl | rfl | rfl | rfl
  all_goals
    clear h
    go_enter Tryz.func44, Tryz.ntmps44
    go_wp2
    go_ret
    exact ⟨rfl, by go_grown⟩
set_option maxHeartbeats 400000 in
theorem rmost_any (z : Int) (w : World) (h : numSz z = true) : Calls Tryz.prog 45 #[.int .i64 z] w fun e w' => e = .returned (.int .u64 (mostU z)) ∧ Below w.heap.size w w' := by
  rcases numSz_cases h with rfl | rfl | rfl | rfl
  all_goals
    clear h
    go_enter Tryz.func45, Tryz.ntmps45
    go_wp2
    go_ret
    exact ⟨rfl, by go_grown⟩
theorem least_most {z : Int} (h : numSz z = true) : IntKind.i64.wrap (leastI z + 1) = leastI z + 1 ∧ IntKind.i64.wrap (-(leastI z + 1)) = mostI z := by
  rcases numSz_cases h with rfl | rfl | rfl | rfl <;> exact ⟨rfl, rfl⟩
set_option maxRecDepth 100000 in
set_option maxHeartbeats 2000000 in
theorem rFits_col (n : ByteArray) (t : Int) (z : Int) (nl : Bool) (k : Int) (i u : Int) (s : ByteArray) (w : World) (hn : n.size ≤ 9223372036854775807) (hc : colOk ⟨n, t, z, nl⟩ = false) :
    Calls Tryz.prog 20 #[.agg #[.string n, .int .i64 t, .int .i64 z, .bool nl], .agg #[.int .i64 k, .int .i64 i, .int .u64 u, .string s]] w fun e w' => e = .returned (.int .i64 (2)) ∧ Below w.heap.size w w' := by
  have HC := Lib.hid (show ∀ W, Calls Tryz.prog 39 #[.agg #[.string n, .int .i64 t, .int .i64 z, .bool nl]] W fun e w' => e = .returned (.bool false) ∧ Below W.heap.size W w' from fun W => by have q := rcolumn_any ⟨n, t, z, nl⟩ W hn; rw [hc] at q; exact q)
  clear hc hn
  go_enter Tryz.func20, Tryz.ntmps20
  go_wp2_with fail
  refine (HC.out _).mono ?_
  rintro e w1 ⟨rfl, hb1⟩
  have hb0 : Below w.heap.size w w1 := (boxes2 w _ _).trans (hb1.mono (by simp; omega))
  have hz1 : w.heap.size + 1 < w1.heap.size := by have := hb1.size; simp at this; omega
  have hz0 : w.heap.size < w1.heap.size := by omega
  go_wp2_with fail
  go_ret
  exact ⟨rfl, hb0⟩
set_option maxRecDepth 100000 in
set_option maxHeartbeats 2000000 in
theorem rFits_chk (n : ByteArray) (t : Int) (z : Int) (nl : Bool) (k : Int) (i u : Int) (s : ByteArray) (w : World) (hn : n.size ≤ 9223372036854775807) (hc : colOk ⟨n, t, z, nl⟩ = true) (m : Int) (h : chk k i u s = m) (h0 : m ≠ 0) :
    Calls Tryz.prog 20 #[.agg #[.string n, .int .i64 t, .int .i64 z, .bool nl], .agg #[.int .i64 k, .int .i64 i, .int .u64 u, .string s]] w fun e w' => e = .returned (.int .i64 (m)) ∧ Below w.heap.size w w' := by
  have hm0 : (m != 0) = true := by simpa using h0
  clear h0
  have HC := Lib.hid (show ∀ W, Calls Tryz.prog 39 #[.agg #[.string n, .int .i64 t, .int .i64 z, .bool nl]] W fun e w' => e = .returned (.bool true) ∧ Below W.heap.size W w' from fun W => by have q := rcolumn_any ⟨n, t, z, nl⟩ W hn; rw [hc] at q; exact q)
  clear hc hn
  go_enter Tryz.func20, Tryz.ntmps20
  go_wp2_with fail
  refine (HC.out _).mono ?_
  rintro e w1 ⟨rfl, hb1⟩
  have hb0 : Below w.heap.size w w1 := (boxes2 w _ _).trans (hb1.mono (by simp; omega))
  have hz1 : w.heap.size + 1 < w1.heap.size := by have := hb1.size; simp at this; omega
  have hz0 : w.heap.size < w1.heap.size := by omega
  have hn1 : w1.cell? ⟨w.heap.size, 1, none⟩ = some (.int .i64 t) := cell_old (by simp [go_sem]) hb1
  have hn2 : w1.cell? ⟨w.heap.size, 2, none⟩ = some (.int .i64 z) := cell_old (by simp [go_sem]) hb1
  have hn3 : w1.cell? ⟨w.heap.size, 3, none⟩ = some (.bool nl) := cell_old (by simp [go_sem]) hb1
  have hv0 : w1.cell? ⟨w.heap.size + 1, 0, none⟩ = some (.int .i64 k) := cell_old (by simp [go_sem]) hb1
  have hv1 : w1.cell? ⟨w.heap.size + 1, 1, none⟩ = some (.int .i64 i) := cell_old (by simp [go_sem]) hb1
  have hv2 : w1.cell? ⟨w.heap.size + 1, 2, none⟩ = some (.int .u64 u) := cell_old (by simp [go_sem]) hb1
  have hv3 : w1.cell? ⟨w.heap.size + 1, 3, none⟩ = some (.string s) := cell_old (by simp [go_sem]) hb1
  go_wp2_with fail
  refine (rCheck_any _ _ _ _ _).mono ?_
  rintro e w2 ⟨rfl, hb2⟩
  rw [h]
  have hb02 := hb0.trans (hb2.mono hb0.size)
  have hs2 := hb2.size
  have hn1 : w2.cell? ⟨w.heap.size, 1, none⟩ = some (.int .i64 t) := cell_old hn1 hb2
  have hn2 : w2.cell? ⟨w.heap.size, 2, none⟩ = some (.int .i64 z) := cell_old hn2 hb2
  have hn3 : w2.cell? ⟨w.heap.size, 3, none⟩ = some (.bool nl) := cell_old hn3 hb2
  have hv0 : w2.cell? ⟨w.heap.size + 1, 0, none⟩ = some (.int .i64 k) := cell_old hv0 hb2
  have hv1 : w2.cell? ⟨w.heap.size + 1, 1, none⟩ = some (.int .i64 i) := cell_old hv1 hb2
  have hv2 : w2.cell? ⟨w.heap.size + 1, 2, none⟩ = some (.int .u64 u) := cell_old hv2 hb2
  have hv3 : w2.cell? ⟨w.heap.size + 1, 3, none⟩ = some (.string s) := cell_old hv3 hb2
  have hz2 : w.heap.size + 1 < w2.heap.size := by omega
  clear h hb1 hb2 hb0 hz1 hz0 hs2
  go_wp2_with fail
  go_ret
  exact ⟨rfl, hb02⟩
set_option maxRecDepth 100000 in
set_option maxHeartbeats 2000000 in
theorem rFits_null (n : ByteArray) (t : Int) (z : Int) (i u : Int) (s : ByteArray) (w : World) (hn : n.size ≤ 9223372036854775807) (hc : colOk ⟨n, t, z, true⟩ = true) (h : chk 0 i u s = 0) :
    Calls Tryz.prog 20 #[.agg #[.string n, .int .i64 t, .int .i64 z, .bool true], .agg #[.int .i64 0, .int .i64 i, .int .u64 u, .string s]] w fun e w' => e = .returned (.int .i64 (0)) ∧ Below w.heap.size w w' := by
  have HC := Lib.hid (show ∀ W, Calls Tryz.prog 39 #[.agg #[.string n, .int .i64 t, .int .i64 z, .bool true]] W fun e w' => e = .returned (.bool true) ∧ Below W.heap.size W w' from fun W => by have q := rcolumn_any ⟨n, t, z, true⟩ W hn; rw [hc] at q; exact q)
  clear hc hn
  go_enter Tryz.func20, Tryz.ntmps20
  go_wp2_with fail
  refine (HC.out _).mono ?_
  rintro e w1 ⟨rfl, hb1⟩
  have hb0 : Below w.heap.size w w1 := (boxes2 w _ _).trans (hb1.mono (by simp; omega))
  have hz1 : w.heap.size + 1 < w1.heap.size := by have := hb1.size; simp at this; omega
  have hz0 : w.heap.size < w1.heap.size := by omega
  have hn1 : w1.cell? ⟨w.heap.size, 1, none⟩ = some (.int .i64 t) := cell_old (by simp [go_sem]) hb1
  have hn2 : w1.cell? ⟨w.heap.size, 2, none⟩ = some (.int .i64 z) := cell_old (by simp [go_sem]) hb1
  have hn3 : w1.cell? ⟨w.heap.size, 3, none⟩ = some (.bool true) := cell_old (by simp [go_sem]) hb1
  have hv0 : w1.cell? ⟨w.heap.size + 1, 0, none⟩ = some (.int .i64 0) := cell_old (by simp [go_sem]) hb1
  have hv1 : w1.cell? ⟨w.heap.size + 1, 1, none⟩ = some (.int .i64 i) := cell_old (by simp [go_sem]) hb1
  have hv2 : w1.cell? ⟨w.heap.size + 1, 2, none⟩ = some (.int .u64 u) := cell_old (by simp [go_sem]) hb1
  have hv3 : w1.cell? ⟨w.heap.size + 1, 3, none⟩ = some (.string s) := cell_old (by simp [go_sem]) hb1
  go_wp2_with fail
  refine (rCheck_any _ _ _ _ _).mono ?_
  rintro e w2 ⟨rfl, hb2⟩
  rw [h]
  have hb02 := hb0.trans (hb2.mono hb0.size)
  have hs2 := hb2.size
  have hn1 : w2.cell? ⟨w.heap.size, 1, none⟩ = some (.int .i64 t) := cell_old hn1 hb2
  have hn2 : w2.cell? ⟨w.heap.size, 2, none⟩ = some (.int .i64 z) := cell_old hn2 hb2
  have hn3 : w2.cell? ⟨w.heap.size, 3, none⟩ = some (.bool true) := cell_old hn3 hb2
  have hv0 : w2.cell? ⟨w.heap.size + 1, 0, none⟩ = some (.int .i64 0) := cell_old hv0 hb2
  have hv1 : w2.cell? ⟨w.heap.size + 1, 1, none⟩ = some (.int .i64 i) := cell_old hv1 hb2
  have hv2 : w2.cell? ⟨w.heap.size + 1, 2, none⟩ = some (.int .u64 u) := cell_old hv2 hb2
  have hv3 : w2.cell? ⟨w.heap.size + 1, 3, none⟩ = some (.string s) := cell_old hv3 hb2
  have hz2 : w.heap.size + 1 < w2.heap.size := by omega
  clear h hb1 hb2 hb0 hz1 hz0 hs2
  go_wp2_with fail
  go_ret
  exact ⟨rfl, hb02⟩
set_option maxRecDepth 100000 in
set_option maxHeartbeats 2000000 in
theorem rFits_nonull (n : ByteArray) (t : Int) (z : Int) (i u : Int) (s : ByteArray) (w : World) (hn : n.size ≤ 9223372036854775807) (hc : colOk ⟨n, t, z, false⟩ = true) (h : chk 0 i u s = 0) :
    Calls Tryz.prog 20 #[.agg #[.string n, .int .i64 t, .int .i64 z, .bool false], .agg #[.int .i64 0, .int .i64 i, .int .u64 u, .string s]] w fun e w' => e = .returned (.int .i64 (131)) ∧ Below w.heap.size w w' := by
  have HC := Lib.hid (show ∀ W, Calls Tryz.prog 39 #[.agg #[.string n, .int .i64 t, .int .i64 z, .bool false]] W fun e w' => e = .returned (.bool true) ∧ Below W.heap.size W w' from fun W => by have q := rcolumn_any ⟨n, t, z, false⟩ W hn; rw [hc] at q; exact q)
  clear hc hn
  go_enter Tryz.func20, Tryz.ntmps20
  go_wp2_with fail
  refine (HC.out _).mono ?_
  rintro e w1 ⟨rfl, hb1⟩
  have hb0 : Below w.heap.size w w1 := (boxes2 w _ _).trans (hb1.mono (by simp; omega))
  have hz1 : w.heap.size + 1 < w1.heap.size := by have := hb1.size; simp at this; omega
  have hz0 : w.heap.size < w1.heap.size := by omega
  have hn1 : w1.cell? ⟨w.heap.size, 1, none⟩ = some (.int .i64 t) := cell_old (by simp [go_sem]) hb1
  have hn2 : w1.cell? ⟨w.heap.size, 2, none⟩ = some (.int .i64 z) := cell_old (by simp [go_sem]) hb1
  have hn3 : w1.cell? ⟨w.heap.size, 3, none⟩ = some (.bool false) := cell_old (by simp [go_sem]) hb1
  have hv0 : w1.cell? ⟨w.heap.size + 1, 0, none⟩ = some (.int .i64 0) := cell_old (by simp [go_sem]) hb1
  have hv1 : w1.cell? ⟨w.heap.size + 1, 1, none⟩ = some (.int .i64 i) := cell_old (by simp [go_sem]) hb1
  have hv2 : w1.cell? ⟨w.heap.size + 1, 2, none⟩ = some (.int .u64 u) := cell_old (by simp [go_sem]) hb1
  have hv3 : w1.cell? ⟨w.heap.size + 1, 3, none⟩ = some (.string s) := cell_old (by simp [go_sem]) hb1
  go_wp2_with fail
  refine (rCheck_any _ _ _ _ _).mono ?_
  rintro e w2 ⟨rfl, hb2⟩
  rw [h]
  have hb02 := hb0.trans (hb2.mono hb0.size)
  have hs2 := hb2.size
  have hn1 : w2.cell? ⟨w.heap.size, 1, none⟩ = some (.int .i64 t) := cell_old hn1 hb2
  have hn2 : w2.cell? ⟨w.heap.size, 2, none⟩ = some (.int .i64 z) := cell_old hn2 hb2
  have hn3 : w2.cell? ⟨w.heap.size, 3, none⟩ = some (.bool false) := cell_old hn3 hb2
  have hv0 : w2.cell? ⟨w.heap.size + 1, 0, none⟩ = some (.int .i64 0) := cell_old hv0 hb2
  have hv1 : w2.cell? ⟨w.heap.size + 1, 1, none⟩ = some (.int .i64 i) := cell_old hv1 hb2
  have hv2 : w2.cell? ⟨w.heap.size + 1, 2, none⟩ = some (.int .u64 u) := cell_old hv2 hb2
  have hv3 : w2.cell? ⟨w.heap.size + 1, 3, none⟩ = some (.string s) := cell_old hv3 hb2
  have hz2 : w.heap.size + 1 < w2.heap.size := by omega
  clear h hb1 hb2 hb0 hz1 hz0 hs2
  go_wp2_with fail
  go_ret
  exact ⟨rfl, hb02⟩
set_option maxRecDepth 100000 in
set_option maxHeartbeats 2000000 in
theorem rFits_type (n : ByteArray) (t : Int) (z : Int) (nl : Bool) (k : Int) (i u : Int) (s : ByteArray) (w : World) (hn : n.size ≤ 9223372036854775807) (hc : colOk ⟨n, t, z, nl⟩ = true) (h : chk k i u s = 0) (hk : (k == 0) = false) (hkt : (k != t) = true) :
    Calls Tryz.prog 20 #[.agg #[.string n, .int .i64 t, .int .i64 z, .bool nl], .agg #[.int .i64 k, .int .i64 i, .int .u64 u, .string s]] w fun e w' => e = .returned (.int .i64 (132)) ∧ Below w.heap.size w w' := by
  have HC := Lib.hid (show ∀ W, Calls Tryz.prog 39 #[.agg #[.string n, .int .i64 t, .int .i64 z, .bool nl]] W fun e w' => e = .returned (.bool true) ∧ Below W.heap.size W w' from fun W => by have q := rcolumn_any ⟨n, t, z, nl⟩ W hn; rw [hc] at q; exact q)
  clear hc hn
  go_enter Tryz.func20, Tryz.ntmps20
  go_wp2_with fail
  refine (HC.out _).mono ?_
  rintro e w1 ⟨rfl, hb1⟩
  have hb0 : Below w.heap.size w w1 := (boxes2 w _ _).trans (hb1.mono (by simp; omega))
  have hz1 : w.heap.size + 1 < w1.heap.size := by have := hb1.size; simp at this; omega
  have hz0 : w.heap.size < w1.heap.size := by omega
  have hn1 : w1.cell? ⟨w.heap.size, 1, none⟩ = some (.int .i64 t) := cell_old (by simp [go_sem]) hb1
  have hn2 : w1.cell? ⟨w.heap.size, 2, none⟩ = some (.int .i64 z) := cell_old (by simp [go_sem]) hb1
  have hn3 : w1.cell? ⟨w.heap.size, 3, none⟩ = some (.bool nl) := cell_old (by simp [go_sem]) hb1
  have hv0 : w1.cell? ⟨w.heap.size + 1, 0, none⟩ = some (.int .i64 k) := cell_old (by simp [go_sem]) hb1
  have hv1 : w1.cell? ⟨w.heap.size + 1, 1, none⟩ = some (.int .i64 i) := cell_old (by simp [go_sem]) hb1
  have hv2 : w1.cell? ⟨w.heap.size + 1, 2, none⟩ = some (.int .u64 u) := cell_old (by simp [go_sem]) hb1
  have hv3 : w1.cell? ⟨w.heap.size + 1, 3, none⟩ = some (.string s) := cell_old (by simp [go_sem]) hb1
  go_wp2_with fail
  refine (rCheck_any _ _ _ _ _).mono ?_
  rintro e w2 ⟨rfl, hb2⟩
  rw [h]
  have hb02 := hb0.trans (hb2.mono hb0.size)
  have hs2 := hb2.size
  have hn1 : w2.cell? ⟨w.heap.size, 1, none⟩ = some (.int .i64 t) := cell_old hn1 hb2
  have hn2 : w2.cell? ⟨w.heap.size, 2, none⟩ = some (.int .i64 z) := cell_old hn2 hb2
  have hn3 : w2.cell? ⟨w.heap.size, 3, none⟩ = some (.bool nl) := cell_old hn3 hb2
  have hv0 : w2.cell? ⟨w.heap.size + 1, 0, none⟩ = some (.int .i64 k) := cell_old hv0 hb2
  have hv1 : w2.cell? ⟨w.heap.size + 1, 1, none⟩ = some (.int .i64 i) := cell_old hv1 hb2
  have hv2 : w2.cell? ⟨w.heap.size + 1, 2, none⟩ = some (.int .u64 u) := cell_old hv2 hb2
  have hv3 : w2.cell? ⟨w.heap.size + 1, 3, none⟩ = some (.string s) := cell_old hv3 hb2
  have hz2 : w.heap.size + 1 < w2.heap.size := by omega
  clear h hb1 hb2 hb0 hz1 hz0 hs2
  go_wp2_with fail
  go_ret
  exact ⟨rfl, hb02⟩
set_option maxRecDepth 100000 in
set_option maxHeartbeats 2000000 in
theorem rFits1_in (n : ByteArray) (z : Int) (nl : Bool) (i u : Int) (s : ByteArray) (w : World) (hn : n.size ≤ 9223372036854775807) (hc : colOk ⟨n, 1, z, nl⟩ = true) (h : chk 1 i u s = 0) (hz : numSz z = true) (h1 : leastI z ≤ i) (h2 : i ≤ mostI z) :
    Calls Tryz.prog 20 #[.agg #[.string n, .int .i64 1, .int .i64 z, .bool nl], .agg #[.int .i64 1, .int .i64 i, .int .u64 u, .string s]] w fun e w' => e = .returned (.int .i64 (0)) ∧ Below w.heap.size w w' := by
  obtain ⟨e1, e2⟩ := least_most hz
  have HC := Lib.hid (show ∀ W, Calls Tryz.prog 39 #[.agg #[.string n, .int .i64 1, .int .i64 z, .bool nl]] W fun e w' => e = .returned (.bool true) ∧ Below W.heap.size W w' from fun W => by have q := rcolumn_any ⟨n, 1, z, nl⟩ W hn; rw [hc] at q; exact q)
  clear hc hn
  go_enter Tryz.func20, Tryz.ntmps20
  go_wp2_with fail
  refine (HC.out _).mono ?_
  rintro e w1 ⟨rfl, hb1⟩
  have hb0 : Below w.heap.size w w1 := (boxes2 w _ _).trans (hb1.mono (by simp; omega))
  have hz1 : w.heap.size + 1 < w1.heap.size := by have := hb1.size; simp at this; omega
  have hz0 : w.heap.size < w1.heap.size := by omega
  have hn1 : w1.cell? ⟨w.heap.size, 1, none⟩ = some (.int .i64 1) := cell_old (by simp [go_sem]) hb1
  have hn2 : w1.cell? ⟨w.heap.size, 2, none⟩ = some (.int .i64 z) := cell_old (by simp [go_sem]) hb1
  have hn3 : w1.cell? ⟨w.heap.size, 3, none⟩ = some (.bool nl) := cell_old (by simp [go_sem]) hb1
  have hv0 : w1.cell? ⟨w.heap.size + 1, 0, none⟩ = some (.int .i64 1) := cell_old (by simp [go_sem]) hb1
  have hv1 : w1.cell? ⟨w.heap.size + 1, 1, none⟩ = some (.int .i64 i) := cell_old (by simp [go_sem]) hb1
  have hv2 : w1.cell? ⟨w.heap.size + 1, 2, none⟩ = some (.int .u64 u) := cell_old (by simp [go_sem]) hb1
  have hv3 : w1.cell? ⟨w.heap.size + 1, 3, none⟩ = some (.string s) := cell_old (by simp [go_sem]) hb1
  go_wp2_with fail
  refine (rCheck_any _ _ _ _ _).mono ?_
  rintro e w2 ⟨rfl, hb2⟩
  rw [h]
  have hb02 := hb0.trans (hb2.mono hb0.size)
  have hs2 := hb2.size
  have hn1 : w2.cell? ⟨w.heap.size, 1, none⟩ = some (.int .i64 1) := cell_old hn1 hb2
  have hn2 : w2.cell? ⟨w.heap.size, 2, none⟩ = some (.int .i64 z) := cell_old hn2 hb2
  have hn3 : w2.cell? ⟨w.heap.size, 3, none⟩ = some (.bool nl) := cell_old hn3 hb2
  have hv0 : w2.cell? ⟨w.heap.size + 1, 0, none⟩ = some (.int .i64 1) := cell_old hv0 hb2
  have hv1 : w2.cell? ⟨w.heap.size + 1, 1, none⟩ = some (.int .i64 i) := cell_old hv1 hb2
  have hv2 : w2.cell? ⟨w.heap.size + 1, 2, none⟩ = some (.int .u64 u) := cell_old hv2 hb2
  have hv3 : w2.cell? ⟨w.heap.size + 1, 3, none⟩ = some (.string s) := cell_old hv3 hb2
  have hz2 : w.heap.size + 1 < w2.heap.size := by omega
  clear h hb1 hb2 hb0 hz1 hz0 hs2
  have d1 : decide (i < leastI z) = false := by simpa using h1
  have d2 : decide (mostI z < i) = false := by simpa using h2
  clear h1
  clear h2
  go_wp2_with fail
  have l2 : ∀ p : Later w2, p.W.cell? ⟨w.heap.size, 2, none⟩ = some (.int .i64 z) := later_cell hn2
  have l1 : ∀ p : Later w2, p.W.cell? ⟨w.heap.size + 1, 1, none⟩ = some (.int .i64 i) := later_cell hv1
  refine wp_region_later (by kernel_rfl) (by kernel_rfl) ?_
  repeat (go_big_quiet_step ((go_at_call 44; exact Calls.later (rleast_any _ _ hz))))
  refine wpQuiet_nil ?_
  rintro w3 ⟨⟨W0, hb3⟩, rfl⟩
  have g2 : w3.cell? ⟨w.heap.size, 2, none⟩ = some (.int .i64 z) := cell_old hn2 hb3
  have g3 : w3.cell? ⟨w.heap.size + 1, 2, none⟩ = some (.int .u64 u) := cell_old hv2 hb3
  have g4 : w3.cell? ⟨w.heap.size + 1, 3, none⟩ = some (.string s) := cell_old hv3 hb3
  have hz3 : w.heap.size + 1 < w3.heap.size := by have := hb3.size; omega
  go_wp2_with fail
  refine wp_region_later (by kernel_rfl) (by kernel_rfl) ?_
  repeat (go_big_quiet_step (fail))
  refine wpQuiet_nil ?_
  rintro w4 ⟨⟨W0, hb4⟩, rfl⟩
  have k2 : w4.cell? ⟨w.heap.size, 2, none⟩ = some (.int .i64 z) := cell_old g2 hb4
  have k4 : w4.cell? ⟨w.heap.size + 1, 3, none⟩ = some (.string s) := cell_old g4 hb4
  go_wp2_with fail
  go_ret
  exact ⟨rfl, (hb02.trans (hb3.mono hb02.size)).trans (hb4.mono (hb02.trans (hb3.mono hb02.size)).size)⟩
set_option maxRecDepth 100000 in
set_option maxHeartbeats 2000000 in
theorem rFits1_low (n : ByteArray) (z : Int) (nl : Bool) (i u : Int) (s : ByteArray) (w : World) (hn : n.size ≤ 9223372036854775807) (hc : colOk ⟨n, 1, z, nl⟩ = true) (h : chk 1 i u s = 0) (hz : numSz z = true) (h1 : i < leastI z) :
    Calls Tryz.prog 20 #[.agg #[.string n, .int .i64 1, .int .i64 z, .bool nl], .agg #[.int .i64 1, .int .i64 i, .int .u64 u, .string s]] w fun e w' => e = .returned (.int .i64 (133)) ∧ Below w.heap.size w w' := by
  obtain ⟨e1, e2⟩ := least_most hz
  have HC := Lib.hid (show ∀ W, Calls Tryz.prog 39 #[.agg #[.string n, .int .i64 1, .int .i64 z, .bool nl]] W fun e w' => e = .returned (.bool true) ∧ Below W.heap.size W w' from fun W => by have q := rcolumn_any ⟨n, 1, z, nl⟩ W hn; rw [hc] at q; exact q)
  clear hc hn
  go_enter Tryz.func20, Tryz.ntmps20
  go_wp2_with fail
  refine (HC.out _).mono ?_
  rintro e w1 ⟨rfl, hb1⟩
  have hb0 : Below w.heap.size w w1 := (boxes2 w _ _).trans (hb1.mono (by simp; omega))
  have hz1 : w.heap.size + 1 < w1.heap.size := by have := hb1.size; simp at this; omega
  have hz0 : w.heap.size < w1.heap.size := by omega
  have hn1 : w1.cell? ⟨w.heap.size, 1, none⟩ = some (.int .i64 1) := cell_old (by simp [go_sem]) hb1
  have hn2 : w1.cell? ⟨w.heap.size, 2, none⟩ = some (.int .i64 z) := cell_old (by simp [go_sem]) hb1
  have hn3 : w1.cell? ⟨w.heap.size, 3, none⟩ = some (.bool nl) := cell_old (by simp [go_sem]) hb1
  have hv0 : w1.cell? ⟨w.heap.size + 1, 0, none⟩ = some (.int .i64 1) := cell_old (by simp [go_sem]) hb1
  have hv1 : w1.cell? ⟨w.heap.size + 1, 1, none⟩ = some (.int .i64 i) := cell_old (by simp [go_sem]) hb1
  have hv2 : w1.cell? ⟨w.heap.size + 1, 2, none⟩ = some (.int .u64 u) := cell_old (by simp [go_sem]) hb1
  have hv3 : w1.cell? ⟨w.heap.size + 1, 3, none⟩ = some (.string s) := cell_old (by simp [go_sem]) hb1
  go_wp2_with fail
  refine (rCheck_any _ _ _ _ _).mono ?_
  rintro e w2 ⟨rfl, hb2⟩
  rw [h]
  have hb02 := hb0.trans (hb2.mono hb0.size)
  have hs2 := hb2.size
  have hn1 : w2.cell? ⟨w.heap.size, 1, none⟩ = some (.int .i64 1) := cell_old hn1 hb2
  have hn2 : w2.cell? ⟨w.heap.size, 2, none⟩ = some (.int .i64 z) := cell_old hn2 hb2
  have hn3 : w2.cell? ⟨w.heap.size, 3, none⟩ = some (.bool nl) := cell_old hn3 hb2
  have hv0 : w2.cell? ⟨w.heap.size + 1, 0, none⟩ = some (.int .i64 1) := cell_old hv0 hb2
  have hv1 : w2.cell? ⟨w.heap.size + 1, 1, none⟩ = some (.int .i64 i) := cell_old hv1 hb2
  have hv2 : w2.cell? ⟨w.heap.size + 1, 2, none⟩ = some (.int .u64 u) := cell_old hv2 hb2
  have hv3 : w2.cell? ⟨w.heap.size + 1, 3, none⟩ = some (.string s) := cell_old hv3 hb2
  have hz2 : w.heap.size + 1 < w2.heap.size := by omega
  clear h hb1 hb2 hb0 hz1 hz0 hs2
  have d1 : decide (i < leastI z) = true := by simpa using h1
  clear h1
  go_wp2_with fail
  have l2 : ∀ p : Later w2, p.W.cell? ⟨w.heap.size, 2, none⟩ = some (.int .i64 z) := later_cell hn2
  have l1 : ∀ p : Later w2, p.W.cell? ⟨w.heap.size + 1, 1, none⟩ = some (.int .i64 i) := later_cell hv1
  refine wp_region_later (by kernel_rfl) (by kernel_rfl) ?_
  repeat (go_big_quiet_step ((go_at_call 44; exact Calls.later (rleast_any _ _ hz))))
  refine wpQuiet_nil ?_
  rintro w3 ⟨⟨W0, hb3⟩, rfl⟩
  go_wp2_with fail
  go_ret
  exact ⟨rfl, hb02.trans (hb3.mono hb02.size)⟩
set_option maxRecDepth 100000 in
set_option maxHeartbeats 2000000 in
theorem rFits1_high (n : ByteArray) (z : Int) (nl : Bool) (i u : Int) (s : ByteArray) (w : World) (hn : n.size ≤ 9223372036854775807) (hc : colOk ⟨n, 1, z, nl⟩ = true) (h : chk 1 i u s = 0) (hz : numSz z = true) (h1 : leastI z ≤ i) (h2 : mostI z < i) :
    Calls Tryz.prog 20 #[.agg #[.string n, .int .i64 1, .int .i64 z, .bool nl], .agg #[.int .i64 1, .int .i64 i, .int .u64 u, .string s]] w fun e w' => e = .returned (.int .i64 (133)) ∧ Below w.heap.size w w' := by
  obtain ⟨e1, e2⟩ := least_most hz
  have HC := Lib.hid (show ∀ W, Calls Tryz.prog 39 #[.agg #[.string n, .int .i64 1, .int .i64 z, .bool nl]] W fun e w' => e = .returned (.bool true) ∧ Below W.heap.size W w' from fun W => by have q := rcolumn_any ⟨n, 1, z, nl⟩ W hn; rw [hc] at q; exact q)
  clear hc hn
  go_enter Tryz.func20, Tryz.ntmps20
  go_wp2_with fail
  refine (HC.out _).mono ?_
  rintro e w1 ⟨rfl, hb1⟩
  have hb0 : Below w.heap.size w w1 := (boxes2 w _ _).trans (hb1.mono (by simp; omega))
  have hz1 : w.heap.size + 1 < w1.heap.size := by have := hb1.size; simp at this; omega
  have hz0 : w.heap.size < w1.heap.size := by omega
  have hn1 : w1.cell? ⟨w.heap.size, 1, none⟩ = some (.int .i64 1) := cell_old (by simp [go_sem]) hb1
  have hn2 : w1.cell? ⟨w.heap.size, 2, none⟩ = some (.int .i64 z) := cell_old (by simp [go_sem]) hb1
  have hn3 : w1.cell? ⟨w.heap.size, 3, none⟩ = some (.bool nl) := cell_old (by simp [go_sem]) hb1
  have hv0 : w1.cell? ⟨w.heap.size + 1, 0, none⟩ = some (.int .i64 1) := cell_old (by simp [go_sem]) hb1
  have hv1 : w1.cell? ⟨w.heap.size + 1, 1, none⟩ = some (.int .i64 i) := cell_old (by simp [go_sem]) hb1
  have hv2 : w1.cell? ⟨w.heap.size + 1, 2, none⟩ = some (.int .u64 u) := cell_old (by simp [go_sem]) hb1
  have hv3 : w1.cell? ⟨w.heap.size + 1, 3, none⟩ = some (.string s) := cell_old (by simp [go_sem]) hb1
  go_wp2_with fail
  refine (rCheck_any _ _ _ _ _).mono ?_
  rintro e w2 ⟨rfl, hb2⟩
  rw [h]
  have hb02 := hb0.trans (hb2.mono hb0.size)
  have hs2 := hb2.size
  have hn1 : w2.cell? ⟨w.heap.size, 1, none⟩ = some (.int .i64 1) := cell_old hn1 hb2
  have hn2 : w2.cell? ⟨w.heap.size, 2, none⟩ = some (.int .i64 z) := cell_old hn2 hb2
  have hn3 : w2.cell? ⟨w.heap.size, 3, none⟩ = some (.bool nl) := cell_old hn3 hb2
  have hv0 : w2.cell? ⟨w.heap.size + 1, 0, none⟩ = some (.int .i64 1) := cell_old hv0 hb2
  have hv1 : w2.cell? ⟨w.heap.size + 1, 1, none⟩ = some (.int .i64 i) := cell_old hv1 hb2
  have hv2 : w2.cell? ⟨w.heap.size + 1, 2, none⟩ = some (.int .u64 u) := cell_old hv2 hb2
  have hv3 : w2.cell? ⟨w.heap.size + 1, 3, none⟩ = some (.string s) := cell_old hv3 hb2
  have hz2 : w.heap.size + 1 < w2.heap.size := by omega
  clear h hb1 hb2 hb0 hz1 hz0 hs2
  have d1 : decide (i < leastI z) = false := by simpa using h1
  have d2 : decide (mostI z < i) = true := by simpa using h2
  clear h1
  clear h2
  go_wp2_with fail
  have l2 : ∀ p : Later w2, p.W.cell? ⟨w.heap.size, 2, none⟩ = some (.int .i64 z) := later_cell hn2
  have l1 : ∀ p : Later w2, p.W.cell? ⟨w.heap.size + 1, 1, none⟩ = some (.int .i64 i) := later_cell hv1
  refine wp_region_later (by kernel_rfl) (by kernel_rfl) ?_
  repeat (go_big_quiet_step ((go_at_call 44; exact Calls.later (rleast_any _ _ hz))))
  refine wpQuiet_nil ?_
  rintro w3 ⟨⟨W0, hb3⟩, rfl⟩
  go_wp2_with fail
  go_ret
  exact ⟨rfl, hb02.trans (hb3.mono hb02.size)⟩
set_option maxRecDepth 100000 in
set_option maxHeartbeats 2000000 in
theorem rFits2_in (n : ByteArray) (z : Int) (nl : Bool) (i u : Int) (s : ByteArray) (w : World) (hn : n.size ≤ 9223372036854775807) (hc : colOk ⟨n, 2, z, nl⟩ = true) (h : chk 2 i u s = 0) (hz : numSz z = true) (h1 : u ≤ mostU z) :
    Calls Tryz.prog 20 #[.agg #[.string n, .int .i64 2, .int .i64 z, .bool nl], .agg #[.int .i64 2, .int .i64 i, .int .u64 u, .string s]] w fun e w' => e = .returned (.int .i64 (0)) ∧ Below w.heap.size w w' := by
  have HC := Lib.hid (show ∀ W, Calls Tryz.prog 39 #[.agg #[.string n, .int .i64 2, .int .i64 z, .bool nl]] W fun e w' => e = .returned (.bool true) ∧ Below W.heap.size W w' from fun W => by have q := rcolumn_any ⟨n, 2, z, nl⟩ W hn; rw [hc] at q; exact q)
  clear hc hn
  go_enter Tryz.func20, Tryz.ntmps20
  go_wp2_with fail
  refine (HC.out _).mono ?_
  rintro e w1 ⟨rfl, hb1⟩
  have hb0 : Below w.heap.size w w1 := (boxes2 w _ _).trans (hb1.mono (by simp; omega))
  have hz1 : w.heap.size + 1 < w1.heap.size := by have := hb1.size; simp at this; omega
  have hz0 : w.heap.size < w1.heap.size := by omega
  have hn1 : w1.cell? ⟨w.heap.size, 1, none⟩ = some (.int .i64 2) := cell_old (by simp [go_sem]) hb1
  have hn2 : w1.cell? ⟨w.heap.size, 2, none⟩ = some (.int .i64 z) := cell_old (by simp [go_sem]) hb1
  have hn3 : w1.cell? ⟨w.heap.size, 3, none⟩ = some (.bool nl) := cell_old (by simp [go_sem]) hb1
  have hv0 : w1.cell? ⟨w.heap.size + 1, 0, none⟩ = some (.int .i64 2) := cell_old (by simp [go_sem]) hb1
  have hv1 : w1.cell? ⟨w.heap.size + 1, 1, none⟩ = some (.int .i64 i) := cell_old (by simp [go_sem]) hb1
  have hv2 : w1.cell? ⟨w.heap.size + 1, 2, none⟩ = some (.int .u64 u) := cell_old (by simp [go_sem]) hb1
  have hv3 : w1.cell? ⟨w.heap.size + 1, 3, none⟩ = some (.string s) := cell_old (by simp [go_sem]) hb1
  go_wp2_with fail
  refine (rCheck_any _ _ _ _ _).mono ?_
  rintro e w2 ⟨rfl, hb2⟩
  rw [h]
  have hb02 := hb0.trans (hb2.mono hb0.size)
  have hs2 := hb2.size
  have hn1 : w2.cell? ⟨w.heap.size, 1, none⟩ = some (.int .i64 2) := cell_old hn1 hb2
  have hn2 : w2.cell? ⟨w.heap.size, 2, none⟩ = some (.int .i64 z) := cell_old hn2 hb2
  have hn3 : w2.cell? ⟨w.heap.size, 3, none⟩ = some (.bool nl) := cell_old hn3 hb2
  have hv0 : w2.cell? ⟨w.heap.size + 1, 0, none⟩ = some (.int .i64 2) := cell_old hv0 hb2
  have hv1 : w2.cell? ⟨w.heap.size + 1, 1, none⟩ = some (.int .i64 i) := cell_old hv1 hb2
  have hv2 : w2.cell? ⟨w.heap.size + 1, 2, none⟩ = some (.int .u64 u) := cell_old hv2 hb2
  have hv3 : w2.cell? ⟨w.heap.size + 1, 3, none⟩ = some (.string s) := cell_old hv3 hb2
  have hz2 : w.heap.size + 1 < w2.heap.size := by omega
  clear h hb1 hb2 hb0 hz1 hz0 hs2
  have d1 : decide (mostU z < u) = false := by simpa using h1
  clear h1
  go_wp2_with fail
  refine wp_region_later (by kernel_rfl) (by kernel_rfl) ?_
  repeat (go_big_quiet_step (fail))
  refine wpQuiet_nil ?_
  rintro w3 ⟨⟨W0, hb3⟩, rfl⟩
  have g2 : w3.cell? ⟨w.heap.size, 2, none⟩ = some (.int .i64 z) := cell_old hn2 hb3
  have g3 : w3.cell? ⟨w.heap.size + 1, 2, none⟩ = some (.int .u64 u) := cell_old hv2 hb3
  have g4 : w3.cell? ⟨w.heap.size + 1, 3, none⟩ = some (.string s) := cell_old hv3 hb3
  have hz3 : w.heap.size + 1 < w3.heap.size := by have := hb3.size; omega
  go_wp2_with fail
  have l3 : ∀ p : Later w3, p.W.cell? ⟨w.heap.size, 2, none⟩ = some (.int .i64 z) := later_cell g2
  have l4 : ∀ p : Later w3, p.W.cell? ⟨w.heap.size + 1, 2, none⟩ = some (.int .u64 u) := later_cell g3
  refine wp_region_later (by kernel_rfl) (by kernel_rfl) ?_
  repeat (go_big_quiet_step ((go_at_call 45; exact Calls.later (rmost_any _ _ hz))))
  refine wpQuiet_nil ?_
  rintro w4 ⟨⟨W0, hb4⟩, rfl⟩
  have k2 : w4.cell? ⟨w.heap.size, 2, none⟩ = some (.int .i64 z) := cell_old g2 hb4
  have k4 : w4.cell? ⟨w.heap.size + 1, 3, none⟩ = some (.string s) := cell_old g4 hb4
  go_wp2_with fail
  go_ret
  exact ⟨rfl, (hb02.trans (hb3.mono hb02.size)).trans (hb4.mono (hb02.trans (hb3.mono hb02.size)).size)⟩
set_option maxRecDepth 100000 in
set_option maxHeartbeats 2000000 in
theorem rFits2_out (n : ByteArray) (z : Int) (nl : Bool) (i u : Int) (s : ByteArray) (w : World) (hn : n.size ≤ 9223372036854775807) (hc : colOk ⟨n, 2, z, nl⟩ = true) (h : chk 2 i u s = 0) (hz : numSz z = true) (h1 : mostU z < u) :
    Calls Tryz.prog 20 #[.agg #[.string n, .int .i64 2, .int .i64 z, .bool nl], .agg #[.int .i64 2, .int .i64 i, .int .u64 u, .string s]] w fun e w' => e = .returned (.int .i64 (133)) ∧ Below w.heap.size w w' := by
  have HC := Lib.hid (show ∀ W, Calls Tryz.prog 39 #[.agg #[.string n, .int .i64 2, .int .i64 z, .bool nl]] W fun e w' => e = .returned (.bool true) ∧ Below W.heap.size W w' from fun W => by have q := rcolumn_any ⟨n, 2, z, nl⟩ W hn; rw [hc] at q; exact q)
  clear hc hn
  go_enter Tryz.func20, Tryz.ntmps20
  go_wp2_with fail
  refine (HC.out _).mono ?_
  rintro e w1 ⟨rfl, hb1⟩
  have hb0 : Below w.heap.size w w1 := (boxes2 w _ _).trans (hb1.mono (by simp; omega))
  have hz1 : w.heap.size + 1 < w1.heap.size := by have := hb1.size; simp at this; omega
  have hz0 : w.heap.size < w1.heap.size := by omega
  have hn1 : w1.cell? ⟨w.heap.size, 1, none⟩ = some (.int .i64 2) := cell_old (by simp [go_sem]) hb1
  have hn2 : w1.cell? ⟨w.heap.size, 2, none⟩ = some (.int .i64 z) := cell_old (by simp [go_sem]) hb1
  have hn3 : w1.cell? ⟨w.heap.size, 3, none⟩ = some (.bool nl) := cell_old (by simp [go_sem]) hb1
  have hv0 : w1.cell? ⟨w.heap.size + 1, 0, none⟩ = some (.int .i64 2) := cell_old (by simp [go_sem]) hb1
  have hv1 : w1.cell? ⟨w.heap.size + 1, 1, none⟩ = some (.int .i64 i) := cell_old (by simp [go_sem]) hb1
  have hv2 : w1.cell? ⟨w.heap.size + 1, 2, none⟩ = some (.int .u64 u) := cell_old (by simp [go_sem]) hb1
  have hv3 : w1.cell? ⟨w.heap.size + 1, 3, none⟩ = some (.string s) := cell_old (by simp [go_sem]) hb1
  go_wp2_with fail
  refine (rCheck_any _ _ _ _ _).mono ?_
  rintro e w2 ⟨rfl, hb2⟩
  rw [h]
  have hb02 := hb0.trans (hb2.mono hb0.size)
  have hs2 := hb2.size
  have hn1 : w2.cell? ⟨w.heap.size, 1, none⟩ = some (.int .i64 2) := cell_old hn1 hb2
  have hn2 : w2.cell? ⟨w.heap.size, 2, none⟩ = some (.int .i64 z) := cell_old hn2 hb2
  have hn3 : w2.cell? ⟨w.heap.size, 3, none⟩ = some (.bool nl) := cell_old hn3 hb2
  have hv0 : w2.cell? ⟨w.heap.size + 1, 0, none⟩ = some (.int .i64 2) := cell_old hv0 hb2
  have hv1 : w2.cell? ⟨w.heap.size + 1, 1, none⟩ = some (.int .i64 i) := cell_old hv1 hb2
  have hv2 : w2.cell? ⟨w.heap.size + 1, 2, none⟩ = some (.int .u64 u) := cell_old hv2 hb2
  have hv3 : w2.cell? ⟨w.heap.size + 1, 3, none⟩ = some (.string s) := cell_old hv3 hb2
  have hz2 : w.heap.size + 1 < w2.heap.size := by omega
  clear h hb1 hb2 hb0 hz1 hz0 hs2
  have d1 : decide (mostU z < u) = true := by simpa using h1
  clear h1
  go_wp2_with fail
  refine wp_region_later (by kernel_rfl) (by kernel_rfl) ?_
  repeat (go_big_quiet_step (fail))
  refine wpQuiet_nil ?_
  rintro w3 ⟨⟨W0, hb3⟩, rfl⟩
  have g2 : w3.cell? ⟨w.heap.size, 2, none⟩ = some (.int .i64 z) := cell_old hn2 hb3
  have g3 : w3.cell? ⟨w.heap.size + 1, 2, none⟩ = some (.int .u64 u) := cell_old hv2 hb3
  have g4 : w3.cell? ⟨w.heap.size + 1, 3, none⟩ = some (.string s) := cell_old hv3 hb3
  have hz3 : w.heap.size + 1 < w3.heap.size := by have := hb3.size; omega
  go_wp2_with fail
  have l3 : ∀ p : Later w3, p.W.cell? ⟨w.heap.size, 2, none⟩ = some (.int .i64 z) := later_cell g2
  have l4 : ∀ p : Later w3, p.W.cell? ⟨w.heap.size + 1, 2, none⟩ = some (.int .u64 u) := later_cell g3
  refine wp_region_later (by kernel_rfl) (by kernel_rfl) ?_
  repeat (go_big_quiet_step ((go_at_call 45; exact Calls.later (rmost_any _ _ hz))))
  refine wpQuiet_nil ?_
  rintro w4 ⟨⟨W0, hb4⟩, rfl⟩
  go_wp2_with fail
  go_ret
  exact ⟨rfl, (hb02.trans (hb3.mono hb02.size)).trans (hb4.mono (hb02.trans (hb3.mono hb02.size)).size)⟩
set_option maxRecDepth 100000 in
set_option maxHeartbeats 2000000 in
theorem rFits3_in (n : ByteArray) (z : Int) (nl : Bool) (i u : Int) (s : ByteArray) (w : World) (hn : n.size ≤ 9223372036854775807) (hc : colOk ⟨n, 3, z, nl⟩ = true) (h : chk 3 i u s = 0)  :
    Calls Tryz.prog 20 #[.agg #[.string n, .int .i64 3, .int .i64 z, .bool nl], .agg #[.int .i64 3, .int .i64 i, .int .u64 u, .string s]] w fun e w' => e = .returned (.int .i64 (0)) ∧ Below w.heap.size w w' := by
  have HC := Lib.hid (show ∀ W, Calls Tryz.prog 39 #[.agg #[.string n, .int .i64 3, .int .i64 z, .bool nl]] W fun e w' => e = .returned (.bool true) ∧ Below W.heap.size W w' from fun W => by have q := rcolumn_any ⟨n, 3, z, nl⟩ W hn; rw [hc] at q; exact q)
  clear hc hn
  go_enter Tryz.func20, Tryz.ntmps20
  go_wp2_with fail
  refine (HC.out _).mono ?_
  rintro e w1 ⟨rfl, hb1⟩
  have hb0 : Below w.heap.size w w1 := (boxes2 w _ _).trans (hb1.mono (by simp; omega))
  have hz1 : w.heap.size + 1 < w1.heap.size := by have := hb1.size; simp at this; omega
  have hz0 : w.heap.size < w1.heap.size := by omega
  have hn1 : w1.cell? ⟨w.heap.size, 1, none⟩ = some (.int .i64 3) := cell_old (by simp [go_sem]) hb1
  have hn2 : w1.cell? ⟨w.heap.size, 2, none⟩ = some (.int .i64 z) := cell_old (by simp [go_sem]) hb1
  have hn3 : w1.cell? ⟨w.heap.size, 3, none⟩ = some (.bool nl) := cell_old (by simp [go_sem]) hb1
  have hv0 : w1.cell? ⟨w.heap.size + 1, 0, none⟩ = some (.int .i64 3) := cell_old (by simp [go_sem]) hb1
  have hv1 : w1.cell? ⟨w.heap.size + 1, 1, none⟩ = some (.int .i64 i) := cell_old (by simp [go_sem]) hb1
  have hv2 : w1.cell? ⟨w.heap.size + 1, 2, none⟩ = some (.int .u64 u) := cell_old (by simp [go_sem]) hb1
  have hv3 : w1.cell? ⟨w.heap.size + 1, 3, none⟩ = some (.string s) := cell_old (by simp [go_sem]) hb1
  go_wp2_with fail
  refine (rCheck_any _ _ _ _ _).mono ?_
  rintro e w2 ⟨rfl, hb2⟩
  rw [h]
  have hb02 := hb0.trans (hb2.mono hb0.size)
  have hs2 := hb2.size
  have hn1 : w2.cell? ⟨w.heap.size, 1, none⟩ = some (.int .i64 3) := cell_old hn1 hb2
  have hn2 : w2.cell? ⟨w.heap.size, 2, none⟩ = some (.int .i64 z) := cell_old hn2 hb2
  have hn3 : w2.cell? ⟨w.heap.size, 3, none⟩ = some (.bool nl) := cell_old hn3 hb2
  have hv0 : w2.cell? ⟨w.heap.size + 1, 0, none⟩ = some (.int .i64 3) := cell_old hv0 hb2
  have hv1 : w2.cell? ⟨w.heap.size + 1, 1, none⟩ = some (.int .i64 i) := cell_old hv1 hb2
  have hv2 : w2.cell? ⟨w.heap.size + 1, 2, none⟩ = some (.int .u64 u) := cell_old hv2 hb2
  have hv3 : w2.cell? ⟨w.heap.size + 1, 3, none⟩ = some (.string s) := cell_old hv3 hb2
  have hz2 : w.heap.size + 1 < w2.heap.size := by omega
  clear h hb1 hb2 hb0 hz1 hz0 hs2
  go_wp2_with fail
  refine wp_region_later (by kernel_rfl) (by kernel_rfl) ?_
  repeat (go_big_quiet_step (fail))
  refine wpQuiet_nil ?_
  rintro w3 ⟨⟨W0, hb3⟩, rfl⟩
  have g2 : w3.cell? ⟨w.heap.size, 2, none⟩ = some (.int .i64 z) := cell_old hn2 hb3
  have g3 : w3.cell? ⟨w.heap.size + 1, 2, none⟩ = some (.int .u64 u) := cell_old hv2 hb3
  have g4 : w3.cell? ⟨w.heap.size + 1, 3, none⟩ = some (.string s) := cell_old hv3 hb3
  have hz3 : w.heap.size + 1 < w3.heap.size := by have := hb3.size; omega
  go_wp2_with fail
  refine wp_region_later (by kernel_rfl) (by kernel_rfl) ?_
  repeat (go_big_quiet_step (fail))
  refine wpQuiet_nil ?_
  rintro w4 ⟨⟨W0, hb4⟩, rfl⟩
  have k2 : w4.cell? ⟨w.heap.size, 2, none⟩ = some (.int .i64 z) := cell_old g2 hb4
  have k4 : w4.cell? ⟨w.heap.size + 1, 3, none⟩ = some (.string s) := cell_old g4 hb4
  go_wp2_with fail
  go_ret
  exact ⟨rfl, (hb02.trans (hb3.mono hb02.size)).trans (hb4.mono (hb02.trans (hb3.mono hb02.size)).size)⟩
set_option maxRecDepth 100000 in
set_option maxHeartbeats 2000000 in
theorem rFits4_in (n : ByteArray) (z : Int) (nl : Bool) (i u : Int) (s : ByteArray) (w : World) (hn : n.size ≤ 9223372036854775807) (hc : colOk ⟨n, 4, z, nl⟩ = true) (h : chk 4 i u s = 0) (h1 : (s.size : Int) ≤ z) :
    Calls Tryz.prog 20 #[.agg #[.string n, .int .i64 4, .int .i64 z, .bool nl], .agg #[.int .i64 4, .int .i64 i, .int .u64 u, .string s]] w fun e w' => e = .returned (.int .i64 (0)) ∧ Below w.heap.size w w' := by
  have HC := Lib.hid (show ∀ W, Calls Tryz.prog 39 #[.agg #[.string n, .int .i64 4, .int .i64 z, .bool nl]] W fun e w' => e = .returned (.bool true) ∧ Below W.heap.size W w' from fun W => by have q := rcolumn_any ⟨n, 4, z, nl⟩ W hn; rw [hc] at q; exact q)
  clear hc hn
  go_enter Tryz.func20, Tryz.ntmps20
  go_wp2_with fail
  refine (HC.out _).mono ?_
  rintro e w1 ⟨rfl, hb1⟩
  have hb0 : Below w.heap.size w w1 := (boxes2 w _ _).trans (hb1.mono (by simp; omega))
  have hz1 : w.heap.size + 1 < w1.heap.size := by have := hb1.size; simp at this; omega
  have hz0 : w.heap.size < w1.heap.size := by omega
  have hn1 : w1.cell? ⟨w.heap.size, 1, none⟩ = some (.int .i64 4) := cell_old (by simp [go_sem]) hb1
  have hn2 : w1.cell? ⟨w.heap.size, 2, none⟩ = some (.int .i64 z) := cell_old (by simp [go_sem]) hb1
  have hn3 : w1.cell? ⟨w.heap.size, 3, none⟩ = some (.bool nl) := cell_old (by simp [go_sem]) hb1
  have hv0 : w1.cell? ⟨w.heap.size + 1, 0, none⟩ = some (.int .i64 4) := cell_old (by simp [go_sem]) hb1
  have hv1 : w1.cell? ⟨w.heap.size + 1, 1, none⟩ = some (.int .i64 i) := cell_old (by simp [go_sem]) hb1
  have hv2 : w1.cell? ⟨w.heap.size + 1, 2, none⟩ = some (.int .u64 u) := cell_old (by simp [go_sem]) hb1
  have hv3 : w1.cell? ⟨w.heap.size + 1, 3, none⟩ = some (.string s) := cell_old (by simp [go_sem]) hb1
  go_wp2_with fail
  refine (rCheck_any _ _ _ _ _).mono ?_
  rintro e w2 ⟨rfl, hb2⟩
  rw [h]
  have hb02 := hb0.trans (hb2.mono hb0.size)
  have hs2 := hb2.size
  have hn1 : w2.cell? ⟨w.heap.size, 1, none⟩ = some (.int .i64 4) := cell_old hn1 hb2
  have hn2 : w2.cell? ⟨w.heap.size, 2, none⟩ = some (.int .i64 z) := cell_old hn2 hb2
  have hn3 : w2.cell? ⟨w.heap.size, 3, none⟩ = some (.bool nl) := cell_old hn3 hb2
  have hv0 : w2.cell? ⟨w.heap.size + 1, 0, none⟩ = some (.int .i64 4) := cell_old hv0 hb2
  have hv1 : w2.cell? ⟨w.heap.size + 1, 1, none⟩ = some (.int .i64 i) := cell_old hv1 hb2
  have hv2 : w2.cell? ⟨w.heap.size + 1, 2, none⟩ = some (.int .u64 u) := cell_old hv2 hb2
  have hv3 : w2.cell? ⟨w.heap.size + 1, 3, none⟩ = some (.string s) := cell_old hv3 hb2
  have hz2 : w.heap.size + 1 < w2.heap.size := by omega
  clear h hb1 hb2 hb0 hz1 hz0 hs2
  go_wp2_with fail
  refine wp_region_later (by kernel_rfl) (by kernel_rfl) ?_
  repeat (go_big_quiet_step (fail))
  refine wpQuiet_nil ?_
  rintro w3 ⟨⟨W0, hb3⟩, rfl⟩
  have g2 : w3.cell? ⟨w.heap.size, 2, none⟩ = some (.int .i64 z) := cell_old hn2 hb3
  have g3 : w3.cell? ⟨w.heap.size + 1, 2, none⟩ = some (.int .u64 u) := cell_old hv2 hb3
  have g4 : w3.cell? ⟨w.heap.size + 1, 3, none⟩ = some (.string s) := cell_old hv3 hb3
  have hz3 : w.heap.size + 1 < w3.heap.size := by have := hb3.size; omega
  go_wp2_with fail
  refine wp_region_later (by kernel_rfl) (by kernel_rfl) ?_
  repeat (go_big_quiet_step (fail))
  refine wpQuiet_nil ?_
  rintro w4 ⟨⟨W0, hb4⟩, rfl⟩
  have k2 : w4.cell? ⟨w.heap.size, 2, none⟩ = some (.int .i64 z) := cell_old g2 hb4
  have k4 : w4.cell? ⟨w.heap.size + 1, 3, none⟩ = some (.string s) := cell_old g4 hb4
  go_wp2_with fail
  go_ret
  exact ⟨rfl, (hb02.trans (hb3.mono hb02.size)).trans (hb4.mono (hb02.trans (hb3.mono hb02.size)).size)⟩
set_option maxRecDepth 100000 in
set_option maxHeartbeats 2000000 in
theorem rFits4_out (n : ByteArray) (z : Int) (nl : Bool) (i u : Int) (s : ByteArray) (w : World) (hn : n.size ≤ 9223372036854775807) (hc : colOk ⟨n, 4, z, nl⟩ = true) (h : chk 4 i u s = 0) (h1 : z < (s.size : Int)) :
    Calls Tryz.prog 20 #[.agg #[.string n, .int .i64 4, .int .i64 z, .bool nl], .agg #[.int .i64 4, .int .i64 i, .int .u64 u, .string s]] w fun e w' => e = .returned (.int .i64 (133)) ∧ Below w.heap.size w w' := by
  have HC := Lib.hid (show ∀ W, Calls Tryz.prog 39 #[.agg #[.string n, .int .i64 4, .int .i64 z, .bool nl]] W fun e w' => e = .returned (.bool true) ∧ Below W.heap.size W w' from fun W => by have q := rcolumn_any ⟨n, 4, z, nl⟩ W hn; rw [hc] at q; exact q)
  clear hc hn
  go_enter Tryz.func20, Tryz.ntmps20
  go_wp2_with fail
  refine (HC.out _).mono ?_
  rintro e w1 ⟨rfl, hb1⟩
  have hb0 : Below w.heap.size w w1 := (boxes2 w _ _).trans (hb1.mono (by simp; omega))
  have hz1 : w.heap.size + 1 < w1.heap.size := by have := hb1.size; simp at this; omega
  have hz0 : w.heap.size < w1.heap.size := by omega
  have hn1 : w1.cell? ⟨w.heap.size, 1, none⟩ = some (.int .i64 4) := cell_old (by simp [go_sem]) hb1
  have hn2 : w1.cell? ⟨w.heap.size, 2, none⟩ = some (.int .i64 z) := cell_old (by simp [go_sem]) hb1
  have hn3 : w1.cell? ⟨w.heap.size, 3, none⟩ = some (.bool nl) := cell_old (by simp [go_sem]) hb1
  have hv0 : w1.cell? ⟨w.heap.size + 1, 0, none⟩ = some (.int .i64 4) := cell_old (by simp [go_sem]) hb1
  have hv1 : w1.cell? ⟨w.heap.size + 1, 1, none⟩ = some (.int .i64 i) := cell_old (by simp [go_sem]) hb1
  have hv2 : w1.cell? ⟨w.heap.size + 1, 2, none⟩ = some (.int .u64 u) := cell_old (by simp [go_sem]) hb1
  have hv3 : w1.cell? ⟨w.heap.size + 1, 3, none⟩ = some (.string s) := cell_old (by simp [go_sem]) hb1
  go_wp2_with fail
  refine (rCheck_any _ _ _ _ _).mono ?_
  rintro e w2 ⟨rfl, hb2⟩
  rw [h]
  have hb02 := hb0.trans (hb2.mono hb0.size)
  have hs2 := hb2.size
  have hn1 : w2.cell? ⟨w.heap.size, 1, none⟩ = some (.int .i64 4) := cell_old hn1 hb2
  have hn2 : w2.cell? ⟨w.heap.size, 2, none⟩ = some (.int .i64 z) := cell_old hn2 hb2
  have hn3 : w2.cell? ⟨w.heap.size, 3, none⟩ = some (.bool nl) := cell_old hn3 hb2
  have hv0 : w2.cell? ⟨w.heap.size + 1, 0, none⟩ = some (.int .i64 4) := cell_old hv0 hb2
  have hv1 : w2.cell? ⟨w.heap.size + 1, 1, none⟩ = some (.int .i64 i) := cell_old hv1 hb2
  have hv2 : w2.cell? ⟨w.heap.size + 1, 2, none⟩ = some (.int .u64 u) := cell_old hv2 hb2
  have hv3 : w2.cell? ⟨w.heap.size + 1, 3, none⟩ = some (.string s) := cell_old hv3 hb2
  have hz2 : w.heap.size + 1 < w2.heap.size := by omega
  clear h hb1 hb2 hb0 hz1 hz0 hs2
  go_wp2_with fail
  refine wp_region_later (by kernel_rfl) (by kernel_rfl) ?_
  repeat (go_big_quiet_step (fail))
  refine wpQuiet_nil ?_
  rintro w3 ⟨⟨W0, hb3⟩, rfl⟩
  have g2 : w3.cell? ⟨w.heap.size, 2, none⟩ = some (.int .i64 z) := cell_old hn2 hb3
  have g3 : w3.cell? ⟨w.heap.size + 1, 2, none⟩ = some (.int .u64 u) := cell_old hv2 hb3
  have g4 : w3.cell? ⟨w.heap.size + 1, 3, none⟩ = some (.string s) := cell_old hv3 hb3
  have hz3 : w.heap.size + 1 < w3.heap.size := by have := hb3.size; omega
  go_wp2_with fail
  refine wp_region_later (by kernel_rfl) (by kernel_rfl) ?_
  repeat (go_big_quiet_step (fail))
  refine wpQuiet_nil ?_
  rintro w4 ⟨⟨W0, hb4⟩, rfl⟩
  have k2 : w4.cell? ⟨w.heap.size, 2, none⟩ = some (.int .i64 z) := cell_old g2 hb4
  have k4 : w4.cell? ⟨w.heap.size + 1, 3, none⟩ = some (.string s) := cell_old g4 hb4
  go_wp2_with fail
  go_ret
  exact ⟨rfl, (hb02.trans (hb3.mono hb02.size)).trans (hb4.mono (hb02.trans (hb3.mono hb02.size)).size)⟩
theorem rFits_any (c : Col) (v : Vl) (w : World) (hn : c.n.size ≤ 9223372036854775807) :
    Calls Tryz.prog 20 #[.agg #[.string c.n, .int .i64 c.t, .int .i64 c.z, .bool c.u], .agg #[.int .i64 v.k, .int .i64 v.i, .int .u64 v.u, .string v.s]] w fun e w' => e = .returned (.int .i64 (fitsN c v)) ∧ Below w.heap.size w w' := by
  obtain ⟨n, t, z, nl⟩ := c
  obtain ⟨k, i, u, s⟩ := v
  unfold fitsN
  simp only at hn ⊢
  cases hc : colOk ⟨n, t, z, nl⟩
  · exact rFits_col n t z nl k i u s w hn hc
  rw [if_pos rfl]
  have hsz : szOk t z = true := by unfold colOk at hc; rw [Bool.and_eq_true] at hc; exact hc.1
  unfold fitN Vl.chk
  simp only
  by_cases h0 : chk k i u s = 0
  · rw [if_neg (by simpa using h0)]
    by_cases hk : k = 0
    · subst hk
      rw [if_pos rfl]
      cases nl
      · exact rFits_nonull n t z i u s w hn hc h0
      · exact rFits_null n t z i u s w hn hc h0
    · rw [if_neg hk]
      by_cases ht : k = t
      · subst ht
        rw [if_neg (by simp)]
        rcases type_cases k with ht | rfl | rfl | rfl | rfl
        · rw [szOk_none ht] at hsz
          cases hsz
        · rw [show bnd 1 z ⟨1, i, u, s⟩ = (decide (leastI z ≤ i) && decide (i ≤ mostI z)) from rfl]
          by_cases h1 : leastI z ≤ i
          · by_cases h2 : i ≤ mostI z
            · rw [if_pos (by simp [h1, h2])]
              exact rFits1_in n z nl i u s w hn hc h0 hsz h1 h2
            · rw [if_neg (by simp [h2])]
              exact rFits1_high n z nl i u s w hn hc h0 hsz h1 (by omega)
          · rw [if_neg (by simp [h1])]
            exact rFits1_low n z nl i u s w hn hc h0 hsz (by omega)
        · rw [show bnd 2 z ⟨2, i, u, s⟩ = decide (u ≤ mostU z) from rfl]
          by_cases h1 : u ≤ mostU z
          · rw [if_pos (by simp [h1])]
            exact rFits2_in n z nl i u s w hn hc h0 hsz h1
          · rw [if_neg (by simp [h1])]
            exact rFits2_out n z nl i u s w hn hc h0 hsz (by omega)
        · exact rFits3_in n z nl i u s w hn hc h0
        · rw [show bnd 4 z ⟨4, i, u, s⟩ = decide ((s.size : Int) ≤ z) from rfl]
          by_cases h1 : (s.size : Int) ≤ z
          · rw [if_pos (by simp [h1])]
            exact rFits4_in n z nl i u s w hn hc h0 h1
          · rw [if_neg (by simp [h1])]
            exact rFits4_out n z nl i u s w hn hc h0 (by omega)
      · rw [if_pos ht]
        exact rFits_type n t z nl k i u s w hn hc h0 (by simpa using hk) (by simpa using ht)
  · rw [if_pos h0]
    exact rFits_chk n t z nl k i u s w hn hc _ rfl h0
end Go.Proofs.YtjlhbpacecbfmaaGreatDoor

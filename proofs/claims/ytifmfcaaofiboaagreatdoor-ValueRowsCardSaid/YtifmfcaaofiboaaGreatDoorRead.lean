/-
  Values read from texts, kind by kind (but for bytes).
-/
import Derived.Test.YtifmfcaaofiboaaGreatDoorNumber
import Derived.Test.YtifmfcaaofiboaaGreatDoorTell
namespace Go.Proofs.YtifmfcaaofiboaaGreatDoor
open Go.RowKit

theorem box_after {w w' : World} {c : Array Value} {t : TypeId} (hb : Below (w.alloc (.cells c t)).heap.size (w.alloc (.cells c t)) w') :
    (∀ j, w'.cell? ⟨w.heap.size, j, none⟩ = c[j]?) ∧ (∀ j, w'.frozen? ⟨w.heap.size, j, none⟩ = false) ∧ w.heap.size < w'.heap.size := by
  refine ⟨fun j => ?_, fun j => ?_, ?_⟩
  · rw [hb.cell (p := ⟨w.heap.size, j, none⟩) (by simp)]; exact World.cell?_alloc_new w c t j
  · rw [hb.frozen (p := ⟨w.heap.size, j, none⟩) (by simp)]; simp
  · have := hb.size; simp at this; omega
theorem below_box {w w' : World} {c : Array Value} {t : TypeId} (hb : Below (w.alloc (.cells c t)).heap.size (w.alloc (.cells c t)) w') : Below w.heap.size w w' := below_alloc1 w _ hb

theorem numGo_bd {m : Int} : ∀ (l : List UInt8) (v n : Int), 0 ≤ v → v ≤ m → numGo m l v = some n → 0 ≤ n ∧ n ≤ m
  | [], v, n, h0, h1, h => by simp [numGo] at h; omega
  | c :: l, v, n, h0, h1, h => by
    simp only [numGo] at h
    split at h
    · rename_i hc
      have := dig10_bd c
      exact numGo_bd l _ n (by omega) (by omega) h
    · cases h
theorem numOf_bd {m : Int} {l : List UInt8} {n : Int} (hm : 0 ≤ m) (h : numOf m l = some n) : 0 ≤ n ∧ n ≤ m := by
  unfold numOf at h
  split at h
  · cases h
  · exact numGo_bd l 0 n (by omega) hm h

theorem readNull_any (s : ByteArray) (w : World) :
    Calls Tryz.prog 69 #[.string s] w fun e w' => e = .returned (.tuple #[.agg #[.int .i64 0, .int .i64 0, .int .u64 0, .string ⟨#[]⟩], .bool (s.toList == [110, 117, 108, 108])]) ∧ Below w.heap.size w w' := by
  go_enter Tryz.func69, Tryz.ntmps69
  go_wp2
  go_returns
  exact ⟨rfl, by go_grown⟩

theorem trim_size (s : ByteArray) (p : List UInt8) : (⟨(Lib.trimPrefix s.data.toList p).toArray⟩ : ByteArray).size ≤ s.size := by
  show (Lib.trimPrefix s.data.toList p).toArray.size ≤ s.data.size
  unfold Lib.trimPrefix
  split <;> simp
theorem wrap_minus (n : Int) (h0 : 0 ≤ n) (h1 : n ≤ 9223372036854775808) : wrap64 (IntKind.u64.wrap (n * 18446744073709551615)) = -n := by
  rw [IntKind.wrap_u64]; unfold wrap64; omega
theorem wrap_plus (n : Int) (h0 : 0 ≤ n) (h1 : n ≤ 9223372036854775807) : wrap64 n = n := by
  unfold wrap64; omega

set_option maxHeartbeats 1000000 in
theorem readInt_minus (s : ByteArray) (n : Int) (w : World) (hp : Lib.hasPrefix s.data.toList [45] = true) (hz : s.size ≤ 9223372036854775806) (hn : numOf 9223372036854775808 (Lib.trimPrefix s.data.toList [45]) = some n) :
    Calls Tryz.prog 72 #[.string s] w fun e w' => e = .returned (.tuple #[.agg #[.int .i64 1, .int .i64 (-n), .int .u64 0, .string ⟨#[]⟩], .bool (decide (1 ≤ n))]) ∧ Below w.heap.size w w' := by
  have hl := trim_size s [45]
  have hb := numOf_bd (by omega) hn
  have C : ∀ W, Calls Tryz.prog 97 #[.string ⟨(Lib.trimPrefix s.data.toList [45]).toArray⟩, .int .u64 9223372036854775808] W fun e w' => e = .returned (.tuple #[.int .u64 n, .bool true]) ∧ Below W.heap.size W w' := fun W => by
    have h := number_any ⟨(Lib.trimPrefix s.data.toList [45]).toArray⟩ 9223372036854775808 W (by omega) (by omega) (by omega)
    rw [show ((⟨(Lib.trimPrefix s.data.toList [45]).toArray⟩ : ByteArray).data.toList) = Lib.trimPrefix s.data.toList [45] from by simp, hn] at h
    exact h
  have HC := Lib.hid C
  clear hn hl C
  go_enter Tryz.func72, Tryz.ntmps72
  go_wp2_with (first | (go_at_call 96; refine (Tryz.strings_CutPrefix _ _ _).mono ?_; rintro e w' ⟨rfl, rfl⟩))
  refine (HC.out _).mono ?_
  rintro e w1 ⟨rfl, hbw⟩
  obtain ⟨hc, hf, hsz⟩ := box_after hbw
  have c0 : w1.cell? ⟨w.heap.size, 0, none⟩ = some (.int .i64 0) := hc 0
  have c1 : w1.cell? ⟨w.heap.size, 1, none⟩ = some (.int .i64 0) := hc 1
  have c2 : w1.cell? ⟨w.heap.size, 2, none⟩ = some (.int .u64 0) := hc 2
  have c3 : w1.cell? ⟨w.heap.size, 3, none⟩ = some (.string ⟨#[]⟩) := hc 3
  have f0 := hf 0
  have f1 := hf 1
  have f2 := hf 2
  have f3 := hf 3
  clear hc hf
  go_wp2
  refine bodyPost_ret (v := .tuple #[.agg #[.int .i64 1, .int .i64 (wrap64 (IntKind.u64.wrap (n * 18446744073709551615))), .int .u64 0, .string ⟨#[]⟩], .bool (decide (1 ≤ n))]) (by simp [results, Tryz.results72, go_sem, c0, c1, c2, c3]) rfl ⟨?_, ?_⟩
  · rw [wrap_minus n hb.1 hb.2]
  · exact ((((below_box hbw).setCell (by simp) _).setCell (by simp) _).setCell (by simp) _).setCell (by simp) _

set_option maxHeartbeats 1000000 in
theorem readInt_minus_no (s : ByteArray) (w : World) (hp : Lib.hasPrefix s.data.toList [45] = true) (hz : s.size ≤ 9223372036854775806) (hn : numOf 9223372036854775808 (Lib.trimPrefix s.data.toList [45]) = none) :
    Calls Tryz.prog 72 #[.string s] w fun e w' => e = .returned (.tuple #[.agg #[.int .i64 1, .int .i64 0, .int .u64 0, .string ⟨#[]⟩], .bool false]) ∧ Below w.heap.size w w' := by
  have hl := trim_size s [45]
  have C : ∀ W, Calls Tryz.prog 97 #[.string ⟨(Lib.trimPrefix s.data.toList [45]).toArray⟩, .int .u64 9223372036854775808] W fun e w' => e = .returned (.tuple #[.int .u64 0, .bool false]) ∧ Below W.heap.size W w' := fun W => by
    have h := number_any ⟨(Lib.trimPrefix s.data.toList [45]).toArray⟩ 9223372036854775808 W (by omega) (by omega) (by omega)
    rw [show ((⟨(Lib.trimPrefix s.data.toList [45]).toArray⟩ : ByteArray).data.toList) = Lib.trimPrefix s.data.toList [45] from by simp, hn] at h
    exact h
  have HC := Lib.hid C
  clear hn hl C
  go_enter Tryz.func72, Tryz.ntmps72
  go_wp2_with (first | (go_at_call 96; refine (Tryz.strings_CutPrefix _ _ _).mono ?_; rintro e w' ⟨rfl, rfl⟩))
  refine (HC.out _).mono ?_
  rintro e w1 ⟨rfl, hbw⟩
  obtain ⟨hc, hf, hsz⟩ := box_after hbw
  have c0 : w1.cell? ⟨w.heap.size, 0, none⟩ = some (.int .i64 0) := hc 0
  have c1 : w1.cell? ⟨w.heap.size, 1, none⟩ = some (.int .i64 0) := hc 1
  have c2 : w1.cell? ⟨w.heap.size, 2, none⟩ = some (.int .u64 0) := hc 2
  have c3 : w1.cell? ⟨w.heap.size, 3, none⟩ = some (.string ⟨#[]⟩) := hc 3
  have f0 := hf 0
  have f1 := hf 1
  have f2 := hf 2
  have f3 := hf 3
  clear hc hf
  go_wp2
  refine bodyPost_ret (v := .tuple #[.agg #[.int .i64 1, .int .i64 0, .int .u64 0, .string ⟨#[]⟩], .bool false]) (by simp [results, Tryz.results72, go_sem, c0, c1, c2, c3]) rfl ⟨?_, ?_⟩
  · rfl
  · exact ((((below_box hbw).setCell (by simp) _).setCell (by simp) _).setCell (by simp) _).setCell (by simp) _

set_option maxHeartbeats 1000000 in
theorem readInt_plus (s : ByteArray) (n : Int) (w : World) (hp : Lib.hasPrefix s.data.toList [45] = false) (hz : s.size ≤ 9223372036854775806) (hn : numOf 9223372036854775807 s.data.toList = some n) :
    Calls Tryz.prog 72 #[.string s] w fun e w' => e = .returned (.tuple #[.agg #[.int .i64 1, .int .i64 n, .int .u64 0, .string ⟨#[]⟩], .bool true]) ∧ Below w.heap.size w w' := by
  have hl := trim_size s [45]
  have hb := numOf_bd (by omega) hn
  have C : ∀ W, Calls Tryz.prog 97 #[.string s, .int .u64 9223372036854775807] W fun e w' => e = .returned (.tuple #[.int .u64 n, .bool true]) ∧ Below W.heap.size W w' := fun W => by
    have h := number_any s 9223372036854775807 W (by omega) (by omega) (by omega)
    rw [hn] at h
    exact h
  have HC := Lib.hid C
  clear hn hl C
  go_enter Tryz.func72, Tryz.ntmps72
  go_wp2_with (first | (go_at_call 96; refine (Tryz.strings_CutPrefix _ _ _).mono ?_; rintro e w' ⟨rfl, rfl⟩))
  refine (HC.out _).mono ?_
  rintro e w1 ⟨rfl, hbw⟩
  obtain ⟨hc, hf, hsz⟩ := box_after hbw
  have c0 : w1.cell? ⟨w.heap.size, 0, none⟩ = some (.int .i64 0) := hc 0
  have c1 : w1.cell? ⟨w.heap.size, 1, none⟩ = some (.int .i64 0) := hc 1
  have c2 : w1.cell? ⟨w.heap.size, 2, none⟩ = some (.int .u64 0) := hc 2
  have c3 : w1.cell? ⟨w.heap.size, 3, none⟩ = some (.string ⟨#[]⟩) := hc 3
  have f0 := hf 0
  have f1 := hf 1
  have f2 := hf 2
  have f3 := hf 3
  clear hc hf
  go_wp2
  refine bodyPost_ret (v := .tuple #[.agg #[.int .i64 1, .int .i64 n, .int .u64 0, .string ⟨#[]⟩], .bool true]) (by simp [results, Tryz.results72, go_sem, c0, c1, c2, c3]) rfl ⟨?_, ?_⟩
  · rfl
  · exact ((((below_box hbw).setCell (by simp) _).setCell (by simp) _).setCell (by simp) _).setCell (by simp) _

set_option maxHeartbeats 1000000 in
theorem readInt_plus_no (s : ByteArray) (w : World) (hp : Lib.hasPrefix s.data.toList [45] = false) (hz : s.size ≤ 9223372036854775806) (hn : numOf 9223372036854775807 s.data.toList = none) :
    Calls Tryz.prog 72 #[.string s] w fun e w' => e = .returned (.tuple #[.agg #[.int .i64 1, .int .i64 0, .int .u64 0, .string ⟨#[]⟩], .bool false]) ∧ Below w.heap.size w w' := by
  have hl := trim_size s [45]
  have C : ∀ W, Calls Tryz.prog 97 #[.string s, .int .u64 9223372036854775807] W fun e w' => e = .returned (.tuple #[.int .u64 0, .bool false]) ∧ Below W.heap.size W w' := fun W => by
    have h := number_any s 9223372036854775807 W (by omega) (by omega) (by omega)
    rw [hn] at h
    exact h
  have HC := Lib.hid C
  clear hn hl C
  go_enter Tryz.func72, Tryz.ntmps72
  go_wp2_with (first | (go_at_call 96; refine (Tryz.strings_CutPrefix _ _ _).mono ?_; rintro e w' ⟨rfl, rfl⟩))
  refine (HC.out _).mono ?_
  rintro e w1 ⟨rfl, hbw⟩
  obtain ⟨hc, hf, hsz⟩ := box_after hbw
  have c0 : w1.cell? ⟨w.heap.size, 0, none⟩ = some (.int .i64 0) := hc 0
  have c1 : w1.cell? ⟨w.heap.size, 1, none⟩ = some (.int .i64 0) := hc 1
  have c2 : w1.cell? ⟨w.heap.size, 2, none⟩ = some (.int .u64 0) := hc 2
  have c3 : w1.cell? ⟨w.heap.size, 3, none⟩ = some (.string ⟨#[]⟩) := hc 3
  have f0 := hf 0
  have f1 := hf 1
  have f2 := hf 2
  have f3 := hf 3
  clear hc hf
  go_wp2
  refine bodyPost_ret (v := .tuple #[.agg #[.int .i64 1, .int .i64 0, .int .u64 0, .string ⟨#[]⟩], .bool false]) (by simp [results, Tryz.results72, go_sem, c0, c1, c2, c3]) rfl ⟨?_, ?_⟩
  · rfl
  · exact ((((below_box hbw).setCell (by simp) _).setCell (by simp) _).setCell (by simp) _).setCell (by simp) _
end Go.Proofs.YtifmfcaaofiboaaGreatDoor

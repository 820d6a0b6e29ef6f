/-
  Values read from texts: numbers from 0 on, and truths.
-/
import Derived.Test.YtifmfcaaofiboaaGreatDoorRead
namespace Go.Proofs.YtifmfcaaofiboaaGreatDoor
open Go.RowKit

theorem trimS_size (s : ByteArray) (p : List UInt8) : (⟨(Lib.trimSuffix s.data.toList p).toArray⟩ : ByteArray).size ≤ s.size := by
  show (Lib.trimSuffix s.data.toList p).toArray.size ≤ s.data.size
  unfold Lib.trimSuffix
  split <;> simp

set_option maxHeartbeats 1000000 in
theorem readUint_yes (s : ByteArray) (n : Int) (w : World) (hp : Lib.hasSuffix s.data.toList [117] = true) (hz : s.size ≤ 9223372036854775806) (hn : numOf 18446744073709551615 (Lib.trimSuffix s.data.toList [117]) = some n) :
    Calls Tryz.prog 75 #[.string s] w fun e w' => e = .returned (.tuple #[.agg #[.int .i64 2, .int .i64 0, .int .u64 n, .string ⟨#[]⟩], .bool true]) ∧ Below w.heap.size w w' := by
  have hl := trimS_size s [117]
  have C : ∀ W, Calls Tryz.prog 97 #[.string ⟨(Lib.trimSuffix s.data.toList [117]).toArray⟩, .int .u64 18446744073709551615] W fun e w' => e = .returned (.tuple #[.int .u64 n, .bool true]) ∧ Below W.heap.size W w' := fun W => by
    have h := number_any ⟨(Lib.trimSuffix s.data.toList [117]).toArray⟩ 18446744073709551615 W (by omega) (by omega) (by omega)
    rw [show ((⟨(Lib.trimSuffix s.data.toList [117]).toArray⟩ : ByteArray).data.toList) = Lib.trimSuffix s.data.toList [117] from by simp, hn] at h
    exact h
  have HC := Lib.hid C
  clear hn hl C
  go_enter Tryz.func75, Tryz.ntmps75
  go_wp2_with (first | (go_at_call 98; refine (Tryz.strings_CutSuffix _ _ _ ?_).mono ?_; omega; rintro e w' ⟨rfl, rfl⟩))
  refine (HC.out _).mono ?_
  rintro e w1 ⟨rfl, hbw⟩
  obtain ⟨hc, hf, hsz⟩ := box_after hbw
  have c0 : w1.cell? ⟨w.heap.size, 0, none⟩ = some (.int .i64 0) := hc 0
  have c1 : w1.cell? ⟨w.heap.size, 1, none⟩ = some (.int .i64 0) := hc 1
  have c2 : w1.cell? ⟨w.heap.size, 2, none⟩ = some (.int .u64 0) := hc 2
  have c3 : w1.cell? ⟨w.heap.size, 3, none⟩ = some (.string ⟨#[]⟩) := hc 3
  have f0 := hf 0
  have f1 := hf 1
  have f2 := hf 2
  have f3 := hf 3
  clear hc hf
  go_wp2
  refine bodyPost_ret (v := .tuple #[.agg #[.int .i64 2, .int .i64 0, .int .u64 n, .string ⟨#[]⟩], .bool true]) (by simp [results, Tryz.results75, go_sem, c0, c1, c2, c3]) rfl ⟨?_, ?_⟩
  · rfl
  · exact ((((below_box hbw).setCell (by simp) _).setCell (by simp) _).setCell (by simp) _).setCell (by simp) _

set_option maxHeartbeats 1000000 in
theorem readUint_no (s : ByteArray) (w : World) (hp : Lib.hasSuffix s.data.toList [117] = true) (hz : s.size ≤ 9223372036854775806) (hn : numOf 18446744073709551615 (Lib.trimSuffix s.data.toList [117]) = none) :
    Calls Tryz.prog 75 #[.string s] w fun e w' => e = .returned (.tuple #[.agg #[.int .i64 2, .int .i64 0, .int .u64 0, .string ⟨#[]⟩], .bool false]) ∧ Below w.heap.size w w' := by
  have hl := trimS_size s [117]
  have C : ∀ W, Calls Tryz.prog 97 #[.string ⟨(Lib.trimSuffix s.data.toList [117]).toArray⟩, .int .u64 18446744073709551615] W fun e w' => e = .returned (.tuple #[.int .u64 0, .bool false]) ∧ Below W.heap.size W w' := fun W => by
    have h := number_any ⟨(Lib.trimSuffix s.data.toList [117]).toArray⟩ 18446744073709551615 W (by omega) (by omega) (by omega)
    rw [show ((⟨(Lib.trimSuffix s.data.toList [117]).toArray⟩ : ByteArray).data.toList) = Lib.trimSuffix s.data.toList [117] from by simp, hn] at h
    exact h
  have HC := Lib.hid C
  clear hn hl C
  go_enter Tryz.func75, Tryz.ntmps75
  go_wp2_with (first | (go_at_call 98; refine (Tryz.strings_CutSuffix _ _ _ ?_).mono ?_; omega; rintro e w' ⟨rfl, rfl⟩))
  refine (HC.out _).mono ?_
  rintro e w1 ⟨rfl, hbw⟩
  obtain ⟨hc, hf, hsz⟩ := box_after hbw
  have c0 : w1.cell? ⟨w.heap.size, 0, none⟩ = some (.int .i64 0) := hc 0
  have c1 : w1.cell? ⟨w.heap.size, 1, none⟩ = some (.int .i64 0) := hc 1
  have c2 : w1.cell? ⟨w.heap.size, 2, none⟩ = some (.int .u64 0) := hc 2
  have c3 : w1.cell? ⟨w.heap.size, 3, none⟩ = some (.string ⟨#[]⟩) := hc 3
  have f0 := hf 0
  have f1 := hf 1
  have f2 := hf 2
  have f3 := hf 3
  clear hc hf
  go_wp2
  refine bodyPost_ret (v := .tuple #[.agg #[.int .i64 2, .int .i64 0, .int .u64 0, .string ⟨#[]⟩], .bool false]) (by simp [results, Tryz.results75, go_sem, c0, c1, c2, c3]) rfl ⟨?_, ?_⟩
  · rfl
  · exact ((((below_box hbw).setCell (by simp) _).setCell (by simp) _).setCell (by simp) _).setCell (by simp) _

set_option maxHeartbeats 1000000 in
theorem readBool_false (w : World) :
    Calls Tryz.prog 78 #[.string ⟨#[102, 97, 108, 115, 101]⟩] w fun e w' => e = .returned (.tuple #[.agg #[.int .i64 3, .int .i64 0, .int .u64 0, .string ⟨#[]⟩], .bool true]) ∧ Below w.heap.size w w' := by
  go_enter Tryz.func78, Tryz.ntmps78
  go_wp2_with fail
  go_region_held3 (fun w' => w'.cell? ⟨w.heap.size + 1, 0, none⟩ = some (.int .i64 3) ∧ w'.cell? ⟨w.heap.size + 1, 1, none⟩ = some (.int .i64 0) ∧ w'.cell? ⟨w.heap.size + 1, 2, none⟩ = some (.int .u64 0) ∧ w'.cell? ⟨w.heap.size + 1, 3, none⟩ = some (.string ⟨#[]⟩)) (first | (go_keep; done) | (simp [*, go_sem]; done))
    (first | (go_at_call 77; refine (tellBool_0w _ _ _ _).mono ?_; rintro e w' ⟨rfl, rfl⟩))
  all_goals go_wp2_with fail
  all_goals go_returns
  all_goals exact ⟨rfl, by go_grown⟩

set_option maxHeartbeats 1000000 in
theorem readBool_true (w : World) :
    Calls Tryz.prog 78 #[.string ⟨#[116, 114, 117, 101]⟩] w fun e w' => e = .returned (.tuple #[.agg #[.int .i64 3, .int .i64 1, .int .u64 0, .string ⟨#[]⟩], .bool true]) ∧ Below w.heap.size w w' := by
  go_enter Tryz.func78, Tryz.ntmps78
  go_wp2_with fail
  go_region_held3 (fun w' => w'.cell? ⟨w.heap.size + 1, 0, none⟩ = some (.int .i64 3) ∧ w'.cell? ⟨w.heap.size + 1, 1, none⟩ = some (.int .i64 1) ∧ w'.cell? ⟨w.heap.size + 1, 2, none⟩ = some (.int .u64 0) ∧ w'.cell? ⟨w.heap.size + 1, 3, none⟩ = some (.string ⟨#[]⟩)) (first | (go_keep; done) | (simp [*, go_sem]; done))
    (first | (go_at_call 77; refine (tellBool_1w _ _ _ _).mono ?_; rintro e w' ⟨rfl, rfl⟩))
  all_goals go_wp2_with fail
  all_goals go_returns
  all_goals exact ⟨rfl, by go_grown⟩
end Go.Proofs.YtifmfcaaofiboaaGreatDoor

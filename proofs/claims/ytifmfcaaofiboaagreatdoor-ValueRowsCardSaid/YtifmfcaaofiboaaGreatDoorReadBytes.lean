/-
  value.readBytes of a text that begins as bytes' text does.
-/
import Derived.Test.YtifmfcaaofiboaaGreatDoorPairs
import Derived.Test.YtifmfcaaofiboaaGreatDoorReadB
namespace Go.Proofs.YtifmfcaaofiboaaGreatDoor
open Go.RowKit

/-- what stands between x' and ' -/
def innerOf (l : List UInt8) : List UInt8 := Lib.trimSuffix (Lib.trimPrefix l [120, 39]) [39]
def closedOf (l : List UInt8) : Bool := Lib.hasSuffix (Lib.trimPrefix l [120, 39]) [39]
def bytesOk (l : List UInt8) : Bool := closedOf l && ((prsGo (innerOf l) []).isSome && decide ((innerOf l).length % 2 = 0))
theorem trimP_len (l p : List UInt8) : (Lib.trimPrefix l p).length ≤ l.length := by unfold Lib.trimPrefix; split <;> simp
theorem trimS_len (l p : List UInt8) : (Lib.trimSuffix l p).length ≤ l.length := by unfold Lib.trimSuffix; split <;> simp

set_option maxHeartbeats 1000000 in
theorem readBytes_any (s : ByteArray) (w : World) (hp : Lib.hasPrefix s.data.toList [120, 39] = true) (hz : s.size ≤ 800) :
    Calls Tryz.prog 81 #[.string s] w fun e w' => e = .returned (.tuple #[.agg #[.int .i64 4, .int .i64 0, .int .u64 0, .string ⟨((prsGo (innerOf s.data.toList) []).getD []).toArray⟩], .bool (bytesOk s.data.toList)]) ∧ Below w.heap.size w w' := by
  have hl1 := trimP_len s.data.toList [120, 39]
  have hl2 := trimS_len (Lib.trimPrefix s.data.toList [120, 39]) [39]
  have hls : s.data.toList.length = s.size := by simp
  have C : ∀ W, Calls Tryz.prog 99 #[.string ⟨(innerOf s.data.toList).toArray⟩] W (PairsPost (innerOf s.data.toList) W) := fun W => by
    have h := pairs_any ⟨(innerOf s.data.toList).toArray⟩ W (by show (innerOf s.data.toList).toArray.size ≤ 800; simp only [innerOf, List.size_toArray]; omega)
    exact h
  have HC := Lib.hid C
  have hb1 : (⟨(Lib.trimPrefix s.data.toList [120, 39]).toArray⟩ : ByteArray).size ≤ 9223372036854775807 := by
    show (Lib.trimPrefix s.data.toList [120, 39]).toArray.size ≤ _
    simp only [List.size_toArray]; omega
  have K2 := fun W => Lib.hid (Tryz.strings_CutSuffix ⟨(Lib.trimPrefix s.data.toList [120, 39]).toArray⟩ ⟨#[39]⟩ W hb1)
  clear C hls hl1 hl2 hb1
  have hin : innerOf s.data.toList = Lib.trimSuffix (Lib.trimPrefix s.data.toList [120, 39]) [39] := rfl
  have hcl : closedOf s.data.toList = Lib.hasSuffix (Lib.trimPrefix s.data.toList [120, 39]) [39] := rfl
  have K2' : ∀ W, Calls Tryz.prog 98 #[.string ⟨(Lib.trimPrefix s.data.toList [120, 39]).toArray⟩, .string ⟨#[39]⟩] W fun e w' => e = .returned (.tuple #[.string ⟨(innerOf s.data.toList).toArray⟩, .bool (closedOf s.data.toList)]) ∧ w' = W := fun W => by
    have h := (K2 W).out
    rw [show ((⟨(Lib.trimPrefix s.data.toList [120, 39]).toArray⟩ : ByteArray).data.toList) = Lib.trimPrefix s.data.toList [120, 39] from by simp] at h
    exact h
  have HK2 := Lib.hid K2'
  clear K2 K2' hin hcl
  unfold bytesOk
  cases hclosed : closedOf s.data.toList
  all_goals
    rw [hclosed] at HK2
    go_enter Tryz.func81, Tryz.ntmps81
    go_wp2_with (first | (go_at_call 96; refine (Tryz.strings_CutPrefix _ _ _).mono ?_; rintro e w' ⟨rfl, rfl⟩))
    refine (HK2.out _).mono ?_
    rintro e w' ⟨rfl, rfl⟩
    go_wp2_with fail
    refine (HC.out _).mono ?_
    rintro e w1 ⟨v, rfl, hcv, hbw⟩
    obtain ⟨hc, hf, hsz⟩ := box_after hbw
    have c0 : w1.cell? ⟨w.heap.size, 0, none⟩ = some (.int .i64 0) := hc 0
    have c1 : w1.cell? ⟨w.heap.size, 1, none⟩ = some (.int .i64 0) := hc 1
    have c2 : w1.cell? ⟨w.heap.size, 2, none⟩ = some (.int .u64 0) := hc 2
    have c3 : w1.cell? ⟨w.heap.size, 3, none⟩ = some (.string ⟨#[]⟩) := hc 3
    have f0 := hf 0
    have f1 := hf 1
    have f2 := hf 2
    have f3 := hf 3
    clear hc hf
    go_wp2
  · refine bodyPost_ret (v := .tuple #[.agg #[.int .i64 4, .int .i64 0, .int .u64 0, .string ⟨((prsGo (innerOf s.data.toList) []).getD []).toArray⟩], .bool false]) (by simp [results, Tryz.results81, go_sem, c0, c1, c2, c3]) rfl ⟨rfl, ?_⟩
    exact ((((below_box hbw).setCell (by simp) _).setCell (by simp) _).setCell (by simp) _).setCell (by simp) _
  · refine bodyPost_ret (v := .tuple #[.agg #[.int .i64 4, .int .i64 0, .int .u64 0, .string ⟨((prsGo (innerOf s.data.toList) []).getD []).toArray⟩], .bool ((prsGo (innerOf s.data.toList) []).isSome && decide ((innerOf s.data.toList).length % 2 = 0))]) (by simp [results, Tryz.results81, go_sem, c0, c1, c2, c3]) rfl ⟨rfl, ?_⟩
    exact ((((below_box hbw).setCell (by simp) _).setCell (by simp) _).setCell (by simp) _).setCell (by simp) _
end Go.Proofs.YtifmfcaaofiboaaGreatDoor

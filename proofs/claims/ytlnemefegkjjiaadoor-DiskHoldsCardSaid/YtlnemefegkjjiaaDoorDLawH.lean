/-
  swingbridgelaw09.DiskHolds: what is no such list of calls; the calls, one by one.
-/
import Derived.Test.YtlnemefegkjjiaaDoorDActT
namespace Go.Proofs.YtlnemefegkjjiaaDoor
open Go.RowKit

set_option maxRecDepth 1000000 in
set_option maxHeartbeats 4000000 in
theorem lawH_bad (room keep torn file : Int) (oa : Option Addr) (cap : Nat) (acts : List ActV) (w : World) (hET : HasET w) (ha : ActsIn w oa acts) (hl : acts.length ≤ 9223372036854775807) (hb : room < 1 ∨ 2000 < room ∨ fewA acts 20 = false ∨ file < 0 ∨ 63 < file ∨ keep < 0 ∨ torn < 0) :
    Calls Tryd.prog 3 #[.int .i64 room, .slice oa acts.length cap, .int .i64 keep, .int .i64 torn, .int .i64 file] w fun e w' => e = .returned (.bool true) ∧ Below w.heap.size w w' := by
  have HF := Lib.hid (few_acts oa cap acts 20 w ha (by decide) (by decide) hl)
  have HW := Lib.hid (works_trueD w hET)
  clear ha hl hET
  by_cases h1 : room < 1
  · clear hb
    go_enter Tryd.func3, Tryd.ntmps3
    go_wp2_with (first | (go_at_call 5; refine HW.out.mono ?_; rintro e w2 ⟨rfl, hb2⟩))
    go_ret
    exact ⟨rfl, hb2⟩
  by_cases h2 : 2000 < room
  · clear hb
    go_enter Tryd.func3, Tryd.ntmps3
    go_wp2_with (first | (go_at_call 5; refine HW.out.mono ?_; rintro e w2 ⟨rfl, hb2⟩))
    go_ret
    exact ⟨rfl, hb2⟩
  by_cases h3 : fewA acts 20 = false
  · rw [h3] at HF
    clear hb h3
    generalize acts.length = n at *
    go_enter Tryd.func3, Tryd.ntmps3
    go_wp2_with (first | (go_at_call 4; refine HF.out.mono ?_; rintro e w1 ⟨rfl, rfl⟩) | (go_at_call 5; refine HW.out.mono ?_; rintro e w2 ⟨rfl, hb2⟩))
    go_ret
    exact ⟨rfl, hb2⟩
  have h3' : fewA acts 20 = true := by simpa using h3
  rw [h3'] at HF
  have hb' : file < 0 ∨ 63 < file ∨ keep < 0 ∨ torn < 0 := by
    rcases hb with h | h | h | h
    · exact absurd h h1
    · exact absurd h h2
    · exact absurd h h3
    · exact h
  clear hb h3 h3'
  generalize acts.length = n at *
  by_cases h4 : file < 0
  · clear hb'
    go_enter Tryd.func3, Tryd.ntmps3
    go_wp2_with (first | (go_at_call 4; refine HF.out.mono ?_; rintro e w1 ⟨rfl, rfl⟩) | (go_at_call 5; refine HW.out.mono ?_; rintro e w2 ⟨rfl, hb2⟩))
    go_ret
    exact ⟨rfl, hb2⟩
  by_cases h5 : 63 < file
  · clear hb'
    go_enter Tryd.func3, Tryd.ntmps3
    go_wp2_with (first | (go_at_call 4; refine HF.out.mono ?_; rintro e w1 ⟨rfl, rfl⟩) | (go_at_call 5; refine HW.out.mono ?_; rintro e w2 ⟨rfl, hb2⟩))
    go_ret
    exact ⟨rfl, hb2⟩
  by_cases h6 : keep < 0
  · clear hb'
    go_enter Tryd.func3, Tryd.ntmps3
    go_wp2_with (first | (go_at_call 4; refine HF.out.mono ?_; rintro e w1 ⟨rfl, rfl⟩) | (go_at_call 5; refine HW.out.mono ?_; rintro e w2 ⟨rfl, hb2⟩))
    go_ret
    exact ⟨rfl, hb2⟩
  · have h7 : torn < 0 := by omega
    clear hb'
    go_enter Tryd.func3, Tryd.ntmps3
    go_wp2_with (first | (go_at_call 4; refine HF.out.mono ?_; rintro e w1 ⟨rfl, rfl⟩) | (go_at_call 5; refine HW.out.mono ?_; rintro e w2 ⟨rfl, hb2⟩))
    go_ret
    exact ⟨rfl, hb2⟩
end Go.Proofs.YtlnemefegkjjiaaDoor

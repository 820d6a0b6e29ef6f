/-
  swingbridgelaw05.KeyEach: it is true of any text, and any number.
-/
import Derived.Test.YtcedeipmboekaaaGreatDoorKEachL
namespace Go.Proofs.YtcedeipmboekaaaGreatDoor
open Go.RowKit
theorem keyEach_true (s : ByteArray) (many : Int) (w : World) (hg : HasET w) (hs : s.size ≤ 9223372036854775807) (hm0 : -9223372036854775808 ≤ many) (hm1 : many ≤ 9223372036854775807) :
    Calls Tryz.prog 5 #[.string s, .int .i64 many] w fun e w' => e = .returned (.bool true) ∧ Below w.heap.size w w' := by
  by_cases h : s.size ≤ 2400
  · exact keach_deep s many w hg h hm0 hm1
  · exact keach_works s many w hg hs (by omega)
end Go.Proofs.YtcedeipmboekaaaGreatDoor

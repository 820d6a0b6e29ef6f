/-
  disk: the law of none.
-/
import Derived.Test.YtgalokddbokkeaaGreatDoorDLawNA
import Derived.Test.YtgalokddbokkeaaGreatDoorDLawNB
import Derived.Test.YtgalokddbokkeaaGreatDoorDLawNC
import Derived.Test.YtgalokddbokkeaaGreatDoorDLawND
import Derived.Test.YtgalokddbokkeaaGreatDoorDLawNE
namespace Go.Proofs.YtgalokddbokkeaaGreatDoor
open Go.RowKit

theorem lawNone_true (wh fi nn tn : Int) (oa : Option Addr) (n c : Nat) (w : World) (hET : HasET w) :
    Calls Tryz.prog 3 #[.agg #[.int .i64 wh, .int .i64 fi, .int .i64 nn, .int .i64 tn, .slice oa n c]] w fun e w' => e = .returned (.bool true) ∧ Below w.heap.size w w' := by
  by_cases hn : n ≤ 60
  · by_cases hneg : fi < 0
    · by_cases hev : Int.tmod nn 2 = 0
      · exact lawNone_Evenneg wh fi nn tn oa n c w hET hn hev hneg
      · exact lawNone_Nilneg wh fi nn tn oa n c w hET hn hev hneg
    · by_cases hup : 63 < fi
      · by_cases hev : Int.tmod nn 2 = 0
        · exact lawNone_Evenbig wh fi nn tn oa n c w hET hn hev hup
        · exact lawNone_Nilbig wh fi nn tn oa n c w hET hn hev hup
      · by_cases hev : Int.tmod nn 2 = 0
        · exact lawNone_Evengood wh fi nn tn oa n c w hET hn hev hneg hup
        · exact lawNone_Nilgood wh fi nn tn oa n c w hET hn hev hneg hup
  · exact lawNone_long wh fi nn tn oa n c w hET hn
end Go.Proofs.YtgalokddbokkeaaGreatDoor

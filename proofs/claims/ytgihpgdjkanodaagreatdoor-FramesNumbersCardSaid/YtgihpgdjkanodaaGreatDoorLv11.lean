/-
  Helper text: the chapter's examples hold, run by our own machine; no statement is proved here.
-/
import Derived.Test.YtgihpgdjkanodaaGreatDoorEvV
import Derived.Test.YtgihpgdjkanodaaGreatDoorProg
open Go Go.Proofs.YtgihpgdjkanodaaGreatDoor.Ev
namespace Go.Proofs.YtgihpgdjkanodaaGreatDoor
def pidA : List AV := [.str [], .str [111, 117, 116], .str [97, 99, 107], .str [100, 97, 116, 97, 48], .str [], .str [115, 111, 102], .str [110, 121, 101, 116], .str [], .str [115, 112, 108, 105, 116], .str [105, 110], .str [110, 97, 107], .str [100, 97, 116, 97, 49], .str [], .str [115, 101, 116, 117, 112], .str [115, 116, 97, 108, 108], .str []]
def tabs : List (Nat × List AV) := [(0, pidA)]
theorem noNum : noNumB Tryz.prog = true := by decide +kernel
theorem mixed : Tryz.prog.follows .mixedOrders = true := by decide +kernel
set_option maxRecDepth 1000000 in
theorem livesT : saysTrue (aCallY Tryz.prog (shortJoin 53) 60 11 [] (tables tabs) 1000) = true := by decide +kernel
end Go.Proofs.YtgihpgdjkanodaaGreatDoor

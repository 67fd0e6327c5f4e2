/-
  Helper text: contracts of Decode, the two conversions between states and numbers, and the stuffing; no statement is proved here.
-/
import Derived.Test.YtkmjemaajgdoiaaDoorLvOne
namespace Go.Proofs.YtkmjemaajgdoiaaDoor.Lv
open Go Go.RowKit

end Go.Proofs.YtkmjemaajgdoiaaDoor.Lv

/-
  Helper text: contracts of Decode, the two conversions between states and numbers, and the stuffing; no statement is proved here.
-/
import Derived.Test.YtkmjemaajgdoiaaLvOne
namespace Go.Proofs.Ytkmjemaajgdoiaa.Lv
open Go Go.RowKit

end Go.Proofs.Ytkmjemaajgdoiaa.Lv

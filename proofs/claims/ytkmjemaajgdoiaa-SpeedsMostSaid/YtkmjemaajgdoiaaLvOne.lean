/-
  Helper text: contracts of the small functions on bits and states; no statement is proved here.
-/
import Derived.Test.YtkmjemaajgdoiaaLvBits
namespace Go.Proofs.Ytkmjemaajgdoiaa.Lv
open Go Go.RowKit

end Go.Proofs.Ytkmjemaajgdoiaa.Lv

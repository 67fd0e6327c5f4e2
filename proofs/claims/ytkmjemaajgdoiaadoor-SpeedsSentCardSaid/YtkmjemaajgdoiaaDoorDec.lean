/-
  Helper text: Decode; no statement is proved here.
-/
import Derived.Test.YtkmjemaajgdoiaaDoorDecN
import Derived.Test.YtkmjemaajgdoiaaDoorStill
namespace Go.Proofs.YtkmjemaajgdoiaaDoor
open Go Go.RowKit

end Go.Proofs.YtkmjemaajgdoiaaDoor

/-
  Helper text: the two tables of the package, and the contracts of the functions that read them; no statement is proved here.
-/
import Derived.Test.YtkmjemaajgdoiaaLvStuff
namespace Go.Proofs.Ytkmjemaajgdoiaa.Lv
open Go Go.RowKit

def syncL : List UInt8 := [0, 0, 0, 0, 0, 0, 0, 1]
def endL : List UInt8 := [2, 2, 0]
/-- The two tables as values. -/
abbrev syncV : Value := .agg #[.int .u8 0, .int .u8 0, .int .u8 0, .int .u8 0, .int .u8 0, .int .u8 0, .int .u8 0, .int .u8 1]
abbrev endV : Value := .agg #[.int .u8 2, .int .u8 2, .int .u8 0]
end Go.Proofs.Ytkmjemaajgdoiaa.Lv

/-
  Helper text: contracts of the functions that stuff bits and take out what is stuffed; no statement is proved here.
-/
import Derived.Test.YtkmjemaajgdoiaaLvTwo
namespace Go.Proofs.Ytkmjemaajgdoiaa.Lv
open Go Go.RowKit

theorem nat_beq (a b : Nat) : (((a : Nat) : Int) == (b : Int)) = (a == b) := by
  by_cases h : a = b
  · subst h; simp
  · have : (a : Int) ≠ (b : Int) := by omega
    rw [beq_eq_false_iff_ne.2 this, beq_eq_false_iff_ne.2 h]

end Go.Proofs.Ytkmjemaajgdoiaa.Lv

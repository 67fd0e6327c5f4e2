/-
  Helper text: contracts of Send and Receive; no statement is proved here.
-/
import Derived.Test.YtkmjemaajgdoiaaDoorLvUn
namespace Go.Proofs.YtkmjemaajgdoiaaDoor.Lv
open Go Go.RowKit

/-- Do the last three states end a packet? -/
def hasEndL (xs : List UInt8) : Bool := decide (3 ≤ xs.length) && decide (xs.drop (xs.length - 3) = endL)
def hasSyncL (xs : List UInt8) : Bool := decide (xs.take 8 = syncL)

theorem drop_get (xs : List UInt8) (d k : Nat) (h : d + k < xs.length) : (xs.drop d).getD k 0 = xs.getD (d + k) 0 := by
  simp [List.getD, List.getElem?_drop]
theorem list_ext_getD (xs ys : List UInt8) (hl : xs.length = ys.length) (h : ∀ k, k < xs.length → xs.getD k 0 = ys.getD k 0) : xs = ys := by
  apply List.ext_getElem hl
  intro k h1 h2
  have := h k h1
  simpa [List.getD, h1, h2] using this

theorem hasEndL_short (xs : List UInt8) (h : xs.length < 3) : hasEndL xs = false := by
  unfold hasEndL
  rw [Bool.and_eq_false_iff]
  left
  simpa using h

theorem hasSyncL_short (xs : List UInt8) (h : xs.length < 8) : hasSyncL xs = false := by
  unfold hasSyncL
  rw [decide_eq_false_iff_not]
  intro hh
  have := congrArg List.length hh
  rw [List.length_take] at this
  simp [syncL] at this
  omega

/-- The bytes behind the sync, or the error. -/
def contentL (xs : List UInt8) : List UInt8 × Int :=
  if ¬ xs.length % 8 = 0 then ([], 5) else if xs.length = 0 then ([], 1) else if 8216 < xs.length then ([], 3) else (bytesL xs, 0)

end Go.Proofs.YtkmjemaajgdoiaaDoor.Lv

/-
  Helper text: Decode of any bytes; no statement is proved here.
-/
import Derived.Test.YtkmjemaajgdoiaaDoorDec
namespace Go.Proofs.YtkmjemaajgdoiaaDoor
open Go Go.RowKit

/-- What is read from the bytes behind the first one, without data: the packet and the error. -/
def numR (p : Nat) (rest : List UInt8) : Rg × Nat :=
  if rest.length ≠ nbytes (fieldsL p) then (bare 0, 5)
  else if (fieldsL p).length = 0 then (bare p, 0)
  else if Ck.chk 20 5 (placeN (fieldsL p) (fieldsL p).length) (leL rest % 2 ^ placeN (fieldsL p) (fieldsL p).length) ≠ leL rest / 2 ^ placeN (fieldsL p) (fieldsL p).length then (bare 0, 10)
  else if (unpackN (fieldsL p) (leL rest % 2 ^ placeN (fieldsL p) (fieldsL p).length) (bare p) (fieldsL p).length).spare ≠ 0 then (bare 0, 4)
  else (unpackN (fieldsL p) (leL rest % 2 ^ placeN (fieldsL p) (fieldsL p).length) (bare p) (fieldsL p).length, 0)
/-- .. with data. -/
def datR (p : Nat) (rest : List UInt8) : Rg × List UInt8 × Nat :=
  if rest.length < 2 ∨ 1026 < rest.length then (bare 0, [], 5)
  else if Ck.chkL (Ck.frontL rest) ≠ Ck.lastL rest then (bare 0, [], 10)
  else (bare p, Ck.frontL rest, 0)
/-- What is read from bytes: the packet, its data and the error. -/
def decC (b0 : UInt8) (rest : List UInt8) : Rg × List UInt8 × Nat :=
  if known (b0.toNat % 16) = true ∧ b0.toNat = b0.toNat % 16 + 16 * (15 - b0.toNat % 16) then
    (if isD (b0.toNat % 16) = true then datR (b0.toNat % 16) rest else ((numR (b0.toNat % 16) rest).1, [], (numR (b0.toNat % 16) rest).2))
  else (bare 0, [], 4)
def decR : List UInt8 → Rg × List UInt8 × Nat
  | [] => (bare 0, [], 4)
  | b0 :: rest => decC b0 rest

theorem nb8 (p : Nat) (h : (fieldsL p).length ≠ 0) : 8 * nbytes (fieldsL p) = placeN (fieldsL p) (fieldsL p).length + 5 := by
  unfold nbytes
  rw [if_neg h]
  unfold fieldsL at *
  split
  · decide
  rename_i h1
  rw [if_neg h1] at h
  split
  · decide
  rename_i h2
  rw [if_neg h2] at h
  split
  · decide
  rename_i h3
  rw [if_neg h3] at h
  exact absurd rfl h

end Go.Proofs.YtkmjemaajgdoiaaDoor

/-
  Helper text: packets without data are read from their bytes; no statement is proved here.
-/
import Derived.Test.YtkmjemaajgdoiaaDoorDecD
namespace Go.Proofs.YtkmjemaajgdoiaaDoor
open Go Go.RowKit

/-- Bytes as one number, the lowest byte first. -/
def leL : List UInt8 → Nat
  | [] => 0
  | b :: bs => b.toNat + 256 * leL bs
theorem leL_append (xs ys : List UInt8) : leL (xs ++ ys) = leL xs + 2 ^ (8 * xs.length) * leL ys := by
  induction xs with
  | nil => simp [leL]
  | cons x xs ih =>
    rw [List.cons_append]
    show x.toNat + 256 * leL (xs ++ ys) = x.toNat + 256 * leL xs + 2 ^ (8 * (xs.length + 1)) * leL ys
    rw [ih, show 8 * (xs.length + 1) = 8 * xs.length + 8 from by omega, Nat.pow_add, Nat.mul_add, ← Nat.mul_assoc, Nat.mul_comm 256 (2 ^ (8 * xs.length)), Nat.add_assoc]
theorem leL_lt (xs : List UInt8) : leL xs < 2 ^ (8 * xs.length) := by
  induction xs with
  | nil => exact Nat.one_pos
  | cons x xs ih =>
    show x.toNat + 256 * leL xs < 2 ^ (8 * (xs.length + 1))
    have := x.toNat_lt
    rw [show 8 * (xs.length + 1) = 8 * xs.length + 8 from by omega, Nat.pow_add]
    omega
theorem leL_snoc (zs : List UInt8) {k : Nat} (h : k < zs.length) : leL (zs.take (k + 1)) = leL (zs.take k) ||| (zs.getD k 0).toNat * 2 ^ (8 * k) := by
  have hl : (zs.take k).length = k := by rw [List.length_take]; omega
  have h1 := leL_lt (zs.take k)
  rw [hl] at h1
  rw [take_snoc zs h, leL_append, hl, orA h1]
  show _ + 2 ^ (8 * k) * ((zs.getD k 0).toNat + 256 * 0) = _
  rw [Nat.mul_zero, Nat.add_zero, Nat.mul_comm]

end Go.Proofs.YtkmjemaajgdoiaaDoor

/-
  Helper text: Part; no statement is proved here.
-/
import Derived.Test.YtkmjemaajgdoiaaDoorCkFits
import Derived.Test.YtkmjemaajgdoiaaDoorReg
namespace Go.Proofs.YtkmjemaajgdoiaaDoor.Ck
open Go Go.RowKit

theorem mask_val {v k : Nat} (hv : v < 2 ^ 32) (hk : k ≤ 31) : bits .and .u32 (v : Int) (((2 : Int) ^ k - 1) % 4294967296) = ((v % 2 ^ k : Nat) : Int) := by
  have hp : 2 ^ k ≤ 2 ^ 31 := Nat.pow_le_pow_right (by omega) hk
  have h1 := Nat.two_pow_pos k
  have e : ((2 : Int) ^ k - 1) % 4294967296 = ((2 ^ k - 1 : Nat) : Int) := by
    have : (2 : Int) ^ k = ((2 ^ k : Nat) : Int) := by simp only [Int.natCast_pow]; rfl
    rw [this]; omega
  rw [e]
  have := (bits_nat .u32 32 (by decide) (fun n h0 h1 => by rw [IntKind.wrap_u32]; omega) v (2 ^ k - 1) hv (by omega)).1
  rw [this, Nat.and_two_pow_sub_one_eq_mod]

end Go.Proofs.YtkmjemaajgdoiaaDoor.Ck

/-
  Helper text: Check; no statement is proved here.
-/
import Derived.Test.YtkmjemaajgdoiaaDoorCkAdd
import Derived.Test.YtkmjemaajgdoiaaDoorReg
namespace Go.Proofs.YtkmjemaajgdoiaaDoor.Ck
open Go Go.RowKit

theorem slice_h (A : Option Addr) (n c : Nat) (h : Int) (W : World) (h0 : 0 ≤ h) (h2 : h ≤ c) : (Instr.slice 22 (.slice A n c) none (some (.int .i64 h)) none).run Tryd.prog W = .ok (.slice A h.toNat c) W := by
  have hs : (sizeOf (Tryd.prog.elem 22)).run Tryd.prog W = .ok 1 W := by kernel_rfl
  rw [run_slice_h W 22 A n c (by kernel_rfl) .i64 h h0 h2, hs]
  simp [sliced, Result.andThen]
  intro _; cases A <;> simp [Addr.add]
theorem own_nil (w : World) (base t : Nat) : w.ownsRow base t 1 (.slice none 0 0) ([] : List UInt8).length (([] : List UInt8).map bv) := ⟨rfl, .inl ⟨rfl, rfl⟩⟩

/-- What Check makes of bytes: those in front, and the number that is asked of the last two. -/
def frontL (xs : List UInt8) : List UInt8 := xs.take (xs.length - 2)
def lastL (xs : List UInt8) : Nat := (xs.getD (xs.length - 2) 0).toNat + 256 * (xs.getD (xs.length - 1) 0).toNat

theorem or_join {x y : Nat} (hx : x < 256) (hy : y < 256) : bits .or .u16 (x : Int) ((y : Int) * 256) = ((x + 256 * y : Nat) : Int) := by
  have e : (y : Int) * 256 = ((2 ^ 8 * y : Nat) : Int) := by omega
  rw [e, (bits_nat .u16 16 (by decide) wraps_u16 x (2 ^ 8 * y) (by omega) (by omega)).2, Nat.or_comm, ← Nat.two_pow_add_eq_or_of_lt (i := 8) (by omega) y, Nat.add_comm]

end Go.Proofs.YtkmjemaajgdoiaaDoor.Ck

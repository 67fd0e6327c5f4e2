/-
  Helper text: contracts of Unstuff and Bytes; no statement is proved here.
-/
import Derived.Test.YtkmjemaajgdoiaaDoorLvSync
import Derived.Deep.RegionHeld3
import Derived.Deep.DrawnRows
import Derived.BigRegion
namespace Go.Proofs.YtkmjemaajgdoiaaDoor.Lv
open Go Go.RowKit

def optL : Option (List UInt8) → List UInt8
  | none => []
  | some l => l
def optE (n : Int) : Option (List UInt8) → Int
  | none => n
  | some _ => 0
/-- The relation of the loop of Unstuff. -/
def UnRel (xs : List UInt8) (w wr : World) (o n : Value) (k : Nat) : Prop :=
  ∃ m ys, unS (xs.take k) = some (m, ys) ∧ m ≤ 6 ∧ ys.length ≤ k ∧ n = .int .i64 ((m : Nat) : Int) ∧ wr.ownsRow w.heap.size 5 1 o ys.length (ys.map bv) ∧ Below w.heap.size w wr

theorem or_val (a x : UInt8) (j : Nat) (h : j < 8) (hx : x.toNat ≤ 1) : Value.int .u8 (bits .or .u8 (a.toNat : Int) (((x.toNat : Int) * 2 ^ j) % 256)) = bv (a ||| (x <<< UInt8.ofNat j)) := by
  have H : ∀ a : Fin 256, ∀ x : Fin 2, ∀ j : Fin 8, bits .or .u8 (a.val : Int) (((x.val : Int) * 2 ^ j.val) % 256) = ((UInt8.ofNat a.val ||| (UInt8.ofNat x.val <<< UInt8.ofNat j.val)).toNat : Int) := by decide +kernel
  have := H ⟨a.toNat, a.toNat_lt⟩ ⟨x.toNat, by omega⟩ ⟨j, h⟩
  simp only [UInt8.ofNat_toNat] at this
  rw [this]

end Go.Proofs.YtkmjemaajgdoiaaDoor.Lv

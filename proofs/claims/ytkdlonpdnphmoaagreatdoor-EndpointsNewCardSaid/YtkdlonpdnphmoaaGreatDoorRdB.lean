/-
  Helper text: slices of bytes that read as lists; the table of names as it is laid; no statement is proved here.
-/
import Derived.WalkKit
import Derived.WalkSpells
import Derived.KernelRfl
namespace Go.Proofs.YtkdlonpdnphmoaaGreatDoor
open Go Go.RowKit

/-- A byte as a value. -/
abbrev bv (x : UInt8) : Value := .int .u8 (x.toNat : Int)
/-- The slice with array address A and capacity c reads as the bytes xs in world w; its block lies below B. -/
structure Rd (w : World) (B : Nat) (A : Option Addr) (c : Nat) (xs : List UInt8) : Prop where
  le : xs.length ≤ c
  cap : c ≤ 9223372036854775807
  cells : 0 < xs.length → ∃ b off, A = some ⟨b, off, none⟩ ∧ b < B ∧ ∀ j, j < xs.length → w.cell? ⟨b, off + j, none⟩ = some (bv (xs.getD j 0))
theorem Rd.nil (w : World) (B : Nat) : Rd w B none 0 [] := ⟨Nat.le_refl _, by omega, fun h => absurd h (by simp)⟩
/-- The names of the identifiers. -/
def pidL : List (List UInt8) := [[], [111, 117, 116], [97, 99, 107], [100, 97, 116, 97, 48], [], [115, 111, 102], [110, 121, 101, 116], [], [115, 112, 108, 105, 116], [105, 110], [110, 97, 107], [100, 97, 116, 97, 49], [], [115, 101, 116, 117, 112], [115, 116, 97, 108, 108], []]
/-- The string of bytes. -/
abbrev stv (xs : List UInt8) : Value := .string ⟨xs.toArray⟩
/-- The table holds what the text lays. -/
structure Laid (w : World) : Prop where
  pid : ∀ j, j < 16 → w.cell? ⟨0, j, none⟩ = some (stv (pidL.getD j []))
theorem Laid.below {w w' : World} (h : Laid w) (hb : Below w.heap.size w w') : Laid w' :=
  ⟨fun j hj => (hb.cell (World.block_lt_of_cell? _ _ (h.pid j hj))).trans (h.pid j hj)⟩
end Go.Proofs.YtkdlonpdnphmoaaGreatDoor

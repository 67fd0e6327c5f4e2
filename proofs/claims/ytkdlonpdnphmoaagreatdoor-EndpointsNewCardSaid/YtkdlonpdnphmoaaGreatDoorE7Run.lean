/-
  Helper text: the ways of EndpointsNew, run by our own machine over data that is not known, and what each owes; no statement is proved here.
-/
import Derived.KernelRfl
import Derived.Test.YtkdlonpdnphmoaaGreatDoorLv7
open Go Go.Proofs.YtkdlonpdnphmoaaGreatDoor.Ev
namespace Go.Proofs.YtkdlonpdnphmoaaGreatDoor
def isPtr (l : List AV) (id : Nat) : Bool := match l with
  | [.ptr i _] => Nat.beq i id
  | _ => false
def decsE (dp : Dec) : FuncId → List AV → Dec := fun f args => bif Nat.beq f 39 then dp else bif Nat.beq f 40 && isPtr args 1003 then [(12, true)] else []
noncomputable def runE (P : Program) (dec dp : Dec) (args : List AV) : Option (AV × Hp × Nat × Obs) := aFrameD P (shortD 24 tabs (aCallZ P (decsE dp) 60)) dec 3 args (tables tabs) 1000
def cfg (a : Int) (b : Bool) (k m : Int) : AV := .agg [.int .u8 a, .bool b, .int .u8 k, .int .i64 m]

def owes0 (a k m : Int) : Prop := decide (a ≥ 1) = false ∧ decide (a < 1) = true ∧ True
def owes1 (a k m : Int) : Prop := decide (a ≥ 1) = true ∧ decide (a ≤ 15) = false ∧ decide (a < 1) = false ∧ decide (a > 15) = true ∧ True
def owes2 (a k m : Int) : Prop := decide (a ≥ 1) = true ∧ decide (a ≤ 15) = true ∧ decide (k ≥ 1) = false ∧ decide (a < 1) = false ∧ decide (a > 15) = false ∧ decide (k < 1) = true ∧ True
def owes3 (a k m : Int) : Prop := decide (a ≥ 1) = true ∧ decide (a ≤ 15) = true ∧ decide (k ≥ 1) = true ∧ decide (k ≤ 3) = false ∧ decide (a < 1) = false ∧ decide (a > 15) = false ∧ decide (k < 1) = false ∧ decide (k > 3) = true ∧ True
def owes4 (a k m : Int) : Prop := decide (a ≥ 1) = true ∧ decide (a ≤ 15) = true ∧ decide (k ≥ 1) = true ∧ decide (k ≤ 3) = true ∧ decide (m ≥ 1) = false ∧ decide (a < 1) = false ∧ decide (a > 15) = false ∧ decide (k < 1) = false ∧ decide (k > 3) = false ∧ decide (m < 1) = true ∧ True
def owes5 (a k m : Int) : Prop := decide (a ≥ 1) = true ∧ decide (a ≤ 15) = true ∧ decide (k ≥ 1) = true ∧ decide (k ≤ 3) = true ∧ decide (m ≥ 1) = true ∧ decide (m ≤ 1024) = false ∧ decide (a < 1) = false ∧ decide (a > 15) = false ∧ decide (k < 1) = false ∧ decide (k > 3) = false ∧ decide (m < 1) = false ∧ decide (m > 1024) = true ∧ True
def owesV (a : Int) (b : Bool) (k m : Int) : Prop := decide (a ≥ 1) = true ∧ decide (a ≤ 15) = true ∧ decide (k ≥ 1) = true ∧ decide (k ≤ 3) = true ∧ decide (m ≥ 1) = true ∧ decide (m ≤ 1024) = true ∧ decide (a < 1) = false ∧ decide (a > 15) = false ∧ decide (k < 1) = false ∧ decide (k > 3) = false ∧ decide (m < 1) = false ∧ decide (m > 1024) = false ∧ (a != 0) = true ∧ AV.beq (cfg a b k m) (cfg a b k m) = true ∧ (!(a == a && (b == b && (k == k && (m == m && true))))) = false ∧ (a != 0) = true ∧ (a != 0) = true ∧ (a != 0) = true ∧ True
set_option maxRecDepth 100000
theorem e0 (a : Int) (b : Bool) (k m n : Int) : Says (runE Tryz.prog [(19, true)] [(5, false)] [cfg a b k m, .int .i64 n]) = owes0 a k m := by kernel_rfl
theorem e1 (a : Int) (b : Bool) (k m n : Int) : Says (runE Tryz.prog [(19, false), (23, true)] [(5, true), (9, false)] [cfg a b k m, .int .i64 n]) = owes1 a k m := by kernel_rfl
theorem e2 (a : Int) (b : Bool) (k m n : Int) : Says (runE Tryz.prog [(19, false), (23, false), (28, true)] [(5, true), (9, true), (14, false)] [cfg a b k m, .int .i64 n]) = owes2 a k m := by kernel_rfl
theorem e3 (a : Int) (b : Bool) (k m n : Int) : Says (runE Tryz.prog [(19, false), (23, false), (28, false), (33, true)] [(5, true), (9, true), (14, true), (19, false)] [cfg a b k m, .int .i64 n]) = owes3 a k m := by kernel_rfl
theorem e4 (a : Int) (b : Bool) (k m n : Int) : Says (runE Tryz.prog [(19, false), (23, false), (28, false), (33, false), (38, true)] [(5, true), (9, true), (14, true), (19, true), (24, false)] [cfg a b k m, .int .i64 n]) = owes4 a k m := by kernel_rfl
theorem e5 (a : Int) (b : Bool) (k m n : Int) : Says (runE Tryz.prog [(19, false), (23, false), (28, false), (33, false), (38, false), (43, true)] [(5, true), (9, true), (14, true), (19, true), (24, true), (29, false)] [cfg a b k m, .int .i64 n]) = owes5 a k m := by kernel_rfl
theorem eV (a : Int) (b : Bool) (k m n : Int) : Says (runE Tryz.prog [(19, false), (23, false), (28, false), (33, false), (38, false), (43, false), (57, false)] [(5, true), (9, true), (14, true), (19, true), (24, true), (29, true)] [cfg a b k m, .int .i64 n]) = owesV a b k m := by kernel_rfl
end Go.Proofs.YtkdlonpdnphmoaaGreatDoor

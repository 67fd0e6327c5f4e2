/-
  Helper text: the reference's Error, for any plan; no statement is proved here.
-/
import Derived.Test.YtfaocndelibadaaLv9
namespace Go.Proofs.Ytfaocndelibadaa
open Go Go.RowKit Go.Shelf
attribute [local go_sem] Oper.semAt_some

/-- A plan. -/
abbrev planV (inn : Bool) (endp : Nat) (max : Int) (tog : Bool) (A : Option Addr) (n c : Nat) (zero : Bool) (len : Int) : Value := .agg #[.bool inn, .int .u8 endp, .int .i64 max, .bool tog, .slice A n c, .bool zero, .int .i64 len]
/-- Whether a plan is consistent. -/
def okP (inn : Bool) (endp : Nat) (max : Int) (n : Nat) (zero : Bool) (len : Int) : Bool := decide (1 ≤ endp ∧ endp ≤ 15 ∧ 1 ≤ max ∧ max ≤ 1024) && (if inn then decide (n = 0) && (!zero && decide (0 ≤ len)) else decide (len = 0))
def errS (inn : Bool) (endp : Nat) (max : Int) (n : Nat) (zero : Bool) (len : Int) : Int := if okP inn endp max n zero len then (if 65536 < (n : Int) ∨ 65536 < len then 3 else 0) else 1
set_option maxHeartbeats 2000000 in
theorem refErr0 (w : World) (inn : Bool) (zero : Bool) (endp : Nat) (max : Int) (tog : Bool) (A : Option Addr) (n c : Nat) (len : Int) (h0 : (endp : Int) = 0) :
    Calls Try.prog 12 #[planV inn endp max tog A n c zero len] w fun e w' => e = .returned (.int .i64 1) ∧ Below w.heap.size w w' := by
  go_enter Try.func12, Try.ntmps12
  go_wp2
  go_ret
  exact ⟨rfl, (Below.refl _ w).alloc (Nat.le_refl _) _⟩
set_option maxHeartbeats 2000000 in
theorem refErr1 (w : World) (inn : Bool) (zero : Bool) (endp : Nat) (max : Int) (tog : Bool) (A : Option Addr) (n c : Nat) (len : Int) (h0 : ¬ (endp : Int) = 0) (h1 : 15 < (endp : Int)) :
    Calls Try.prog 12 #[planV inn endp max tog A n c zero len] w fun e w' => e = .returned (.int .i64 1) ∧ Below w.heap.size w w' := by
  go_enter Try.func12, Try.ntmps12
  go_wp2
  go_ret
  exact ⟨rfl, (Below.refl _ w).alloc (Nat.le_refl _) _⟩
set_option maxHeartbeats 2000000 in
theorem refErr2 (w : World) (inn : Bool) (zero : Bool) (endp : Nat) (max : Int) (tog : Bool) (A : Option Addr) (n c : Nat) (len : Int) (h0 : ¬ (endp : Int) = 0) (h1 : ¬ 15 < (endp : Int)) (h2 : max < 1) :
    Calls Try.prog 12 #[planV inn endp max tog A n c zero len] w fun e w' => e = .returned (.int .i64 1) ∧ Below w.heap.size w w' := by
  go_enter Try.func12, Try.ntmps12
  go_wp2
  go_ret
  exact ⟨rfl, (Below.refl _ w).alloc (Nat.le_refl _) _⟩
set_option maxHeartbeats 2000000 in
theorem refErr3 (w : World) (inn : Bool) (zero : Bool) (endp : Nat) (max : Int) (tog : Bool) (A : Option Addr) (n c : Nat) (len : Int) (h0 : ¬ (endp : Int) = 0) (h1 : ¬ 15 < (endp : Int)) (h2 : ¬ max < 1) (h3 : 1024 < max) :
    Calls Try.prog 12 #[planV inn endp max tog A n c zero len] w fun e w' => e = .returned (.int .i64 1) ∧ Below w.heap.size w w' := by
  go_enter Try.func12, Try.ntmps12
  go_wp2
  go_ret
  exact ⟨rfl, (Below.refl _ w).alloc (Nat.le_refl _) _⟩
set_option maxHeartbeats 2000000 in
theorem refErr4 (w : World) (zero : Bool) (endp : Nat) (max : Int) (tog : Bool) (A : Option Addr) (n c : Nat) (len : Int) (h0 : ¬ (endp : Int) = 0) (h1 : ¬ 15 < (endp : Int)) (h2 : ¬ max < 1) (h3 : ¬ 1024 < max) (h4 : ¬ (n : Int) = 0) :
    Calls Try.prog 12 #[planV true endp max tog A n c zero len] w fun e w' => e = .returned (.int .i64 1) ∧ Below w.heap.size w w' := by
  go_enter Try.func12, Try.ntmps12
  go_wp2
  go_ret
  exact ⟨rfl, (Below.refl _ w).alloc (Nat.le_refl _) _⟩
set_option maxHeartbeats 2000000 in
theorem refErr5 (w : World) (endp : Nat) (max : Int) (tog : Bool) (A : Option Addr) (n c : Nat) (len : Int) (h0 : ¬ (endp : Int) = 0) (h1 : ¬ 15 < (endp : Int)) (h2 : ¬ max < 1) (h3 : ¬ 1024 < max) (h4 : (n : Int) = 0)  :
    Calls Try.prog 12 #[planV true endp max tog A n c true len] w fun e w' => e = .returned (.int .i64 1) ∧ Below w.heap.size w w' := by
  go_enter Try.func12, Try.ntmps12
  go_wp2
  go_ret
  exact ⟨rfl, (Below.refl _ w).alloc (Nat.le_refl _) _⟩
set_option maxHeartbeats 2000000 in
theorem refErr6 (w : World) (endp : Nat) (max : Int) (tog : Bool) (A : Option Addr) (n c : Nat) (len : Int) (h0 : ¬ (endp : Int) = 0) (h1 : ¬ 15 < (endp : Int)) (h2 : ¬ max < 1) (h3 : ¬ 1024 < max) (h4 : (n : Int) = 0) (h5 : len < 0) :
    Calls Try.prog 12 #[planV true endp max tog A n c false len] w fun e w' => e = .returned (.int .i64 1) ∧ Below w.heap.size w w' := by
  go_enter Try.func12, Try.ntmps12
  go_wp2
  go_ret
  exact ⟨rfl, (Below.refl _ w).alloc (Nat.le_refl _) _⟩
set_option maxHeartbeats 2000000 in
theorem refErr7 (w : World) (endp : Nat) (max : Int) (tog : Bool) (A : Option Addr) (n c : Nat) (len : Int) (h0 : ¬ (endp : Int) = 0) (h1 : ¬ 15 < (endp : Int)) (h2 : ¬ max < 1) (h3 : ¬ 1024 < max) (h4 : (n : Int) = 0) (h5 : ¬ len < 0) (h6 : 65536 < len) :
    Calls Try.prog 12 #[planV true endp max tog A n c false len] w fun e w' => e = .returned (.int .i64 3) ∧ Below w.heap.size w w' := by
  go_enter Try.func12, Try.ntmps12
  go_wp2
  go_ret
  exact ⟨rfl, (Below.refl _ w).alloc (Nat.le_refl _) _⟩
set_option maxHeartbeats 2000000 in
theorem refErr8 (w : World) (endp : Nat) (max : Int) (tog : Bool) (A : Option Addr) (n c : Nat) (len : Int) (h0 : ¬ (endp : Int) = 0) (h1 : ¬ 15 < (endp : Int)) (h2 : ¬ max < 1) (h3 : ¬ 1024 < max) (h4 : (n : Int) = 0) (h5 : ¬ len < 0) (h6 : ¬ 65536 < len) :
    Calls Try.prog 12 #[planV true endp max tog A n c false len] w fun e w' => e = .returned (.int .i64 0) ∧ Below w.heap.size w w' := by
  go_enter Try.func12, Try.ntmps12
  go_wp2
  go_ret
  exact ⟨rfl, (Below.refl _ w).alloc (Nat.le_refl _) _⟩
set_option maxHeartbeats 2000000 in
theorem refErr9 (w : World) (zero : Bool) (endp : Nat) (max : Int) (tog : Bool) (A : Option Addr) (n c : Nat) (len : Int) (h0 : ¬ (endp : Int) = 0) (h1 : ¬ 15 < (endp : Int)) (h2 : ¬ max < 1) (h3 : ¬ 1024 < max) (h4 : ¬ len = 0) :
    Calls Try.prog 12 #[planV false endp max tog A n c zero len] w fun e w' => e = .returned (.int .i64 1) ∧ Below w.heap.size w w' := by
  go_enter Try.func12, Try.ntmps12
  go_wp2
  go_ret
  exact ⟨rfl, (Below.refl _ w).alloc (Nat.le_refl _) _⟩
set_option maxHeartbeats 2000000 in
theorem refErr10 (w : World) (zero : Bool) (endp : Nat) (max : Int) (tog : Bool) (A : Option Addr) (n c : Nat) (len : Int) (h0 : ¬ (endp : Int) = 0) (h1 : ¬ 15 < (endp : Int)) (h2 : ¬ max < 1) (h3 : ¬ 1024 < max) (h4 : len = 0) (h5 : 65536 < (n : Int)) :
    Calls Try.prog 12 #[planV false endp max tog A n c zero len] w fun e w' => e = .returned (.int .i64 3) ∧ Below w.heap.size w w' := by
  go_enter Try.func12, Try.ntmps12
  go_wp2
  go_ret
  exact ⟨rfl, (Below.refl _ w).alloc (Nat.le_refl _) _⟩
set_option maxHeartbeats 2000000 in
theorem refErr11 (w : World) (zero : Bool) (endp : Nat) (max : Int) (tog : Bool) (A : Option Addr) (n c : Nat) (len : Int) (h0 : ¬ (endp : Int) = 0) (h1 : ¬ 15 < (endp : Int)) (h2 : ¬ max < 1) (h3 : ¬ 1024 < max) (h4 : len = 0) (h5 : ¬ 65536 < (n : Int)) :
    Calls Try.prog 12 #[planV false endp max tog A n c zero len] w fun e w' => e = .returned (.int .i64 0) ∧ Below w.heap.size w w' := by
  go_enter Try.func12, Try.ntmps12
  go_wp2
  go_ret
  exact ⟨rfl, (Below.refl _ w).alloc (Nat.le_refl _) _⟩
theorem refErr_any (w : World) (inn : Bool) (endp : Nat) (max : Int) (tog : Bool) (A : Option Addr) (n c : Nat) (zero : Bool) (len : Int) :
    Calls Try.prog 12 #[planV inn endp max tog A n c zero len] w fun e w' => e = .returned (.int .i64 (errS inn endp max n zero len)) ∧ Below w.heap.size w w' := by
  have key : ∀ v : Int, errS inn endp max n zero len = v → Calls Try.prog 12 #[planV inn endp max tog A n c zero len] w (fun e w' => e = .returned (.int .i64 v) ∧ Below w.heap.size w w') → Calls Try.prog 12 #[planV inn endp max tog A n c zero len] w fun e w' => e = .returned (.int .i64 (errS inn endp max n zero len)) ∧ Below w.heap.size w w' := fun v e h => by rw [e]; exact h
  by_cases h0 : (endp : Int) = 0
  · exact key 1 (by unfold errS okP; simp; omega) (refErr0 w inn zero endp max tog A n c len h0)
  by_cases h1 : 15 < (endp : Int)
  · exact key 1 (by unfold errS okP; simp; omega) (refErr1 w inn zero endp max tog A n c len h0 h1)
  by_cases h2 : max < 1
  · exact key 1 (by unfold errS okP; simp; omega) (refErr2 w inn zero endp max tog A n c len h0 h1 h2)
  by_cases h3 : 1024 < max
  · exact key 1 (by unfold errS okP; simp; omega) (refErr3 w inn zero endp max tog A n c len h0 h1 h2 h3)
  have hb : (1 ≤ endp ∧ endp ≤ 15 ∧ 1 ≤ max ∧ max ≤ 1024) := by omega
  cases inn with
  | true =>
    by_cases h4 : (n : Int) = 0
    · cases zero with
      | true => exact key 1 (by unfold errS okP; simp) (refErr5 w endp max tog A n c len h0 h1 h2 h3 h4)
      | false =>
        by_cases h5 : len < 0
        · exact key 1 (by unfold errS okP; simp; omega) (refErr6 w endp max tog A n c len h0 h1 h2 h3 h4 h5)
        by_cases h6 : 65536 < len
        · exact key 3 (by unfold errS okP; rw [decide_eq_true hb]; simp; omega) (refErr7 w endp max tog A n c len h0 h1 h2 h3 h4 h5 h6)
        · exact key 0 (by unfold errS okP; rw [decide_eq_true hb]; simp; omega) (refErr8 w endp max tog A n c len h0 h1 h2 h3 h4 h5 h6)
    · exact key 1 (by unfold errS okP; simp; omega) (refErr4 w zero endp max tog A n c len h0 h1 h2 h3 h4)
  | false =>
    by_cases h4 : len = 0
    · by_cases h5 : 65536 < (n : Int)
      · exact key 3 (by unfold errS okP; rw [decide_eq_true hb]; simp; omega) (refErr10 w zero endp max tog A n c len h0 h1 h2 h3 h4 h5)
      · exact key 0 (by unfold errS okP; rw [decide_eq_true hb]; simp; omega) (refErr11 w zero endp max tog A n c len h0 h1 h2 h3 h4 h5)
    · exact key 1 (by unfold errS okP; simp; omega) (refErr9 w zero endp max tog A n c len h0 h1 h2 h3 h4)
end Go.Proofs.Ytfaocndelibadaa

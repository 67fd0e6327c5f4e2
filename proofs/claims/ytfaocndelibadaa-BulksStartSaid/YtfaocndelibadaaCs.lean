/-
  Helper text: isConsistent, for any plan; no statement is proved here.
-/
import Derived.Test.YtfaocndelibadaaSt
namespace Go.Proofs.Ytfaocndelibadaa
open Go Go.RowKit Go.Shelf
attribute [local go_sem] Oper.semAt_some

set_option maxHeartbeats 2000000 in
theorem cons0 (w : World) (inn : Bool) (zero : Bool) (endp : Nat) (max : Int) (tog : Bool) (A : Option Addr) (n c : Nat) (len : Int) (h0 : (endp : Int) < 1) :
    Calls Try.prog 28 #[planV inn endp max tog A n c zero len] w fun e w' => e = .returned (.bool false) ∧ w' = w.alloc (.cells #[.bool inn, .int .u8 endp, .int .i64 max, .bool tog, .slice A n c, .bool zero, .int .i64 len] 37) := by
  have hp := possible_any w
  go_enter Try.func28, Try.ntmps28
  go_wp2_with (go_at_call 20; refine (possible_any _ max).mono ?_; rintro e w' ⟨rfl, rfl⟩; rw [h2])
  go_ret
  refine ⟨?_, by first | rfl | rw [h4]⟩
  first
    | rfl
    | (show Ending.returned (.bool (decide (0 ≤ len))) = _; simp [h5])
    | (show Ending.returned (.bool (decide (len = 0))) = _; simp [h4])
set_option maxHeartbeats 2000000 in
theorem cons1 (w : World) (inn : Bool) (zero : Bool) (endp : Nat) (max : Int) (tog : Bool) (A : Option Addr) (n c : Nat) (len : Int) (h0 : ¬ (endp : Int) < 1) (h1 : 15 < (endp : Int)) :
    Calls Try.prog 28 #[planV inn endp max tog A n c zero len] w fun e w' => e = .returned (.bool false) ∧ w' = w.alloc (.cells #[.bool inn, .int .u8 endp, .int .i64 max, .bool tog, .slice A n c, .bool zero, .int .i64 len] 37) := by
  have hp := possible_any w
  go_enter Try.func28, Try.ntmps28
  go_wp2_with (go_at_call 20; refine (possible_any _ max).mono ?_; rintro e w' ⟨rfl, rfl⟩; rw [h2])
  go_ret
  refine ⟨?_, by first | rfl | rw [h4]⟩
  first
    | rfl
    | (show Ending.returned (.bool (decide (0 ≤ len))) = _; simp [h5])
    | (show Ending.returned (.bool (decide (len = 0))) = _; simp [h4])
set_option maxHeartbeats 2000000 in
theorem cons2 (w : World) (inn : Bool) (zero : Bool) (endp : Nat) (max : Int) (tog : Bool) (A : Option Addr) (n c : Nat) (len : Int) (h0 : ¬ (endp : Int) < 1) (h1 : ¬ 15 < (endp : Int)) (h2 : decide (1 ≤ max ∧ max ≤ 1024) = false) :
    Calls Try.prog 28 #[planV inn endp max tog A n c zero len] w fun e w' => e = .returned (.bool false) ∧ w' = w.alloc (.cells #[.bool inn, .int .u8 endp, .int .i64 max, .bool tog, .slice A n c, .bool zero, .int .i64 len] 37) := by
  have hp := possible_any w
  go_enter Try.func28, Try.ntmps28
  go_wp2_with (go_at_call 20; refine (possible_any _ max).mono ?_; rintro e w' ⟨rfl, rfl⟩; rw [h2])
  go_ret
  refine ⟨?_, by first | rfl | rw [h4]⟩
  first
    | rfl
    | (show Ending.returned (.bool (decide (0 ≤ len))) = _; simp [h5])
    | (show Ending.returned (.bool (decide (len = 0))) = _; simp [h4])
set_option maxHeartbeats 2000000 in
theorem cons4 (w : World) (zero : Bool) (endp : Nat) (max : Int) (tog : Bool) (A : Option Addr) (n c : Nat) (len : Int) (h0 : ¬ (endp : Int) < 1) (h1 : ¬ 15 < (endp : Int)) (h2 : decide (1 ≤ max ∧ max ≤ 1024) = true) (h4 : ¬ (n : Int) = 0) :
    Calls Try.prog 28 #[planV true endp max tog A n c zero len] w fun e w' => e = .returned (.bool false) ∧ w' = w.alloc (.cells #[.bool true, .int .u8 endp, .int .i64 max, .bool tog, .slice A n c, .bool zero, .int .i64 len] 37) := by
  have hp := possible_any w
  go_enter Try.func28, Try.ntmps28
  go_wp2_with (go_at_call 20; refine (possible_any _ max).mono ?_; rintro e w' ⟨rfl, rfl⟩; rw [h2])
  go_ret
  refine ⟨?_, by first | rfl | rw [h4]⟩
  first
    | rfl
    | (show Ending.returned (.bool (decide (0 ≤ len))) = _; simp [h5])
    | (show Ending.returned (.bool (decide (len = 0))) = _; simp [h4])
set_option maxHeartbeats 2000000 in
theorem cons5 (w : World) (endp : Nat) (max : Int) (tog : Bool) (A : Option Addr) (n c : Nat) (len : Int) (h0 : ¬ (endp : Int) < 1) (h1 : ¬ 15 < (endp : Int)) (h2 : decide (1 ≤ max ∧ max ≤ 1024) = true) (h4 : (n : Int) = 0)  :
    Calls Try.prog 28 #[planV true endp max tog A n c true len] w fun e w' => e = .returned (.bool false) ∧ w' = w.alloc (.cells #[.bool true, .int .u8 endp, .int .i64 max, .bool tog, .slice A n c, .bool true, .int .i64 len] 37) := by
  have hp := possible_any w
  go_enter Try.func28, Try.ntmps28
  go_wp2_with (go_at_call 20; refine (possible_any _ max).mono ?_; rintro e w' ⟨rfl, rfl⟩; rw [h2])
  go_ret
  refine ⟨?_, by first | rfl | rw [h4]⟩
  first
    | rfl
    | (show Ending.returned (.bool (decide (0 ≤ len))) = _; simp [h5])
    | (show Ending.returned (.bool (decide (len = 0))) = _; simp [h4])
set_option maxHeartbeats 2000000 in
theorem cons6 (w : World) (endp : Nat) (max : Int) (tog : Bool) (A : Option Addr) (n c : Nat) (len : Int) (h0 : ¬ (endp : Int) < 1) (h1 : ¬ 15 < (endp : Int)) (h2 : decide (1 ≤ max ∧ max ≤ 1024) = true) (h4 : (n : Int) = 0) (h5 : ¬ 0 ≤ len) :
    Calls Try.prog 28 #[planV true endp max tog A n c false len] w fun e w' => e = .returned (.bool false) ∧ w' = w.alloc (.cells #[.bool true, .int .u8 endp, .int .i64 max, .bool tog, .slice A n c, .bool false, .int .i64 len] 37) := by
  have hp := possible_any w
  go_enter Try.func28, Try.ntmps28
  go_wp2_with (go_at_call 20; refine (possible_any _ max).mono ?_; rintro e w' ⟨rfl, rfl⟩; rw [h2])
  go_ret
  refine ⟨?_, by first | rfl | rw [h4]⟩
  first
    | rfl
    | (show Ending.returned (.bool (decide (0 ≤ len))) = _; simp [h5])
    | (show Ending.returned (.bool (decide (len = 0))) = _; simp [h4])
set_option maxHeartbeats 2000000 in
theorem cons8 (w : World) (endp : Nat) (max : Int) (tog : Bool) (A : Option Addr) (n c : Nat) (len : Int) (h0 : ¬ (endp : Int) < 1) (h1 : ¬ 15 < (endp : Int)) (h2 : decide (1 ≤ max ∧ max ≤ 1024) = true) (h4 : (n : Int) = 0) (h5 : 0 ≤ len) :
    Calls Try.prog 28 #[planV true endp max tog A n c false len] w fun e w' => e = .returned (.bool true) ∧ w' = w.alloc (.cells #[.bool true, .int .u8 endp, .int .i64 max, .bool tog, .slice A n c, .bool false, .int .i64 len] 37) := by
  have hp := possible_any w
  go_enter Try.func28, Try.ntmps28
  go_wp2_with (go_at_call 20; refine (possible_any _ max).mono ?_; rintro e w' ⟨rfl, rfl⟩; rw [h2])
  go_ret
  refine ⟨?_, by first | rfl | rw [h4]⟩
  first
    | rfl
    | (show Ending.returned (.bool (decide (0 ≤ len))) = _; simp [h5])
    | (show Ending.returned (.bool (decide (len = 0))) = _; simp [h4])
set_option maxHeartbeats 2000000 in
theorem cons9 (w : World) (zero : Bool) (endp : Nat) (max : Int) (tog : Bool) (A : Option Addr) (n c : Nat) (len : Int) (h0 : ¬ (endp : Int) < 1) (h1 : ¬ 15 < (endp : Int)) (h2 : decide (1 ≤ max ∧ max ≤ 1024) = true) (h4 : ¬ len = 0) :
    Calls Try.prog 28 #[planV false endp max tog A n c zero len] w fun e w' => e = .returned (.bool false) ∧ w' = w.alloc (.cells #[.bool false, .int .u8 endp, .int .i64 max, .bool tog, .slice A n c, .bool zero, .int .i64 len] 37) := by
  have hp := possible_any w
  go_enter Try.func28, Try.ntmps28
  go_wp2_with (go_at_call 20; refine (possible_any _ max).mono ?_; rintro e w' ⟨rfl, rfl⟩; rw [h2])
  go_ret
  refine ⟨?_, by first | rfl | rw [h4]⟩
  first
    | rfl
    | (show Ending.returned (.bool (decide (0 ≤ len))) = _; simp [h5])
    | (show Ending.returned (.bool (decide (len = 0))) = _; simp [h4])
set_option maxHeartbeats 2000000 in
theorem cons11 (w : World) (zero : Bool) (endp : Nat) (max : Int) (tog : Bool) (A : Option Addr) (n c : Nat) (len : Int) (h0 : ¬ (endp : Int) < 1) (h1 : ¬ 15 < (endp : Int)) (h2 : decide (1 ≤ max ∧ max ≤ 1024) = true) (h4 : len = 0) :
    Calls Try.prog 28 #[planV false endp max tog A n c zero len] w fun e w' => e = .returned (.bool true) ∧ w' = w.alloc (.cells #[.bool false, .int .u8 endp, .int .i64 max, .bool tog, .slice A n c, .bool zero, .int .i64 len] 37) := by
  have hp := possible_any w
  go_enter Try.func28, Try.ntmps28
  go_wp2_with (go_at_call 20; refine (possible_any _ max).mono ?_; rintro e w' ⟨rfl, rfl⟩; rw [h2])
  go_ret
  refine ⟨?_, by first | rfl | rw [h4]⟩
  first
    | rfl
    | (show Ending.returned (.bool (decide (0 ≤ len))) = _; simp [h5])
    | (show Ending.returned (.bool (decide (len = 0))) = _; simp [h4])
theorem cons_any (w : World) (inn : Bool) (endp : Nat) (max : Int) (tog : Bool) (A : Option Addr) (n c : Nat) (zero : Bool) (len : Int) :
    Calls Try.prog 28 #[planV inn endp max tog A n c zero len] w fun e w' => e = .returned (.bool (okP inn endp max n zero len)) ∧ w' = w.alloc (.cells #[.bool inn, .int .u8 endp, .int .i64 max, .bool tog, .slice A n c, .bool zero, .int .i64 len] 37) := by
  have key : ∀ v : Bool, okP inn endp max n zero len = v → Calls Try.prog 28 #[planV inn endp max tog A n c zero len] w (fun e w' => e = .returned (.bool v) ∧ w' = w.alloc (.cells #[.bool inn, .int .u8 endp, .int .i64 max, .bool tog, .slice A n c, .bool zero, .int .i64 len] 37)) → Calls Try.prog 28 #[planV inn endp max tog A n c zero len] w fun e w' => e = .returned (.bool (okP inn endp max n zero len)) ∧ w' = w.alloc (.cells #[.bool inn, .int .u8 endp, .int .i64 max, .bool tog, .slice A n c, .bool zero, .int .i64 len] 37) := fun v e h => by rw [e]; exact h
  by_cases h0 : (endp : Int) < 1
  · exact key false (by unfold okP; simp; omega) (cons0 w inn zero endp max tog A n c len h0)
  by_cases h1 : 15 < (endp : Int)
  · exact key false (by unfold okP; simp; omega) (cons1 w inn zero endp max tog A n c len h0 h1)
  by_cases h2 : 1 ≤ max ∧ max ≤ 1024
  · have hb : (1 ≤ endp ∧ endp ≤ 15 ∧ 1 ≤ max ∧ max ≤ 1024) := by omega
    replace h2 := decide_eq_true h2
    cases inn with
    | true =>
      by_cases h4 : (n : Int) = 0
      · cases zero with
        | true => exact key false (by unfold okP; simp) (cons5 w endp max tog A n c len h0 h1 h2 h4)
        | false =>
          by_cases h5 : 0 ≤ len
          · exact key true (by unfold okP; rw [decide_eq_true hb]; simp; omega) (cons8 w endp max tog A n c len h0 h1 h2 h4 h5)
          · exact key false (by unfold okP; simp; omega) (cons6 w endp max tog A n c len h0 h1 h2 h4 h5)
      · exact key false (by unfold okP; simp; omega) (cons4 w zero endp max tog A n c len h0 h1 h2 h4)
    | false =>
      by_cases h4 : len = 0
      · exact key true (by unfold okP; rw [decide_eq_true hb]; simp; omega) (cons11 w zero endp max tog A n c len h0 h1 h2 h4)
      · exact key false (by unfold okP; simp; omega) (cons9 w zero endp max tog A n c len h0 h1 h2 h4)
  · replace h2' := decide_eq_false h2
    exact key false (by unfold okP; simp; omega) (cons2 w inn zero endp max tog A n c len h0 h1 h2')
end Go.Proofs.Ytfaocndelibadaa

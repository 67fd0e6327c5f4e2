/-
  Helper text: plans of transfers, and what is asked of them; no statement is proved here.
-/
import Derived.Test.YtochkonjfhhiiaaCf
import Derived.Deep.QuietTactic
import Derived.BigQuiet
namespace Go.Proofs.Ytochkonjfhhiiaa
open Go Go.RowKit

abbrev planP (inn : Bool) (endp : Nat) (max : Int) (A : Option Addr) (n c : Nat) (many : Int) : Value := .agg #[.bool inn, .int .u8 endp, .int .i64 max, .slice A n c, .int .i64 many]
/-- The fields are in range, and go together. -/
def okF (inn : Bool) (endp : Nat) (max : Int) (n : Nat) (many : Int) : Bool := decide (1 ≤ endp ∧ endp ≤ 15 ∧ 1 ≤ max ∧ max ≤ 1024) && (if inn then decide (n = 0) && decide (1 ≤ many) else decide (0 < n) && decide (many = 0))
def sizeF (inn : Bool) (n : Nat) (many : Int) : Int := if inn then many else n

set_option maxHeartbeats 3200000 in
theorem cons10_any (w : World) (inn : Bool) (endp : Nat) (max : Int) (A : Option Addr) (n c : Nat) (many : Int) :
    Calls Try.prog 27 #[planP inn endp max A n c many] w fun e w' => e = .returned (.bool (okF inn endp max n many)) ∧ Below w.heap.size w w' := by
  have hb := (Below.refl w.heap.size w).alloc (Nat.le_refl _) (.cells #[.bool inn, .int .u8 endp, .int .i64 max, .slice A n c, .int .i64 many] 42)
  have key : ∀ v : Bool, okF inn endp max n many = v → Calls Try.prog 27 #[planP inn endp max A n c many] w (fun e w' => e = .returned (.bool v) ∧ Below w.heap.size w w') → Calls Try.prog 27 #[planP inn endp max A n c many] w (fun e w' => e = .returned (.bool (okF inn endp max n many)) ∧ Below w.heap.size w w') := fun v h k => by rw [h]; exact k
  by_cases h0 : endp < 1
  · refine key false (by simp [okF]; omega) ?_
    have h0' : (endp : Int) < 1 := by omega
    go_enter Try.func27, Try.ntmps27
    go_wp2
    go_ret
    exact ⟨rfl, hb⟩
  by_cases h1 : 15 < endp
  · refine key false (by simp [okF]; omega) ?_
    have h0' : ¬ (endp : Int) < 1 := by omega
    have h1' : (15 : Int) < endp := by omega
    go_enter Try.func27, Try.ntmps27
    go_wp2
    go_ret
    exact ⟨rfl, hb⟩
  have h0' : ¬ (endp : Int) < 1 := by omega
  have h1' : ¬ (15 : Int) < endp := by omega
  by_cases h2 : max < 1
  · refine key false (by simp [okF]; omega) ?_
    go_enter Try.func27, Try.ntmps27
    go_wp2
    go_ret
    exact ⟨rfl, hb⟩
  by_cases h3 : 1024 < max
  · refine key false (by simp [okF]; omega) ?_
    go_enter Try.func27, Try.ntmps27
    go_wp2
    go_ret
    exact ⟨rfl, hb⟩
  have hr : decide (1 ≤ endp ∧ endp ≤ 15 ∧ 1 ≤ max ∧ max ≤ 1024) = true := decide_eq_true ⟨by omega, by omega, by omega, by omega⟩
  cases inn with
  | true =>
    by_cases h4 : n = 0
    · have h4' : (n : Int) = 0 := by omega
      by_cases h5 : 1 ≤ many
      · refine key true (by simp [okF, h4, h5]; omega) ?_
        subst h4
        clear hr
        go_enter Try.func27, Try.ntmps27
        go_wp2
        go_ret
        exact ⟨rfl, hb⟩
      · refine key false (by simp [okF]; omega) ?_
        subst h4
        clear hr
        go_enter Try.func27, Try.ntmps27
        go_wp2
        go_ret
        exact ⟨rfl, hb⟩
    · have h4' : ((n : Int) == 0) = false := by rw [beq_eq_false_iff_ne]; omega
      refine key false (by simp [okF, h4]) ?_
      clear hr
      go_enter Try.func27, Try.ntmps27
      go_wp2
      go_ret
      exact ⟨rfl, hb⟩
  | false =>
    by_cases h4 : 0 < n
    · have h4' : (0 : Int) < n := by omega
      by_cases h5 : many = 0
      · refine key true (by simp [okF, h4, h5]; omega) ?_
        subst h5
        clear hr
        go_enter Try.func27, Try.ntmps27
        go_wp2
        go_ret
        exact ⟨rfl, hb⟩
      · have h5' : (many == 0) = false := by rw [beq_eq_false_iff_ne]; omega
        refine key false (by simp [okF, h5]) ?_
        clear hr
        go_enter Try.func27, Try.ntmps27
        go_wp2
        go_ret
        exact ⟨rfl, hb⟩
    · have h4' : ¬ (0 : Int) < n := by omega
      refine key false (by simp [okF, h4]) ?_
      clear hr
      go_enter Try.func27, Try.ntmps27
      go_wp2
      go_ret
      exact ⟨rfl, hb⟩

theorem size_any (w : World) (B : Nat) (inn : Bool) (A : Option Addr) (n c : Nat) (many : Int) (h0 : w.cell? ⟨B, 0, none⟩ = some (.bool inn)) (h3 : w.cell? ⟨B, 3, none⟩ = some (.slice A n c)) (h4 : w.cell? ⟨B, 4, none⟩ = some (.int .i64 many)) :
    Calls Try.prog 28 #[.pointer (some ⟨B, 0, none⟩)] w (Same w (.int .i64 (sizeF inn n many))) := by
  cases inn with
  | true =>
    go_enter Try.func28, Try.ntmps28
    go_wp2
    go_ret
    exact ⟨rfl, rfl⟩
  | false =>
    go_enter Try.func28, Try.ntmps28
    go_wp2
    go_ret
    exact ⟨rfl, rfl⟩

/-- Whether a transfer is under way: the world has only been drawn from. -/
theorem under_any (w : World) (B : Nat) (inn : Bool) (A : Option Addr) (n c : Nat) (many count : Int) (h0 : w.cell? ⟨B, 0, none⟩ = some (.bool inn)) (h3 : w.cell? ⟨B, 3, none⟩ = some (.slice A n c)) (h4 : w.cell? ⟨B, 4, none⟩ = some (.int .i64 many)) (h5 : w.cell? ⟨B, 5, none⟩ = some (.int .i64 count)) :
    Calls Try.prog 31 #[.pointer (some ⟨B, 0, none⟩)] w fun e w' => e = .returned (.bool (decide (count < sizeF inn n many))) ∧ ∃ k, w' = w.drewN k := by
  have K := Lib.hid fun k => size_any (w.drewN k) B inn A n c many h0 h3 h4
  clear h3 h4 h0
  go_enter Try.func31, Try.ntmps31
  go_wp2_with fail
  go_quiet ((go_at_call 28; refine Calls.quiet_of_same (K.out _)))
  go_wp2_with fail
  go_ret
  exact ⟨rfl, _, rfl⟩
end Go.Proofs.Ytochkonjfhhiiaa

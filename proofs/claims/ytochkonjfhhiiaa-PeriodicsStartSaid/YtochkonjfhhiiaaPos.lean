/-
  Helper text: which periods and phases there are, and which ticks are due; no statement is proved here.
-/
import Derived.Test.YtochkonjfhhiiaaReg
import Derived.Test.YtochkonjfhhiiaaProg
import Derived.Test.YtochkonjfhhiiaaChecked
namespace Go.Proofs.Ytochkonjfhhiiaa
open Go Go.RowKit

/-- The powers of 2 from 1 to 256. -/
def isPow (p : Int) : Bool := decide (p = 1) || decide (p = 2) || decide (p = 4) || decide (p = 8) || decide (p = 16) || decide (p = 32) || decide (p = 64) || decide (p = 128) || decide (p = 256)
def posB (p f : Int) : Bool := isPow p && (decide (0 ≤ f) && decide (f < p))
theorem isPow_iff {p : Int} : isPow p = true ↔ p = 1 ∨ p = 2 ∨ p = 4 ∨ p = 8 ∨ p = 16 ∨ p = 32 ∨ p = 64 ∨ p = 128 ∨ p = 256 := by
  simp [isPow, or_assoc]
theorem isPow_pos {p : Int} (h : isPow p = true) : 1 ≤ p ∧ p ≤ 256 := by
  have := isPow_iff.1 h
  omega
theorem posB_iff {p f : Int} : posB p f = true ↔ isPow p = true ∧ 0 ≤ f ∧ f < p := by simp [posB]
theorem pow_bits {p : Int} (h1 : 1 ≤ p) (h2 : p ≤ 256) : (bits .and .i64 p (p - 1) = 0) ↔ isPow p = true := by
  have H : ∀ x : Fin 257, 1 ≤ (x.val : Int) → ((bits .and .i64 (x.val : Int) ((x.val : Int) - 1) = 0) ↔ isPow (x.val : Int) = true) := by decide +kernel
  have := H ⟨p.toNat, by omega⟩
  simp only [Int.toNat_of_nonneg (show 0 ≤ p by omega)] at this
  exact this h1

/-- What is returned is v, and the world is as it was. -/
abbrev Same (w : World) (v : Value) (e : Ending) (w' : World) : Prop := e = .returned v ∧ w' = w

set_option maxHeartbeats 800000 in
theorem isPossible_any (w : World) (p f : Int) (hp : p ≤ 9223372036854775807) : Calls Try.prog 23 #[.int .i64 p, .int .i64 f] w (Same w (.bool (posB p f))) := by
  by_cases h0 : 0 ≤ f
  · by_cases h1 : f < p
    · by_cases h2 : p ≤ 256
      · have hb := pow_bits (p := p) (by omega) h2
        by_cases h3 : isPow p = true
        · have hz := hb.2 h3
          have hv : posB p f = true := posB_iff.2 ⟨h3, h0, h1⟩
          rw [hv]
          clear hb h3 hv
          go_enter Try.func23, Try.ntmps23
          go_wp2
          go_ret
          exact ⟨rfl, rfl⟩
        · have hz : ¬ bits .and .i64 p (p - 1) = 0 := fun e => h3 (hb.1 e)
          have hv : posB p f = false := by simp [posB, h3]
          rw [hv]
          have hzb : (bits .and .i64 p (p - 1) == 0) = false := by rw [beq_eq_false_iff_ne]; exact hz
          clear hb h3 hv
          go_enter Try.func23, Try.ntmps23
          go_wp2
          go_ret
          exact ⟨by simp [hz], rfl⟩
      · have hv : posB p f = false := by
          cases h : posB p f with
          | false => rfl
          | true => have := isPow_pos (posB_iff.1 h).1; omega
        rw [hv]
        clear hv
        go_enter Try.func23, Try.ntmps23
        go_wp2
        go_ret
        exact ⟨rfl, rfl⟩
    · have hv : posB p f = false := by simp [posB, h1]
      rw [hv]
      clear hv
      go_enter Try.func23, Try.ntmps23
      go_wp2
      go_ret
      exact ⟨rfl, rfl⟩
  · have hv : posB p f = false := by simp [posB, h0]
    rw [hv]
    clear hv
    go_enter Try.func23, Try.ntmps23
    go_wp2
    go_ret
    exact ⟨rfl, rfl⟩
end Go.Proofs.Ytochkonjfhhiiaa

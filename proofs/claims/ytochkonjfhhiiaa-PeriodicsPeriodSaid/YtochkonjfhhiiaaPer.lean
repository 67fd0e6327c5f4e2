/-
  Helper text: the periods of pipes; no statement is proved here.
-/
import Derived.Test.YtochkonjfhhiiaaRef
import Derived.WalkMore
namespace Go.Proofs.Ytochkonjfhhiiaa
open Go Go.RowKit

set_option maxHeartbeats 800000 in
theorem gp_any (w : World) (n : Int) (h1 : 1 ≤ n) (h2 : n ≤ 255) : Calls Try.prog 22 #[.int .i64 n] w fun e w' => (∃ g, e = .returned (.int .i64 g) ∧ RowKit.Hid (isPow g = true ∧ g ≤ n ∧ n < 2 * g)) ∧ w' = w := by
  obtain ⟨q, hq⟩ : ∃ q, n.tdiv 2 = q := ⟨_, rfl⟩
  have hq2 : n.tdiv 2 = n / 2 := Int.tdiv_eq_ediv_of_nonneg (by omega)
  have hq3 : 2 * q ≤ n := by omega
  have hq4 : n < 2 * q + 2 := by omega
  have hq5 : IntKind.i64.wrap q = q := by simp only [IntKind.wrap_i64]; omega
  clear hq2
  go_enter Try.func22, Try.ntmps22
  go_wp2
  go_step3
  go_wp2
  go_step3
  go_wp2
  go_loop [3] (fun v => ∃ g : Int, v = .int .i64 g ∧ RowKit.Hid (isPow g = true ∧ g ≤ n)) (fun v => (n - intOf v).toNat)
  case atStart => exact ⟨1, rfl, Lib.hid ⟨by decide, h1⟩⟩
  case round =>
    obtain ⟨g, rfl, hg⟩ := hrel
    have hg1 := isPow_pos hg.out.1
    have hg2 := hg.out.2
    by_cases hlt : q < g
    · go_wp2
      try rw [Exit.noGoto_ret]
      go_ret
      exact ⟨⟨g, rfl, Lib.hid ⟨hg.out.1, hg2, by omega⟩⟩, rfl⟩
    · go_wp2
      go_round
      case rel =>
        refine ⟨g * 2, rfl, Lib.hid ⟨?_, by omega⟩⟩
        have := isPow_iff.1 hg.out.1
        apply isPow_iff.2
        omega
      case measure => simp [intOf]; omega

def rp (n : Int) : Int := if 32 ≤ n then 32 else if 16 ≤ n then 16 else if 8 ≤ n then 8 else if 4 ≤ n then 4 else if 2 ≤ n then 2 else 1
theorem rp_of {g n : Int} (h : isPow g = true) (h1 : g ≤ n) (h2 : n < 2 * g) : (if g ≤ 32 then g else 32) = rp n := by
  unfold rp
  rcases isPow_iff.1 h with rfl | rfl | rfl | rfl | rfl | rfl | rfl | rfl | rfl <;> (repeat' split) <;> omega
theorem rp_pow (n : Int) : isPow (8 * rp n) = true := by
  unfold rp
  repeat' split
  all_goals decide
def pw (n : Int) : Int := ((2 ^ (n - 1).toNat : Nat) : Int)
theorem pw_succ (m : Nat) : pw ((m : Int) + 1) = ((2 ^ m : Nat) : Int) := by
  unfold pw
  congr 2
  omega
theorem pow_le {m : Nat} (h : m ≤ 15) : 1 ≤ 2 ^ m ∧ 2 ^ m ≤ 32768 := ⟨Nat.one_le_two_pow, by have := Nat.pow_le_pow_right (n := 2) (by omega) h; omega⟩
def perI (s k : Nat) (n : Int) : Int :=
  if (s = 0 ∨ s = 1) ∧ k = 3 ∧ 1 ≤ n ∧ n ≤ 255 then 8 * rp n
  else if s = 1 ∧ k = 1 ∧ 1 ≤ n ∧ n ≤ 16 then 8 * min (pw n) 32
  else if s = 2 ∧ (k = 1 ∨ k = 3) ∧ 1 ≤ n ∧ n ≤ 16 then min (pw n) 256
  else 0
theorem perI_pow (s k : Nat) (n : Int) : perI s k n = 0 ∨ isPow (perI s k n) = true := by
  unfold perI
  split
  · exact .inr (rp_pow n)
  · split
    · rename_i h
      obtain ⟨m, rfl⟩ : ∃ m : Nat, n = (m : Int) + 1 := ⟨(n - 1).toNat, by omega⟩
      rw [pw_succ]
      have H : ∀ x : Fin 16, isPow (8 * min ((2 ^ x.val : Nat) : Int) 32) = true := by decide +kernel
      exact .inr (H ⟨m, by omega⟩)
    · split
      · rename_i h
        obtain ⟨m, rfl⟩ : ∃ m : Nat, n = (m : Int) + 1 := ⟨(n - 1).toNat, by omega⟩
        rw [pw_succ]
        have H : ∀ x : Fin 16, isPow (min ((2 ^ x.val : Nat) : Int) 256) = true := by decide +kernel
        exact .inr (H ⟨m, by omega⟩)
      · exact .inl rfl
theorem pow_div {a b : Int} (ha : isPow a = true) (hb : isPow b = true) : a % b = 0 ∨ b % a = 0 := by
  rcases isPow_iff.1 ha with rfl | rfl | rfl | rfl | rfl | rfl | rfl | rfl | rfl <;> rcases isPow_iff.1 hb with rfl | rfl | rfl | rfl | rfl | rfl | rfl | rfl | rfl <;> decide

/-- What Period returns: a period, or 0 and an error. -/
abbrev PerPost (w : World) (z : Int) (e : Ending) (w' : World) : Prop := e = .returned (.tuple #[.int .i64 z, .int .i64 (if z = 0 then 1 else 0)]) ∧ w' = w

-- GENERATED
theorem per_zero {s k : Nat} {n : Int} (h : perI s k n = 0) : ¬ ((s = 0 ∨ s = 1) ∧ k = 3 ∧ 1 ≤ n ∧ n ≤ 255) ∧ ¬ (s = 1 ∧ k = 1 ∧ 1 ≤ n ∧ n ≤ 16) ∧ ¬ (s = 2 ∧ (k = 1 ∨ k = 3) ∧ 1 ≤ n ∧ n ≤ 16) := by
  unfold perI at h
  have hr : 1 ≤ rp n := by unfold rp; repeat' split <;> omega
  have hp : 1 ≤ pw n := by unfold pw; exact_mod_cast Nat.one_le_two_pow
  refine ⟨fun e => ?_, fun e => ?_, fun e => ?_⟩
  · rw [if_pos e] at h; omega
  · rw [if_neg (by omega), if_pos e] at h; omega
  · rw [if_neg (by omega), if_neg (by omega), if_pos e] at h; omega
set_option maxHeartbeats 3200000 in
theorem per_bad (w : World) (s k : Nat) (n : Int) (h : perI s k n = 0) : Calls Try.prog 8 #[.int .u8 (s : Int), .int .u8 (k : Int), .int .i64 n] w (PerPost w 0) := by
  have H := per_zero h
  have HH := Lib.hid H
  clear H h
  have hs : s = 0 ∨ s = 1 ∨ s = 2 ∨ (¬ (s : Int) = 0 ∧ ¬ (s : Int) = 1 ∧ ¬ (s : Int) = 2 ∧ ((s : Int) == 0) = false ∧ ((s : Int) == 1) = false ∧ ((s : Int) == 2) = false) := by simp only [beq_eq_false_iff_ne]; omega
  have hk : k = 1 ∨ k = 3 ∨ (¬ (k : Int) = 1 ∧ ¬ (k : Int) = 3 ∧ ((k : Int) == 1) = false ∧ ((k : Int) == 3) = false) := by simp only [beq_eq_false_iff_ne]; omega
  have hn : n < 1 ∨ (1 ≤ n ∧ n ≤ 16) ∨ (16 < n ∧ n ≤ 255) ∨ 255 < n := by omega
  rcases hs with rfl | rfl | rfl | ⟨s0, s1, s2, s3, s4, s5⟩ <;> rcases hk with rfl | rfl | ⟨k0, k1, k2, k3⟩ <;> rcases hn with n1 | ⟨n1, n2⟩ | ⟨n1, n2⟩ | n1 <;>
    first
    | (exfalso; have := HH.out; omega)
    | (go_enter Try.func8, Try.ntmps8
       go_wp2
       go_ret2
       exact ⟨rfl, rfl⟩)

end Go.Proofs.Ytochkonjfhhiiaa

/-
  Helper text: Five, Join and Part; no statement is proved here.
-/
import Derived.Test.YtfblpakoibadoaaDoorCkFive
namespace Go.Proofs.YtfblpakoibadoaaDoor.Ck
open Go Go.RowKit

theorem div_zero_iff (v n : Nat) : ((v : Int) / 2 ^ n == 0) = decide (v < 2 ^ n) := by
  have h : (v : Int) / 2 ^ n = ((v / 2 ^ n : Nat) : Int) := by simp only [Int.natCast_ediv, Int.natCast_pow]; rfl
  rw [h]
  by_cases hv : v < 2 ^ n
  · rw [Nat.div_eq_of_lt hv, decide_eq_true hv]; rfl
  · have : v / 2 ^ n ≠ 0 := by rw [Nat.ne_zero_iff_zero_lt]; exact Nat.div_pos (by omega) (Nat.two_pow_pos n)
    rw [decide_eq_false hv]
    generalize v / 2 ^ n = q at this
    simpa using this
theorem bor32 {a b : Nat} (ha : a < 2 ^ 32) (hb : b < 2 ^ 32) : bits .or .u32 (a : Int) (b : Int) = ((a ||| b : Nat) : Int) := by
  refine (bits_nat .u32 32 (by decide) (fun n h0 h1 => ?_) a b ha hb).2
  rw [IntKind.wrap_u32]; omega
theorem join_val {v n c : Nat} (hn : n ≤ 24) (hv : v < 2 ^ n) (hc : c < 2 ^ 5) : bits .or .u32 (v : Int) ((c : Int) * 2 ^ n % 4294967296) = ((v + 2 ^ n * c : Nat) : Int) := by
  have hp : 2 ^ n ≤ 2 ^ 24 := Nat.pow_le_pow_right (by omega) hn
  have hb : 2 ^ n * c < 2 ^ 32 := by
    have := Nat.mul_le_mul hp (by omega : c ≤ 31)
    omega
  have e : (c : Int) * 2 ^ n % 4294967296 = ((2 ^ n * c : Nat) : Int) := by
    have : (c : Int) * 2 ^ n = ((2 ^ n * c : Nat) : Int) := by
      rw [Nat.mul_comm]; simp only [Int.natCast_mul, Int.natCast_pow]; rfl
    rw [this]; omega
  rw [e, bor32 (by omega) hb, Nat.or_comm, ← Nat.two_pow_add_eq_or_of_lt hv, Nat.add_comm]

set_option maxHeartbeats 800000 in
set_option maxRecDepth 100000 in
theorem fits_neg (w : World) (v n m : Int) (h : n < 0) :
    Calls Tryd.prog 52 #[.int .u32 v, .int .i64 n, .int .i64 m] w fun e w' => e = .returned (.bool false) ∧ w' = w := by
  go_enter Tryd.func52, Tryd.ntmps52
  go_wp2
  go_ret
  exact ⟨rfl, rfl⟩
set_option maxHeartbeats 800000 in
set_option maxRecDepth 100000 in
theorem fits_most (w : World) (v n m : Int) (h0 : 0 ≤ n) (h : m < n) :
    Calls Tryd.prog 52 #[.int .u32 v, .int .i64 n, .int .i64 m] w fun e w' => e = .returned (.bool false) ∧ w' = w := by
  go_enter Tryd.func52, Tryd.ntmps52
  go_wp2
  go_ret
  exact ⟨rfl, rfl⟩
set_option maxHeartbeats 800000 in
set_option maxRecDepth 100000 in
theorem fits_v (w : World) (v n : Nat) (m : Int) (h : (n : Int) ≤ m) (hm : m ≤ 29) :
    Calls Tryd.prog 52 #[.int .u32 (v : Int), .int .i64 (n : Int), .int .i64 m] w fun e w' => e = .returned (.bool (decide (v < 2 ^ n))) ∧ w' = w := by
  go_enter Tryd.func52, Tryd.ntmps52
  go_wp2
  go_ret
  refine ⟨?_, rfl⟩
  rw [← div_zero_iff v n]
  rfl

/-- A number of n bits, of which there may be m. -/
def Fit (v : Nat) (n m : Int) : Prop := 0 ≤ n ∧ n ≤ m ∧ v < 2 ^ n.toNat
instance (v : Nat) (n m : Int) : Decidable (Fit v n m) := by unfold Fit; infer_instance

theorem fits_any (w : World) (v : Nat) (n m : Int) (hm : m ≤ 29) :
    Calls Tryd.prog 52 #[.int .u32 (v : Int), .int .i64 n, .int .i64 m] w fun e w' => e = .returned (.bool (decide (Fit v n m))) ∧ w' = w := by
  by_cases h0 : n < 0
  · rw [decide_eq_false (show ¬ Fit v n m from fun h => by have := h.1; omega)]
    exact fits_neg w v n m h0
  · by_cases h1 : m < n
    · rw [decide_eq_false (show ¬ Fit v n m from fun h => by have := h.2.1; omega)]
      exact fits_most w v n m (by omega) h1
    · obtain ⟨k, rfl⟩ : ∃ k : Nat, n = (k : Int) := ⟨n.toNat, by omega⟩
      have : decide (Fit v (k : Int) m) = decide (v < 2 ^ k) :=
        decide_eq_decide.2 ⟨fun h => by have := h.2.2; rwa [Int.toNat_natCast] at this, fun h => ⟨by omega, by omega, by rwa [Int.toNat_natCast]⟩⟩
      rw [this]
      exact fits_v w v k m (by omega) hm

/-- A number and an error number are returned; what was there is as it was. -/
def ResN (w : World) (K : IntKind) (x : Nat) (n : Int) (e : Ending) (w' : World) : Prop := e = .returned (.tuple #[.int K (x : Int), .int .i64 n]) ∧ Below w.heap.size w w'

set_option maxHeartbeats 800000 in
set_option maxRecDepth 100000 in
theorem Join_bad (w : World) (v : Nat) (n : Int) (h : ¬ Fit v n 24) : Calls Tryd.prog 37 #[.int .u32 (v : Int), .int .i64 n] w (ResN w .u32 0 1) := by
  go_enter Tryd.func37, Tryd.ntmps37
  go_wp2_with fail
  refine (fits_any w v n 24 (by omega)).mono ?_
  rintro e w1 ⟨rfl, rfl⟩
  rw [decide_eq_false h]
  go_wp2
  go_ret2
  exact ⟨rfl, Below.refl _ _⟩
set_option maxHeartbeats 800000 in
set_option maxRecDepth 100000 in
theorem Join_good (w : World) (hL : Laid w) (v n : Nat) (hn : n ≤ 24) (hv : v < 2 ^ n) : Calls Tryd.prog 37 #[.int .u32 (v : Int), .int .i64 (n : Int)] w (ResN w .u32 (v + 2 ^ n * chk 20 5 n v) 0) := by
  have hc := chk_lt (m := 20) (d := 5) (by decide) hv
  have hj := join_val hn hv hc
  generalize hJ : v + 2 ^ n * chk 20 5 n v = J at hj ⊢
  clear hJ
  go_enter Tryd.func37, Tryd.ntmps37
  go_wp2_with fail
  refine (fits_any w v n 24 (by omega)).mono ?_
  rintro e w1 ⟨rfl, rfl⟩
  rw [decide_eq_true ⟨by omega, by omega, hv⟩]
  go_wp2_with fail
  refine (five_any w1 hL n v (by omega) hv).mono ?_
  rintro e w2 ⟨rfl, hb⟩
  generalize chk 20 5 n v = c at hc hj
  go_wp2
  go_ret2
  exact ⟨rfl, hb⟩

end Go.Proofs.YtfblpakoibadoaaDoor.Ck

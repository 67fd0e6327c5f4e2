/-
  Helper text: how many states a packet has at most; no statement is proved here.
-/
import Derived.Test.YtkmjemaajgdoiaaDoorLvRefC
namespace Go.Proofs.YtkmjemaajgdoiaaDoor
open Go Go.RowKit

/-- The bit times of a packet of n bytes. -/
def worstN (n : Nat) : Nat := 11 + 8 * n + (8 * n + 1) / 6
theorem worstN_le {n : Nat} (h : n ≤ 2000) : worstN n ≤ 20000 := by unfold worstN; omega
theorem worstN_pos (n : Nat) : 11 ≤ worstN n := by unfold worstN; omega
theorem worstN_mono {m n : Nat} (h : m ≤ n) : worstN m ≤ worstN n := by unfold worstN; omega

namespace Lv
theorem emit_append (xs ys : List UInt8) : ∀ n, emit n (xs ++ ys) = ((emit (emit n xs).1 ys).1, (emit n xs).2 ++ (emit (emit n xs).1 ys).2) := by
  induction xs with
  | nil => intro n; simp [emit]
  | cons x xs ih =>
    intro n
    simp only [List.cons_append, emit]
    split
    · rw [ih]; simp
    · rw [ih]; simp
theorem emit_most (xs : List UInt8) : ∀ n, n ≤ 5 → 6 * (emit n xs).2.length + (emit n xs).1 ≤ 7 * xs.length + n := by
  induction xs with
  | nil => intro n _; simp [emit]
  | cons x xs ih =>
    intro n h
    have hb := onesB_le n x
    simp only [emit]
    split
    · rename_i e
      have := ih 0 (by omega)
      simp only [List.length_cons]
      omega
    · have := ih (onesB n x) (by omega)
      simp only [List.length_cons]
      omega
theorem onesB_one (n : Nat) : onesB n 1 = n + 1 := rfl
theorem emit_ones (k : Nat) : ∀ n, n ≤ 5 → 6 * (emit n (List.replicate k 1)).2.length + (emit n (List.replicate k 1)).1 = 7 * k + n := by
  induction k with
  | zero => intro n _; simp [emit]
  | succ k ih =>
    intro n h
    rw [List.replicate_succ]
    simp only [emit]
    split
    · rename_i e
      rw [onesB_one] at e
      have := ih 0 (by omega)
      simp only [List.length_cons]
      omega
    · rename_i e
      have ob := onesB_one n
      have := ih (onesB n 1) (by omega)
      simp only [List.length_cons]
      omega
theorem bitsL_ones (n : Nat) : bitsL (List.replicate n 255) = List.replicate (8 * n) 1 := by
  induction n with
  | zero => rfl
  | succ n ih =>
    have e : bitsL (List.replicate (n + 1) 255) = byteL 255 ++ bitsL (List.replicate n 255) := by
      rw [List.replicate_succ]; simp [bitsL]
    rw [e, ih, show byteL 255 = List.replicate 8 1 from by decide +kernel, List.replicate_append_replicate]
    congr 1
    omega
theorem emit_sync : emit 0 syncL = (1, syncL) := by decide +kernel
theorem stuff_len (xs : List UInt8) : (stuffL (syncL ++ xs)).length = 8 + (emit 1 xs).2.length := by
  rw [stuffL_emit, emit_append, emit_sync, List.length_append, show syncL.length = 8 from rfl]
theorem sendL_len (xs : List UInt8) : (sendL xs).length = 11 + (emit 1 (bitsL xs)).2.length := by
  unfold sendL
  rw [List.length_append, encL_len, stuff_len, show endL.length = 3 from rfl]
  omega
theorem sendL_most (xs : List UInt8) : (sendL xs).length ≤ worstN xs.length := by
  have h := emit_most (bitsL xs) 1 (by omega)
  rw [bitsL_len] at h
  rw [sendL_len]
  unfold worstN
  omega
theorem sendL_ones (n : Nat) : (sendL (List.replicate n 255)).length = worstN n := by
  have h := emit_ones (8 * n) 1 (by omega)
  have h1 := emit_le (List.replicate (8 * n) 1) 1 (by omega)
  rw [sendL_len, bitsL_ones]
  unfold worstN
  omega
end Lv

end Go.Proofs.YtkmjemaajgdoiaaDoor

/-
  Helper text: packets joined: what becomes of a list, as lists; no statement is proved here.
-/
import Derived.Test.YtfaocndelibadaaCfJ
import Derived.Test.YtfaocndelibadaaPkL
namespace Go.Proofs.Ytfaocndelibadaa
open Go Go.RowKit

/-- The transfers behind k packets, and where the next one begins. -/
def jS (max : Int) (ps : List (List UInt8)) : Nat → List (List UInt8) × Nat
  | 0 => ([], 0)
  | k + 1 => if ((ps.getD k []).length : Int) < max then ((jS max ps k).1 ++ [((ps.take (k + 1)).drop (jS max ps k).2).flatten], k + 1) else jS max ps k
/-- The rest behind k packets. -/
def jR (max : Int) (ps : List (List UInt8)) (k : Nat) : List UInt8 := ((ps.take k).drop (jS max ps k).2).flatten
theorem jS_le (max : Int) (ps : List (List UInt8)) : ∀ k, (jS max ps k).2 ≤ k ∧ (jS max ps k).1.length ≤ k := fun k => by
  induction k with
  | zero => exact ⟨Nat.le_refl _, Nat.le_refl _⟩
  | succ k ih =>
    unfold jS
    split
    · exact ⟨Nat.le_refl _, by simp; omega⟩
    · exact ⟨by omega, by omega⟩
theorem jS_short {max : Int} {ps : List (List UInt8)} {k : Nat} (h : ((ps.getD k []).length : Int) < max) : jS max ps (k + 1) = ((jS max ps k).1 ++ [((ps.take (k + 1)).drop (jS max ps k).2).flatten], k + 1) := by
  rw [jS, if_pos h]
theorem jS_full {max : Int} {ps : List (List UInt8)} {k : Nat} (h : ¬ ((ps.getD k []).length : Int) < max) : jS max ps (k + 1) = jS max ps k := by
  rw [jS, if_neg h]
theorem take_snocP (ps : List (List UInt8)) {k : Nat} (h : k < ps.length) : ps.take (k + 1) = ps.take k ++ [ps.getD k []] := by
  rw [List.take_add_one, List.getElem?_eq_getElem h]
  simp [List.getD, List.getElem?_eq_getElem h]
theorem jR_zero (max : Int) (ps : List (List UInt8)) : jR max ps 0 = [] := by simp [jR]
theorem jR_next (max : Int) (ps : List (List UInt8)) {k : Nat} (h : k < ps.length) : ((ps.take (k + 1)).drop (jS max ps k).2).flatten = jR max ps k ++ ps.getD k [] := by
  have h2 := (jS_le max ps k).1
  rw [take_snocP ps h, List.drop_append_of_le_length (by rw [List.length_take]; omega)]
  simp [jR]
theorem jR_short {max : Int} {ps : List (List UInt8)} {k : Nat} (h : ((ps.getD k []).length : Int) < max) : jR max ps (k + 1) = [] := by
  rw [jR, jS_short h]
  simp
theorem jR_full {max : Int} {ps : List (List UInt8)} {k : Nat} (hk : k < ps.length) (h : ¬ ((ps.getD k []).length : Int) < max) : jR max ps (k + 1) = jR max ps k ++ ps.getD k [] := by
  rw [jR, jS_full h, jR_next max ps hk]
theorem flat_le {ps : List (List UInt8)} {m : Nat} (h : ∀ p ∈ ps, p.length ≤ m) : ps.flatten.length ≤ ps.length * m := by
  induction ps with
  | nil => simp
  | cons a l ih =>
    have h1 := h a (by simp)
    have h2 := ih fun p hp => h p (by simp [hp])
    simp only [List.flatten_cons, List.length_append, List.length_cons]
    rw [Nat.add_mul]
    omega
theorem each_le {ps : List (List UInt8)} {m : Nat} (h : ∀ j, j < ps.length → (ps.getD j []).length ≤ m) : ∀ p ∈ ps, p.length ≤ m := fun p hp => by
  obtain ⟨j, hj, rfl⟩ := List.getElem_of_mem hp
  have := h j hj
  rwa [List.getD_eq_getElem?_getD, List.getElem?_eq_getElem hj] at this
theorem part_le {ps : List (List UInt8)} {m : Nat} (h : ∀ j, j < ps.length → (ps.getD j []).length ≤ m) (a b : Nat) : ((ps.take a).drop b).flatten.length ≤ ps.length * m := by
  refine Nat.le_trans (flat_le fun p hp => each_le h p (List.mem_of_mem_take (List.mem_of_mem_drop hp))) (Nat.mul_le_mul_right _ ?_)
  rw [List.length_drop, List.length_take]; omega
end Go.Proofs.Ytfaocndelibadaa

/-
  Helper text: contracts of Send and Receive; no statement is proved here.
-/
import Derived.Test.YtkmjemaajgdoiaaLvRecv
namespace Go.Proofs.Ytkmjemaajgdoiaa.Lv
open Go Go.RowKit

/-- The states of a packet. -/
def sendL (xs : List UInt8) : List UInt8 := encL (stuffL (syncL ++ bitsL xs)) ++ endL
theorem stuffL_len (xs : List UInt8) : (stuffL xs).length ≤ 2 * xs.length := (stuffS_bound xs).2

/-- What Receive returns. -/
def recvL (xs : List UInt8) : List UInt8 × Int :=
  if hasEndL xs then
    if validL (xs.take (xs.length - 3)) then
      match unstuffL (decL (xs.take (xs.length - 3))) with
      | none => ([], 4)
      | some u => if hasSyncL u then contentL (u.drop 8) else ([], 4)
    else ([], 4)
  else ([], 4)

theorem validL_decL (xs : List UInt8) : validL (decL xs) = true := by
  unfold validL decL
  rw [List.all_eq_true]
  intro x hx
  obtain ⟨i, _, rfl⟩ := List.mem_map.1 hx
  unfold decF
  split <;> simp
theorem unS_props (xs : List UInt8) (hv : validL xs = true) : ∀ k, k ≤ xs.length → ∀ n ys, unS (xs.take k) = some (n, ys) → validL ys = true ∧ ys.length ≤ k := by
  intro k
  induction k with
  | zero =>
    intro _ n ys h
    simp [unS] at h
    obtain ⟨_, rfl⟩ := h
    exact ⟨rfl, by simp⟩
  | succ k ih =>
    intro hk n ys h
    rw [unS_snoc xs (by omega)] at h
    cases hu : unS (xs.take k) with
    | none => rw [hu] at h; cases h
    | some p =>
      obtain ⟨m, zs⟩ := p
      obtain ⟨i1, i2⟩ := ih (by omega) m zs hu
      rw [hu] at h
      have hx := validL_get hv (k := k) (by omega)
      unfold stepU at h
      simp only at h
      split at h
      · simp only [Option.some.injEq, Prod.mk.injEq] at h
        obtain ⟨_, rfl⟩ := h
        refine ⟨?_, by simp; omega⟩
        unfold validL at i1 ⊢
        rw [List.all_append, i1]
        simpa using hx
      · split at h
        · cases h
        · simp only [Option.some.injEq, Prod.mk.injEq] at h
          obtain ⟨_, rfl⟩ := h
          exact ⟨i1, by omega⟩
theorem unstuffL_props (xs : List UInt8) (hv : validL xs = true) (ys : List UInt8) (h : unstuffL xs = some ys) : validL ys = true ∧ ys.length ≤ xs.length := by
  unfold unstuffL at h
  cases hu : unS xs with
  | none => rw [hu] at h; cases h
  | some p =>
    obtain ⟨m, zs⟩ := p
    rw [hu] at h
    simp only at h
    split at h
    · cases h
    · obtain rfl := Option.some.inj h
      exact unS_props xs hv xs.length (Nat.le_refl _) m zs (by rw [List.take_length]; exact hu)
theorem validL_drop (xs : List UInt8) (k : Nat) (h : validL xs = true) : validL (xs.drop k) = true := by
  unfold validL at h ⊢
  rw [List.all_eq_true] at h ⊢
  exact fun x hx => h x (List.mem_of_mem_drop hx)
theorem hasSyncL_len (xs : List UInt8) (h : hasSyncL xs = true) : 8 ≤ xs.length := by
  rcases Nat.lt_or_ge xs.length 8 with h8 | h8
  · rw [hasSyncL_short xs h8] at h; cases h
  · exact h8
theorem hasEndL_len (xs : List UInt8) (h : hasEndL xs = true) : 3 ≤ xs.length := by
  rcases Nat.lt_or_ge xs.length 3 with h8 | h8
  · rw [hasEndL_short xs h8] at h; cases h
  · exact h8

end Go.Proofs.Ytkmjemaajgdoiaa.Lv

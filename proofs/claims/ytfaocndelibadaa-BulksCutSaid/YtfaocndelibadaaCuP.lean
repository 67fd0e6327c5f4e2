/-
  Helper text: packets of bytes, as lists: what cutF makes and what joining makes of it; no statement is proved here.
-/
import Derived.Test.YtfaocndelibadaaJoW
namespace Go.Proofs.Ytfaocndelibadaa
open Go Go.RowKit

/-- One packet more: the transfers, and the rest. -/
def jF (max : Int) (s : List (List UInt8) × List UInt8) (p : List UInt8) : List (List UInt8) × List UInt8 := if (p.length : Int) < max then (s.1 ++ [s.2 ++ p], []) else (s.1, s.2 ++ p)
theorem jS_fold (max : Int) (ps : List (List UInt8)) : ∀ k, k ≤ ps.length → ((jS max ps k).1, jR max ps k) = (ps.take k).foldl (jF max) ([], []) := fun k => by
  induction k with
  | zero => intro _; simp [jR_zero, jS]
  | succ k ih =>
    intro hk
    have hk' : k < ps.length := by omega
    rw [take_snocP ps hk', List.foldl_append, ← ih (by omega)]
    simp only [List.foldl_cons, List.foldl_nil, jF]
    by_cases h : ((ps.getD k []).length : Int) < max
    · rw [if_pos h, jS_short h, jR_short h, jR_next max ps hk']
    · rw [if_neg h, jS_full h, jR_full hk' h]
theorem jS_all (max : Int) (ps : List (List UInt8)) : ((jS max ps ps.length).1, jR max ps ps.length) = ps.foldl (jF max) ([], []) := by
  have := jS_fold max ps ps.length (Nat.le_refl _)
  rwa [List.take_length] at this

/-- The last packet is full, and no other one tells that it is the last. -/
def fullF (max : Nat) (zero : Bool) (n : Nat) : Bool := decide (0 < n) && decide (n % max = 0) && !zero
theorem cut_fold (max : Nat) (hm : 1 ≤ max) (zero : Bool) : ∀ (f : Nat) (xs : List UInt8) (d : List (List UInt8)) (r : List UInt8), xs.length + 2 ≤ f → (cutF max zero f xs).foldl (jF (max : Int)) (d, r) = if fullF max zero xs.length then (d, r ++ xs) else (d ++ [r ++ xs], []) := fun f => by
  induction f with
  | zero => intro xs d r h; omega
  | succ f ih =>
    intro xs d r h
    rw [cutF]
    by_cases h1 : xs.length < max
    · have hc : (decide (xs.length < max) || (decide (xs.length ≤ max) && !zero)) = true := by simp [h1]
      rw [if_pos hc, List.take_of_length_le (by omega)]
      have hf : fullF max zero xs.length = false := by
        unfold fullF
        rcases Nat.eq_zero_or_pos xs.length with h0 | h0
        · simp [h0]
        · rw [Nat.mod_eq_of_lt h1]; simp; intro _ h2; simp [h2] at h0
      rw [hf]
      simp only [List.foldl_cons, List.foldl_nil, jF]
      rw [if_pos (by omega)]
      rfl
    · have htl : (xs.take max).length = max := by rw [List.length_take]; omega
      have hdl : (xs.drop max).length = xs.length - max := by rw [List.length_drop]
      by_cases h2 : xs.length ≤ max ∧ zero = false
      · have hc : (decide (xs.length < max) || (decide (xs.length ≤ max) && !zero)) = true := by simp [h2.1, h2.2]
        have he : xs.length = max := by omega
        rw [if_pos hc, List.take_of_length_le (by omega)]
        have hf : fullF max zero xs.length = true := by
          unfold fullF
          rw [he, h2.2]; simp; omega
        rw [hf]
        simp only [List.foldl_cons, List.foldl_nil, jF]
        rw [if_neg (by omega)]
        rfl
      · have hc : (decide (xs.length < max) || (decide (xs.length ≤ max) && !zero)) = false := by
          cases zero with
          | true => simp; omega
          | false => simp at h2 ⊢; omega
        rw [hc]
        simp only [Bool.false_eq_true, if_false, List.foldl_cons]
        have hj : jF (max : Int) (d, r) (xs.take max) = (d, r ++ xs.take max) := by
          unfold jF; rw [if_neg (by omega)]
        rw [hj, ih _ _ _ (by omega), hdl]
        have hfe : fullF max zero (xs.length - max) = fullF max zero xs.length := by
          unfold fullF
          cases zero with
          | true => simp
          | false =>
            have h3 : max < xs.length := by simp at h2; omega
            have h4 : xs.length % max = (xs.length - max) % max := by
              rw [Nat.mod_eq_sub_mod (by omega)]
            rw [h4]
            simp [show 0 < xs.length by omega, show 0 < xs.length - max by omega]
        rw [hfe, List.append_assoc, List.take_append_drop]
theorem cut_flat (max : Nat) (hm : 1 ≤ max) (zero : Bool) : ∀ (f : Nat) (xs : List UInt8), xs.length + 2 ≤ f → (cutF max zero f xs).flatten = xs ∧ (cutF max zero f xs).length ≤ f ∧ 1 ≤ (cutF max zero f xs).length ∧ ∀ p ∈ cutF max zero f xs, p.length ≤ max := fun f => by
  induction f with
  | zero => intro xs h; omega
  | succ f ih =>
    intro xs h
    rw [cutF]
    by_cases hc : (decide (xs.length < max) || (decide (xs.length ≤ max) && !zero)) = true
    · have h1 : xs.length ≤ max := by
        simp only [Bool.or_eq_true, Bool.and_eq_true, decide_eq_true_eq] at hc
        omega
      rw [if_pos hc, List.take_of_length_le h1]
      refine ⟨by simp, by simp, by simp, fun p hp => ?_⟩
      simp at hp; subst hp; exact h1
    · rw [if_neg hc]
      have h1 : ¬ xs.length < max := fun h => hc (by simp [h])
      obtain ⟨i1, i2, _, i4⟩ := ih (xs.drop max) (by rw [List.length_drop]; omega)
      refine ⟨by rw [List.flatten_cons, i1, List.take_append_drop], by simp; omega, by simp, fun p hp => ?_⟩
      rcases List.mem_cons.1 hp with rfl | hp
      · rw [List.length_take]; omega
      · exact i4 p hp

/-- How many packets. -/
def manyF (max n : Nat) : Nat := if n = 0 then 1 else (n + max - 1) / max
/-- The reference's packets. -/
def partF (max : Nat) (xs : List UInt8) (i : Nat) : List UInt8 := (xs.drop (i * max)).take max
def refF (max : Nat) (zero : Bool) (xs : List UInt8) : List (List UInt8) := (List.range (manyF max xs.length)).map (partF max xs) ++ (if zero && decide (0 < xs.length) && decide (manyF max xs.length * max = xs.length) then [[]] else [])
theorem refF_eq (max : Nat) (hm : 1 ≤ max) (zero : Bool) : ∀ (f : Nat) (xs : List UInt8), xs.length + 2 ≤ f → refF max zero xs = cutF max zero f xs := fun f => by
  induction f with
  | zero => intro xs h; omega
  | succ f ih =>
    intro xs h
    rw [cutF]
    by_cases h0 : xs.length = 0
    · have hx : xs = [] := List.eq_nil_of_length_eq_zero h0
      subst hx
      simp [refF, manyF, partF, List.range_succ, show (0 : Nat) < max by omega]
    · by_cases h1 : xs.length ≤ max
      · have hmn : manyF max xs.length = 1 := by
          rw [manyF, if_neg h0]
          rw [show xs.length + max - 1 = (xs.length - 1) + max by omega, Nat.add_div_right _ (by omega), Nat.div_eq_of_lt (by omega)]
        have hp : partF max xs 0 = xs := by simp [partF, List.take_of_length_le h1]
        rw [refF, hmn, List.take_of_length_le h1]
        simp only [List.range_one, List.map_cons, List.map_nil, hp, Nat.one_mul, List.cons_append, List.nil_append]
        congr 1
        cases zero with
        | false => simp [h1]
        | true =>
          by_cases h2 : max = xs.length
          · simp [h2, show 0 < xs.length by omega]
            have : ∃ g, f = g + 1 := ⟨f - 1, by omega⟩
            obtain ⟨g, rfl⟩ := this
            rw [cutF]
            simp
            intro h5
            exact absurd h5 (fun h6 => h0 (by rw [h6]; rfl))
          · simp [h2, show xs.length < max by omega]
      · have hc : (decide (xs.length < max) || (decide (xs.length ≤ max) && !zero)) = false := by
          simp [h1]; omega
        rw [hc]
        simp only [Bool.false_eq_true, if_false]
        have hdl : (xs.drop max).length = xs.length - max := List.length_drop ..
        rw [← ih (xs.drop max) (by omega)]
        have hmn : manyF max xs.length = manyF max (xs.length - max) + 1 := by
          rw [manyF, manyF, if_neg h0, if_neg (by omega)]
          rw [show xs.length + max - 1 = (xs.length - max + max - 1) + max by omega, Nat.add_div_right _ (by omega)]
        have hps : ∀ i, partF max xs (i + 1) = partF max (xs.drop max) i := fun i => by
          unfold partF
          rw [List.drop_drop, Nat.succ_mul, Nat.add_comm]
        rw [refF, refF, hmn, hdl, List.range_succ_eq_map, List.map_cons, List.map_map, List.cons_append]
        congr 1
        · simp [partF]
        · congr 1
          · exact List.map_congr_left fun i _ => hps i
          · have e1 : decide (0 < xs.length) = true := by simp; omega
            have e2 : decide (0 < xs.length - max) = true := by simp; omega
            have e3 : ((manyF max (xs.length - max) + 1) * max = xs.length) = (manyF max (xs.length - max) * max = xs.length - max) := by
              rw [Nat.succ_mul]
              exact propext ⟨fun h => by omega, fun h => by omega⟩
            rw [e1, e2]
            simp only [e3]
end Go.Proofs.Ytfaocndelibadaa

/-
  Helper text: stuffing and taking out invert each other, and so do Send and Receive; no statement is proved here.
-/
import Derived.Test.YtkmjemaajgdoiaaDoorLvRefB
import Derived.Test.YtkmjemaajgdoiaaDoorLvMath
namespace Go.Proofs.YtkmjemaajgdoiaaDoor.Lv
open Go Go.RowKit

theorem stepU_six (acc : List UInt8) : stepU (some (6, acc)) 0 = some (0, acc) := by
  unfold stepU onesB
  simp
theorem stepU_lt {n : Nat} (h : n < 6) (acc : List UInt8) (x : UInt8) : stepU (some (n, acc)) x = some (onesB n x, acc ++ [x]) := by
  show (if n < 6 then some (onesB n x, acc ++ [x]) else if x = 1 then none else some (onesB n x, acc)) = _
  rw [if_pos h]
/-- What is stuffed behind n bits 1, and the bits 1 behind it. -/
def emit (n : Nat) : List UInt8 → Nat × List UInt8
  | [] => (n, [])
  | x :: xs => if onesB n x = 6 then ((emit 0 xs).1, x :: 0 :: (emit 0 xs).2) else ((emit (onesB n x) xs).1, x :: (emit (onesB n x) xs).2)
theorem foldS_emit (xs : List UInt8) : ∀ (n : Nat) (out : List UInt8), xs.foldl stepS (n, out) = ((emit n xs).1, out ++ (emit n xs).2) := by
  induction xs with
  | nil => intro n out; simp [emit]
  | cons x xs ih =>
    intro n out
    simp only [List.foldl_cons, stepS, emit]
    split
    · rw [ih]; simp
    · rw [ih]; simp
theorem emit_le (xs : List UInt8) : ∀ n, n ≤ 5 → (emit n xs).1 ≤ 5 := by
  induction xs with
  | nil => intro n h; exact h
  | cons x xs ih =>
    intro n h
    have := onesB_le n x
    simp only [emit]
    split
    · exact ih 0 (by omega)
    · exact ih _ (by omega)
theorem foldU_emit (xs : List UInt8) : ∀ (n : Nat) (acc : List UInt8), n ≤ 5 → (emit n xs).2.foldl stepU (some (n, acc)) = some ((emit n xs).1, acc ++ xs) := by
  induction xs with
  | nil => intro n acc _; simp [emit]
  | cons x xs ih =>
    intro n acc h
    have hb := onesB_le n x
    simp only [emit]
    split
    · rename_i e
      simp only [List.foldl_cons]
      rw [stepU_lt (by omega), e, stepU_six, ih 0 _ (by omega)]
      simp
    · simp only [List.foldl_cons]
      rw [stepU_lt (by omega), ih _ _ (by omega)]
      simp
theorem stuffL_emit (xs : List UInt8) : stuffL xs = (emit 0 xs).2 := by
  unfold stuffL stuffS
  rw [foldS_emit]
  simp
theorem unstuff_stuff (xs : List UInt8) : unstuffL (stuffL xs) = some xs := by
  have h := foldU_emit xs 0 [] (by omega)
  have hl := emit_le xs 0 (by omega)
  unfold unstuffL unS
  rw [stuffL_emit, h]
  simp only [List.nil_append]
  rw [if_neg (by omega)]

/-- What is accepted so far, stuffed again. -/
theorem unS_stuff (ys : List UInt8) (hv : validL ys = true) : ∀ k, k ≤ ys.length → ∀ n us, unS (ys.take k) = some (n, us) → (n < 6 ∧ stuffS us = (n, ys.take k)) ∨ (n = 6 ∧ stuffS us = (0, ys.take k ++ [0])) := by
  intro k
  induction k with
  | zero =>
    intro _ n us h
    simp [unS] at h
    obtain ⟨rfl, rfl⟩ := h
    exact .inl ⟨by omega, rfl⟩
  | succ k ih =>
    intro hk n us h
    rw [unS_snoc ys (by omega)] at h
    rw [take_snoc ys (by omega)]
    cases hu : unS (ys.take k) with
    | none => rw [hu] at h; cases h
    | some p =>
      obtain ⟨m, zs⟩ := p
      have hx := validL_get hv (k := k) (by omega)
      rw [hu] at h
      generalize ys.getD k 0 = x at h hx
      rcases ih (by omega) m zs hu with ⟨hm, hs⟩ | ⟨rfl, hs⟩
      · rw [stepU_lt hm] at h
        simp only [Option.some.injEq, Prod.mk.injEq] at h
        obtain ⟨rfl, rfl⟩ := h
        have hb := onesB_le m x
        have he : stuffS (zs ++ [x]) = stepS (stuffS zs) x := by simp [stuffS, List.foldl_append]
        rw [he, hs]
        unfold stepS
        by_cases e : onesB m x = 6
        · rw [if_pos e]
          exact .inr ⟨e, rfl⟩
        · rw [if_neg e]
          exact .inl ⟨by omega, rfl⟩
      · rcases u8_01 hx with rfl | rfl
        · rw [stepU_six] at h
          simp only [Option.some.injEq, Prod.mk.injEq] at h
          obtain ⟨rfl, rfl⟩ := h
          exact .inl ⟨by omega, hs⟩
        · simp [stepU] at h
theorem stuff_unstuff (ys us : List UInt8) (hv : validL ys = true) (h : unstuffL ys = some us) : stuffL us = ys := by
  unfold unstuffL at h
  cases hu : unS ys with
  | none => rw [hu] at h; cases h
  | some p =>
    obtain ⟨n, zs⟩ := p
    rw [hu] at h
    simp only at h
    split at h
    · cases h
    · rename_i hn
      obtain rfl := Option.some.inj h
      have := unS_stuff ys hv ys.length (Nat.le_refl _) n zs (by rw [List.take_length]; exact hu)
      rw [List.take_length] at this
      rcases this with ⟨_, hs⟩ | ⟨h6, _⟩
      · unfold stuffL; rw [hs]
      · exact absurd h6 hn
theorem emit_valid (xs : List UInt8) (hv : validL xs = true) : ∀ n, validL (emit n xs).2 = true := by
  induction xs with
  | nil => intro n; rfl
  | cons x xs ih =>
    intro n
    have h1 : x.toNat ≤ 1 ∧ validL xs = true := by simpa [validL] using hv
    have ih := ih h1.2
    simp only [emit]
    unfold validL at ih ⊢
    split
    · simp only [List.all_cons, Bool.and_eq_true, decide_eq_true_eq]
      exact ⟨h1.1, by simp, ih 0⟩
    · simp only [List.all_cons, Bool.and_eq_true, decide_eq_true_eq]
      exact ⟨h1.1, ih _⟩
theorem validL_stuffL (xs : List UInt8) (hv : validL xs = true) : validL (stuffL xs) = true := by
  rw [stuffL_emit]
  exact emit_valid xs hv 0
theorem validL_append (xs ys : List UInt8) (h1 : validL xs = true) (h2 : validL ys = true) : validL (xs ++ ys) = true := by
  unfold validL at h1 h2 ⊢
  rw [List.all_append, h1, h2]
  rfl

theorem end_split (l : List UInt8) (h : hasEndL l = true) : l = l.take (l.length - 3) ++ endL := by
  have h3 := hasEndL_len l h
  unfold hasEndL at h
  rw [Bool.and_eq_true, decide_eq_true_eq, decide_eq_true_eq] at h
  conv => lhs; rw [← List.take_append_drop (l.length - 3) l, h.2]
theorem recv_send (xs : List UInt8) (h1 : 0 < xs.length) (h2 : xs.length ≤ 1027) : recvL (sendL xs) = (xs, 0) := by
  have hvb := validL_append syncL (bitsL xs) (by decide) (validL_bitsL xs)
  have hz := validL_stuffL _ hvb
  have hl : (sendL xs).length - 3 = (encL (stuffL (syncL ++ bitsL xs))).length := by simp [sendL, endL]
  have ht : (sendL xs).take ((sendL xs).length - 3) = encL (stuffL (syncL ++ bitsL xs)) := by
    rw [hl]
    unfold sendL
    rw [List.take_left]
  have he : hasEndL (sendL xs) = true := by
    unfold hasEndL
    rw [Bool.and_eq_true, decide_eq_true_eq, decide_eq_true_eq]
    refine ⟨by simp [sendL, endL], ?_⟩
    rw [hl]
    unfold sendL
    rw [List.drop_left]
  unfold recvL
  rw [if_pos he, ht, if_pos (validL_encL _), decL_encL _ hz, unstuff_stuff]
  simp only
  have hs : hasSyncL (syncL ++ bitsL xs) = true := by
    unfold hasSyncL
    rw [decide_eq_true_eq]
    rfl
  rw [if_pos hs]
  have hd : (syncL ++ bitsL xs).drop 8 = bitsL xs := rfl
  rw [hd]
  unfold contentL
  rw [bitsL_len, if_neg (by omega), if_neg (by omega), if_neg (by omega), bytesL_bitsL]
theorem recv_ok (l ys : List UInt8) (h : recvL l = (ys, 0)) : sendL ys = l ∧ 0 < ys.length ∧ ys.length ≤ 1027 := by
  unfold recvL at h
  split at h
  · rename_i he
    split at h
    · rename_i hv
      cases hu : unstuffL (decL (l.take (l.length - 3))) with
      | none => rw [hu] at h; simp at h
      | some u =>
        rw [hu] at h
        simp only at h
        split at h
        · rename_i hs
          have hdv := validL_decL (l.take (l.length - 3))
          have huv := (unstuffL_props _ hdv u hu).1
          have h8 := hasSyncL_len u hs
          have hsy : u.take 8 = syncL := by unfold hasSyncL at hs; simpa using hs
          unfold contentL at h
          split at h
          · simp at h
          · rename_i hm
            split at h
            · simp at h
            · rename_i h0
              split at h
              · simp at h
              · rename_i hb
                simp only [Prod.mk.injEq, and_true] at h
                have hback := bitsL_bytesL (u.drop 8) (validL_drop u 8 huv) (by omega)
                rw [h] at hback
                have hlen : ys.length = (u.drop 8).length / 8 := by rw [← h, bytesL_len]
                refine ⟨?_, by omega, by omega⟩
                unfold sendL
                rw [hback, ← hsy, List.take_append_drop, stuff_unstuff _ u hdv hu, encL_decL _ hv]
                exact (end_split l he).symm
        · simp at h
    · simp at h
  · simp at h

end Go.Proofs.YtkmjemaajgdoiaaDoor.Lv

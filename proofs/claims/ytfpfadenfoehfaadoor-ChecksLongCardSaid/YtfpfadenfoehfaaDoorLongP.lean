/-
  Helper text: changes of protected bytes, counted bit by bit; no statement is proved here.
-/
import Derived.Test.YtfpfadenfoehfaaDoorLawShort
import Derived.Test.YtfpfadenfoehfaaDoorLawSixteen
namespace Go.Proofs.YtfpfadenfoehfaaDoor
open Go Go.RowKit

def noBack (m : Nat) : Nat → Nat → Bool
  | 0, _ => true
  | k + 1, x => (Nat.beq (sS m x) 1 == false) && noBack m k (sS m x)
theorem noBack_spec {m : Nat} : ∀ (k x t : Nat), noBack m k x = true → 0 < t → t ≤ k → sN m t x ≠ 1 := by
  intro k
  induction k with
  | zero => intro x t _ h1 h2; omega
  | succ k ih =>
    intro x t h h1 h2
    simp only [noBack, Bool.and_eq_true] at h
    obtain ⟨t', rfl⟩ : ∃ t', t = t' + 1 := ⟨t - 1, by omega⟩
    show sN m t' (sS m x) ≠ 1
    rcases Nat.eq_zero_or_pos t' with h0 | h0
    · subst h0
      intro e
      have e' : sS m x = 1 := e
      rw [e'] at h
      exact absurd h.1 (by decide)
    · exact ih _ _ h.2 h0 (by omega)
set_option maxRecDepth 1000000 in
theorem noBack16 : noBack m16 8207 1 = true := by decide +kernel
theorem back16 (t : Nat) (h0 : 0 < t) (h : t ≤ 8207) : sN m16 t 1 ≠ 1 := noBack_spec 8207 1 t noBack16 h0 h

/-- How many of the k lowest bits are 1. -/
def cnt : Nat → Nat → Nat
  | 0, _ => 0
  | k + 1, x => x % 2 + cnt k (x / 2)
theorem cnt_snoc (k x : Nat) : cnt (k + 1) x = cnt k x + x / 2 ^ k % 2 := by
  induction k generalizing x with
  | zero => simp [cnt]
  | succ k ih =>
    show x % 2 + cnt (k + 1) (x / 2) = x % 2 + cnt k (x / 2) + x / 2 ^ (k + 1) % 2
    rw [ih, Nat.div_div_eq_div_mul, Nat.pow_succ, Nat.mul_comm 2 (2 ^ k)]
    omega
theorem cnt_par (k x : Nat) : parN k x = decide (cnt k x % 2 = 1) := by
  induction k generalizing x with
  | zero => rfl
  | succ k ih =>
    show ((x % 2 == 1) != parN k (x / 2)) = decide ((x % 2 + cnt k (x / 2)) % 2 = 1)
    rw [ih]
    have h1 : x % 2 = 0 ∨ x % 2 = 1 := by omega
    have h2 : cnt k (x / 2) % 2 = 0 ∨ cnt k (x / 2) % 2 = 1 := by omega
    generalize cnt k (x / 2) = c at h2
    rcases h1 with h1 | h1 <;> rcases h2 with h2 | h2 <;> rw [h1]
    · rw [show decide ((0 + c) % 2 = 1) = false from decide_eq_false (by omega), show decide (c % 2 = 1) = false from decide_eq_false (by omega)]; rfl
    · rw [show decide ((0 + c) % 2 = 1) = true from decide_eq_true (by omega), show decide (c % 2 = 1) = true from decide_eq_true (by omega)]; rfl
    · rw [show decide ((1 + c) % 2 = 1) = true from decide_eq_true (by omega), show decide (c % 2 = 1) = false from decide_eq_false (by omega)]; rfl
    · rw [show decide ((1 + c) % 2 = 1) = false from decide_eq_false (by omega), show decide (c % 2 = 1) = true from decide_eq_true (by omega)]; rfl
theorem cnt_zero {k x : Nat} (hx : x < 2 ^ k) (h : cnt k x = 0) : x = 0 := by
  induction k generalizing x with
  | zero => simpa using hx
  | succ k ih =>
    have h1 : x % 2 + cnt k (x / 2) = 0 := h
    have := ih (x := x / 2) (by rw [Nat.pow_succ] at hx; omega) (by omega)
    omega
theorem cnt_one {k x : Nat} (hx : x < 2 ^ k) (h : cnt k x = 1) : ∃ i, i < k ∧ x = 2 ^ i := by
  induction k generalizing x with
  | zero => cases h
  | succ k ih =>
    have h1 : x % 2 + cnt k (x / 2) = 1 := h
    have hx2 : x / 2 < 2 ^ k := by rw [Nat.pow_succ] at hx; omega
    rcases (by omega : x % 2 = 1 ∨ x % 2 = 0) with h2 | h2
    · have := cnt_zero hx2 (by omega)
      exact ⟨0, by omega, by rw [Nat.pow_zero]; omega⟩
    · obtain ⟨i, hi, e⟩ := ih hx2 (by omega)
      exact ⟨i + 1, by omega, by rw [Nat.pow_succ]; omega⟩
theorem cnt_two {k x : Nat} (hx : x < 2 ^ k) (h : cnt k x = 2) : ∃ i j, i < j ∧ j < k ∧ x = 2 ^ i + 2 ^ j := by
  induction k generalizing x with
  | zero => cases h
  | succ k ih =>
    have h1 : x % 2 + cnt k (x / 2) = 2 := h
    have hx2 : x / 2 < 2 ^ k := by rw [Nat.pow_succ] at hx; omega
    rcases (by omega : x % 2 = 1 ∨ x % 2 = 0) with h2 | h2
    · obtain ⟨i, hi, e⟩ := cnt_one hx2 (by omega)
      exact ⟨0, i + 1, by omega, by omega, by rw [Nat.pow_zero, Nat.pow_succ]; omega⟩
    · obtain ⟨i, j, hij, hj, e⟩ := ih hx2 (by omega)
      exact ⟨i + 1, j + 1, by omega, by omega, by rw [Nat.pow_succ, Nat.pow_succ]; omega⟩
theorem add_xor {i j : Nat} (h : i < j) : 2 ^ i + 2 ^ j = 2 ^ i ^^^ 2 ^ j := by
  have := low_high (k := j) (b := 2 ^ i) 1 (Nat.pow_lt_pow_right (by omega) h)
  rwa [Nat.mul_one] at this
theorem count_err {n E : Nat} (hE : E < 2 ^ n) (hn : 16 ≤ n) (hn2 : n ≤ 8208) (h : cnt n E % 2 = 1 ∨ cnt n E = 2) : sN m16 n E ≠ 0 := by
  intro hs
  rcases h with h | h
  · have := odd_found (m := m16) (d := 16) (by decide) (by decide) hn hE hs
    rw [cnt_par, decide_eq_true h] at this
    cases this
  · obtain ⟨i, j, hij, hj, rfl⟩ := cnt_two hE h
    rw [add_xor hij] at hs
    exact two_found (d := 16) (by decide) (by decide) (by decide) hij (by omega) (back16 _ (by omega) (by omega)) hs

theorem leV_bit (xs : List UInt8) (i : Nat) : (leV xs).testBit i = (xs.getD (i / 8) 0).toNat.testBit (i % 8) := by
  induction xs generalizing i with
  | nil => simp [leV, List.getD]
  | cons b bs ih =>
    show (b.toNat + 2 ^ 8 * leV bs).testBit i = _
    rw [Nat.add_comm, Nat.testBit_two_pow_mul_add _ b.toNat_lt]
    by_cases h : i < 8
    · rw [if_pos h, show i / 8 = 0 from by omega, show i % 8 = i from by omega, List.getD_cons_zero]
    · rw [if_neg h, ih, show i / 8 = (i - 8) / 8 + 1 from by omega, show i % 8 = (i - 8) % 8 from by omega, List.getD_cons_succ]
theorem bit_of (n i : Nat) : n / 2 ^ i % 2 = if n.testBit i then 1 else 0 := by
  rw [Nat.testBit_eq_decide_div_mod_eq]
  have : n / 2 ^ i % 2 < 2 := Nat.mod_lt _ (by omega)
  by_cases h : n / 2 ^ i % 2 = 1
  · rw [decide_eq_true h, h]; rfl
  · rw [decide_eq_false h, show n / 2 ^ i % 2 = 0 from by omega]; rfl
/-- The bit that the law counts. -/
theorem count_bit (ps qs : List UInt8) (i : Nat) : (leV ps ^^^ leV qs) / 2 ^ i % 2 = ((ps.getD (i / 8) 0).toNat ^^^ (qs.getD (i / 8) 0).toNat) / 2 ^ (i % 8) % 2 := by
  rw [bit_of, bit_of, Nat.testBit_xor, Nat.testBit_xor, leV_bit, leV_bit]
theorem leV_flip {xs : List UInt8} {at' : Nat} (h : at' / 8 < xs.length) : leV (xs.set (at' / 8) (UInt8.ofNat ((xs.getD (at' / 8) 0).toNat ^^^ 2 ^ (at' % 8)))) = leV xs ^^^ 2 ^ at' := by
  apply Nat.eq_of_testBit_eq
  intro i
  rw [leV_bit, Nat.testBit_xor, leV_bit, Nat.testBit_two_pow]
  have h8 : (xs.getD (at' / 8) 0).toNat ^^^ 2 ^ (at' % 8) < 2 ^ 8 := Nat.xor_lt_two_pow (UInt8.toNat_lt _) (Nat.pow_lt_pow_right (by omega) (by omega))
  by_cases e : at' / 8 = i / 8
  · rw [← e, show (xs.set (at' / 8) (UInt8.ofNat ((xs.getD (at' / 8) 0).toNat ^^^ 2 ^ (at' % 8)))).getD (at' / 8) 0 = UInt8.ofNat ((xs.getD (at' / 8) 0).toNat ^^^ 2 ^ (at' % 8)) from by simp [List.getD, h], bit_ofNat (by omega), Nat.testBit_xor, Nat.testBit_two_pow]
    congr 1
    exact decide_eq_decide.2 (by omega)
  · have : (xs.set (at' / 8) (UInt8.ofNat ((xs.getD (at' / 8) 0).toNat ^^^ 2 ^ (at' % 8)))).getD (i / 8) 0 = xs.getD (i / 8) 0 := by
      simp only [List.getD_eq_getElem?_getD, List.getElem?_set_ne e]
    rw [this, decide_eq_false (by omega : ¬ at' = i), Bool.xor_false]

theorem leV_append (a b : List UInt8) : leV (a ++ b) = leV a + 2 ^ (8 * a.length) * leV b := by
  induction a with
  | nil => simp [leV]
  | cons x xs ih =>
    show x.toNat + 2 ^ 8 * leV (xs ++ b) = x.toNat + 2 ^ 8 * leV xs + 2 ^ (8 * (xs.length + 1)) * leV b
    rw [ih, Nat.mul_add, show 8 * (xs.length + 1) = 8 + 8 * xs.length from by omega, Nat.pow_add, Nat.mul_assoc]
    omega
/-- What Check accepts are the protected bytes. -/
theorem okL_iff {xs : List UInt8} (h : 2 ≤ xs.length) : chkL (frontL xs) = lastL xs ↔ okN m16 16 (8 * xs.length) (leV xs) := by
  have hf : (frontL xs).length = xs.length - 2 := by unfold frontL; rw [List.length_take]; omega
  obtain ⟨a, b, hd⟩ : ∃ a b, xs.drop (xs.length - 2) = [a, b] := by
    have hl : (xs.drop (xs.length - 2)).length = 2 := by rw [List.length_drop]; omega
    match hx : xs.drop (xs.length - 2), hl with
    | [a, b], _ => exact ⟨a, b, rfl⟩
  have hx : xs = frontL xs ++ [a, b] := by rw [← hd]; exact (List.take_append_drop _ _).symm
  have hlast : lastL xs = leV [a, b] := by
    have e1 : xs.getD (xs.length - 2) 0 = a := by
      have := congrArg (fun l => l.getD 0 0) hd
      simpa [List.getD, List.getElem?_drop] using this
    have e2 : xs.getD (xs.length - 1) 0 = b := by
      have := congrArg (fun l => l.getD 1 0) hd
      simp only [List.getD_eq_getElem?_getD, List.getElem?_drop, show xs.length - 2 + 1 = xs.length - 1 from by omega] at this
      simpa [List.getD] using this
    unfold lastL
    rw [e1, e2]
    simp [leV]
  have hV : leV xs = leV (frontL xs) + 2 ^ (8 * xs.length - 16) * leV [a, b] := by
    conv => lhs; rw [hx]
    rw [leV_append, hf, show 8 * (xs.length - 2) = 8 * xs.length - 16 from by omega]
  have hlt : leV (frontL xs) < 2 ^ (8 * xs.length - 16) := by
    have := leV_lt (frontL xs)
    rwa [hf, show 8 * (xs.length - 2) = 8 * xs.length - 16 from by omega] at this
  unfold okN
  rw [hlast, hV, Nat.add_mul_mod_self_left, Nat.mod_eq_of_lt hlt, Nat.add_mul_div_left _ _ (Nat.two_pow_pos _), Nat.div_eq_of_lt hlt, Nat.zero_add]
  unfold chkL
  rw [hf, show 8 * (xs.length - 2) = 8 * xs.length - 16 from by omega]
/-- Protected bytes that are changed: their check fails. -/
theorem long_err {ps qs : List UInt8} (hp : chkL (frontL ps) = lastL ps) (h2 : 2 ≤ ps.length) (hl : qs.length = ps.length) (hs : sN m16 (8 * ps.length) (leV ps ^^^ leV qs) ≠ 0) : chkL (frontL qs) ≠ lastL qs := by
  intro hq
  rw [okL_iff (by omega)] at hp hq
  rw [hl] at hq
  have h1 := leV_lt ps
  have h3 := leV_lt qs
  rw [hl] at h3
  refine hs (okN_change (m := m16) (d := 16) (by decide) (by decide) (by omega) h1 (Nat.xor_lt_two_pow h1 h3) hp ?_)
  rwa [← Nat.xor_assoc, Nat.xor_self, Nat.zero_xor]

/-- The burst of the k lowest bits of B, from place a on, of n bits in all. -/
def bst (n a B k : Nat) : Nat := 2 ^ a * (B % 2 ^ k) % 2 ^ n
theorem bst_zero (n a B : Nat) : bst n a B 0 = 0 := by simp [bst, Nat.mod_one]
theorem bst_low (n a B k : Nat) : bst n a B k < 2 ^ (a + k) := by
  refine Nat.lt_of_le_of_lt (Nat.mod_le _ _) ?_
  rw [Nat.pow_add]
  exact Nat.mul_lt_mul_of_pos_left (Nat.mod_lt _ (Nat.two_pow_pos k)) (Nat.two_pow_pos a)
theorem bst_succ (n a B k : Nat) : bst n a B (k + 1) = bst n a B k ^^^ (if B / 2 ^ k % 2 = 1 then 2 ^ (a + k) % 2 ^ n else 0) := by
  unfold bst
  rw [Nat.mod_pow_succ, Nat.mul_add, ← Nat.mul_assoc, ← Nat.pow_add]
  have hl : 2 ^ a * (B % 2 ^ k) < 2 ^ (a + k) := by
    rw [Nat.pow_add]
    exact Nat.mul_lt_mul_of_pos_left (Nat.mod_lt _ (Nat.two_pow_pos k)) (Nat.two_pow_pos a)
  rw [low_high _ hl, Nat.xor_mod_two_pow]
  congr 1
  have : B / 2 ^ k % 2 < 2 := Nat.mod_lt _ (by omega)
  by_cases h : B / 2 ^ k % 2 = 1
  · rw [h, if_pos rfl, Nat.mul_one]
  · rw [if_neg h, show B / 2 ^ k % 2 = 0 from by omega, Nat.mul_zero, Nat.zero_mod]
theorem bst_flip {n a B k : Nat} (h : a + k < n) (hb : B / 2 ^ k % 2 = 1) : bst n a B (k + 1) = bst n a B k ^^^ 2 ^ (a + k) ∧ bst n a B (k + 1) ≠ 0 := by
  have e : bst n a B (k + 1) = bst n a B k ^^^ 2 ^ (a + k) := by
    rw [bst_succ, if_pos hb, Nat.mod_eq_of_lt (Nat.pow_lt_pow_right (by omega) h)]
  refine ⟨e, ?_⟩
  rw [e]
  intro h0
  rw [xor_eq_zero_iff'] at h0
  have := bst_low n a B k
  omega
theorem bst_same {n a B k : Nat} (h : ¬ (a + k < n ∧ B / 2 ^ k % 2 = 1)) : bst n a B (k + 1) = bst n a B k := by
  rw [bst_succ]
  by_cases hb : B / 2 ^ k % 2 = 1
  · rw [if_pos hb, Nat.mod_eq_zero_of_dvd (Nat.pow_dvd_pow 2 (by omega)), Nat.xor_zero]
  · rw [if_neg hb, Nat.xor_zero]
theorem bst_err {n a B : Nat} (ha : a < n) (h : bst n a B 16 ≠ 0) : sN m16 n (bst n a B 16) ≠ 0 := by
  have e : bst n a B 16 = 2 ^ a * (B % 2 ^ 16 % 2 ^ (n - a)) := by
    unfold bst
    rw [show 2 ^ n = 2 ^ a * 2 ^ (n - a) from by rw [← Nat.pow_add, show a + (n - a) = n from by omega], Nat.mul_mod_mul_left]
  rw [e] at h ⊢
  intro hs
  have := burst_found (m := m16) (d := 16) (n := n) (at' := a) (w := B % 2 ^ 16 % 2 ^ (n - a)) (by decide) (by decide) (by omega) (Nat.lt_of_le_of_lt (Nat.mod_le _ _) (Nat.mod_lt _ (by decide))) hs
  rw [this, Nat.mul_zero] at h
  exact h rfl

end Go.Proofs.YtfpfadenfoehfaaDoor

/-
  Helper text, several in one; no statement is proved here.
-/
import Derived.Test.YtjecjiikgejlaaaGreatDoorCkSixteen
import Derived.Test.YtjecjiikgejlaaaGreatDoorCkCheck
namespace Go.Proofs.YtjecjiikgejlaaaGreatDoor.Ck
open Go Go.RowKit

/-- All elements are 0 or 1. -/
def Bit (xs : List UInt8) : Prop := ∀ i, (xs.getD i 0).toNat ≤ 1
theorem Bit.of_mem {xs : List UInt8} (h : ∀ x ∈ xs, x.toNat ≤ 1) : Bit xs := fun i => by
  rcases Nat.lt_or_ge i xs.length with hi | hi
  · rw [List.getD_eq_getElem?_getD, List.getElem?_eq_getElem hi]; exact h _ (List.getElem_mem hi)
  · rw [List.getD_eq_getElem?_getD, List.getElem?_eq_none hi]; decide
theorem Bit.mem {xs : List UInt8} (h : Bit xs) : ∀ x ∈ xs, x.toNat ≤ 1 := fun x hx => by
  obtain ⟨i, hi, rfl⟩ := List.mem_iff_getElem.1 hx
  have := h i
  rwa [List.getD_eq_getElem?_getD, List.getElem?_eq_getElem hi] at this

def lowL (v n : Nat) : List UInt8 := (List.range n).map fun i => UInt8.ofNat (v / 2 ^ i % 2)
theorem lowL_len (v n : Nat) : (lowL v n).length = n := by simp [lowL]
theorem lowL_succ (v n : Nat) : lowL v (n + 1) = lowL v n ++ [UInt8.ofNat (v / 2 ^ n % 2)] := by simp [lowL, List.range_succ]
theorem bit_ofNat {x : Nat} (h : x < 256) : (UInt8.ofNat x).toNat = x := by rw [UInt8.toNat_ofNat']; omega
theorem lowL_bit (v n : Nat) : Bit (lowL v n) := Bit.of_mem fun x hx => by
  obtain ⟨i, _, rfl⟩ := List.mem_map.1 hx
  have : v / 2 ^ i % 2 < 2 := Nat.mod_lt _ (by omega)
  rw [bit_ofNat (by omega)]; omega

def numberL : List UInt8 → Nat
  | [] => 0
  | b :: bs => b.toNat + 2 * numberL bs
theorem numberL_lt {xs : List UInt8} (h : ∀ x ∈ xs, x.toNat ≤ 1) : numberL xs < 2 ^ xs.length := by
  induction xs with
  | nil => decide
  | cons b bs ih =>
    have h1 := h b (by simp)
    have h2 := ih fun x hx => h x (by simp [hx])
    show b.toNat + 2 * numberL bs < 2 ^ (bs.length + 1)
    rw [Nat.pow_succ]; omega
theorem numberL_bit {xs : List UInt8} (h : ∀ x ∈ xs, x.toNat ≤ 1) (i : Nat) : (numberL xs).testBit i = decide ((xs.getD i 0).toNat = 1) := by
  induction xs generalizing i with
  | nil => simp [numberL, List.getD]
  | cons b bs ih =>
    have h1 := h b (by simp)
    have h2 := ih fun x hx => h x (by simp [hx])
    show (b.toNat + 2 * numberL bs).testBit i = _
    cases i with
    | zero =>
      rw [Nat.testBit_zero, List.getD_cons_zero]
      exact decide_eq_decide.2 (by omega)
    | succ i =>
      rw [Nat.testBit_succ, show (b.toNat + 2 * numberL bs) / 2 = numberL bs from by omega, List.getD_cons_succ]
      exact h2 i

/-- One step of the reference's register. -/
def sumL (r : List UInt8) (b : UInt8) : Nat := ((r.getD (r.length - 1) 0).toNat + b.toNat) % 2
def newL (p r : List UInt8) (b : UInt8) (j : Nat) : UInt8 :=
  if j = 0 then UInt8.ofNat (sumL r b * (p.getD 0 0).toNat) else UInt8.ofNat (((r.getD (j - 1) 0).toNat + sumL r b * (p.getD j 0).toNat) % 2)
def stepL (p r : List UInt8) (b : UInt8) : List UInt8 := (List.range r.length).map (newL p r b)
theorem stepL_len (p r : List UInt8) (b : UInt8) : (stepL p r b).length = r.length := by simp [stepL]
theorem sumL_lt (r : List UInt8) (b : UInt8) : sumL r b < 2 := Nat.mod_lt _ (by omega)
theorem newL_le {p r : List UInt8} (hp : Bit p) (b : UInt8) (j : Nat) : (newL p r b j).toNat ≤ 1 := by
  have h1 := sumL_lt r b
  have h2 := hp 0
  unfold newL
  split
  · have : sumL r b * (p.getD 0 0).toNat ≤ 1 * 1 := Nat.mul_le_mul (by omega) h2
    rw [bit_ofNat (by omega)]; omega
  · rw [bit_ofNat (by omega)]; omega
theorem stepL_bit {p r : List UInt8} (hp : Bit p) (b : UInt8) : Bit (stepL p r b) := Bit.of_mem fun x hx => by
  obtain ⟨i, _, rfl⟩ := List.mem_map.1 hx
  exact newL_le hp b i
def behL (p bits : List UInt8) (r : List UInt8) : List UInt8 := bits.foldl (stepL p) r
theorem behL_len (p bits : List UInt8) (r : List UInt8) : (behL p bits r).length = r.length := by
  induction bits generalizing r with
  | nil => rfl
  | cons b bs ih => exact (ih _).trans (stepL_len p r b)
theorem behL_bit {p : List UInt8} (hp : Bit p) (bits : List UInt8) {r : List UInt8} (hr : Bit r) : Bit (behL p bits r) := by
  induction bits generalizing r with
  | nil => exact hr
  | cons b bs ih => exact ih (stepL_bit hp b)

/-- The register as a number: what leaves first is lowest. -/
def regN (r : List UInt8) : Nat := numberL r.reverse
theorem regN_bit {r : List UInt8} (h : Bit r) (i : Nat) : (regN r).testBit i = if i < r.length then decide ((r.getD (r.length - 1 - i) 0).toNat = 1) else false := by
  unfold regN
  rw [numberL_bit (fun x hx => h.mem x (List.mem_reverse.1 hx))]
  by_cases hi : i < r.length
  · rw [if_pos hi]
    congr 3
    rw [List.getD_eq_getElem?_getD, List.getD_eq_getElem?_getD, List.getElem?_reverse hi]
  · rw [if_neg hi, List.getD_eq_getElem?_getD, List.getElem?_eq_none (by rw [List.length_reverse]; omega)]; rfl
theorem regN_lt {r : List UInt8} (h : Bit r) : regN r < 2 ^ r.length := by
  have := numberL_lt (xs := r.reverse) (fun x hx => h.mem x (List.mem_reverse.1 hx))
  rwa [List.length_reverse] at this

theorem regN_step {p r : List UInt8} (hp : Bit p) (hr : Bit r) (hl : p.length = r.length) (hd : 0 < r.length) (b : UInt8) (hb : b.toNat ≤ 1) : regN (stepL p r b) = sS (regN p) (regN r ^^^ b.toNat) := by
  have hs : sumL r b = (regN r ^^^ b.toNat) % 2 := by
    have h0 := regN_bit hr 0
    rw [if_pos hd, Nat.testBit_zero, Nat.sub_zero] at h0
    have h1 := hr (r.length - 1)
    have h2 : ((regN r ^^^ b.toNat) % 2 = 1) ↔ ¬ ((regN r % 2 = 1) ↔ (b.toNat % 2 = 1)) := xor_odd _ _
    have h3 : (regN r % 2 = 1) ↔ (r.getD (r.length - 1) 0).toNat = 1 := decide_eq_decide.1 h0
    unfold sumL
    by_cases ha : (r.getD (r.length - 1) 0).toNat = 1 <;> by_cases hbb : b.toNat = 1 <;> omega
  apply Nat.eq_of_testBit_eq
  intro i
  rw [regN_bit (stepL_bit hp b), stepL_len]
  unfold sS
  rw [Nat.testBit_xor, Nat.testBit_shiftRight, Nat.testBit_xor, ← hs]
  have hb1 : b.toNat.testBit (1 + i) = false := Nat.testBit_lt_two_pow (Nat.lt_of_le_of_lt hb (by rw [Nat.add_comm]; exact Nat.one_lt_two_pow (by omega)))
  have hm : (if sumL r b = 1 then regN p else 0).testBit i = if i < r.length then decide (sumL r b * (p.getD (r.length - 1 - i) 0).toNat = 1) else false := by
    have h2 := sumL_lt r b
    rcases (by omega : sumL r b = 0 ∨ sumL r b = 1) with h | h
    · rw [h]; simp
    · rw [h, if_pos rfl, regN_bit hp, hl, Nat.one_mul]
  rw [hb1, hm, regN_bit hr, Bool.xor_false]
  by_cases hi : i < r.length
  · rw [if_pos hi, if_pos hi]
    have hget : (stepL p r b).getD (r.length - 1 - i) 0 = newL p r b (r.length - 1 - i) := by
      simp only [stepL, List.getD_eq_getElem?_getD, List.getElem?_map, List.getElem?_range (show r.length - 1 - i < r.length by omega)]; rfl
    rw [hget]
    have h2 := sumL_lt r b
    have h3 := hp (r.length - 1 - i)
    by_cases he : i + 1 < r.length
    · rw [if_pos (show 1 + i < r.length by omega)]
      unfold newL
      rw [if_neg (by omega), show r.length - 1 - i - 1 = r.length - 1 - (1 + i) from by omega]
      have h4 := hr (r.length - 1 - (1 + i))
      generalize (r.getD (r.length - 1 - (1 + i)) 0).toNat = x at h4
      generalize (p.getD (r.length - 1 - i) 0).toNat = y at h3
      have h5 : sumL r b * y ≤ 1 * 1 := Nat.mul_le_mul (by omega) h3
      generalize sumL r b * y = z at h5
      rw [bit_ofNat (by omega)]
      rcases (by omega : x = 0 ∨ x = 1) with rfl | rfl <;> rcases (by omega : z = 0 ∨ z = 1) with rfl | rfl <;> rfl
    · have hz : r.length - 1 - i = 0 := by omega
      rw [if_neg (show ¬ 1 + i < r.length by omega)]
      unfold newL
      rw [hz] at h3 ⊢
      rw [if_pos rfl]
      generalize (p.getD 0 0).toNat = y at h3
      have h5 : sumL r b * y ≤ 1 * 1 := Nat.mul_le_mul (by omega) h3
      rw [bit_ofNat (by omega), Bool.false_xor]
  · rw [if_neg hi, if_neg (show ¬ 1 + i < r.length by omega), if_neg hi]; rfl

/-- The register behind bits, as numbers. -/
def foldB (m r : Nat) (bits : List UInt8) : Nat := bits.foldl (fun r b => sS m (r ^^^ b.toNat)) r
theorem regN_beh {p : List UInt8} (hp : Bit p) (bits : List UInt8) (hb : ∀ x ∈ bits, x.toNat ≤ 1) {r : List UInt8} (hr : Bit r) (hl : p.length = r.length) (hd : 0 < r.length) : regN (behL p bits r) = foldB (regN p) (regN r) bits := by
  induction bits generalizing r with
  | nil => rfl
  | cons b bs ih =>
    have := ih (fun x hx => hb x (by simp [hx])) (stepL_bit hp b) (r := stepL p r b) (by rw [stepL_len, hl]) (by rw [stepL_len]; exact hd)
    rw [regN_step hp hr hl hd b (hb b (by simp))] at this
    exact this
theorem foldB_low (m r v n : Nat) : foldB m r (lowL v n) = sN m n (r ^^^ (v % 2 ^ n)) := by
  induction n with
  | zero => simp [foldB, lowL, sN, Nat.mod_one]
  | succ n ih =>
    rw [lowL_succ, st_succ, ← ih]
    unfold foldB
    rw [List.foldl_append]
    show sS m (_ ^^^ (UInt8.ofNat (v / 2 ^ n % 2)).toNat) = _
    rw [bit_ofNat (by have := Nat.mod_lt (v / 2 ^ n) (y := 2) (by omega); omega)]
def allL (xs : List UInt8) : List UInt8 := xs.flatMap fun b => lowL b.toNat 8
theorem allL_bit (xs : List UInt8) : ∀ x ∈ allL xs, x.toNat ≤ 1 := fun x hx => by
  obtain ⟨b, _, h⟩ := List.mem_flatMap.1 hx
  exact (lowL_bit _ _).mem x h
theorem allL_len (xs : List UInt8) : (allL xs).length = 8 * xs.length := by
  induction xs with
  | nil => rfl
  | cons b bs ih => simp only [allL, List.flatMap_cons, List.length_append, lowL_len, List.length_cons] at ih ⊢; omega
theorem allL_snoc (xs : List UInt8) (b : UInt8) : allL (xs ++ [b]) = allL xs ++ lowL b.toNat 8 := by simp [allL]
theorem foldB_all (r : Nat) (xs : List UInt8) : foldB m16 r (allL xs) = crcL r xs := by
  induction xs generalizing r with
  | nil => rfl
  | cons b bs ih =>
    have : foldB m16 r (allL (b :: bs)) = foldB m16 (foldB m16 r (lowL b.toNat 8)) (allL bs) := by simp [foldB, allL]
    rw [this, ih, foldB_low, Nat.mod_eq_of_lt b.toNat_lt]
    rfl

/-- What is sent. -/
def sentL (r : List UInt8) : List UInt8 := r.reverse.map fun x => 1 - x
theorem number_sent {r : List UInt8} (h : Bit r) : numberL (sentL r) = regN r ^^^ (2 ^ r.length - 1) := by
  have H : ∀ xs : List UInt8, (∀ x ∈ xs, x.toNat ≤ 1) → numberL (xs.map fun x => 1 - x) + numberL xs = 2 ^ xs.length - 1 := by
    intro xs
    induction xs with
    | nil => intro _; rfl
    | cons b bs ih =>
      intro hh
      have h1 := hh b (by simp)
      have h2 := ih fun x hx => hh x (by simp [hx])
      have h3 : (1 - b : UInt8).toNat = 1 - b.toNat := by
        rcases (by omega : b.toNat = 0 ∨ b.toNat = 1) with h | h
        · rw [UInt8.toNat_inj.1 (show b.toNat = (0 : UInt8).toNat from h)]; rfl
        · rw [UInt8.toNat_inj.1 (show b.toNat = (1 : UInt8).toNat from h)]; rfl
      show (1 - b).toNat + 2 * numberL (bs.map fun x => 1 - x) + (b.toNat + 2 * numberL bs) = 2 ^ (bs.length + 1) - 1
      have := Nat.two_pow_pos bs.length
      rw [h3, Nat.pow_succ]; omega
  have h1 := H r.reverse fun x hx => h.mem x (List.mem_reverse.1 hx)
  rw [List.length_reverse] at h1
  have h2 := regN_lt h
  have h3 : regN r ^^^ (2 ^ r.length - 1) = 2 ^ r.length - 1 - regN r := by
    apply Nat.eq_of_testBit_eq
    intro i
    rw [Nat.testBit_xor, Nat.testBit_two_pow_sub_one, show 2 ^ r.length - 1 - regN r = 2 ^ r.length - (regN r + 1) from by omega, Nat.testBit_two_pow_sub_succ h2]
    by_cases hi : i < r.length
    · simp [hi]
    · rw [Nat.testBit_lt_two_pow (Nat.lt_of_lt_of_le h2 (Nat.pow_le_pow_right (by omega) (by omega)))]; simp [hi]
  rw [h3]
  show numberL (r.reverse.map fun x => 1 - x) = 2 ^ r.length - 1 - numberL r.reverse
  omega
theorem sentL_bit {r : List UInt8} (h : Bit r) : ∀ x ∈ sentL r, x.toNat ≤ 1 := fun x hx => by
  obtain ⟨y, hy, rfl⟩ := List.mem_map.1 hx
  have h1 := h.mem y (List.mem_reverse.1 hy)
  rcases (by omega : y.toNat = 0 ∨ y.toNat = 1) with h | h
  · rw [UInt8.toNat_inj.1 (show y.toNat = (0 : UInt8).toNat from h)]; decide
  · rw [UInt8.toNat_inj.1 (show y.toNat = (1 : UInt8).toNat from h)]; decide
theorem sentL_len (r : List UInt8) : (sentL r).length = r.length := by simp [sentL]

def shortL : List UInt8 := [1, 0, 1, 0, 0]
def longL : List UInt8 := [1, 0, 1, 0, 0, 0, 0, 0, 0, 0, 0, 0, 0, 0, 0, 1]
theorem bit_short : Bit shortL := Bit.of_mem (by decide)
theorem bit_long : Bit longL := Bit.of_mem (by decide)
theorem bit_ones (d : Nat) : Bit (List.replicate d 1) := Bit.of_mem fun x hx => by rw [List.eq_of_mem_replicate hx]; decide
/-- The reference's checks. -/
theorem ref_five {v n : Nat} (hv : v < 2 ^ n) : numberL (sentL (behL shortL (lowL v n) (List.replicate 5 1))) = chk 20 5 n v := by
  rw [number_sent (behL_bit bit_short _ (bit_ones 5)), behL_len, regN_beh bit_short _ (lowL_bit v n).mem (bit_ones 5) rfl (by decide), foldB_low, Nat.mod_eq_of_lt hv]
  rfl
theorem ref_sixteen (xs : List UInt8) : numberL (sentL (behL longL (allL xs) (List.replicate 16 1))) = chkL xs := by
  rw [number_sent (behL_bit bit_long _ (bit_ones 16)), behL_len, regN_beh bit_long _ (allL_bit xs) (bit_ones 16) rfl (by decide), show regN longL = m16 from by decide +kernel, foldB_all, show regN (List.replicate 16 1) = 65535 from by decide +kernel, ← chkL_eq]
  rfl

end Go.Proofs.YtjecjiikgejlaaaGreatDoor.Ck

namespace Go.Proofs.YtjecjiikgejlaaaGreatDoor.Ck
open Go Go.RowKit

def noBack (m : Nat) : Nat → Nat → Bool
  | 0, _ => true
  | k + 1, x => (Nat.beq (sS m x) 1 == false) && noBack m k (sS m x)
theorem noBack_spec {m : Nat} : ∀ (k x t : Nat), noBack m k x = true → 0 < t → t ≤ k → sN m t x ≠ 1 := by
  intro k
  induction k with
  | zero => intro x t _ h1 h2; omega
  | succ k ih =>
    intro x t h h1 h2
    simp only [noBack, Bool.and_eq_true] at h
    obtain ⟨t', rfl⟩ : ∃ t', t = t' + 1 := ⟨t - 1, by omega⟩
    show sN m t' (sS m x) ≠ 1
    rcases Nat.eq_zero_or_pos t' with h0 | h0
    · subst h0
      intro e
      have e' : sS m x = 1 := e
      rw [e'] at h
      exact absurd h.1 (by decide)
    · exact ih _ _ h.2 h0 (by omega)
set_option maxRecDepth 1000000 in
theorem noBack16 : noBack m16 8207 1 = true := by decide +kernel
theorem back16 (t : Nat) (h0 : 0 < t) (h : t ≤ 8207) : sN m16 t 1 ≠ 1 := noBack_spec 8207 1 t noBack16 h0 h

/-- How many of the k lowest bits are 1. -/
def cnt : Nat → Nat → Nat
  | 0, _ => 0
  | k + 1, x => x % 2 + cnt k (x / 2)
theorem cnt_snoc (k x : Nat) : cnt (k + 1) x = cnt k x + x / 2 ^ k % 2 := by
  induction k generalizing x with
  | zero => simp [cnt]
  | succ k ih =>
    show x % 2 + cnt (k + 1) (x / 2) = x % 2 + cnt k (x / 2) + x / 2 ^ (k + 1) % 2
    rw [ih, Nat.div_div_eq_div_mul, Nat.pow_succ, Nat.mul_comm 2 (2 ^ k)]
    omega
theorem cnt_par (k x : Nat) : parN k x = decide (cnt k x % 2 = 1) := by
  induction k generalizing x with
  | zero => rfl
  | succ k ih =>
    show ((x % 2 == 1) != parN k (x / 2)) = decide ((x % 2 + cnt k (x / 2)) % 2 = 1)
    rw [ih]
    have h1 : x % 2 = 0 ∨ x % 2 = 1 := by omega
    have h2 : cnt k (x / 2) % 2 = 0 ∨ cnt k (x / 2) % 2 = 1 := by omega
    generalize cnt k (x / 2) = c at h2
    rcases h1 with h1 | h1 <;> rcases h2 with h2 | h2 <;> rw [h1]
    · rw [show decide ((0 + c) % 2 = 1) = false from decide_eq_false (by omega), show decide (c % 2 = 1) = false from decide_eq_false (by omega)]; rfl
    · rw [show decide ((0 + c) % 2 = 1) = true from decide_eq_true (by omega), show decide (c % 2 = 1) = true from decide_eq_true (by omega)]; rfl
    · rw [show decide ((1 + c) % 2 = 1) = true from decide_eq_true (by omega), show decide (c % 2 = 1) = false from decide_eq_false (by omega)]; rfl
    · rw [show decide ((1 + c) % 2 = 1) = false from decide_eq_false (by omega), show decide (c % 2 = 1) = true from decide_eq_true (by omega)]; rfl
theorem cnt_zero {k x : Nat} (hx : x < 2 ^ k) (h : cnt k x = 0) : x = 0 := by
  induction k generalizing x with
  | zero => simpa using hx
  | succ k ih =>
    have h1 : x % 2 + cnt k (x / 2) = 0 := h
    have := ih (x := x / 2) (by rw [Nat.pow_succ] at hx; omega) (by omega)
    omega
theorem cnt_one {k x : Nat} (hx : x < 2 ^ k) (h : cnt k x = 1) : ∃ i, i < k ∧ x = 2 ^ i := by
  induction k generalizing x with
  | zero => cases h
  | succ k ih =>
    have h1 : x % 2 + cnt k (x / 2) = 1 := h
    have hx2 : x / 2 < 2 ^ k := by rw [Nat.pow_succ] at hx; omega
    rcases (by omega : x % 2 = 1 ∨ x % 2 = 0) with h2 | h2
    · have := cnt_zero hx2 (by omega)
      exact ⟨0, by omega, by rw [Nat.pow_zero]; omega⟩
    · obtain ⟨i, hi, e⟩ := ih hx2 (by omega)
      exact ⟨i + 1, by omega, by rw [Nat.pow_succ]; omega⟩
theorem cnt_two {k x : Nat} (hx : x < 2 ^ k) (h : cnt k x = 2) : ∃ i j, i < j ∧ j < k ∧ x = 2 ^ i + 2 ^ j := by
  induction k generalizing x with
  | zero => cases h
  | succ k ih =>
    have h1 : x % 2 + cnt k (x / 2) = 2 := h
    have hx2 : x / 2 < 2 ^ k := by rw [Nat.pow_succ] at hx; omega
    rcases (by omega : x % 2 = 1 ∨ x % 2 = 0) with h2 | h2
    · obtain ⟨i, hi, e⟩ := cnt_one hx2 (by omega)
      exact ⟨0, i + 1, by omega, by omega, by rw [Nat.pow_zero, Nat.pow_succ]; omega⟩
    · obtain ⟨i, j, hij, hj, e⟩ := ih hx2 (by omega)
      exact ⟨i + 1, j + 1, by omega, by omega, by rw [Nat.pow_succ, Nat.pow_succ]; omega⟩
theorem add_xor {i j : Nat} (h : i < j) : 2 ^ i + 2 ^ j = 2 ^ i ^^^ 2 ^ j := by
  have := low_high (k := j) (b := 2 ^ i) 1 (Nat.pow_lt_pow_right (by omega) h)
  rwa [Nat.mul_one] at this
theorem count_err {n E : Nat} (hE : E < 2 ^ n) (hn : 16 ≤ n) (hn2 : n ≤ 8208) (h : cnt n E % 2 = 1 ∨ cnt n E = 2) : sN m16 n E ≠ 0 := by
  intro hs
  rcases h with h | h
  · have := odd_found (m := m16) (d := 16) (by decide) (by decide) hn hE hs
    rw [cnt_par, decide_eq_true h] at this
    cases this
  · obtain ⟨i, j, hij, hj, rfl⟩ := cnt_two hE h
    rw [add_xor hij] at hs
    exact two_found (d := 16) (by decide) (by decide) (by decide) hij (by omega) (back16 _ (by omega) (by omega)) hs

theorem leV_bit (xs : List UInt8) (i : Nat) : (leV xs).testBit i = (xs.getD (i / 8) 0).toNat.testBit (i % 8) := by
  induction xs generalizing i with
  | nil => simp [leV, List.getD]
  | cons b bs ih =>
    show (b.toNat + 2 ^ 8 * leV bs).testBit i = _
    rw [Nat.add_comm, Nat.testBit_two_pow_mul_add _ b.toNat_lt]
    by_cases h : i < 8
    · rw [if_pos h, show i / 8 = 0 from by omega, show i % 8 = i from by omega, List.getD_cons_zero]
    · rw [if_neg h, ih, show i / 8 = (i - 8) / 8 + 1 from by omega, show i % 8 = (i - 8) % 8 from by omega, List.getD_cons_succ]
theorem bit_of (n i : Nat) : n / 2 ^ i % 2 = if n.testBit i then 1 else 0 := by
  rw [Nat.testBit_eq_decide_div_mod_eq]
  have : n / 2 ^ i % 2 < 2 := Nat.mod_lt _ (by omega)
  by_cases h : n / 2 ^ i % 2 = 1
  · rw [decide_eq_true h, h]; rfl
  · rw [decide_eq_false h, show n / 2 ^ i % 2 = 0 from by omega]; rfl
/-- The bit that the law counts. -/
theorem count_bit (ps qs : List UInt8) (i : Nat) : (leV ps ^^^ leV qs) / 2 ^ i % 2 = ((ps.getD (i / 8) 0).toNat ^^^ (qs.getD (i / 8) 0).toNat) / 2 ^ (i % 8) % 2 := by
  rw [bit_of, bit_of, Nat.testBit_xor, Nat.testBit_xor, leV_bit, leV_bit]
theorem leV_flip {xs : List UInt8} {at' : Nat} (h : at' / 8 < xs.length) : leV (xs.set (at' / 8) (UInt8.ofNat ((xs.getD (at' / 8) 0).toNat ^^^ 2 ^ (at' % 8)))) = leV xs ^^^ 2 ^ at' := by
  apply Nat.eq_of_testBit_eq
  intro i
  rw [leV_bit, Nat.testBit_xor, leV_bit, Nat.testBit_two_pow]
  have h8 : (xs.getD (at' / 8) 0).toNat ^^^ 2 ^ (at' % 8) < 2 ^ 8 := Nat.xor_lt_two_pow (UInt8.toNat_lt _) (Nat.pow_lt_pow_right (by omega) (by omega))
  by_cases e : at' / 8 = i / 8
  · rw [← e, show (xs.set (at' / 8) (UInt8.ofNat ((xs.getD (at' / 8) 0).toNat ^^^ 2 ^ (at' % 8)))).getD (at' / 8) 0 = UInt8.ofNat ((xs.getD (at' / 8) 0).toNat ^^^ 2 ^ (at' % 8)) from by simp [List.getD, h], bit_ofNat (by omega), Nat.testBit_xor, Nat.testBit_two_pow]
    congr 1
    exact decide_eq_decide.2 (by omega)
  · have : (xs.set (at' / 8) (UInt8.ofNat ((xs.getD (at' / 8) 0).toNat ^^^ 2 ^ (at' % 8)))).getD (i / 8) 0 = xs.getD (i / 8) 0 := by
      simp only [List.getD_eq_getElem?_getD, List.getElem?_set_ne e]
    rw [this, decide_eq_false (by omega : ¬ at' = i), Bool.xor_false]

theorem leV_append (a b : List UInt8) : leV (a ++ b) = leV a + 2 ^ (8 * a.length) * leV b := by
  induction a with
  | nil => simp [leV]
  | cons x xs ih =>
    show x.toNat + 2 ^ 8 * leV (xs ++ b) = x.toNat + 2 ^ 8 * leV xs + 2 ^ (8 * (xs.length + 1)) * leV b
    rw [ih, Nat.mul_add, show 8 * (xs.length + 1) = 8 + 8 * xs.length from by omega, Nat.pow_add, Nat.mul_assoc]
    omega
/-- What Check accepts are the protected bytes. -/
theorem okL_iff {xs : List UInt8} (h : 2 ≤ xs.length) : chkL (frontL xs) = lastL xs ↔ okN m16 16 (8 * xs.length) (leV xs) := by
  have hf : (frontL xs).length = xs.length - 2 := by unfold frontL; rw [List.length_take]; omega
  obtain ⟨a, b, hd⟩ : ∃ a b, xs.drop (xs.length - 2) = [a, b] := by
    have hl : (xs.drop (xs.length - 2)).length = 2 := by rw [List.length_drop]; omega
    match hx : xs.drop (xs.length - 2), hl with
    | [a, b], _ => exact ⟨a, b, rfl⟩
  have hx : xs = frontL xs ++ [a, b] := by rw [← hd]; exact (List.take_append_drop _ _).symm
  have hlast : lastL xs = leV [a, b] := by
    have e1 : xs.getD (xs.length - 2) 0 = a := by
      have := congrArg (fun l => l.getD 0 0) hd
      simpa [List.getD, List.getElem?_drop] using this
    have e2 : xs.getD (xs.length - 1) 0 = b := by
      have := congrArg (fun l => l.getD 1 0) hd
      simp only [List.getD_eq_getElem?_getD, List.getElem?_drop, show xs.length - 2 + 1 = xs.length - 1 from by omega] at this
      simpa [List.getD] using this
    unfold lastL
    rw [e1, e2]
    simp [leV]
  have hV : leV xs = leV (frontL xs) + 2 ^ (8 * xs.length - 16) * leV [a, b] := by
    conv => lhs; rw [hx]
    rw [leV_append, hf, show 8 * (xs.length - 2) = 8 * xs.length - 16 from by omega]
  have hlt : leV (frontL xs) < 2 ^ (8 * xs.length - 16) := by
    have := leV_lt (frontL xs)
    rwa [hf, show 8 * (xs.length - 2) = 8 * xs.length - 16 from by omega] at this
  unfold okN
  rw [hlast, hV, Nat.add_mul_mod_self_left, Nat.mod_eq_of_lt hlt, Nat.add_mul_div_left _ _ (Nat.two_pow_pos _), Nat.div_eq_of_lt hlt, Nat.zero_add]
  unfold chkL
  rw [hf, show 8 * (xs.length - 2) = 8 * xs.length - 16 from by omega]
/-- Protected bytes that are changed: their check fails. -/
theorem long_err {ps qs : List UInt8} (hp : chkL (frontL ps) = lastL ps) (h2 : 2 ≤ ps.length) (hl : qs.length = ps.length) (hs : sN m16 (8 * ps.length) (leV ps ^^^ leV qs) ≠ 0) : chkL (frontL qs) ≠ lastL qs := by
  intro hq
  rw [okL_iff (by omega)] at hp hq
  rw [hl] at hq
  have h1 := leV_lt ps
  have h3 := leV_lt qs
  rw [hl] at h3
  refine hs (okN_change (m := m16) (d := 16) (by decide) (by decide) (by omega) h1 (Nat.xor_lt_two_pow h1 h3) hp ?_)
  rwa [← Nat.xor_assoc, Nat.xor_self, Nat.zero_xor]

/-- The burst of the k lowest bits of B, from place a on, of n bits in all. -/
def bst (n a B k : Nat) : Nat := 2 ^ a * (B % 2 ^ k) % 2 ^ n
theorem bst_zero (n a B : Nat) : bst n a B 0 = 0 := by simp [bst, Nat.mod_one]
theorem bst_low (n a B k : Nat) : bst n a B k < 2 ^ (a + k) := by
  refine Nat.lt_of_le_of_lt (Nat.mod_le _ _) ?_
  rw [Nat.pow_add]
  exact Nat.mul_lt_mul_of_pos_left (Nat.mod_lt _ (Nat.two_pow_pos k)) (Nat.two_pow_pos a)
theorem bst_succ (n a B k : Nat) : bst n a B (k + 1) = bst n a B k ^^^ (if B / 2 ^ k % 2 = 1 then 2 ^ (a + k) % 2 ^ n else 0) := by
  unfold bst
  rw [Nat.mod_pow_succ, Nat.mul_add, ← Nat.mul_assoc, ← Nat.pow_add]
  have hl : 2 ^ a * (B % 2 ^ k) < 2 ^ (a + k) := by
    rw [Nat.pow_add]
    exact Nat.mul_lt_mul_of_pos_left (Nat.mod_lt _ (Nat.two_pow_pos k)) (Nat.two_pow_pos a)
  rw [low_high _ hl, Nat.xor_mod_two_pow]
  congr 1
  have : B / 2 ^ k % 2 < 2 := Nat.mod_lt _ (by omega)
  by_cases h : B / 2 ^ k % 2 = 1
  · rw [h, if_pos rfl, Nat.mul_one]
  · rw [if_neg h, show B / 2 ^ k % 2 = 0 from by omega, Nat.mul_zero, Nat.zero_mod]
theorem bst_flip {n a B k : Nat} (h : a + k < n) (hb : B / 2 ^ k % 2 = 1) : bst n a B (k + 1) = bst n a B k ^^^ 2 ^ (a + k) ∧ bst n a B (k + 1) ≠ 0 := by
  have e : bst n a B (k + 1) = bst n a B k ^^^ 2 ^ (a + k) := by
    rw [bst_succ, if_pos hb, Nat.mod_eq_of_lt (Nat.pow_lt_pow_right (by omega) h)]
  refine ⟨e, ?_⟩
  rw [e]
  intro h0
  rw [xor_eq_zero_iff'] at h0
  have := bst_low n a B k
  omega
theorem bst_same {n a B k : Nat} (h : ¬ (a + k < n ∧ B / 2 ^ k % 2 = 1)) : bst n a B (k + 1) = bst n a B k := by
  rw [bst_succ]
  by_cases hb : B / 2 ^ k % 2 = 1
  · rw [if_pos hb, Nat.mod_eq_zero_of_dvd (Nat.pow_dvd_pow 2 (by omega)), Nat.xor_zero]
  · rw [if_neg hb, Nat.xor_zero]
theorem bst_err {n a B : Nat} (ha : a < n) (h : bst n a B 16 ≠ 0) : sN m16 n (bst n a B 16) ≠ 0 := by
  have e : bst n a B 16 = 2 ^ a * (B % 2 ^ 16 % 2 ^ (n - a)) := by
    unfold bst
    rw [show 2 ^ n = 2 ^ a * 2 ^ (n - a) from by rw [← Nat.pow_add, show a + (n - a) = n from by omega], Nat.mul_mod_mul_left]
  rw [e] at h ⊢
  intro hs
  have := burst_found (m := m16) (d := 16) (n := n) (at' := a) (w := B % 2 ^ 16 % 2 ^ (n - a)) (by decide) (by decide) (by omega) (Nat.lt_of_le_of_lt (Nat.mod_le _ _) (Nat.mod_lt _ (by decide))) hs
  rw [this, Nat.mul_zero] at h
  exact h rfl

end Go.Proofs.YtjecjiikgejlaaaGreatDoor.Ck

namespace Go.Proofs.YtjecjiikgejlaaaGreatDoor.Ck
open Go Go.RowKit

def knownN (p : Nat) : Bool := p == 1 || p == 2 || p == 3 || p == 5 || p == 6 || p == 8 || p == 9 || p == 10 || p == 11 || p == 13 || p == 14
def tokenN (p : Nat) : Bool := p == 1 || p == 9 || p == 13
def dataN (p : Nat) : Bool := p == 3 || p == 11
def manyN (p : Nat) : Nat := if tokenN p || p == 5 then 2 else if p == 8 then 3 else 0
def firstN (p : Nat) : Nat := p + 16 * (15 - p)
instance (m d n V : Nat) : Decidable (okN m d n V) := inferInstanceAs (Decidable (_ = _))
/-- The error that Decode has for bytes. -/
def errL : List UInt8 → Nat
  | [] => 4
  | f :: r =>
    if ¬ (knownN (f.toNat % 16) = true ∧ f.toNat = firstN (f.toNat % 16)) then 4
    else if dataN (f.toNat % 16) then
      if r.length < 2 ∨ 1026 < r.length then 5 else if chkL (frontL r) = lastL r then 0 else 10
    else if r.length ≠ manyN (f.toNat % 16) then 5
    else if r.length = 0 then 0
    else if okN 20 5 (8 * r.length) (leV r) then (if f.toNat % 16 = 8 ∧ leV r / 2 ^ 16 % 2 ≠ 0 then 4 else 0) else 10

theorem first_apart : ∀ p q : Fin 16, ∀ j : Fin 8, firstN p.val ^^^ firstN q.val ≠ 2 ^ j.val * 1 % 256 ∧ firstN p.val ^^^ firstN q.val ≠ 2 ^ j.val * 3 % 256 ∧ firstN p.val ^^^ firstN q.val ≠ 2 ^ j.val * 65 % 256 := by decide +kernel

/-- What is protected, and a few bits of it: not both are right. -/
theorem few16 {n j w V W : Nat} (hn : 16 ≤ n) (hV : V < 2 ^ n) (hW : W < 2 ^ n) (hw : w = 1 ∨ w = 3 ∨ w = 65) (he : V ^^^ W = 2 ^ j * w) (h0 : okN m16 16 n V) (h1 : okN m16 16 n W) : False := by
  have hE : V ^^^ W < 2 ^ n := Nat.xor_lt_two_pow hV hW
  have h2 : W = V ^^^ (V ^^^ W) := by rw [← Nat.xor_assoc, Nat.xor_self, Nat.zero_xor]
  rw [h2] at h1
  have := okN_change (m := m16) (d := 16) (by decide) (by decide) hn hV hE h0 h1
  rw [he] at this hE
  have hj : j ≤ n := by
    rcases Nat.lt_or_ge n j with h | h
    · have : 2 ^ n < 2 ^ j := Nat.pow_lt_pow_right (by omega) h
      have : 2 ^ j * 1 ≤ 2 ^ j * w := Nat.mul_le_mul_left _ (by omega)
      omega
    · exact h
  have := burst_found (m := m16) (d := 16) (by decide) (by decide) hj (by omega) this
  omega
theorem few5 {n j w V W : Nat} (hn : 5 ≤ n) (hV : V < 2 ^ n) (hW : W < 2 ^ n) (hw : w = 1 ∨ w = 3 ∨ w = 65) (he : V ^^^ W = 2 ^ j * w) (h0 : okN 20 5 n V) (h1 : okN 20 5 n W) : False := by
  have hE : V ^^^ W < 2 ^ n := Nat.xor_lt_two_pow hV hW
  have h2 : W = V ^^^ (V ^^^ W) := by rw [← Nat.xor_assoc, Nat.xor_self, Nat.zero_xor]
  rw [h2] at h1
  have := okN_change (m := 20) (d := 5) (by decide) (by decide) hn hV hE h0 h1
  rw [he] at this hE
  have hj : ∀ k, 2 ^ j * 2 ^ k ≤ 2 ^ j * w → j + k < n := by
    intro k hk
    rcases Nat.lt_or_ge (j + k) n with h | h
    · exact h
    · have := Nat.pow_le_pow_right (n := 2) (by omega) h
      rw [Nat.pow_add] at this
      omega
  rcases hw with rfl | rfl | rfl
  · have := burst_found (m := 20) (d := 5) (by decide) (by decide) (Nat.le_of_lt (hj 0 (Nat.mul_le_mul_left _ (by decide)))) (by decide) this
    omega
  · have := burst_found (m := 20) (d := 5) (by decide) (by decide) (Nat.le_of_lt (hj 0 (Nat.mul_le_mul_left _ (by decide)))) (by decide) this
    omega
  · have h6 := hj 6 (Nat.mul_le_mul_left _ (by decide))
    have e : 2 ^ j * 65 = 2 ^ j ^^^ 2 ^ (j + 6) := by
      rw [← add_xor (by omega), Nat.pow_add]; omega
    rw [e] at this
    exact two_found (m := 20) (d := 5) (by decide) (by decide) (by decide) (by omega) (by omega) (by rw [show j + 6 - j = 6 from by omega]; decide) this

theorem spoilt {ys zs : List UInt8} {j w : Nat} (hy : errL ys = 0) (hz : errL zs = 0) (hl : zs.length = ys.length) (hw : w = 1 ∨ w = 3 ∨ w = 65) (he : leV ys ^^^ leV zs = 2 ^ j * w) : False := by
  cases ys with
  | nil => cases hy
  | cons f r =>
  cases zs with
  | nil => cases hz
  | cons g s =>
  have hrl : s.length = r.length := by simpa using hl
  simp only [errL] at hy hz
  split at hy
  · cases hy
  split at hz
  · cases hz
  rename_i k1 k2
  obtain ⟨_, k1⟩ := Classical.not_not.1 k1
  obtain ⟨_, k2⟩ := Classical.not_not.1 k2
  have hf := f.toNat_lt
  have hg := g.toNat_lt
  have hp : f.toNat % 16 < 16 := Nat.mod_lt _ (by omega)
  have hq : g.toNat % 16 < 16 := Nat.mod_lt _ (by omega)
  have hx : f.toNat ^^^ g.toNat = 2 ^ j * w % 256 := by
    rw [← he]
    show _ = ((f.toNat + 2 ^ 8 * leV r) ^^^ (g.toNat + 2 ^ 8 * leV s)) % 2 ^ 8
    rw [Nat.xor_mod_two_pow, Nat.add_mul_mod_self_left, Nat.add_mul_mod_self_left, Nat.mod_eq_of_lt hf, Nat.mod_eq_of_lt hg]
  have hj : 8 ≤ j := by
    rcases Nat.lt_or_ge j 8 with h | h
    · exfalso
      obtain ⟨a1, a2, a3⟩ := first_apart ⟨_, hp⟩ ⟨_, hq⟩ ⟨j, h⟩
      simp only at a1 a2 a3
      rw [← k1, ← k2] at a1 a2 a3
      rcases hw with rfl | rfl | rfl
      · exact a1 hx
      · exact a2 hx
      · exact a3 hx
    · exact h
  have e2 : 2 ^ j * w = 2 ^ 8 * (2 ^ (j - 8) * w) := by
    rw [← Nat.mul_assoc, ← Nat.pow_add, show 8 + (j - 8) = j from by omega]
  have hfg : f.toNat = g.toNat := by
    rw [e2, show (256 : Nat) = 2 ^ 8 from rfl, Nat.mul_mod_right] at hx
    exact xor_eq_zero_iff'.1 hx
  have hR : leV r ^^^ leV s = 2 ^ (j - 8) * w := by
    have h1 : (f.toNat + 2 ^ 8 * leV r) ^^^ (g.toNat + 2 ^ 8 * leV s) = 2 ^ 8 * (2 ^ (j - 8) * w) := by rw [← e2]; exact he
    have h2 : ((f.toNat + 2 ^ 8 * leV r) ^^^ (g.toNat + 2 ^ 8 * leV s)) / 2 ^ 8 = leV r ^^^ leV s := by
      rw [← Nat.shiftRight_eq_div_pow, Nat.shiftRight_xor_distrib, Nat.shiftRight_eq_div_pow, Nat.shiftRight_eq_div_pow, Nat.add_mul_div_left _ _ (by decide), Nat.add_mul_div_left _ _ (by decide), Nat.div_eq_of_lt hf, Nat.div_eq_of_lt hg, Nat.zero_add, Nat.zero_add]
    rw [← h2, h1, Nat.mul_div_cancel_left _ (by decide)]
  have v1 := leV_lt r
  have v2 := leV_lt s
  rw [hrl] at v2
  rw [← hfg, hrl] at hz
  split at hy
  · rename_i hd
    rw [if_pos hd] at hz
    split at hy
    · cases hy
    rename_i hlen
    rw [if_neg hlen] at hz
    split at hy
    · rename_i c1
      split at hz
      · rename_i c2
        rw [okL_iff (by omega)] at c1 c2
        rw [hrl] at c2
        exact few16 (by omega) v1 v2 hw hR c1 c2
      · cases hz
    · cases hy
  · rename_i hd
    rw [if_neg hd] at hz
    split at hy
    · cases hy
    rename_i hlen
    rw [if_neg hlen] at hz
    split at hy
    · rename_i h0
      rw [h0] at v1 v2
      have z : ∀ x : Nat, x < 2 ^ (8 * 0) → x = 0 := fun x h => by simpa using h
      rw [z _ v1, z _ v2] at hR
      have h3 : 0 < 2 ^ (j - 8) * w := Nat.mul_pos (Nat.two_pow_pos _) (by omega)
      rw [← hR] at h3
      exact absurd h3 (by decide)
    · rename_i h0
      rw [if_neg h0] at hz
      split at hy
      · rename_i c1
        split at hz
        · rename_i c2
          exact few5 (by omega) v1 v2 hw hR c1 c2
        · cases hz
      · cases hy

end Go.Proofs.YtjecjiikgejlaaaGreatDoor.Ck


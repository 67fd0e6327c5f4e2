/-
  Helper text: what the reference makes of lists of bits, and the registers as numbers; no statement is proved here.
-/
import Derived.Test.YtfblpakoibadoaaGreatDoorCkSixteen
namespace Go.Proofs.YtfblpakoibadoaaGreatDoor.Ck
open Go Go.RowKit

/-- All elements are 0 or 1. -/
def Bit (xs : List UInt8) : Prop := ∀ i, (xs.getD i 0).toNat ≤ 1
theorem Bit.of_mem {xs : List UInt8} (h : ∀ x ∈ xs, x.toNat ≤ 1) : Bit xs := fun i => by
  rcases Nat.lt_or_ge i xs.length with hi | hi
  · rw [List.getD_eq_getElem?_getD, List.getElem?_eq_getElem hi]; exact h _ (List.getElem_mem hi)
  · rw [List.getD_eq_getElem?_getD, List.getElem?_eq_none hi]; decide
theorem Bit.mem {xs : List UInt8} (h : Bit xs) : ∀ x ∈ xs, x.toNat ≤ 1 := fun x hx => by
  obtain ⟨i, hi, rfl⟩ := List.mem_iff_getElem.1 hx
  have := h i
  rwa [List.getD_eq_getElem?_getD, List.getElem?_eq_getElem hi] at this

def lowL (v n : Nat) : List UInt8 := (List.range n).map fun i => UInt8.ofNat (v / 2 ^ i % 2)
theorem lowL_len (v n : Nat) : (lowL v n).length = n := by simp [lowL]
theorem lowL_succ (v n : Nat) : lowL v (n + 1) = lowL v n ++ [UInt8.ofNat (v / 2 ^ n % 2)] := by simp [lowL, List.range_succ]
theorem bit_ofNat {x : Nat} (h : x < 256) : (UInt8.ofNat x).toNat = x := by rw [UInt8.toNat_ofNat']; omega
theorem lowL_bit (v n : Nat) : Bit (lowL v n) := Bit.of_mem fun x hx => by
  obtain ⟨i, _, rfl⟩ := List.mem_map.1 hx
  have : v / 2 ^ i % 2 < 2 := Nat.mod_lt _ (by omega)
  rw [bit_ofNat (by omega)]; omega

def numberL : List UInt8 → Nat
  | [] => 0
  | b :: bs => b.toNat + 2 * numberL bs
theorem numberL_lt {xs : List UInt8} (h : ∀ x ∈ xs, x.toNat ≤ 1) : numberL xs < 2 ^ xs.length := by
  induction xs with
  | nil => decide
  | cons b bs ih =>
    have h1 := h b (by simp)
    have h2 := ih fun x hx => h x (by simp [hx])
    show b.toNat + 2 * numberL bs < 2 ^ (bs.length + 1)
    rw [Nat.pow_succ]; omega
theorem numberL_bit {xs : List UInt8} (h : ∀ x ∈ xs, x.toNat ≤ 1) (i : Nat) : (numberL xs).testBit i = decide ((xs.getD i 0).toNat = 1) := by
  induction xs generalizing i with
  | nil => simp [numberL, List.getD]
  | cons b bs ih =>
    have h1 := h b (by simp)
    have h2 := ih fun x hx => h x (by simp [hx])
    show (b.toNat + 2 * numberL bs).testBit i = _
    cases i with
    | zero =>
      rw [Nat.testBit_zero, List.getD_cons_zero]
      exact decide_eq_decide.2 (by omega)
    | succ i =>
      rw [Nat.testBit_succ, show (b.toNat + 2 * numberL bs) / 2 = numberL bs from by omega, List.getD_cons_succ]
      exact h2 i

/-- One step of the reference's register. -/
def sumL (r : List UInt8) (b : UInt8) : Nat := ((r.getD (r.length - 1) 0).toNat + b.toNat) % 2
def newL (p r : List UInt8) (b : UInt8) (j : Nat) : UInt8 :=
  if j = 0 then UInt8.ofNat (sumL r b * (p.getD 0 0).toNat) else UInt8.ofNat (((r.getD (j - 1) 0).toNat + sumL r b * (p.getD j 0).toNat) % 2)
def stepL (p r : List UInt8) (b : UInt8) : List UInt8 := (List.range r.length).map (newL p r b)
theorem stepL_len (p r : List UInt8) (b : UInt8) : (stepL p r b).length = r.length := by simp [stepL]
theorem sumL_lt (r : List UInt8) (b : UInt8) : sumL r b < 2 := Nat.mod_lt _ (by omega)
theorem newL_le {p r : List UInt8} (hp : Bit p) (b : UInt8) (j : Nat) : (newL p r b j).toNat ≤ 1 := by
  have h1 := sumL_lt r b
  have h2 := hp 0
  unfold newL
  split
  · have : sumL r b * (p.getD 0 0).toNat ≤ 1 * 1 := Nat.mul_le_mul (by omega) h2
    rw [bit_ofNat (by omega)]; omega
  · rw [bit_ofNat (by omega)]; omega
theorem stepL_bit {p r : List UInt8} (hp : Bit p) (b : UInt8) : Bit (stepL p r b) := Bit.of_mem fun x hx => by
  obtain ⟨i, _, rfl⟩ := List.mem_map.1 hx
  exact newL_le hp b i
def behL (p bits : List UInt8) (r : List UInt8) : List UInt8 := bits.foldl (stepL p) r
theorem behL_len (p bits : List UInt8) (r : List UInt8) : (behL p bits r).length = r.length := by
  induction bits generalizing r with
  | nil => rfl
  | cons b bs ih => exact (ih _).trans (stepL_len p r b)
theorem behL_bit {p : List UInt8} (hp : Bit p) (bits : List UInt8) {r : List UInt8} (hr : Bit r) : Bit (behL p bits r) := by
  induction bits generalizing r with
  | nil => exact hr
  | cons b bs ih => exact ih (stepL_bit hp b)

/-- The register as a number: what leaves first is lowest. -/
def regN (r : List UInt8) : Nat := numberL r.reverse
theorem regN_bit {r : List UInt8} (h : Bit r) (i : Nat) : (regN r).testBit i = if i < r.length then decide ((r.getD (r.length - 1 - i) 0).toNat = 1) else false := by
  unfold regN
  rw [numberL_bit (fun x hx => h.mem x (List.mem_reverse.1 hx))]
  by_cases hi : i < r.length
  · rw [if_pos hi]
    congr 3
    rw [List.getD_eq_getElem?_getD, List.getD_eq_getElem?_getD, List.getElem?_reverse hi]
  · rw [if_neg hi, List.getD_eq_getElem?_getD, List.getElem?_eq_none (by rw [List.length_reverse]; omega)]; rfl
theorem regN_lt {r : List UInt8} (h : Bit r) : regN r < 2 ^ r.length := by
  have := numberL_lt (xs := r.reverse) (fun x hx => h.mem x (List.mem_reverse.1 hx))
  rwa [List.length_reverse] at this

theorem regN_step {p r : List UInt8} (hp : Bit p) (hr : Bit r) (hl : p.length = r.length) (hd : 0 < r.length) (b : UInt8) (hb : b.toNat ≤ 1) : regN (stepL p r b) = sS (regN p) (regN r ^^^ b.toNat) := by
  have hs : sumL r b = (regN r ^^^ b.toNat) % 2 := by
    have h0 := regN_bit hr 0
    rw [if_pos hd, Nat.testBit_zero, Nat.sub_zero] at h0
    have h1 := hr (r.length - 1)
    have h2 : ((regN r ^^^ b.toNat) % 2 = 1) ↔ ¬ ((regN r % 2 = 1) ↔ (b.toNat % 2 = 1)) := xor_odd _ _
    have h3 : (regN r % 2 = 1) ↔ (r.getD (r.length - 1) 0).toNat = 1 := decide_eq_decide.1 h0
    unfold sumL
    by_cases ha : (r.getD (r.length - 1) 0).toNat = 1 <;> by_cases hbb : b.toNat = 1 <;> omega
  apply Nat.eq_of_testBit_eq
  intro i
  rw [regN_bit (stepL_bit hp b), stepL_len]
  unfold sS
  rw [Nat.testBit_xor, Nat.testBit_shiftRight, Nat.testBit_xor, ← hs]
  have hb1 : b.toNat.testBit (1 + i) = false := Nat.testBit_lt_two_pow (Nat.lt_of_le_of_lt hb (by rw [Nat.add_comm]; exact Nat.one_lt_two_pow (by omega)))
  have hm : (if sumL r b = 1 then regN p else 0).testBit i = if i < r.length then decide (sumL r b * (p.getD (r.length - 1 - i) 0).toNat = 1) else false := by
    have h2 := sumL_lt r b
    rcases (by omega : sumL r b = 0 ∨ sumL r b = 1) with h | h
    · rw [h]; simp
    · rw [h, if_pos rfl, regN_bit hp, hl, Nat.one_mul]
  rw [hb1, hm, regN_bit hr, Bool.xor_false]
  by_cases hi : i < r.length
  · rw [if_pos hi, if_pos hi]
    have hget : (stepL p r b).getD (r.length - 1 - i) 0 = newL p r b (r.length - 1 - i) := by
      simp only [stepL, List.getD_eq_getElem?_getD, List.getElem?_map, List.getElem?_range (show r.length - 1 - i < r.length by omega)]; rfl
    rw [hget]
    have h2 := sumL_lt r b
    have h3 := hp (r.length - 1 - i)
    by_cases he : i + 1 < r.length
    · rw [if_pos (show 1 + i < r.length by omega)]
      unfold newL
      rw [if_neg (by omega), show r.length - 1 - i - 1 = r.length - 1 - (1 + i) from by omega]
      have h4 := hr (r.length - 1 - (1 + i))
      generalize (r.getD (r.length - 1 - (1 + i)) 0).toNat = x at h4
      generalize (p.getD (r.length - 1 - i) 0).toNat = y at h3
      have h5 : sumL r b * y ≤ 1 * 1 := Nat.mul_le_mul (by omega) h3
      generalize sumL r b * y = z at h5
      rw [bit_ofNat (by omega)]
      rcases (by omega : x = 0 ∨ x = 1) with rfl | rfl <;> rcases (by omega : z = 0 ∨ z = 1) with rfl | rfl <;> rfl
    · have hz : r.length - 1 - i = 0 := by omega
      rw [if_neg (show ¬ 1 + i < r.length by omega)]
      unfold newL
      rw [hz] at h3 ⊢
      rw [if_pos rfl]
      generalize (p.getD 0 0).toNat = y at h3
      have h5 : sumL r b * y ≤ 1 * 1 := Nat.mul_le_mul (by omega) h3
      rw [bit_ofNat (by omega), Bool.false_xor]
  · rw [if_neg hi, if_neg (show ¬ 1 + i < r.length by omega), if_neg hi]; rfl

/-- The register behind bits, as numbers. -/
def foldB (m r : Nat) (bits : List UInt8) : Nat := bits.foldl (fun r b => sS m (r ^^^ b.toNat)) r
theorem regN_beh {p : List UInt8} (hp : Bit p) (bits : List UInt8) (hb : ∀ x ∈ bits, x.toNat ≤ 1) {r : List UInt8} (hr : Bit r) (hl : p.length = r.length) (hd : 0 < r.length) : regN (behL p bits r) = foldB (regN p) (regN r) bits := by
  induction bits generalizing r with
  | nil => rfl
  | cons b bs ih =>
    have := ih (fun x hx => hb x (by simp [hx])) (stepL_bit hp b) (r := stepL p r b) (by rw [stepL_len, hl]) (by rw [stepL_len]; exact hd)
    rw [regN_step hp hr hl hd b (hb b (by simp))] at this
    exact this
theorem foldB_low (m r v n : Nat) : foldB m r (lowL v n) = sN m n (r ^^^ (v % 2 ^ n)) := by
  induction n with
  | zero => simp [foldB, lowL, sN, Nat.mod_one]
  | succ n ih =>
    rw [lowL_succ, st_succ, ← ih]
    unfold foldB
    rw [List.foldl_append]
    show sS m (_ ^^^ (UInt8.ofNat (v / 2 ^ n % 2)).toNat) = _
    rw [bit_ofNat (by have := Nat.mod_lt (v / 2 ^ n) (y := 2) (by omega); omega)]
def allL (xs : List UInt8) : List UInt8 := xs.flatMap fun b => lowL b.toNat 8
theorem allL_bit (xs : List UInt8) : ∀ x ∈ allL xs, x.toNat ≤ 1 := fun x hx => by
  obtain ⟨b, _, h⟩ := List.mem_flatMap.1 hx
  exact (lowL_bit _ _).mem x h
theorem allL_len (xs : List UInt8) : (allL xs).length = 8 * xs.length := by
  induction xs with
  | nil => rfl
  | cons b bs ih => simp only [allL, List.flatMap_cons, List.length_append, lowL_len, List.length_cons] at ih ⊢; omega
theorem allL_snoc (xs : List UInt8) (b : UInt8) : allL (xs ++ [b]) = allL xs ++ lowL b.toNat 8 := by simp [allL]
theorem foldB_all (r : Nat) (xs : List UInt8) : foldB m16 r (allL xs) = crcL r xs := by
  induction xs generalizing r with
  | nil => rfl
  | cons b bs ih =>
    have : foldB m16 r (allL (b :: bs)) = foldB m16 (foldB m16 r (lowL b.toNat 8)) (allL bs) := by simp [foldB, allL]
    rw [this, ih, foldB_low, Nat.mod_eq_of_lt b.toNat_lt]
    rfl

/-- What is sent. -/
def sentL (r : List UInt8) : List UInt8 := r.reverse.map fun x => 1 - x
theorem number_sent {r : List UInt8} (h : Bit r) : numberL (sentL r) = regN r ^^^ (2 ^ r.length - 1) := by
  have H : ∀ xs : List UInt8, (∀ x ∈ xs, x.toNat ≤ 1) → numberL (xs.map fun x => 1 - x) + numberL xs = 2 ^ xs.length - 1 := by
    intro xs
    induction xs with
    | nil => intro _; rfl
    | cons b bs ih =>
      intro hh
      have h1 := hh b (by simp)
      have h2 := ih fun x hx => hh x (by simp [hx])
      have h3 : (1 - b : UInt8).toNat = 1 - b.toNat := by
        rcases (by omega : b.toNat = 0 ∨ b.toNat = 1) with h | h
        · rw [UInt8.toNat_inj.1 (show b.toNat = (0 : UInt8).toNat from h)]; rfl
        · rw [UInt8.toNat_inj.1 (show b.toNat = (1 : UInt8).toNat from h)]; rfl
      show (1 - b).toNat + 2 * numberL (bs.map fun x => 1 - x) + (b.toNat + 2 * numberL bs) = 2 ^ (bs.length + 1) - 1
      have := Nat.two_pow_pos bs.length
      rw [h3, Nat.pow_succ]; omega
  have h1 := H r.reverse fun x hx => h.mem x (List.mem_reverse.1 hx)
  rw [List.length_reverse] at h1
  have h2 := regN_lt h
  have h3 : regN r ^^^ (2 ^ r.length - 1) = 2 ^ r.length - 1 - regN r := by
    apply Nat.eq_of_testBit_eq
    intro i
    rw [Nat.testBit_xor, Nat.testBit_two_pow_sub_one, show 2 ^ r.length - 1 - regN r = 2 ^ r.length - (regN r + 1) from by omega, Nat.testBit_two_pow_sub_succ h2]
    by_cases hi : i < r.length
    · simp [hi]
    · rw [Nat.testBit_lt_two_pow (Nat.lt_of_lt_of_le h2 (Nat.pow_le_pow_right (by omega) (by omega)))]; simp [hi]
  rw [h3]
  show numberL (r.reverse.map fun x => 1 - x) = 2 ^ r.length - 1 - numberL r.reverse
  omega
theorem sentL_bit {r : List UInt8} (h : Bit r) : ∀ x ∈ sentL r, x.toNat ≤ 1 := fun x hx => by
  obtain ⟨y, hy, rfl⟩ := List.mem_map.1 hx
  have h1 := h.mem y (List.mem_reverse.1 hy)
  rcases (by omega : y.toNat = 0 ∨ y.toNat = 1) with h | h
  · rw [UInt8.toNat_inj.1 (show y.toNat = (0 : UInt8).toNat from h)]; decide
  · rw [UInt8.toNat_inj.1 (show y.toNat = (1 : UInt8).toNat from h)]; decide
theorem sentL_len (r : List UInt8) : (sentL r).length = r.length := by simp [sentL]

def shortL : List UInt8 := [1, 0, 1, 0, 0]
def longL : List UInt8 := [1, 0, 1, 0, 0, 0, 0, 0, 0, 0, 0, 0, 0, 0, 0, 1]
theorem bit_short : Bit shortL := Bit.of_mem (by decide)
theorem bit_long : Bit longL := Bit.of_mem (by decide)
theorem bit_ones (d : Nat) : Bit (List.replicate d 1) := Bit.of_mem fun x hx => by rw [List.eq_of_mem_replicate hx]; decide
/-- The reference's checks. -/
theorem ref_five {v n : Nat} (hv : v < 2 ^ n) : numberL (sentL (behL shortL (lowL v n) (List.replicate 5 1))) = chk 20 5 n v := by
  rw [number_sent (behL_bit bit_short _ (bit_ones 5)), behL_len, regN_beh bit_short _ (lowL_bit v n).mem (bit_ones 5) rfl (by decide), foldB_low, Nat.mod_eq_of_lt hv]
  rfl
theorem ref_sixteen (xs : List UInt8) : numberL (sentL (behL longL (allL xs) (List.replicate 16 1))) = chkL xs := by
  rw [number_sent (behL_bit bit_long _ (bit_ones 16)), behL_len, regN_beh bit_long _ (allL_bit xs) (bit_ones 16) rfl (by decide), show regN longL = m16 from by decide +kernel, foldB_all, show regN (List.replicate 16 1) = 65535 from by decide +kernel, ← chkL_eq]
  rfl

end Go.Proofs.YtfblpakoibadoaaGreatDoor.Ck

/-
  Helper text: registers of polynomials as numbers (the bit that leaves first is the lowest): what a change does to them; no statement is proved here.
-/
import Derived.Test.YtfblpakoibadoaaDoorBase
namespace Go.Proofs.YtfblpakoibadoaaDoor.Ck

/-- one step of a register whose lowest bit leaves first -/
def sS (m x : Nat) : Nat := (x >>> 1) ^^^ (if x % 2 = 1 then m else 0)
def sN (m : Nat) : Nat → Nat → Nat
  | 0, x => x
  | k + 1, x => sN m k (sS m x)

theorem xor_odd (x y : Nat) : ((x ^^^ y) % 2 = 1) ↔ ¬ ((x % 2 = 1) ↔ (y % 2 = 1)) := by
  have e := Nat.testBit_xor x y 0
  simp only [Nat.testBit_zero] at e
  by_cases hx : x % 2 = 1 <;> by_cases hy : y % 2 = 1 <;> by_cases hz : (x ^^^ y) % 2 = 1 <;> simp_all

theorem xor_swap4 (a b c d : Nat) : (a ^^^ b) ^^^ (c ^^^ d) = (a ^^^ c) ^^^ (b ^^^ d) := by
  rw [Nat.xor_assoc, Nat.xor_assoc]
  congr 1
  rw [← Nat.xor_assoc, ← Nat.xor_assoc, Nat.xor_comm b c]

theorem sS_xor (m x y : Nat) : sS m (x ^^^ y) = sS m x ^^^ sS m y := by
  unfold sS
  rw [Nat.shiftRight_xor_distrib, xor_swap4]
  congr 1
  have := xor_odd x y
  by_cases hx : x % 2 = 1 <;> by_cases hy : y % 2 = 1 <;> simp_all

theorem sN_xor (m k x y : Nat) : sN m k (x ^^^ y) = sN m k x ^^^ sN m k y := by
  induction k generalizing x y with
  | zero => rfl
  | succ k ih => simp only [sN, sS_xor, ih]

theorem sN_add (m a b x : Nat) : sN m (a + b) x = sN m b (sN m a x) := by
  induction a generalizing x with
  | zero => simp [sN]
  | succ a ih => rw [Nat.add_right_comm]; simp only [sN, ih]

theorem sS_zero (m : Nat) : sS m 0 = 0 := by simp [sS]
theorem sN_zero (m k : Nat) : sN m k 0 = 0 := by
  induction k with
  | zero => rfl
  | succ k ih => simp only [sN, sS_zero, ih]

theorem sS_two (m x : Nat) : sS m (2 * x) = x := by
  unfold sS
  rw [if_neg (by omega)]
  simp [Nat.shiftRight_eq_div_pow]

theorem sN_shift (m k x : Nat) : sN m k (2 ^ k * x) = x := by
  induction k generalizing x with
  | zero => simp [sN]
  | succ k ih =>
    show sN m k (sS m (2 ^ (k + 1) * x)) = x
    rw [show 2 ^ (k + 1) * x = 2 * (2 ^ k * x) from by rw [Nat.pow_succ]; rw [Nat.mul_comm (2 ^ k) 2, Nat.mul_assoc], sS_two, ih]

theorem sN_shift' (m n i w : Nat) (h : i ≤ n) : sN m n (2 ^ i * w) = sN m (n - i) w := by
  have : n = i + (n - i) := by omega
  conv => lhs; rw [this]
  rw [sN_add, sN_shift]

theorem sS_lt {m d x : Nat} (hm : m < 2 ^ d) (hx : x < 2 ^ d) : sS m x < 2 ^ d := by
  unfold sS
  refine Nat.xor_lt_two_pow ?_ ?_
  · rw [Nat.shiftRight_eq_div_pow]; exact Nat.lt_of_le_of_lt (Nat.div_le_self _ _) hx
  · split
    · exact hm
    · exact Nat.two_pow_pos d

theorem sN_lt {m d x : Nat} (hm : m < 2 ^ d) (k : Nat) (hx : x < 2 ^ d) : sN m k x < 2 ^ d := by
  induction k generalizing x with
  | zero => exact hx
  | succ k ih => exact ih (sS_lt hm hx)

theorem xor_eq_zero_iff' {a b : Nat} : a ^^^ b = 0 ↔ a = b := by
  constructor
  · intro h
    have : (a ^^^ b) ^^^ b = 0 ^^^ b := by rw [h]
    rwa [Nat.xor_assoc, Nat.xor_self, Nat.xor_zero, Nat.zero_xor] at this
  · rintro rfl; exact Nat.xor_self a

theorem sS_ne {m d x : Nat} (hm : 2 ^ d ≤ 2 * m + 1) (hx : x < 2 ^ d) (h : sS m x = 0) : x = 0 := by
  unfold sS at h
  rw [xor_eq_zero_iff', Nat.shiftRight_eq_div_pow] at h
  split at h <;> simp at h <;> omega

theorem sN_ne {m d : Nat} (hm1 : m < 2 ^ d) (hm : 2 ^ d ≤ 2 * m + 1) (k : Nat) {x : Nat} (hx : x < 2 ^ d) (h : sN m k x = 0) : x = 0 := by
  induction k generalizing x with
  | zero => exact h
  | succ k ih => exact sS_ne hm hx (ih (sS_lt hm1 hx) h)

theorem sN_inj {m d : Nat} (hm1 : m < 2 ^ d) (hm : 2 ^ d ≤ 2 * m + 1) (k : Nat) {x y : Nat} (hx : x < 2 ^ d) (hy : y < 2 ^ d) : sN m k x = sN m k y ↔ x = y := by
  constructor
  · intro h
    rw [← xor_eq_zero_iff', ← sN_xor] at h
    exact xor_eq_zero_iff'.1 (sN_ne hm1 hm k (Nat.xor_lt_two_pow hx hy) h)
  · rintro rfl; rfl

/-- a number is its low bits and the others -/
theorem low_high {k b : Nat} (V : Nat) (hb : b < 2 ^ k) : b + 2 ^ k * V = b ^^^ (2 ^ k * V) := by
  apply Nat.eq_of_testBit_eq
  intro i
  rw [Nat.add_comm, Nat.testBit_two_pow_mul_add _ hb, Nat.testBit_xor, Nat.testBit_two_pow_mul]
  by_cases hi : i < k
  · rw [if_pos hi, decide_eq_false (by omega : ¬ k ≤ i)]; simp
  · rw [if_neg hi, Nat.testBit_lt_two_pow (Nat.lt_of_lt_of_le hb (Nat.pow_le_pow_right (by omega) (by omega)))]
    simp; intro _; omega

/-- the register takes k bits at once -/
theorem sN_take (m k n r b V : Nat) (hb : b < 2 ^ k) : sN m (k + n) (r ^^^ (b + 2 ^ k * V)) = sN m n (sN m k (r ^^^ b) ^^^ V) := by
  rw [sN_add, low_high V hb, ← Nat.xor_assoc, sN_xor m k (r ^^^ b), sN_shift]

def chk (m d n V : Nat) : Nat := sN m n ((2 ^ d - 1) ^^^ V) ^^^ (2 ^ d - 1)
def okN (m d n V : Nat) : Prop := chk m d (n - d) (V % 2 ^ (n - d)) = V / 2 ^ (n - d)

theorem ones_lt (d : Nat) : 2 ^ d - 1 < 2 ^ d := by have := Nat.two_pow_pos d; omega

theorem sS_drop {m d e x : Nat} (hm : m < 2 ^ d) (he : d ≤ e) (hx : x < 2 ^ (e + 1)) : sS m x < 2 ^ e := by
  unfold sS
  refine Nat.xor_lt_two_pow ?_ ?_
  · rw [Nat.shiftRight_eq_div_pow, Nat.div_lt_iff_lt_mul (Nat.two_pow_pos 1), ← Nat.pow_add]; exact hx
  · split
    · exact Nat.lt_of_lt_of_le hm (Nat.pow_le_pow_right (by omega) he)
    · exact Nat.two_pow_pos e
theorem sN_drop {m d k x : Nat} (hm : m < 2 ^ d) (hx : x < 2 ^ (d + k)) : sN m k x < 2 ^ d := by
  induction k generalizing x with
  | zero => exact hx
  | succ k ih => exact ih (sS_drop hm (by omega) (by rwa [← Nat.add_assoc] at hx))
theorem sN_taken {m d k b : Nat} (hm : m < 2 ^ d) (hb : b < 2 ^ k) : sN m k ((2 ^ d - 1) ^^^ b) < 2 ^ d :=
  sN_drop hm (Nat.xor_lt_two_pow (Nat.lt_of_lt_of_le (ones_lt d) (Nat.pow_le_pow_right (by omega) (by omega))) (Nat.lt_of_lt_of_le hb (Nat.pow_le_pow_right (by omega) (by omega))))

theorem xor_swap_eq {a b c : Nat} : a ^^^ b = c ↔ a ^^^ c = b := by
  constructor
  · rintro rfl; rw [← Nat.xor_assoc, Nat.xor_self, Nat.zero_xor]
  · rintro rfl; rw [← Nat.xor_assoc, Nat.xor_self, Nat.zero_xor]

theorem okN_iff {m d n V : Nat} (hm1 : m < 2 ^ d) (hm : 2 ^ d ≤ 2 * m + 1) (hn : d ≤ n) (hV : V < 2 ^ n) :
    okN m d n V ↔ sN m n ((2 ^ d - 1) ^^^ V) = sN m d (2 ^ d - 1) := by
  have hp := Nat.two_pow_pos (n - d)
  have hb : V % 2 ^ (n - d) < 2 ^ (n - d) := Nat.mod_lt _ hp
  have hT : V / 2 ^ (n - d) < 2 ^ d := by
    rw [Nat.div_lt_iff_lt_mul hp, ← Nat.pow_add]
    rwa [show d + (n - d) = n from by omega]
  have e : sN m n ((2 ^ d - 1) ^^^ V) = sN m d (sN m (n - d) ((2 ^ d - 1) ^^^ (V % 2 ^ (n - d))) ^^^ (V / 2 ^ (n - d))) := by
    have h1 := sN_take m (n - d) d (2 ^ d - 1) (V % 2 ^ (n - d)) (V / 2 ^ (n - d)) hb
    rw [show n - d + d = n from by omega, Nat.mod_add_div] at h1
    exact h1
  rw [e]
  unfold okN chk
  have hr : sN m (n - d) ((2 ^ d - 1) ^^^ (V % 2 ^ (n - d))) < 2 ^ d := sN_taken hm1 hb
  generalize sN m (n - d) ((2 ^ d - 1) ^^^ (V % 2 ^ (n - d))) = r at hr
  generalize V / 2 ^ (n - d) = T at hT
  rw [sN_inj hm1 hm d (Nat.xor_lt_two_pow hr hT) (ones_lt d)]
  exact xor_swap_eq

/-- what is protected stays so only where the change leaves a register of zeros as it is -/
theorem okN_change {m d n V E : Nat} (hm1 : m < 2 ^ d) (hm : 2 ^ d ≤ 2 * m + 1) (hn : d ≤ n) (hV : V < 2 ^ n) (hE : E < 2 ^ n) (h0 : okN m d n V) (h1 : okN m d n (V ^^^ E)) : sN m n E = 0 := by
  rw [okN_iff hm1 hm hn hV] at h0
  rw [okN_iff hm1 hm hn (Nat.xor_lt_two_pow hV hE), ← Nat.xor_assoc, sN_xor m n _ E, h0] at h1
  have := xor_swap_eq.1 h1
  rwa [Nat.xor_self, eq_comm] at this

theorem chk_lt {m d n V : Nat} (hm : m < 2 ^ d) (hV : V < 2 ^ n) : chk m d n V < 2 ^ d :=
  Nat.xor_lt_two_pow (sN_taken hm hV) (ones_lt d)

/-- what is joined is protected -/
theorem okN_join {m d k V : Nat} (hV : V < 2 ^ k) : okN m d (k + d) (V + 2 ^ k * chk m d k V) := by
  unfold okN
  rw [Nat.add_sub_cancel, Nat.add_mul_mod_self_left, Nat.mod_eq_of_lt hV, Nat.add_mul_div_left _ _ (Nat.two_pow_pos k), Nat.div_eq_of_lt hV, Nat.zero_add]

/-- one bit, a few bits side by side: found -/
theorem burst_found {m d n at' w : Nat} (hm1 : m < 2 ^ d) (hm : 2 ^ d ≤ 2 * m + 1) (hat : at' ≤ n) (hw : w < 2 ^ d) (h : sN m n (2 ^ at' * w) = 0) : w = 0 := by
  rw [sN_shift' m n at' w hat] at h
  exact sN_ne hm1 hm _ hw h

/-- two bits: found, if the register of the bit 1 does not come back meanwhile -/
theorem two_found {m d n i j : Nat} (hd : 0 < d) (hm1 : m < 2 ^ d) (hm : 2 ^ d ≤ 2 * m + 1) (hij : i < j) (hj : j ≤ n) (hp : sN m (j - i) 1 ≠ 1) : sN m n (2 ^ i ^^^ 2 ^ j) ≠ 0 := by
  intro h
  have h1 : (1 : Nat) < 2 ^ d := by have := Nat.pow_le_pow_right (n := 2) (by omega) hd; omega
  have hi := sN_shift' m n i 1 (by omega)
  have hjj := sN_shift' m n j 1 hj
  rw [Nat.mul_one] at hi hjj
  rw [sN_xor, hi, hjj, xor_eq_zero_iff', show n - i = (j - i) + (n - j) from by omega, sN_add, sN_inj hm1 hm (n - j) (sN_lt hm1 _ h1) h1] at h
  exact hp h

/-- the parity of the k lowest bits -/
def parN : Nat → Nat → Bool
  | 0, _ => false
  | k + 1, x => ((x % 2 == 1) != parN k (x / 2))
theorem parN_succ {k x : Nat} (hx : x < 2 ^ k) : parN (k + 1) x = parN k x := by
  induction k generalizing x with
  | zero =>
    have : x = 0 := by simpa using hx
    subst this
    rfl
  | succ k ih =>
    have : x / 2 < 2 ^ k := by rw [Nat.pow_succ] at hx; omega
    show ((x % 2 == 1) != parN (k + 1) (x / 2)) = ((x % 2 == 1) != parN k (x / 2))
    rw [ih this]
theorem parN_xor (k x y : Nat) : parN k (x ^^^ y) = (parN k x != parN k y) := by
  induction k generalizing x y with
  | zero => rfl
  | succ k ih =>
    have hh : (x ^^^ y) / 2 = (x / 2) ^^^ (y / 2) := by
      have := Nat.shiftRight_xor_distrib (a := x) (b := y) (i := 1)
      simpa [Nat.shiftRight_eq_div_pow] using this
    have ho : ((x ^^^ y) % 2 == 1) = ((x % 2 == 1) != (y % 2 == 1)) := by
      have := xor_odd x y
      by_cases hx : x % 2 = 1 <;> by_cases hy : y % 2 = 1 <;> simp_all
    show (((x ^^^ y) % 2 == 1) != parN k ((x ^^^ y) / 2)) = (((x % 2 == 1) != parN k (x / 2)) != ((y % 2 == 1) != parN k (y / 2)))
    rw [hh, ih, ho]
    cases (x % 2 == 1) <;> cases (y % 2 == 1) <;> cases parN k (x / 2) <;> cases parN k (y / 2) <;> rfl
theorem parN_zero (k : Nat) : parN k 0 = false := by
  induction k with
  | zero => rfl
  | succ k ih => show ((0 % 2 == 1) != parN k (0 / 2)) = false; simp [ih]
theorem parN_sS {m k x : Nat} (hm : parN k m = true) (hx : x < 2 ^ k) : parN k (sS m x) = parN k x := by
  unfold sS
  have e : parN k x = ((x % 2 == 1) != parN k (x / 2)) := (parN_succ hx).symm
  rw [parN_xor, Nat.shiftRight_eq_div_pow, Nat.pow_one, e]
  by_cases h : x % 2 = 1
  · rw [if_pos h, hm, h]
    cases parN k (x / 2) <;> rfl
  · have : (x % 2 == 1) = false := by simpa using h
    rw [if_neg h, parN_zero, this]
    cases parN k (x / 2) <;> rfl
theorem parN_sN {m d k n x : Nat} (hm : parN k m = true) (hdk : d ≤ k) (hmd : m < 2 ^ d) (hx : x < 2 ^ k) : parN k (sN m n x) = parN k x := by
  induction n generalizing x with
  | zero => rfl
  | succ n ih =>
    show parN k (sN m n (sS m x)) = _
    rw [ih (sS_lt (Nat.lt_of_lt_of_le hmd (Nat.pow_le_pow_right (by omega) hdk)) hx), parN_sS hm hx]
theorem parN_le {a b x : Nat} (hab : a ≤ b) (hx : x < 2 ^ a) : parN b x = parN a x := by
  induction b with
  | zero => rw [show a = 0 from by omega]
  | succ b ih =>
    by_cases h : a ≤ b
    · rw [parN_succ (Nat.lt_of_lt_of_le hx (Nat.pow_le_pow_right (by omega) h)), ih h]
    · rw [show a = b + 1 from by omega]

/-- an odd number of bits: found -/
theorem odd_found {m d n E : Nat} (hm : parN d m = true) (hmd : m < 2 ^ d) (hn : d ≤ n) (hE : E < 2 ^ n) (h : sN m n E = 0) : parN n E = false := by
  have := parN_sN (m := m) (d := d) (k := n) (n := n) (x := E) (by rw [parN_le hn hmd, hm]) hn hmd hE
  rw [h, parN_zero] at this
  exact this.symm

end Go.Proofs.YtfblpakoibadoaaDoor.Ck

/-
  Helper text: the closures of the check of sixteen bits; no statement is proved here.
-/
import Derived.Test.YtfblpakoibadoaaGreatDoorCkFive
namespace Go.Proofs.YtfblpakoibadoaaGreatDoor.Ck
open Go Go.RowKit

abbrev m16 : Nat := 40961
def leV : List UInt8 → Nat
  | [] => 0
  | b :: bs => b.toNat + 2 ^ 8 * leV bs
/-- The register behind bytes. -/
def crcL (r : Nat) : List UInt8 → Nat
  | [] => r
  | b :: bs => crcL (sN m16 8 (r ^^^ b.toNat)) bs
theorem crcL_snoc (r : Nat) (xs : List UInt8) (x : UInt8) : crcL r (xs ++ [x]) = sN m16 8 (crcL r xs ^^^ x.toNat) := by
  induction xs generalizing r with
  | nil => rfl
  | cons b bs ih => exact ih _
theorem crcL_eq (r : Nat) (xs : List UInt8) : crcL r xs = sN m16 (8 * xs.length) (r ^^^ leV xs) := by
  induction xs generalizing r with
  | nil => simp [crcL, leV, sN]
  | cons b bs ih =>
    show crcL (sN m16 8 (r ^^^ b.toNat)) bs = _
    rw [ih, List.length_cons, show 8 * (bs.length + 1) = 8 + 8 * bs.length from by omega]
    exact (sN_take m16 8 (8 * bs.length) r b.toNat (leV bs) b.toNat_lt).symm
theorem crcL_lt {r : Nat} (hr : r < 2 ^ 16) (xs : List UInt8) : crcL r xs < 2 ^ 16 := by
  induction xs generalizing r with
  | nil => exact hr
  | cons b bs ih => exact ih (sN_lt (by decide) 8 (Nat.xor_lt_two_pow hr (Nat.lt_of_lt_of_le b.toNat_lt (by decide))))
theorem tab16_eq (l : Nat) (h : l < 16) : tab16 l = sN m16 4 l := by
  have H : ∀ l : Fin 16, tab16 l.val = sN m16 4 l.val := by decide +kernel
  exact H ⟨l, h⟩
theorem tab16_lt (l : Nat) (h : l < 16) : tab16 l < 65536 := by
  have H : ∀ l : Fin 16, tab16 l.val < 65536 := by decide +kernel
  exact H ⟨l, h⟩
theorem four_step (x : Nat) : (x >>> 4) ^^^ tab16 (x % 16) = sN m16 4 x := by
  have h := sN_take m16 4 0 0 (x % 2 ^ 4) (x / 2 ^ 4) (Nat.mod_lt _ (by decide))
  rw [Nat.mod_add_div, Nat.zero_xor, Nat.zero_xor] at h
  rw [tab16_eq _ (Nat.mod_lt _ (by decide)), Nat.shiftRight_eq_div_pow]
  show _ = sN m16 (4 + 0) x
  rw [h, Nat.xor_comm]
  rfl

theorem wraps_u16 (n : Int) (h0 : 0 ≤ n) (h1 : n < 2 ^ 16) : IntKind.u16.wrap n = n := by rw [IntKind.wrap_u16]; omega
theorem bxor16 {a b : Nat} (ha : a < 2 ^ 16) (hb : b < 2 ^ 16) : bits .xor .u16 (a : Int) (b : Int) = ((a ^^^ b : Nat) : Int) := by
  have h : a ^^^ b < 2 ^ 16 := Nat.xor_lt_two_pow ha hb
  have e : bits .xor .u16 (a : Int) (b : Int) = IntKind.u16.wrap (((a % 2 ^ 16) ^^^ (b % 2 ^ 16) : Nat) : Int) := by
    simp only [bits, BitVec.ofInt_natCast, BitVec.toNat_xor, BitVec.toNat_ofNat]; rfl
  rw [e, Nat.mod_eq_of_lt ha, Nat.mod_eq_of_lt hb]
  exact wraps_u16 _ (by omega) (by omega)
theorem band16 {a b : Nat} (ha : a < 2 ^ 16) (hb : b < 2 ^ 16) : bits .and .u16 (a : Int) (b : Int) = ((a &&& b : Nat) : Int) :=
  (bits_nat .u16 16 (by decide) wraps_u16 a b ha hb).1

set_option maxHeartbeats 800000 in
set_option maxRecDepth 100000 in
theorem take16 (w : World) (Bt Br Bw Bb Bl r g : Nat) (h : Mach .u16 23 130 Bt 16 tab16 4 15 Br Bw Bb Bl r w) (hr : r < 2 ^ 16) (hg : g < 16) :
    Calls Tryz.prog 131 #[.int .u16 (g : Int), .pointer (some ⟨Br, 0, none⟩), .pointer (some ⟨Bw, 0, none⟩), .pointer (some ⟨Bb, 0, none⟩), .pointer (some ⟨Bl, 0, none⟩)] w
      fun e w' => e = .returned (.tuple #[]) ∧ Mach .u16 23 130 Bt 16 tab16 4 15 Br Bw Bb Bl (sN m16 4 (r ^^^ g)) w' ∧ w.grownBy w' (some Br) := by
  have c1 := cell_of_one h.reg
  have f1 := free_of_one h.reg
  have c2 := cell_of_one h.wid
  have c3 := cell_of_one h.beh
  have c4 := cell_of_one h.low
  have hx : r ^^^ g < 2 ^ 16 := Nat.xor_lt_two_pow hr (by omega)
  have e1 := bxor16 (a := r) (b := g) hr (by omega)
  have e2 : bits .and .u16 ((r ^^^ g : Nat) : Int) 15 = (((r ^^^ g) % 16 : Nat) : Int) := by
    have := band16 (a := r ^^^ g) (b := 15) hx (by omega)
    rw [Nat.and_two_pow_sub_one_eq_mod (r ^^^ g) 4] at this
    exact this
  have hq : (r ^^^ g) % 16 < 16 := Nat.mod_lt _ (by omega)
  have c5 := h.tab ((r ^^^ g) % 16) hq
  have ht := tab16_lt _ hq
  have hs : (r >>> 4) ^^^ tab16 ((r ^^^ g) % 16) = sN m16 4 (r ^^^ g) := by
    rw [← four_step, Nat.shiftRight_xor_distrib, show g >>> 4 = 0 from by simp only [Nat.shiftRight_eq_div_pow]; omega, Nat.xor_zero]
  have e3 := bxor16 (a := r >>> 4) (b := tab16 ((r ^^^ g) % 16)) (by rw [Nat.shiftRight_eq_div_pow]; omega) (by omega)
  rw [hs, show ((r >>> 4 : Nat) : Int) = (r : Int) / 16 from by rw [Nat.shiftRight_eq_div_pow]; omega] at e3
  generalize tab16 ((r ^^^ g) % 16) = T at c5 e3 ht
  generalize sN m16 4 (r ^^^ g) = R at e3
  generalize (r ^^^ g) % 16 = q at e2 c5 hq
  generalize r ^^^ g = x at e1 e2 hx
  clear hs
  go_enter Tryz.func131, Tryz.ntmps131
  go_wp2
  go_region
  all_goals (go_end0; exact ⟨rfl, h.store R⟩)

end Go.Proofs.YtfblpakoibadoaaGreatDoor.Ck

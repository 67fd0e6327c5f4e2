/-
  Helper text: what is owed holds; no statement is proved here.
-/
import Derived.Test.YtgcjhnljlgneiaaGreatDoorBtRun
open Go Go.Proofs.YtgcjhnljlgneiaaGreatDoor.Ev
namespace Go.Proofs.YtgcjhnljlgneiaaGreatDoor
theorem wrap8 (n : Nat) : IntKind.wrap .u8 (n : Int) = ((n % 256 : Nat) : Int) := by simp [IntKind.wrap, IntKind.bits, IntKind.signed]
theorem wrap16 (n : Nat) : IntKind.wrap .u16 (n : Int) = ((n % 65536 : Nat) : Int) := by simp [IntKind.wrap, IntKind.bits, IntKind.signed]
theorem hi8_nat (n : Nat) (h : n < 65536) : hi8 (n : Int) = ((n / 256 : Nat) : Int) := by
  unfold hi8
  rw [show ((n : Int).fdiv (2 ^ min (Int.toNat 8) (IntKind.bits .u16))) = ((n / 256 : Nat) : Int) by
    rw [show ((2 : Int) ^ min (Int.toNat 8) (IntKind.bits .u16)) = 256 by rfl, Int.fdiv_eq_ediv_of_nonneg _ (by omega)]
    omega]
  rw [wrap8]; congr 1; omega
theorem jn_nat (a b : Nat) (ha : a < 256) (hb : b < 256) : jn (a : Int) (b : Int) = ((b * 256 + a : Nat) : Int) := by
  unfold jn
  rw [show ((2 : Int) ^ min (Int.toNat 8) (IntKind.bits .u16)) = ((256 : Nat) : Int) by rfl, wrap16 b, show ((b % 65536 : Nat) : Int) * ((256 : Nat) : Int) = ((b % 65536 * 256 : Nat) : Int) by rw [Int.natCast_mul], wrap16 (b % 65536 * 256), wrap16 a]
  rw [show a % 65536 = a by omega, show b % 65536 * 256 % 65536 = b * 256 by omega]
  have e : (BitVec.ofInt (IntKind.bits .u16) (a : Int) ||| BitVec.ofInt (IntKind.bits .u16) ((b * 256 : Nat) : Int)).toNat = b * 256 + a := by
    rw [BitVec.ofInt_natCast, BitVec.ofInt_natCast, BitVec.toNat_or, BitVec.toNat_ofNat, BitVec.toNat_ofNat]
    rw [show (2 : Nat) ^ IntKind.bits .u16 = 65536 by rfl, show a % 65536 = a by omega, show b * 256 % 65536 = b * 256 by omega]
    have := Nat.shiftLeft_add_eq_or_of_lt (i := 8) (b := a) ha b
    rw [Nat.shiftLeft_eq] at this
    rw [Nat.or_comm]
    exact this.symm
  rw [e, wrap16]; congr 1; omega
theorem rlo_nat (n : Nat) : rlo (n : Int) = UInt8.ofNat (n % 256) := by
  unfold rlo
  rw [show ((n : Int).tmod 256) = ((n % 256 : Nat) : Int) by rfl, wrap8]
  rw [Int.toNat_natCast, Nat.mod_mod]
theorem rhi_nat (n : Nat) (h : n < 65536) : rhi (n : Int) = UInt8.ofNat (n / 256) := by
  unfold rhi
  rw [show ((n : Int).tdiv 256) = ((n / 256 : Nat) : Int) by rfl, wrap16, wrap8]
  congr 1
  simp only [Int.toNat_natCast]
  omega
theorem sp_rf (t c : Nat) {v i l : Nat} (hv : v < 65536) (hi : i < 65536) (hl : l < 65536) : sp t c v i l = rf t c v i l := by
  unfold sp rf
  simp only [hi8_nat v hv, hi8_nat i hi, hi8_nat l hl, rlo_nat, rhi_nat v hv, rhi_nat i hi, rhi_nat l hl, wrap8, Int.toNat_natCast]
theorem back (n : Nat) (h : n < 65536) : jn (IntKind.wrap .u8 (n : Int)) (hi8 (n : Int)) = (n : Int) := by
  rw [wrap8, hi8_nat n h, jn_nat _ _ (by omega) (by omega)]
  congr 1; omega
theorem owesA_ok (t c : Nat) {v i l : Nat} (hv : v < 65536) (hi : i < 65536) (hl : l < 65536) {R : Prop} (hR : R) : owesA t c v i l R := by
  unfold owesA
  rw [sp_rf t c hv hi hl, back v hv, back i hi, back l hl]
  simp [hR]
theorem pair (x y : UInt8) : rlo (jn x.toNat y.toNat) = UInt8.ofNat x.toNat ∧ rhi (jn x.toNat y.toNat) = UInt8.ofNat y.toNat := by
  have hx := x.toNat_lt
  have hy := y.toNat_lt
  rw [jn_nat _ _ hx hy, rlo_nat, rhi_nat _ (by omega)]
  exact ⟨by congr 1; omega, by congr 1; omega⟩
theorem owesB_ok (cap : Nat) (x0 x1 x2 x3 x4 x5 x6 x7 : UInt8) : owesB cap x0 x1 x2 x3 x4 x5 x6 x7 := by
  unfold owesB
  have e : rf x0.toNat x1.toNat (jn x2.toNat x3.toNat) (jn x4.toNat x5.toNat) (jn x6.toNat x7.toNat) = was x0 x1 x2 x3 x4 x5 x6 x7 := by
    unfold rf was
    rw [(pair x2 x3).1, (pair x2 x3).2, (pair x4 x5).1, (pair x4 x5).2, (pair x6 x7).1, (pair x6 x7).2]
    simp only [Int.toNat_natCast]
  rw [e]
  simp
end Go.Proofs.YtgcjhnljlgneiaaGreatDoor

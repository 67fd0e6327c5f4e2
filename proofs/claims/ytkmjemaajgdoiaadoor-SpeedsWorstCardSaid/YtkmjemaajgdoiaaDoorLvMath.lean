/-
  Helper text: bits and bytes, back and forth; no statement is proved here.
-/
import Derived.Test.YtkmjemaajgdoiaaDoorLvRefA
namespace Go.Proofs.YtkmjemaajgdoiaaDoor.Lv
open Go Go.RowKit

theorem bitsL_get (xs : List UInt8) {i : Nat} (h : i < 8 * xs.length) : (bitsL xs).getD i 0 = bitF xs i := by
  rw [← bitsL_eq]
  simp [List.getD, h]
theorem validL_bitsL (xs : List UInt8) : validL (bitsL xs) = true := by
  rw [← bitsL_eq]
  unfold validL
  rw [List.all_eq_true]
  intro x hx
  obtain ⟨i, _, rfl⟩ := List.mem_map.1 hx
  unfold bitF
  rw [UInt8.toNat_and]
  have := Nat.and_le_right (n := (xs.getD (i / 8) 0 >>> UInt8.ofNat (i % 8)).toNat) (m := (1 : UInt8).toNat)
  simpa using this
theorem byte_back (x : UInt8) : (0 : UInt8) ||| ((x >>> UInt8.ofNat 0 &&& 1) <<< UInt8.ofNat 0) ||| ((x >>> UInt8.ofNat 1 &&& 1) <<< UInt8.ofNat 1) ||| ((x >>> UInt8.ofNat 2 &&& 1) <<< UInt8.ofNat 2) ||| ((x >>> UInt8.ofNat 3 &&& 1) <<< UInt8.ofNat 3) ||| ((x >>> UInt8.ofNat 4 &&& 1) <<< UInt8.ofNat 4) ||| ((x >>> UInt8.ofNat 5 &&& 1) <<< UInt8.ofNat 5) ||| ((x >>> UInt8.ofNat 6 &&& 1) <<< UInt8.ofNat 6) ||| ((x >>> UInt8.ofNat 7 &&& 1) <<< UInt8.ofNat 7) = x := by
  have H : ∀ x : Fin 256, (0 : UInt8) ||| ((UInt8.ofNat x.val >>> UInt8.ofNat 0 &&& 1) <<< UInt8.ofNat 0) ||| ((UInt8.ofNat x.val >>> UInt8.ofNat 1 &&& 1) <<< UInt8.ofNat 1) ||| ((UInt8.ofNat x.val >>> UInt8.ofNat 2 &&& 1) <<< UInt8.ofNat 2) ||| ((UInt8.ofNat x.val >>> UInt8.ofNat 3 &&& 1) <<< UInt8.ofNat 3) ||| ((UInt8.ofNat x.val >>> UInt8.ofNat 4 &&& 1) <<< UInt8.ofNat 4) ||| ((UInt8.ofNat x.val >>> UInt8.ofNat 5 &&& 1) <<< UInt8.ofNat 5) ||| ((UInt8.ofNat x.val >>> UInt8.ofNat 6 &&& 1) <<< UInt8.ofNat 6) ||| ((UInt8.ofNat x.val >>> UInt8.ofNat 7 &&& 1) <<< UInt8.ofNat 7) = UInt8.ofNat x.val := by decide +kernel
  have := H ⟨x.toNat, x.toNat_lt⟩
  simpa only [UInt8.ofNat_toNat] using this
theorem bytesL_bitsL (xs : List UInt8) : bytesL (bitsL xs) = xs := by
  have hl : (bitsL xs).length / 8 = xs.length := by rw [bitsL_len]; omega
  refine list_ext_getD _ _ (by rw [bytesL_len, hl]) fun j hj => ?_
  rw [bytesL_len, hl] at hj
  have e0 : (bytesL (bitsL xs)).getD j 0 = accB (bitsL xs) j 8 := by simp [bytesL, List.getD, hl, hj]
  rw [e0]
  have hb : ∀ t, t < 8 → (bitsL xs).getD (8 * j + t) 0 = (xs.getD j 0 >>> UInt8.ofNat t) &&& 1 := by
    intro t ht
    rw [bitsL_get xs (by omega)]
    unfold bitF
    rw [show (8 * j + t) / 8 = j from by omega, show (8 * j + t) % 8 = t from by omega]
  simp only [accB]
  rw [hb 0 (by omega), hb 1 (by omega), hb 2 (by omega), hb 3 (by omega), hb 4 (by omega), hb 5 (by omega), hb 6 (by omega), hb 7 (by omega)]
  exact byte_back _
theorem bit_back (b0 b1 b2 b3 b4 b5 b6 b7 : UInt8) (h0 : b0.toNat ≤ 1) (h1 : b1.toNat ≤ 1) (h2 : b2.toNat ≤ 1) (h3 : b3.toNat ≤ 1) (h4 : b4.toNat ≤ 1) (h5 : b5.toNat ≤ 1) (h6 : b6.toNat ≤ 1) (h7 : b7.toNat ≤ 1) (j : Nat) (hj : j < 8) :
    (((0 : UInt8) ||| b0 <<< UInt8.ofNat 0 ||| b1 <<< UInt8.ofNat 1 ||| b2 <<< UInt8.ofNat 2 ||| b3 <<< UInt8.ofNat 3 ||| b4 <<< UInt8.ofNat 4 ||| b5 <<< UInt8.ofNat 5 ||| b6 <<< UInt8.ofNat 6 ||| b7 <<< UInt8.ofNat 7) >>> UInt8.ofNat j) &&& 1 = [b0, b1, b2, b3, b4, b5, b6, b7].getD j 0 := by
  have c : ∀ x : UInt8, x.toNat ≤ 1 → x = 0 ∨ x = 1 := by
    intro x hx
    rcases (by omega : x.toNat = 0 ∨ x.toNat = 1) with h | h
    · left; exact UInt8.toNat_inj.1 h
    · right; exact UInt8.toNat_inj.1 h
  have H : ∀ a0 a1 a2 a3 a4 a5 a6 a7 : Bool, ∀ j : Fin 8, (((0 : UInt8) ||| (if a0 then 1 else 0 : UInt8) <<< UInt8.ofNat 0 ||| (if a1 then 1 else 0 : UInt8) <<< UInt8.ofNat 1 ||| (if a2 then 1 else 0 : UInt8) <<< UInt8.ofNat 2 ||| (if a3 then 1 else 0 : UInt8) <<< UInt8.ofNat 3 ||| (if a4 then 1 else 0 : UInt8) <<< UInt8.ofNat 4 ||| (if a5 then 1 else 0 : UInt8) <<< UInt8.ofNat 5 ||| (if a6 then 1 else 0 : UInt8) <<< UInt8.ofNat 6 ||| (if a7 then 1 else 0 : UInt8) <<< UInt8.ofNat 7) >>> UInt8.ofNat j.val) &&& 1 = [(if a0 then 1 else 0 : UInt8), if a1 then 1 else 0, if a2 then 1 else 0, if a3 then 1 else 0, if a4 then 1 else 0, if a5 then 1 else 0, if a6 then 1 else 0, if a7 then 1 else 0].getD j.val 0 := by decide +kernel
  have e : ∀ x : UInt8, x.toNat ≤ 1 → ∃ a : Bool, x = if a then 1 else 0 := by
    intro x hx
    rcases c x hx with h | h
    · exact ⟨false, h⟩
    · exact ⟨true, h⟩
  obtain ⟨a0, rfl⟩ := e b0 h0
  obtain ⟨a1, rfl⟩ := e b1 h1
  obtain ⟨a2, rfl⟩ := e b2 h2
  obtain ⟨a3, rfl⟩ := e b3 h3
  obtain ⟨a4, rfl⟩ := e b4 h4
  obtain ⟨a5, rfl⟩ := e b5 h5
  obtain ⟨a6, rfl⟩ := e b6 h6
  obtain ⟨a7, rfl⟩ := e b7 h7
  exact H a0 a1 a2 a3 a4 a5 a6 a7 ⟨j, hj⟩
theorem bitsL_bytesL (ys : List UInt8) (hv : validL ys = true) (h8 : ys.length % 8 = 0) : bitsL (bytesL ys) = ys := by
  have hl : 8 * (bytesL ys).length = ys.length := by rw [bytesL_len]; omega
  refine list_ext_getD _ _ (by rw [bitsL_len, hl]) fun i hi => ?_
  rw [bitsL_len] at hi
  rw [bitsL_get _ hi]
  rw [hl] at hi
  unfold bitF
  have hj : i / 8 < ys.length / 8 := by omega
  have e0 : (bytesL ys).getD (i / 8) 0 = accB ys (i / 8) 8 := by simp [bytesL, List.getD, hj]
  rw [e0]
  have hb : ∀ t, t < 8 → (ys.getD (8 * (i / 8) + t) 0).toNat ≤ 1 := fun t ht => validL_get hv (by omega)
  simp only [accB]
  have := bit_back _ _ _ _ _ _ _ _ (hb 0 (by omega)) (hb 1 (by omega)) (hb 2 (by omega)) (hb 3 (by omega)) (hb 4 (by omega)) (hb 5 (by omega)) (hb 6 (by omega)) (hb 7 (by omega)) (i % 8) (by omega)
  refine Eq.trans this ?_
  rcases (by omega : i % 8 = 0 ∨ i % 8 = 1 ∨ i % 8 = 2 ∨ i % 8 = 3 ∨ i % 8 = 4 ∨ i % 8 = 5 ∨ i % 8 = 6 ∨ i % 8 = 7) with h | h | h | h | h | h | h | h <;> rw [h] <;> simp only [List.getD_cons_zero, List.getD_cons_succ] <;> congr 1 <;> omega

end Go.Proofs.YtkmjemaajgdoiaaDoor.Lv

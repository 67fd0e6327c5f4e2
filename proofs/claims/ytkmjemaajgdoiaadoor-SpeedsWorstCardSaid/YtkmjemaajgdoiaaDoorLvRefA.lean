/-
  Helper text: contracts of the reference's Bits; no statement is proved here.
-/
import Derived.Test.YtkmjemaajgdoiaaDoorLvSend
namespace Go.Proofs.YtkmjemaajgdoiaaDoor.Lv
open Go Go.RowKit

def bitF (xs : List UInt8) (i : Nat) : UInt8 := (xs.getD (i / 8) 0 >>> UInt8.ofNat (i % 8)) &&& 1
theorem bitsL_eq (xs : List UInt8) : (List.range (8 * xs.length)).map (bitF xs) = bitsL xs := by
  induction xs with
  | nil => rfl
  | cons x xs ih =>
    have h8 : 8 * (x :: xs).length = 8 + 8 * xs.length := by simp; omega
    rw [h8, List.range_add, List.map_append]
    have h2 : bitsL (x :: xs) = byteL x ++ bitsL xs := by simp [bitsL]
    rw [h2]
    congr 1
    rw [List.map_map, ← ih]
    apply List.map_congr_left
    intro i _
    unfold bitF
    have e1 : (8 + i) / 8 = i / 8 + 1 := by omega
    have e2 : (8 + i) % 8 = i % 8 := by omega
    simp only [Function.comp_apply, e1, e2, List.getD_cons_succ]
theorem rbit_val (x : UInt8) (j : Nat) (h : j < 8) : Value.int .u8 (((x.toNat : Int) / 2 ^ j).tmod 2) = bv ((x >>> UInt8.ofNat j) &&& 1) := by
  have H : ∀ x : Fin 256, ∀ j : Fin 8, ((x.val : Int) / 2 ^ j.val).tmod 2 = (((UInt8.ofNat x.val >>> UInt8.ofNat j.val) &&& 1).toNat : Int) := by decide +kernel
  have := H ⟨x.toNat, x.toNat_lt⟩ ⟨j, h⟩
  simp only [UInt8.ofNat_toNat] at this
  rw [this]

set_option maxHeartbeats 1600000 in
set_option maxRecDepth 100000 in
theorem refBits_any (w : World) (A : Option Addr) (c : Nat) (xs : List UInt8) (h : Rd w w.heap.size A c xs) (hl : xs.length ≤ 100000) :
    Calls Tryd.prog 31 #[.slice A xs.length c] w (Res1 w (bitsL xs)) := by
  have hmk := fun W : World => make_full (8 * (xs.length : Int)) W (by omega) (by omega)
  rw [show (8 * (xs.length : Int)).toNat = 8 * xs.length from by omega] at hmk
  go_enter Tryd.func31, Tryd.ntmps31
  go_wp2
  clear hmk
  go_loopw [4] (fun i wr => ∃ k : Nat, k ≤ 8 * xs.length ∧ i = .int .i64 k ∧ Row wr w.heap.size 5 (fillL (8 * xs.length) k (bitF xs)) ∧ Below w.heap.size w wr) (fun i _ => 8 * xs.length - (intOf i).toNat)
  case atStart => exact ⟨0, Nat.zero_le _, rfl, by rw [fillL_zero]; exact Row.made w _ _, (Below.refl _ _).alloc (Nat.le_refl _) _⟩
  case round =>
    obtain ⟨k, hk, rfl, hrow, hb⟩ := hrel
    by_cases hlt : k < 8 * xs.length
    · obtain ⟨b, off, rfl, hbB, hcell⟩ := (h.below hb).at_ (k := k / 8) (by omega)
      have hc2 := hrow.cell (i := k) (by rw [fillL_len]; exact hlt)
      have hf2 := hrow.frozen k
      have hset := hrow.set k (y := bitF xs k) rfl
      rw [fillL_set] at hset
      have hbv : bitF xs k = (xs.getD (k / 8) 0 >>> UInt8.ofNat (k % 8)) &&& 1 := rfl
      rw [hbv] at hset
      generalize (fillL (8 * xs.length) k (bitF xs)).getD k 0 = old at hc2
      have hrv := rbit_val (xs.getD (k / 8) 0) (k % 8) (by omega)
      generalize xs.getD (k / 8) 0 = x at hcell hset hrv
      have Hrv := Lib.hid hrv
      have Hset := Lib.hid hset
      clear hrv hset hbv
      have hk8 : (k : Int) / 8 < (xs.length : Int) := by omega
      have hk0 : (0 : Int) ≤ (k : Int) % 8 := by omega
      have hk7 : (k : Int) % 8 < 8 := by omega
      go_wp2
      rw [Hrv.out]
      go_roundw
      case rel => exact ⟨k + 1, by omega, by go_num, Hset.out, hb.setCell (Nat.le_refl _) _⟩
      case measure => simp [intOf]; omega
    · have hk9 : k = 8 * xs.length := by omega
      subst hk9
      have hrd := hrow.rd (by rw [fillL_len]; omega)
      rw [fillL_full, bitsL_eq] at hrd
      have hlen := bitsL_len xs
      rw [hlen] at hrd
      have Hr := Lib.hid hrd
      have Hl := Lib.hid hlen
      clear hrd hlen hrow
      go_wp2
      go_ret
      refine ⟨_, _, ?_, Hr.out, hb⟩
      rw [Hl.out]
      rfl

end Go.Proofs.YtkmjemaajgdoiaaDoor.Lv

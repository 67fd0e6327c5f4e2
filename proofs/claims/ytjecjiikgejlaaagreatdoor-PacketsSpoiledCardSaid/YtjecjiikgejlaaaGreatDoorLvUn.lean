/-
  Helper text: contracts of Unstuff and Bytes; no statement is proved here.
-/
import Derived.Test.YtjecjiikgejlaaaGreatDoorLvSync
import Derived.Deep.RegionHeld3
import Derived.Deep.DrawnRows
import Derived.BigRegion
namespace Go.Proofs.YtjecjiikgejlaaaGreatDoor.Lv
open Go Go.RowKit

def optL : Option (List UInt8) → List UInt8
  | none => []
  | some l => l
def optE (n : Int) : Option (List UInt8) → Int
  | none => n
  | some _ => 0
/-- The relation of the loop of Unstuff. -/
def UnRel (xs : List UInt8) (w wr : World) (o n : Value) (k : Nat) : Prop :=
  ∃ m ys, unS (xs.take k) = some (m, ys) ∧ m ≤ 6 ∧ ys.length ≤ k ∧ n = .int .i64 ((m : Nat) : Int) ∧ wr.ownsRow w.heap.size 5 1 o ys.length (ys.map bv) ∧ Below w.heap.size w wr

set_option maxHeartbeats 1600000 in
set_option maxRecDepth 100000 in
theorem unstuff_good (w : World) (A : Option Addr) (c : Nat) (xs : List UInt8) (h : Rd w w.heap.size A c xs) (hl : xs.length ≤ 100000) (hv : validL xs = true) :
    Calls Tryz.prog 81 #[.slice A xs.length c] w (ResE w (optL (unstuffL xs)) (optE 4 (unstuffL xs))) := by
  have hmk := fun W : World => make_cap (xs.length : Int) W (by omega) (by omega)
  rw [Int.toNat_natCast] at hmk
  have Hv := Lib.hid hv
  clear hv
  go_enter Tryz.func81, Tryz.ntmps81
  go_wp2_with (go_at_call 102; refine (areBits_any _ _ _ _ h hl).mono ?_; rw [Hv.out]; rintro e w' ⟨rfl, rfl⟩)
  clear hmk
  go_loopw [4, 5, 16] (fun o n i wr => ∃ k : Nat, k ≤ xs.length ∧ i = .int .i64 k ∧ UnRel xs w wr o n k) (fun _ _ i _ => xs.length - (intOf i).toNat)
  case atStart => exact ⟨0, Nat.zero_le _, rfl, 0, [], rfl, by omega, by simp, rfl, World.ownsRow_made w _ _ (Nat.le_refl _) (by unfold maxLen; omega) (by simp [size_madeCells]), (Below.refl _ _).alloc (Nat.le_refl _) _⟩
  case round =>
    obtain ⟨k, hk, rfl, m, ys, hst, hm6, hyl, rfl, hown, hb⟩ := hrel
    by_cases hlt : k < xs.length
    · obtain ⟨b, off, rfl, hbB, hcell⟩ := (h.below hb).at_ hlt
      have hsn := unS_snoc xs hlt
      rw [hst] at hsn
      have hvx := validL_get Hv.out hlt
      have hno : unS (xs.take (k + 1)) = none → unstuffL xs = none := fun hh => by unfold unstuffL; rw [unS_none xs hh]
      generalize xs.getD k 0 = x at hcell hsn hvx
      have ho6 := onesB_le m x
      have Hob := onesBehind_any m x
      have hdf : stepU (some (m, ys)) x = if m < 6 then some (onesB m x, ys ++ [x]) else if x = 1 then none else some (onesB m x, ys) := rfl
      rw [hdf] at hsn
      have hxo : x ≠ 1 → onesB m x = 0 := fun hx => by
        have : x = 0 := by
          rw [u8_eq_zero]
          have h1 : ¬ (x.toNat : Int) = 1 := fun h => hx ((u8_eq_one x).2 h)
          omega
        unfold onesB; rw [if_pos this]
      generalize onesB m x = m2 at hsn ho6 Hob hxo
      have Hst := Lib.hid hst
      have Hno := Lib.hid hno
      clear hst hno hdf
      by_cases h6 : m < 6
      · rw [if_pos h6] at hsn
        have Hs := Lib.hid hsn
        clear hsn hxo
        have hmi : (m : Int) < 6 := by omega
        go_wp2_with (first | (at_builtin; refine wpl_append1 Tryz.underlying27 Tryz.info5 rfl (.tmp 22) (.tmp 24) rfl w.heap.size u4 ys rfl hown x _ rfl rfl (by omega) hb.size ?_; intro v' w1 hown2 hb2) | (go_at_call 99; refine (Hob _ (by omega)).mono ?_; rintro e w' ⟨rfl, rfl⟩))
        go_roundw
        case rel => exact ⟨k + 1, by omega, by go_num, m2, ys ++ [x], Hs.out, by omega, by simp; omega, rfl, hown2, hb.trans hb2⟩
        case measure => simp [intOf]; omega
      · rw [if_neg h6] at hsn
        have hmi : ¬ (m : Int) < 6 := by omega
        by_cases hx : x = 1
        · rw [if_pos hx] at hsn
          have t1 : ((x.toNat : Int) == 1) = true := by rw [hx]; rfl
          have Hs := Lib.hid hsn
          clear hsn hxo hx
          go_wp2
          go_ret2
          rw [Hno.out Hs.out]
          exact ⟨_, _, rfl, Rd.nil _ _, hb⟩
        · have hm2 := hxo hx
          rw [if_neg hx] at hsn
          have t1 : ((x.toNat : Int) == 1) = false := by
            rw [beq_eq_false_iff_ne]
            exact fun h => hx ((u8_eq_one x).2 h)
          have Hs := Lib.hid hsn
          have hle2 : m2 ≤ 6 := by omega
          clear hsn hxo hx hm2
          go_wp2_with (go_at_call 99; refine (Hob _ (by omega)).mono ?_; rintro e w' ⟨rfl, rfl⟩)
          go_roundw
          case rel => exact ⟨k + 1, by omega, by go_num, m2, ys, Hs.out, hle2, by omega, rfl, hown, hb⟩
          case measure => simp [intOf]; omega
    · have hk9 : k = xs.length := by omega
      subst hk9
      rw [List.take_length] at hst
      have hu : unstuffL xs = if m = 6 then none else some ys := by unfold unstuffL; rw [hst]
      have Hst := Lib.hid hst
      clear hst
      by_cases h6 : m = 6
      · subst h6
        rw [if_pos rfl] at hu
        have Hu := Lib.hid hu
        clear hu
        go_wp2
        go_ret2
        rw [Hu.out]
        exact ⟨_, _, rfl, Rd.nil _ _, hb⟩
      · rw [if_neg h6] at hu
        have t6 : (((m : Nat) : Int) == 6) = false := by rw [beq_eq_false_iff_ne]; omega
        have Hu := Lib.hid hu
        clear hu h6
        obtain ⟨A', c', rfl, hr⟩ := Rd.of_own hown
        go_wp2_with (go_at_call 100; refine (clip_any _ _ _ _ hr).mono ?_; rintro e w' ⟨rfl, rfl⟩)
        go_ret2
        rw [Hu.out]
        exact ⟨A', _, rfl, hr.clip, hb⟩

set_option maxHeartbeats 800000 in
theorem unstuff_bad (w : World) (A : Option Addr) (c : Nat) (xs : List UInt8) (h : Rd w w.heap.size A c xs) (hl : xs.length ≤ 100000) (hv : validL xs = false) :
    Calls Tryz.prog 81 #[.slice A xs.length c] w (ResE w [] 1) := by
  have Hv := Lib.hid hv
  clear hv
  go_enter Tryz.func81, Tryz.ntmps81
  go_wp2_with (go_at_call 102; refine (areBits_any _ _ _ _ h hl).mono ?_; rw [Hv.out]; rintro e w' ⟨rfl, rfl⟩)
  go_ret2
  exact ⟨_, _, rfl, Rd.nil _ _, Below.refl _ _⟩

theorem or_val (a x : UInt8) (j : Nat) (h : j < 8) (hx : x.toNat ≤ 1) : Value.int .u8 (bits .or .u8 (a.toNat : Int) (((x.toNat : Int) * 2 ^ j) % 256)) = bv (a ||| (x <<< UInt8.ofNat j)) := by
  have H : ∀ a : Fin 256, ∀ x : Fin 2, ∀ j : Fin 8, bits .or .u8 (a.val : Int) (((x.val : Int) * 2 ^ j.val) % 256) = ((UInt8.ofNat a.val ||| (UInt8.ofNat x.val <<< UInt8.ofNat j.val)).toNat : Int) := by decide +kernel
  have := H ⟨a.toNat, a.toNat_lt⟩ ⟨x.toNat, by omega⟩ ⟨j, h⟩
  simp only [UInt8.ofNat_toNat] at this
  rw [this]

set_option maxHeartbeats 1600000 in
set_option maxRecDepth 100000 in
theorem bytes_good (w : World) (A : Option Addr) (c : Nat) (xs : List UInt8) (h : Rd w w.heap.size A c xs) (hl : xs.length ≤ 100000) (hv : validL xs = true) (h8 : xs.length % 8 = 0) :
    Calls Tryz.prog 103 #[.slice A xs.length c] w (ResF w (bytesL xs) 0) := by
  have hmk := fun W : World => make_full ((xs.length : Int) / 8) W (by omega) (by omega)
  rw [show ((xs.length : Int) / 8).toNat = xs.length / 8 from by omega] at hmk
  have Hv := Lib.hid hv
  clear hv
  have t8 : ((xs.length : Int) % 8 != 0) = false := by
    rw [bne_eq_false_iff_eq]; omega
  go_enter Tryz.func103, Tryz.ntmps103
  go_wp2_with (go_at_call 102; refine (areBits_any _ _ _ _ h hl).mono ?_; rw [Hv.out]; rintro e w' ⟨rfl, rfl⟩)
  clear hmk
  go_loopw [19] (fun i wr => ∃ k : Nat, k ≤ xs.length ∧ i = .int .i64 k ∧ Row wr w.heap.size 5 (bytesP xs k) ∧ Below w.heap.size w wr) (fun i _ => xs.length - (intOf i).toNat)
  case atStart => exact ⟨0, Nat.zero_le _, rfl, by rw [bytesP_zero]; exact Row.made w _ _, (Below.refl _ _).alloc (Nat.le_refl _) _⟩
  case round =>
    obtain ⟨k, hk, rfl, hrow, hb⟩ := hrel
    by_cases hlt : k < xs.length
    · obtain ⟨b, off, rfl, hbB, hcell⟩ := (h.below hb).at_ hlt
      have hvx := validL_get Hv.out hlt
      have hc2 := hrow.cell (i := k / 8) (by rw [bytesP_len]; omega)
      have hf2 := hrow.frozen (k / 8)
      have hset := hrow.set (k / 8) (y := accB xs (k / 8) (k % 8) ||| (xs.getD k 0 <<< UInt8.ofNat (k % 8))) rfl
      rw [bytesP_set xs hlt h8] at hset
      rw [bytesP_at xs hlt h8] at hc2
      have hov := or_val (accB xs (k / 8) (k % 8)) (xs.getD k 0) (k % 8) (by omega) hvx
      generalize xs.getD k 0 = x at hcell hset hov
      generalize accB xs (k / 8) (k % 8) = a at hc2 hset hov
      have Hov := Lib.hid hov
      have Hset := Lib.hid hset
      clear hov hset
      have hd8 : k / 8 < xs.length / 8 := by omega
      go_wp2
      go_region
      rw [Hov.out]
      go_wp2
      go_roundw
      case rel => exact ⟨k + 1, by omega, by go_num, Hset.out.drew, (hb.setCell (Nat.le_refl _) _).drew⟩
      case measure => simp [intOf]; omega
    · have hk9 : k = xs.length := by omega
      subst hk9
      have hrd := hrow.rd (by rw [bytesP_len]; omega)
      rw [bytesP_len, bytesP_full xs h8] at hrd
      have hlen := bytesL_len xs
      have Hr := Lib.hid hrd
      have Hl := Lib.hid hlen
      clear hrd hlen hrow
      go_wp2
      go_ret2
      refine ⟨_, _, ?_, Hr.out, hb, fun ad hh => by obtain rfl := Option.some.inj hh; exact Nat.le_refl _⟩
      rw [Hl.out]
      rfl

set_option maxHeartbeats 800000 in
theorem bytes_bad (w : World) (A : Option Addr) (c : Nat) (xs : List UInt8) (h : Rd w w.heap.size A c xs) (hl : xs.length ≤ 100000) (hv : validL xs = false) :
    Calls Tryz.prog 103 #[.slice A xs.length c] w (ResE w [] 1) := by
  have Hv := Lib.hid hv
  clear hv
  go_enter Tryz.func103, Tryz.ntmps103
  go_wp2_with (go_at_call 102; refine (areBits_any _ _ _ _ h hl).mono ?_; rw [Hv.out]; rintro e w' ⟨rfl, rfl⟩)
  go_ret2
  exact ⟨_, _, rfl, Rd.nil _ _, Below.refl _ _⟩

set_option maxHeartbeats 800000 in
theorem bytes_width (w : World) (A : Option Addr) (c : Nat) (xs : List UInt8) (h : Rd w w.heap.size A c xs) (hl : xs.length ≤ 100000) (hv : validL xs = true) (h8 : ¬ xs.length % 8 = 0) :
    Calls Tryz.prog 103 #[.slice A xs.length c] w (ResE w [] 5) := by
  have Hv := Lib.hid hv
  clear hv
  have t8 : ((xs.length : Int) % 8 != 0) = true := by
    rw [bne_iff_ne]; omega
  clear h8
  go_enter Tryz.func103, Tryz.ntmps103
  go_wp2_with (go_at_call 102; refine (areBits_any _ _ _ _ h hl).mono ?_; rw [Hv.out]; rintro e w' ⟨rfl, rfl⟩)
  go_ret2
  exact ⟨_, _, rfl, Rd.nil _ _, Below.refl _ _⟩

end Go.Proofs.YtjecjiikgejlaaaGreatDoor.Lv

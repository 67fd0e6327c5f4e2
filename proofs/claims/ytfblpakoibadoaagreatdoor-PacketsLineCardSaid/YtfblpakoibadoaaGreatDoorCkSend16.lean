/-
  Helper text: the check of sixteen bits; no statement is proved here.
-/
import Derived.Test.YtfblpakoibadoaaGreatDoorCkClo16
namespace Go.Proofs.YtfblpakoibadoaaGreatDoor.Ck
open Go Go.RowKit

theorem nibbles {b : Nat} (m r : Nat) : sN m 4 (sN m 4 (r ^^^ (b % 16)) ^^^ (b / 16)) = sN m 8 (r ^^^ b) := by
  have := sN_take m 4 4 r (b % 2 ^ 4) (b / 2 ^ 4) (Nat.mod_lt _ (by decide))
  rw [Nat.mod_add_div] at this
  exact this.symm

set_option maxHeartbeats 1600000 in
set_option maxRecDepth 100000 in
theorem send16 (w : World) (Bt Br Bw Bb Bl Bs B : Nat) (A : Option Addr) (c : Nat) (xs : List UInt8) (h : Mach .u16 23 130 Bt 16 tab16 4 15 Br Bw Bb Bl 65535 w) (hr : Rd w B A c xs) (hB : B ≤ w.heap.size) (hBr : B ≤ Br)
    (cs : w.heap[Bs]? = some (.cells #[.slice A xs.length c] 27 (0, 0))) (ns : Br ≠ Bs) :
    Calls Tryz.prog 106 #[takeV 131 Br Bw Bb Bl, .pointer (some ⟨Bs, 0, none⟩)] w
      fun e w' => e = .returned (.tuple #[]) ∧ Mach .u16 23 130 Bt 16 tab16 4 15 Br Bw Bb Bl (crcL 65535 xs) w' ∧ w.grownBy w' (some Br) := by
  have c1 := cell_of_one cs
  have hcap := hr.cap
  have hle := hr.le
  go_enter Tryz.func106, Tryz.ntmps106
  go_wp2
  go_loopw [4, 7] (fun _ i wr => ∃ k : Nat, k ≤ xs.length ∧ i = .int .i64 k ∧ Mach .u16 23 130 Bt 16 tab16 4 15 Br Bw Bb Bl (crcL 65535 (xs.take k)) wr ∧ w.grownBy wr (some Br)) (fun _ i _ => xs.length - (intOf i).toNat)
  case atStart => exact ⟨0, Nat.zero_le _, rfl, by simpa [crcL] using h, grown_refl _ _⟩
  case round =>
    obtain ⟨k, hk, rfl, hm, hg⟩ := hrel
    by_cases hlt : k < xs.length
    · have hr1 := hr.grown hg hB (fun g e => by cases e; exact hBr)
      obtain ⟨b, off, rfl, hbB, hcell0⟩ := hr1.at_ hlt
      have hcell : wr.cell? ⟨b, off + k, none⟩ = some (.int .u8 ((xs.getD k 0).toNat : Int)) := hcell0
      clear hcell0
      have hs := crcL_snoc 65535 (xs.take k) (xs.getD k 0)
      rw [← take_snoc xs hlt, ← nibbles] at hs
      have hst := crcL_lt (r := 65535) (by decide) (xs.take k)
      have hx8 : (xs.getD k 0).toNat < 256 := (xs.getD k 0).toNat_lt
      generalize (xs.getD k 0).toNat = x at hcell hs hx8
      generalize crcL 65535 (xs.take k) = r at hm hst hs
      have Hs := Lib.hid hs
      clear hs
      have e1 : bits .and .u8 (x : Int) 15 = ((x % 16 : Nat) : Int) := by
        have := band8 (a := x) (b := 15) hx8 (by omega)
        rw [Nat.and_two_pow_sub_one_eq_mod x 4] at this
        exact this
      have hst2 : sN m16 4 (r ^^^ (x % 16)) < 2 ^ 16 := sN_lt (by decide) 4 (Nat.xor_lt_two_pow hst (by omega))
      go_wp2_with fail
      refine (take16 wr Bt Br Bw Bb Bl r (x % 16) hm hst (Nat.mod_lt _ (by omega))).mono ?_
      rintro e w1 ⟨rfl, hm1, hg1⟩
      go_wp2_with fail
      refine (take16 w1 Bt Br Bw Bb Bl _ (x / 16) hm1 hst2 (by omega)).mono ?_
      rintro e w2 ⟨rfl, hm2, hg2⟩
      rw [← Hs.out] at hm2
      clear Hs e1
      go_wp2
      go_roundw
      case rel => exact ⟨k + 1, by omega, by go_num, hm2, grown_trans hg (grown_trans hg1 hg2)⟩
      case measure => simp [intOf]; omega
    · have hk9 : k = xs.length := by omega
      subst hk9
      rw [List.take_length] at hm
      go_wp2
      go_end0
      exact ⟨rfl, hm, hg⟩

end Go.Proofs.YtfblpakoibadoaaGreatDoor.Ck

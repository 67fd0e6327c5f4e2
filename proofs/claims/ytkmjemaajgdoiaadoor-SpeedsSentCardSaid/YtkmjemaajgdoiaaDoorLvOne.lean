/-
  Helper text: contracts of the small functions on bits and states; no statement is proved here.
-/
import Derived.Test.YtkmjemaajgdoiaaDoorLvBits
namespace Go.Proofs.YtkmjemaajgdoiaaDoor.Lv
open Go Go.RowKit

theorem other_any (s : UInt8) (w : World) : Calls Tryd.prog 36 #[bv s] w fun e w' => e = .returned (bv (flipL s)) ∧ w = w' := by
  by_cases hs : s = 0
  · subst hs
    go_enter Tryd.func36, Tryd.ntmps36
    go_wp2
    go_ret
    exact ⟨rfl, rfl⟩
  · have t0 : ((s.toNat : Int) == 0) = false := by
      rw [beq_eq_false_iff_ne]
      exact fun h => hs ((u8_eq_zero s).2 h)
    have hf : flipL s = 0 := by unfold flipL; rw [if_neg hs]
    have Hf := Lib.hid hf
    clear hf hs
    go_enter Tryd.func36, Tryd.ntmps36
    go_wp2
    go_ret
    exact ⟨by rw [Hf.out]; rfl, rfl⟩

set_option maxHeartbeats 800000 in
set_option maxRecDepth 100000 in
theorem encoded_any (w : World) (A : Option Addr) (c : Nat) (xs : List UInt8) (h : Rd w w.heap.size A c xs) (hl : xs.length ≤ 100000) :
    Calls Tryd.prog 24 #[.slice A xs.length c] w (Res1 w (encL xs)) := by
  have hmk := fun W : World => makeS_full (xs.length : Int) W (by omega) (by omega)
  rw [Int.toNat_natCast] at hmk
  go_enter Tryd.func24, Tryd.ntmps24
  go_wp2
  clear hmk
  go_loopw [4, 11] (fun s i wr => ∃ k : Nat, k ≤ xs.length ∧ i = .int .i64 k ∧ s = bv (stA xs k) ∧ Row wr w.heap.size 65 (fillL xs.length k fun i => stA xs (i + 1)) ∧ Below w.heap.size w wr) (fun _ i _ => xs.length - (intOf i).toNat)
  case atStart => exact ⟨0, Nat.zero_le _, rfl, rfl, by rw [fillL_zero]; exact Row.made w _ _, (Below.refl _ _).alloc (Nat.le_refl _) _⟩
  case round =>
    obtain ⟨k, hk, rfl, rfl, hrow, hb⟩ := hrel
    by_cases hlt : k < xs.length
    · obtain ⟨b, off, rfl, hbB, hcell⟩ := (h.below hb).at_ hlt
      have hc2 := hrow.cell (i := k) (by rw [fillL_len]; exact hlt)
      have hf2 := hrow.frozen k
      have hset := hrow.set k (y := stA xs (k + 1)) rfl
      rw [fillL_set] at hset
      have hb2 := hb.setCell (p := ⟨w.heap.size, k, none⟩) (Nat.le_refl _) (bv (stA xs (k + 1)))
      have hst : stA xs (k + 1) = if xs.getD k 0 = 0 then flipL (stA xs k) else stA xs k := rfl
      generalize xs.getD k 0 = x at hcell hst
      generalize (fillL xs.length k fun i => stA xs (i + 1)).getD k 0 = old at hc2
      by_cases hx : x = 0
      · subst hx
        rw [if_pos rfl] at hst
        rw [hst] at hset hb2
        have Hst := Lib.hid hst
        clear hst
        go_wp2_with (go_at_call 36; refine (other_any _ _).mono ?_; rintro e w' ⟨rfl, rfl⟩)
        go_roundw
        case rel => exact ⟨k + 1, by omega, by go_num, by rw [Hst.out], hset, hb2⟩
        case measure => simp [intOf]; omega
      · have t0 : ((x.toNat : Int) == 0) = false := by
          rw [beq_eq_false_iff_ne]
          exact fun h => hx ((u8_eq_zero x).2 h)
        rw [if_neg hx] at hst
        rw [hst] at hset hb2
        have Hst := Lib.hid hst
        clear hst hx
        go_wp2
        go_roundw
        case rel => exact ⟨k + 1, by omega, by go_num, by rw [Hst.out], hset, hb2⟩
        case measure => simp [intOf]; omega
    · have hk9 : k = xs.length := by omega
      subst hk9
      have hrd := hrow.rd (by rw [fillL_len]; omega)
      rw [fillL_full, List.length_map, List.length_range] at hrd
      have hlen := encL_len xs
      have Hr : Hid (Rd wr wr.heap.size (some ⟨w.heap.size, 0, none⟩) xs.length (encL xs)) := Lib.hid hrd
      have Hl := Lib.hid hlen
      clear hrd hlen
      go_wp2
      go_ret
      exact ⟨_, _, by rw [Hl.out]; rfl, Hr.out, hb⟩

end Go.Proofs.YtkmjemaajgdoiaaDoor.Lv

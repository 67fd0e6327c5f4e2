/-
  Helper text: contracts of the small functions on bits and states; no statement is proved here.
-/
import Derived.Test.YtbeghnpdmcmdmaaDoorBits
namespace Go.Proofs.YtbeghnpdmcmdmaaDoor
open Go Go.RowKit

set_option maxHeartbeats 800000 in
set_option maxRecDepth 100000 in
theorem areBits_any (w : World) (A : Option Addr) (c : Nat) (xs : List UInt8) (h : Rd w w.heap.size A c xs) (hl : xs.length ≤ 100000) :
    Calls Tryd.prog 32 #[.slice A xs.length c] w fun e w' => e = .returned (.bool (validL xs)) ∧ w = w' := by
  go_enter Tryd.func32, Tryd.ntmps32
  go_wp2
  go_loop [7] (fun i => ∃ k : Nat, k ≤ xs.length ∧ i = .int .i64 k ∧ validL (xs.take k) = true) (fun i => xs.length - (intOf i).toNat)
  case atStart => exact ⟨0, Nat.zero_le _, rfl, rfl⟩
  case round =>
    obtain ⟨k, hk, rfl, hv⟩ := hrel
    have Hv := Lib.hid hv
    clear hv
    by_cases hlt : k < xs.length
    · obtain ⟨b, off, rfl, hbB, hcell⟩ := h.at_ hlt
      have hs := validL_snoc xs hlt
      have hbad := fun hx => validL_bad xs hlt hx
      generalize xs.getD k 0 = x at hcell hs hbad
      have Hs := Lib.hid hs
      have Hb := Lib.hid hbad
      clear hs hbad
      by_cases hx : x.toNat ≤ 1
      · have hx1 : ¬ (1 : Int) < (x.toNat : Int) := by omega
        go_wp2
        go_round
        case rel => exact ⟨k + 1, by omega, by go_num, by rw [Hs.out, Hv.out]; simpa using hx⟩
        case measure => simp [intOf]; omega
      · have hx1 : (1 : Int) < (x.toNat : Int) := by omega
        go_wp2
        go_ret
        exact ⟨by rw [Hb.out hx]; rfl, rfl⟩
    · have hk9 : k = xs.length := by omega
      subst hk9
      go_wp2
      go_ret
      have := Hv.out
      rw [List.take_length] at this
      exact ⟨by rw [this]; rfl, rfl⟩

set_option maxHeartbeats 800000 in
set_option maxRecDepth 100000 in
theorem refValid_any (w : World) (A : Option Addr) (c : Nat) (xs : List UInt8) (h : Rd w w.heap.size A c xs) (hl : xs.length ≤ 100000) :
    Calls Tryd.prog 13 #[.slice A xs.length c] w fun e w' => e = .returned (.bool (validL xs)) ∧ w = w' := by
  go_enter Tryd.func13, Tryd.ntmps13
  go_wp2
  go_loop [3] (fun i => ∃ k : Nat, k ≤ xs.length ∧ i = .int .i64 k ∧ validL (xs.take k) = true) (fun i => xs.length - (intOf i).toNat)
  case atStart => exact ⟨0, Nat.zero_le _, rfl, rfl⟩
  case round =>
    obtain ⟨k, hk, rfl, hv⟩ := hrel
    have Hv := Lib.hid hv
    clear hv
    by_cases hlt : k < xs.length
    · obtain ⟨b, off, rfl, hbB, hcell⟩ := h.at_ hlt
      have hs := validL_snoc xs hlt
      have hbad := fun hx => validL_bad xs hlt hx
      generalize xs.getD k 0 = x at hcell hs hbad
      have Hs := Lib.hid hs
      have Hb := Lib.hid hbad
      clear hs hbad
      by_cases hx : x.toNat ≤ 1
      · have hs2 : validL (xs.take (k + 1)) = true := by rw [Hs.out, Hv.out]; simpa using hx
        have H2 := Lib.hid hs2
        clear hs2
        rcases (by omega : x.toNat = 0 ∨ x.toNat = 1) with h0 | h0
        · have t0 : ((x.toNat : Int) != 0) = false := by rw [h0]; rfl
          clear h0 hx
          go_wp2
          go_round
          case rel => exact ⟨k + 1, by omega, by go_num, H2.out⟩
          case measure => simp [intOf]; omega
        · have t0 : ((x.toNat : Int) != 0) = true := by rw [h0]; rfl
          have t1 : ((x.toNat : Int) != 1) = false := by rw [h0]; rfl
          clear h0 hx
          go_wp2
          go_round
          case rel => exact ⟨k + 1, by omega, by go_num, H2.out⟩
          case measure => simp [intOf]; omega
      · have t0 : ((x.toNat : Int) != 0) = true := by simp; omega
        have t1 : ((x.toNat : Int) != 1) = true := by simp; omega
        go_wp2
        go_ret
        exact ⟨by rw [Hb.out hx]; rfl, rfl⟩
    · have hk9 : k = xs.length := by omega
      subst hk9
      go_wp2
      go_ret
      have := Hv.out
      rw [List.take_length] at this
      exact ⟨by rw [this]; rfl, rfl⟩

theorem other_any (s : UInt8) (w : World) : Calls Tryd.prog 46 #[bv s] w fun e w' => e = .returned (bv (flipL s)) ∧ w = w' := by
  by_cases hs : s = 0
  · subst hs
    go_enter Tryd.func46, Tryd.ntmps46
    go_wp2
    go_ret
    exact ⟨rfl, rfl⟩
  · have t0 : ((s.toNat : Int) == 0) = false := by
      rw [beq_eq_false_iff_ne]
      exact fun h => hs ((u8_eq_zero s).2 h)
    have hf : flipL s = 0 := by unfold flipL; rw [if_neg hs]
    have Hf := Lib.hid hf
    clear hf hs
    go_enter Tryd.func46, Tryd.ntmps46
    go_wp2
    go_ret
    exact ⟨by rw [Hf.out]; rfl, rfl⟩

set_option maxHeartbeats 800000 in
set_option maxRecDepth 100000 in
theorem encoded_any (w : World) (A : Option Addr) (c : Nat) (xs : List UInt8) (h : Rd w w.heap.size A c xs) (hl : xs.length ≤ 100000) :
    Calls Tryd.prog 38 #[.slice A xs.length c] w (Res1 w (encL xs)) := by
  have hmk := fun W : World => makeS_full (xs.length : Int) W (by omega) (by omega)
  rw [Int.toNat_natCast] at hmk
  go_enter Tryd.func38, Tryd.ntmps38
  go_wp2
  clear hmk
  go_loopw [4, 11] (fun s i wr => ∃ k : Nat, k ≤ xs.length ∧ i = .int .i64 k ∧ s = bv (stA xs k) ∧ Row wr w.heap.size 44 (fillL xs.length k fun i => stA xs (i + 1)) ∧ Below w.heap.size w wr) (fun _ i _ => xs.length - (intOf i).toNat)
  case atStart => exact ⟨0, Nat.zero_le _, rfl, rfl, by rw [fillL_zero]; exact Row.made w _ _, (Below.refl _ _).alloc (Nat.le_refl _) _⟩
  case round =>
    obtain ⟨k, hk, rfl, rfl, hrow, hb⟩ := hrel
    by_cases hlt : k < xs.length
    · obtain ⟨b, off, rfl, hbB, hcell⟩ := (h.below hb).at_ hlt
      have hc2 := hrow.cell (i := k) (by rw [fillL_len]; exact hlt)
      have hf2 := hrow.frozen k
      have hset := hrow.set k (y := stA xs (k + 1)) rfl
      rw [fillL_set] at hset
      have hb2 := hb.setCell (p := ⟨w.heap.size, k, none⟩) (Nat.le_refl _) (bv (stA xs (k + 1)))
      have hst : stA xs (k + 1) = if xs.getD k 0 = 0 then flipL (stA xs k) else stA xs k := rfl
      generalize xs.getD k 0 = x at hcell hst
      generalize (fillL xs.length k fun i => stA xs (i + 1)).getD k 0 = old at hc2
      by_cases hx : x = 0
      · subst hx
        rw [if_pos rfl] at hst
        rw [hst] at hset hb2
        have Hst := Lib.hid hst
        clear hst
        go_wp2_with (go_at_call 46; refine (other_any _ _).mono ?_; rintro e w' ⟨rfl, rfl⟩)
        go_roundw
        case rel => exact ⟨k + 1, by omega, by go_num, by rw [Hst.out], hset, hb2⟩
        case measure => simp [intOf]; omega
      · have t0 : ((x.toNat : Int) == 0) = false := by
          rw [beq_eq_false_iff_ne]
          exact fun h => hx ((u8_eq_zero x).2 h)
        rw [if_neg hx] at hst
        rw [hst] at hset hb2
        have Hst := Lib.hid hst
        clear hst hx
        go_wp2
        go_roundw
        case rel => exact ⟨k + 1, by omega, by go_num, by rw [Hst.out], hset, hb2⟩
        case measure => simp [intOf]; omega
    · have hk9 : k = xs.length := by omega
      subst hk9
      have hrd := hrow.rd (by rw [fillL_len]; omega)
      rw [fillL_full, List.length_map, List.length_range] at hrd
      have hlen := encL_len xs
      have Hr : Hid (Rd wr wr.heap.size (some ⟨w.heap.size, 0, none⟩) xs.length (encL xs)) := Lib.hid hrd
      have Hl := Lib.hid hlen
      clear hrd hlen
      go_wp2
      go_ret
      exact ⟨_, _, by rw [Hl.out]; rfl, Hr.out, hb⟩

set_option maxHeartbeats 800000 in
theorem encode_any (w : World) (A : Option Addr) (c : Nat) (xs : List UInt8) (h : Rd w w.heap.size A c xs) (hl : xs.length ≤ 100000) :
    Calls Tryd.prog 20 #[.slice A xs.length c] w (ResE w (ifV (validL xs) (encL xs)) (errV (validL xs) 1)) := by
  cases hv : validL xs
  · have Hv := Lib.hid hv
    clear hv
    go_enter Tryd.func20, Tryd.ntmps20
    go_wp2_with (go_at_call 32; refine (areBits_any _ _ _ _ h hl).mono ?_; rw [Hv.out]; rintro e w' ⟨rfl, rfl⟩)
    go_ret2
    exact ⟨_, _, rfl, Rd.nil _ _, Below.refl _ _⟩
  · have Hv := Lib.hid hv
    clear hv
    go_enter Tryd.func20, Tryd.ntmps20
    go_wp2_with (first | (go_at_call 32; refine (areBits_any _ _ _ _ h hl).mono ?_; rw [Hv.out]; rintro e w' ⟨rfl, rfl⟩) | (go_at_call 38; refine (encoded_any _ _ _ _ h hl).mono ?_; rintro e w1 ⟨A1, c1, rfl, hr1, hb1⟩))
    go_ret2
    exact ⟨_, _, rfl, hr1, hb1⟩

end Go.Proofs.YtbeghnpdmcmdmaaDoor

/-
  Helper text, several in one; no statement is proved here.
-/
import Derived.Test.YtfblpakoibadoaaGreatDoorLvBits
import Derived.Deep.RegionHeld3
import Derived.Deep.DrawnRows
import Derived.BigRegion
import Derived.Test.YtfblpakoibadoaaGreatDoorReg
namespace Go.Proofs.YtfblpakoibadoaaGreatDoor.Lv
open Go Go.RowKit

set_option maxHeartbeats 800000 in
set_option maxRecDepth 100000 in
theorem areBits_any (w : World) (A : Option Addr) (c : Nat) (xs : List UInt8) (h : Rd w w.heap.size A c xs) (hl : xs.length ≤ 100000) :
    Calls Tryz.prog 102 #[.slice A xs.length c] w fun e w' => e = .returned (.bool (validL xs)) ∧ w = w' := by
  go_enter Tryz.func102, Tryz.ntmps102
  go_wp2
  go_loop [7] (fun i => ∃ k : Nat, k ≤ xs.length ∧ i = .int .i64 k ∧ validL (xs.take k) = true) (fun i => xs.length - (intOf i).toNat)
  case atStart => exact ⟨0, Nat.zero_le _, rfl, rfl⟩
  case round =>
    obtain ⟨k, hk, rfl, hv⟩ := hrel
    have Hv := Lib.hid hv
    clear hv
    by_cases hlt : k < xs.length
    · obtain ⟨b, off, rfl, hbB, hcell⟩ := h.at_ hlt
      have hs := validL_snoc xs hlt
      have hbad := fun hx => validL_bad xs hlt hx
      generalize xs.getD k 0 = x at hcell hs hbad
      have Hs := Lib.hid hs
      have Hb := Lib.hid hbad
      clear hs hbad
      by_cases hx : x.toNat ≤ 1
      · have hx1 : ¬ (1 : Int) < (x.toNat : Int) := by omega
        go_wp2
        go_round
        case rel => exact ⟨k + 1, by omega, by go_num, by rw [Hs.out, Hv.out]; simpa using hx⟩
        case measure => simp [intOf]; omega
      · have hx1 : (1 : Int) < (x.toNat : Int) := by omega
        go_wp2
        go_ret
        exact ⟨by rw [Hb.out hx]; rfl, rfl⟩
    · have hk9 : k = xs.length := by omega
      subst hk9
      go_wp2
      go_ret
      have := Hv.out
      rw [List.take_length] at this
      exact ⟨by rw [this]; rfl, rfl⟩

theorem other_any (s : UInt8) (w : World) : Calls Tryz.prog 101 #[bv s] w fun e w' => e = .returned (bv (flipL s)) ∧ w = w' := by
  by_cases hs : s = 0
  · subst hs
    go_enter Tryz.func101, Tryz.ntmps101
    go_wp2
    go_ret
    exact ⟨rfl, rfl⟩
  · have t0 : ((s.toNat : Int) == 0) = false := by
      rw [beq_eq_false_iff_ne]
      exact fun h => hs ((u8_eq_zero s).2 h)
    have hf : flipL s = 0 := by unfold flipL; rw [if_neg hs]
    have Hf := Lib.hid hf
    clear hf hs
    go_enter Tryz.func101, Tryz.ntmps101
    go_wp2
    go_ret
    exact ⟨by rw [Hf.out]; rfl, rfl⟩

set_option maxHeartbeats 800000 in
set_option maxRecDepth 100000 in
theorem encoded_any (w : World) (A : Option Addr) (c : Nat) (xs : List UInt8) (h : Rd w w.heap.size A c xs) (hl : xs.length ≤ 100000) :
    Calls Tryz.prog 78 #[.slice A xs.length c] w (Res1 w (encL xs)) := by
  have hmk := fun W : World => makeS_full (xs.length : Int) W (by omega) (by omega)
  rw [Int.toNat_natCast] at hmk
  go_enter Tryz.func78, Tryz.ntmps78
  go_wp2
  clear hmk
  go_loopw [4, 11] (fun s i wr => ∃ k : Nat, k ≤ xs.length ∧ i = .int .i64 k ∧ s = bv (stA xs k) ∧ Row wr w.heap.size 58 (fillL xs.length k fun i => stA xs (i + 1)) ∧ Below w.heap.size w wr) (fun _ i _ => xs.length - (intOf i).toNat)
  case atStart => exact ⟨0, Nat.zero_le _, rfl, rfl, by rw [fillL_zero]; exact Row.made w _ _, (Below.refl _ _).alloc (Nat.le_refl _) _⟩
  case round =>
    obtain ⟨k, hk, rfl, rfl, hrow, hb⟩ := hrel
    by_cases hlt : k < xs.length
    · obtain ⟨b, off, rfl, hbB, hcell⟩ := (h.below hb).at_ hlt
      have hc2 := hrow.cell (i := k) (by rw [fillL_len]; exact hlt)
      have hf2 := hrow.frozen k
      have hset := hrow.set k (y := stA xs (k + 1)) rfl
      rw [fillL_set] at hset
      have hb2 := hb.setCell (p := ⟨w.heap.size, k, none⟩) (Nat.le_refl _) (bv (stA xs (k + 1)))
      have hst : stA xs (k + 1) = if xs.getD k 0 = 0 then flipL (stA xs k) else stA xs k := rfl
      generalize xs.getD k 0 = x at hcell hst
      generalize (fillL xs.length k fun i => stA xs (i + 1)).getD k 0 = old at hc2
      by_cases hx : x = 0
      · subst hx
        rw [if_pos rfl] at hst
        rw [hst] at hset hb2
        have Hst := Lib.hid hst
        clear hst
        go_wp2_with (go_at_call 101; refine (other_any _ _).mono ?_; rintro e w' ⟨rfl, rfl⟩)
        go_roundw
        case rel => exact ⟨k + 1, by omega, by go_num, by rw [Hst.out], hset, hb2⟩
        case measure => simp [intOf]; omega
      · have t0 : ((x.toNat : Int) == 0) = false := by
          rw [beq_eq_false_iff_ne]
          exact fun h => hx ((u8_eq_zero x).2 h)
        rw [if_neg hx] at hst
        rw [hst] at hset hb2
        have Hst := Lib.hid hst
        clear hst hx
        go_wp2
        go_roundw
        case rel => exact ⟨k + 1, by omega, by go_num, by rw [Hst.out], hset, hb2⟩
        case measure => simp [intOf]; omega
    · have hk9 : k = xs.length := by omega
      subst hk9
      have hrd := hrow.rd (by rw [fillL_len]; omega)
      rw [fillL_full, List.length_map, List.length_range] at hrd
      have hlen := encL_len xs
      have Hr : Hid (Rd wr wr.heap.size (some ⟨w.heap.size, 0, none⟩) xs.length (encL xs)) := Lib.hid hrd
      have Hl := Lib.hid hlen
      clear hrd hlen
      go_wp2
      go_ret
      exact ⟨_, _, by rw [Hl.out]; rfl, Hr.out, hb⟩

end Go.Proofs.YtfblpakoibadoaaGreatDoor.Lv

namespace Go.Proofs.YtfblpakoibadoaaGreatDoor.Lv
open Go Go.RowKit

set_option maxHeartbeats 1600000 in
set_option maxRecDepth 100000 in
theorem decode_any (w : World) (A : Option Addr) (c : Nat) (xs : List UInt8) (h : Rd w w.heap.size A c xs) (hl : xs.length ≤ 100000) :
    Calls Tryz.prog 80 #[.slice A xs.length c] w (ResE w (ifV (validL xs) (decL xs)) (errV (validL xs) 4)) := by
  have hmk := fun W : World => make_full (xs.length : Int) W (by omega) (by omega)
  rw [Int.toNat_natCast] at hmk
  go_enter Tryz.func80, Tryz.ntmps80
  go_wp2
  clear hmk
  go_loopw [5, 12] (fun s i wr => ∃ k : Nat, k ≤ xs.length ∧ i = .int .i64 k ∧ s = bv (before xs k) ∧ validL (xs.take k) = true ∧ Row wr w.heap.size 5 (fillL xs.length k (decF xs)) ∧ Below w.heap.size w wr) (fun _ i _ => xs.length - (intOf i).toNat)
  case atStart => exact ⟨0, Nat.zero_le _, rfl, rfl, rfl, by rw [fillL_zero]; exact Row.made w _ _, (Below.refl _ _).alloc (Nat.le_refl _) _⟩
  case round =>
    obtain ⟨k, hk, rfl, rfl, hv, hrow, hb⟩ := hrel
    have Hv := Lib.hid hv
    clear hv
    by_cases hlt : k < xs.length
    · obtain ⟨b, off, rfl, hbB, hcell⟩ := (h.below hb).at_ hlt
      have hs := validL_snoc xs hlt
      have hbad := fun hx => validL_bad xs hlt hx
      have hc2 := hrow.cell (i := k) (by rw [fillL_len]; exact hlt)
      have hf2 := hrow.frozen k
      have hset := hrow.set k (y := 1) rfl
      have hsame := fillL_set xs.length k (decF xs)
      have hF : decF xs k = if xs.getD k 0 = before xs k then 1 else 0 := rfl
      have hold := fillL_at xs.length k (decF xs)
      have hsame0 := fillL_set0 xs.length k (decF xs)
      have hbk : before xs (k + 1) = xs.getD k 0 := rfl
      have hb2 := hb.setCell (p := ⟨w.heap.size, k, none⟩) (Nat.le_refl _) (bv 1)
      rw [hold] at hc2
      have hcs : ∀ v, (wr.setCell ⟨w.heap.size, k, none⟩ v).cell? ⟨b, off + k, none⟩ = some (bv (xs.getD k 0)) := fun v =>
        (World.cell?_setCell_other _ _ _ _ (fun e => by have := congrArg Addr.block e; simp at this; omega)).trans hcell
      generalize xs.getD k 0 = x at hcell hs hbad hF hbk hcs
      generalize hq : before xs k = q at hF
      have Hs := Lib.hid hs
      have Hb := Lib.hid hbad
      have Hbk := Lib.hid hbk
      clear hs hbad hbk hold hq
      by_cases hx : x.toNat ≤ 1
      · have hvn : validL (xs.take (k + 1)) = true := by rw [Hs.out, Hv.out]; simpa using hx
        have Hvn := Lib.hid hvn
        clear hvn
        by_cases e : x = q
        · subst e
          rw [if_pos rfl] at hF
          rw [hF] at hsame
          rw [hsame] at hset
          have tq : ((x.toNat : Int) == (x.toNat : Int)) = true := by simp
          clear hF hsame hsame0
          rcases (by omega : x.toNat = 0 ∨ x.toNat = 1) with h0 | h0
          · have t0 : ((x.toNat : Int) != 0) = false := by rw [h0]; rfl
            clear h0 hx
            go_wp2
            go_roundw
            case rel => exact ⟨k + 1, by omega, by go_num, by rw [Hbk.out], Hvn.out, hset, hb2⟩
            case measure => simp [intOf]; omega
          · have t0 : ((x.toNat : Int) != 0) = true := by rw [h0]; rfl
            have t1 : ((x.toNat : Int) != 1) = false := by rw [h0]; rfl
            clear h0 hx
            go_wp2
            go_roundw
            case rel => exact ⟨k + 1, by omega, by go_num, by rw [Hbk.out], Hvn.out, hset, hb2⟩
            case measure => simp [intOf]; omega
        · have tq : ((x.toNat : Int) == (q.toNat : Int)) = false := by
            rw [beq_eq_false_iff_ne]
            intro hh
            exact e (UInt8.toNat_inj.1 (by omega))
          rw [if_neg e] at hF
          rw [hF, hsame0] at hsame
          rw [hsame] at hrow
          clear hF hsame hsame0 hset e
          rcases (by omega : x.toNat = 0 ∨ x.toNat = 1) with h0 | h0
          · have t0 : ((x.toNat : Int) != 0) = false := by rw [h0]; rfl
            clear h0 hx
            go_wp2
            go_roundw
            case rel => exact ⟨k + 1, by omega, by go_num, by rw [Hbk.out], Hvn.out, hrow, hb⟩
            case measure => simp [intOf]; omega
          · have t0 : ((x.toNat : Int) != 0) = true := by rw [h0]; rfl
            have t1 : ((x.toNat : Int) != 1) = false := by rw [h0]; rfl
            clear h0 hx
            go_wp2
            go_roundw
            case rel => exact ⟨k + 1, by omega, by go_num, by rw [Hbk.out], Hvn.out, hrow, hb⟩
            case measure => simp [intOf]; omega
      · have t0 : ((x.toNat : Int) != 0) = true := by simp; omega
        have t1 : ((x.toNat : Int) != 1) = true := by simp; omega
        clear hF hsame hsame0 hset
        go_wp2
        go_ret2
        rw [Hb.out hx, ifV_false, errV_false]
        exact ⟨_, _, rfl, Rd.nil _ _, hb⟩
    · have hk9 : k = xs.length := by omega
      subst hk9
      have hrd := hrow.rd (by rw [fillL_len]; omega)
      rw [fillL_full, List.length_map, List.length_range] at hrd
      have hlen := decL_len xs
      have Hr : Hid (Rd wr wr.heap.size (some ⟨w.heap.size, 0, none⟩) xs.length (decL xs)) := Lib.hid hrd
      have Hl := Lib.hid hlen
      clear hrd hlen
      go_wp2
      go_ret2
      have hv := Hv.out
      rw [List.take_length] at hv
      rw [hv, ifV_true, errV_true]
      refine ⟨_, _, ?_, Hr.out, hb⟩
      rw [Hl.out]
      rfl

set_option maxHeartbeats 800000 in
set_option maxRecDepth 100000 in
theorem states_any (w : World) (A : Option Addr) (c : Nat) (xs : List UInt8) (h : Rd w w.heap.size A c xs) (hl : xs.length ≤ 100000) :
    Calls Tryz.prog 20 #[.slice A xs.length c] w (Res1 w xs) := by
  go_enter Tryz.func20, Tryz.ntmps20
  go_wp2
  go_loopw [3, 4] (fun o i wr => ∃ k : Nat, k ≤ xs.length ∧ i = .int .i64 k ∧ wr.ownsRow w.heap.size 5 1 o (xs.take k).length ((xs.take k).map bv) ∧ Below w.heap.size w wr) (fun _ i _ => xs.length - (intOf i).toNat)
  case atStart => exact ⟨0, Nat.zero_le _, rfl, World.ownsRow_nil _ _ _ _, Below.refl _ _⟩
  case round =>
    obtain ⟨k, hk, rfl, hown, hb⟩ := hrel
    by_cases hlt : k < xs.length
    · obtain ⟨b, off, rfl, hbB, hcell⟩ := (h.below hb).at_ hlt
      have hn := take_snoc xs hlt
      have hlz : (xs.take k).length ≤ 100000 := by rw [List.length_take]; omega
      generalize xs.getD k 0 = x at hcell hn
      generalize xs.take k = zs at hown hn hlz
      have Hn := Lib.hid hn
      clear hn
      go_wp2_with (at_builtin; refine wpl_append1 Tryz.underlying27 Tryz.info5 rfl (.tmp 11) (.tmp 16) rfl w.heap.size u3 zs rfl hown x _ rfl rfl (by omega) hb.size ?_; intro v' w1 hown2 hb2)
      go_roundw
      case rel => exact ⟨k + 1, by omega, by go_num, by rw [Hn.out]; exact hown2, hb.trans hb2⟩
      case measure => simp [intOf]; omega
    · have hk9 : k = xs.length := by omega
      subst hk9
      rw [List.take_length] at hown
      go_wp2
      obtain ⟨A', c', rfl, hr⟩ := Rd.of_own hown
      go_ret
      exact ⟨A', c', rfl, hr, hb⟩

set_option maxHeartbeats 800000 in
set_option maxRecDepth 100000 in
theorem line_any (w : World) (A : Option Addr) (c : Nat) (xs : List UInt8) (h : Rd w w.heap.size A c xs) (hl : xs.length ≤ 100000) :
    Calls Tryz.prog 22 #[.slice A xs.length c] w (Res1 w xs) := by
  go_enter Tryz.func22, Tryz.ntmps22
  go_wp2
  go_loopw [3, 4] (fun o i wr => ∃ k : Nat, k ≤ xs.length ∧ i = .int .i64 k ∧ wr.ownsRow w.heap.size 58 1 o (xs.take k).length ((xs.take k).map bv) ∧ Below w.heap.size w wr) (fun _ i _ => xs.length - (intOf i).toNat)
  case atStart => exact ⟨0, Nat.zero_le _, rfl, World.ownsRow_nil _ _ _ _, Below.refl _ _⟩
  case round =>
    obtain ⟨k, hk, rfl, hown, hb⟩ := hrel
    by_cases hlt : k < xs.length
    · obtain ⟨b, off, rfl, hbB, hcell⟩ := (h.below hb).at_ hlt
      have hn := take_snoc xs hlt
      have hlz : (xs.take k).length ≤ 100000 := by rw [List.length_take]; omega
      generalize xs.getD k 0 = x at hcell hn
      generalize xs.take k = zs at hown hn hlz
      have Hn := Lib.hid hn
      clear hn
      go_wp2_with (at_builtin; refine wpl_append1 Tryz.underlying48 Tryz.info58 rfl (.tmp 11) (.tmp 16) rfl w.heap.size u3 zs rfl hown x _ rfl rfl (by omega) hb.size ?_; intro v' w1 hown2 hb2)
      go_roundw
      case rel => exact ⟨k + 1, by omega, by go_num, by rw [Hn.out]; exact hown2, hb.trans hb2⟩
      case measure => simp [intOf]; omega
    · have hk9 : k = xs.length := by omega
      subst hk9
      rw [List.take_length] at hown
      go_wp2
      obtain ⟨A', c', rfl, hr⟩ := Rd.of_own hown
      go_ret
      exact ⟨A', c', rfl, hr, hb⟩

end Go.Proofs.YtfblpakoibadoaaGreatDoor.Lv

namespace Go.Proofs.YtfblpakoibadoaaGreatDoor.Lv
open Go Go.RowKit

theorem onesBehind_any (n : Nat) (x : UInt8) (w : World) (hn : n ≤ 100000) : Calls Tryz.prog 99 #[.int .i64 (n : Int), bv x] w fun e w' => e = .returned (.int .i64 ((onesB n x : Nat) : Int)) ∧ w = w' := by
  by_cases hx : x = 0
  · subst hx
    have ho : onesB n 0 = 0 := rfl
    have Ho := Lib.hid ho
    clear ho
    go_enter Tryz.func99, Tryz.ntmps99
    go_wp2
    go_ret
    exact ⟨by rw [Ho.out]; rfl, rfl⟩
  · have t0 : ((x.toNat : Int) == 0) = false := by
      rw [beq_eq_false_iff_ne]
      exact fun h => hx ((u8_eq_zero x).2 h)
    have ho : onesB n x = n + 1 := by unfold onesB; rw [if_neg hx]
    have Ho := Lib.hid ho
    clear ho hx
    go_enter Tryz.func99, Tryz.ntmps99
    go_wp2
    go_ret
    exact ⟨by rw [Ho.out]; rfl, rfl⟩

theorem clip_any (w : World) (A : Option Addr) (c : Nat) (xs : List UInt8) (h : Rd w w.heap.size A c xs) : Calls Tryz.prog 100 #[.slice A xs.length c] w fun e w' => e = .returned (.slice A xs.length xs.length) ∧ w = w' := by
  have hle := h.le
  have hcap := h.cap
  go_enter Tryz.func100, Tryz.ntmps100
  go_wp2
  go_ret
  exact ⟨rfl, rfl⟩

theorem nat_beq (a b : Nat) : (((a : Nat) : Int) == (b : Int)) = (a == b) := by
  by_cases h : a = b
  · subst h; simp
  · have : (a : Int) ≠ (b : Int) := by omega
    rw [beq_eq_false_iff_ne.2 this, beq_eq_false_iff_ne.2 h]

set_option maxHeartbeats 1600000 in
set_option maxRecDepth 100000 in
theorem stuffed_any (w : World) (A : Option Addr) (c : Nat) (xs : List UInt8) (h : Rd w w.heap.size A c xs) (hl : xs.length ≤ 100000) :
    Calls Tryz.prog 74 #[.slice A xs.length c] w (Res1 w (stuffL xs)) := by
  have hmk := fun W : World => make_cap ((xs.length : Int) + (xs.length : Int) / 6) W (by omega) (by omega)
  rw [show ((xs.length : Int) + (xs.length : Int) / 6).toNat = xs.length + xs.length / 6 from by omega] at hmk
  go_enter Tryz.func74, Tryz.ntmps74
  go_wp2
  clear hmk
  go_loopw [3, 4, 16] (fun o n i wr => ∃ k : Nat, k ≤ xs.length ∧ i = .int .i64 k ∧ n = .int .i64 (((stuffS (xs.take k)).1 : Nat) : Int) ∧ wr.ownsRow w.heap.size 5 1 o (stuffS (xs.take k)).2.length ((stuffS (xs.take k)).2.map bv) ∧ Below w.heap.size w wr) (fun _ _ i _ => xs.length - (intOf i).toNat)
  case atStart => exact ⟨0, Nat.zero_le _, rfl, rfl, World.ownsRow_made w _ _ (Nat.le_refl _) (by unfold maxLen; omega) (by simp [size_madeCells]), (Below.refl _ _).alloc (Nat.le_refl _) _⟩
  case round =>
    obtain ⟨k, hk, rfl, rfl, hown, hb⟩ := hrel
    by_cases hlt : k < xs.length
    · obtain ⟨b, off, rfl, hbB, hcell⟩ := (h.below hb).at_ hlt
      have hsn := stuffS_snoc xs hlt
      have hbd := stuffS_bound (xs.take k)
      have htl : (xs.take k).length ≤ 100000 := by rw [List.length_take]; omega
      generalize xs.getD k 0 = x at hcell hsn
      generalize stuffS (xs.take k) = st at hown hsn hbd
      obtain ⟨n, zs⟩ := st
      obtain ⟨hn5, hlz⟩ := hbd
      simp only at hn5 hlz hown hsn
      have hzl : zs.length ≤ 200000 := by omega
      have ho6 := onesB_le n x
      have hst : stepS (n, zs) x = if onesB n x = 6 then (0, zs ++ [x] ++ [0]) else (onesB n x, zs ++ [x]) := rfl
      rw [hst] at hsn
      have Hob := onesBehind_any n x
      generalize onesB n x = m at hsn ho6 Hob
      clear hst htl hlz
      by_cases h6 : m = 6
      · subst h6
        rw [if_pos rfl] at hsn
        have Hs := Lib.hid hsn
        clear hsn
        go_wp2_with (first | (at_builtin; refine wpl_append1 Tryz.underlying27 Tryz.info5 rfl (.tmp 20) (.tmp 22) rfl w.heap.size u3 zs rfl hown x _ rfl rfl (by omega) hb.size ?_; intro v' w1 hown2 hb2) | (go_at_call 99; refine (Hob _ (by omega)).mono ?_; rintro e w' ⟨rfl, rfl⟩) | (at_builtin; refine wpl_append1 Tryz.underlying27 Tryz.info5 rfl (.tmp 29) (.tmp 30) rfl w.heap.size v' (zs ++ [x]) rfl hown2 0 _ rfl rfl (by simp; omega) (hb.trans hb2).size ?_; intro v3 w3 hown3 hb3))
        go_roundw
        case rel => exact ⟨k + 1, by omega, by go_num, by rw [Hs.out]; rfl, by rw [Hs.out]; exact hown3, (hb.trans hb2).trans hb3⟩
        case measure => simp [intOf]; omega
      · rw [if_neg h6] at hsn
        have t6 : (((m : Nat) : Int) == 6) = false := by rw [beq_eq_false_iff_ne]; omega
        have Hs := Lib.hid hsn
        clear hsn h6
        go_wp2_with (first | (at_builtin; refine wpl_append1 Tryz.underlying27 Tryz.info5 rfl (.tmp 20) (.tmp 22) rfl w.heap.size u3 zs rfl hown x _ rfl rfl (by omega) hb.size ?_; intro v' w1 hown2 hb2) | (go_at_call 99; refine (Hob _ (by omega)).mono ?_; rintro e w' ⟨rfl, rfl⟩))
        go_roundw
        case rel => exact ⟨k + 1, by omega, by go_num, by rw [Hs.out], by rw [Hs.out]; exact hown2, hb.trans hb2⟩
        case measure => simp [intOf]; omega
    · have hk9 : k = xs.length := by omega
      subst hk9
      rw [List.take_length] at hown
      obtain ⟨A', c', rfl, hr⟩ := Rd.of_own hown
      go_wp2_with (go_at_call 100; refine (clip_any _ _ _ _ hr).mono ?_; rintro e w' ⟨rfl, rfl⟩)
      go_ret
      exact ⟨A', _, rfl, hr.clip, hb⟩

end Go.Proofs.YtfblpakoibadoaaGreatDoor.Lv

namespace Go.Proofs.YtfblpakoibadoaaGreatDoor.Lv
open Go Go.RowKit

def syncL : List UInt8 := [0, 0, 0, 0, 0, 0, 0, 1]
def endL : List UInt8 := [2, 2, 0]
/-- The two tables hold what the text lays. -/
structure Laid (w : World) : Prop where
  sync : ∀ j, j < 8 → w.cell? ⟨3, j, none⟩ = some (bv (syncL.getD j 0))
  ends : ∀ j, j < 3 → w.cell? ⟨4, j, none⟩ = some (bv (endL.getD j 0))
theorem Laid.below {w w' : World} (h : Laid w) (hb : Below w.heap.size w w') : Laid w' :=
  ⟨fun j hj => (hb.cell (World.block_lt_of_cell? _ _ (h.sync j hj))).trans (h.sync j hj), fun j hj => (hb.cell (World.block_lt_of_cell? _ _ (h.ends j hj))).trans (h.ends j hj)⟩

/-- The two tables as values. -/
abbrev syncV : Value := .agg #[.int .u8 0, .int .u8 0, .int .u8 0, .int .u8 0, .int .u8 0, .int .u8 0, .int .u8 0, .int .u8 1]
abbrev endV : Value := .agg #[.int .u8 2, .int .u8 2, .int .u8 0]
theorem index_sync (k : Nat) (h : k < 8) (w : World) : (Instr.index 125 syncV (.int .i64 (k : Int))).run Tryz.prog w = .ok (bv (syncL.getD k 0)) w := by
  rcases (by omega : k = 0 ∨ k = 1 ∨ k = 2 ∨ k = 3 ∨ k = 4 ∨ k = 5 ∨ k = 6 ∨ k = 7) with rfl | rfl | rfl | rfl | rfl | rfl | rfl | rfl <;> kernel_rfl
theorem index_end (k : Nat) (h : k < 3) (w : World) : (Instr.index 126 endV (.int .i64 (k : Int))).run Tryz.prog w = .ok (bv (endL.getD k 0)) w := by
  rcases (by omega : k = 0 ∨ k = 1 ∨ k = 2) with rfl | rfl | rfl <;> kernel_rfl

set_option maxHeartbeats 800000 in
set_option maxRecDepth 100000 in
theorem withSync_any (w : World) (hL : Laid w) (A : Option Addr) (c : Nat) (xs : List UInt8) (h : Rd w w.heap.size A c xs) (hl : xs.length ≤ 100000) :
    Calls Tryz.prog 75 #[.slice A xs.length c] w (Res1 w (syncL ++ xs)) := by
  have hmk := fun W : World => make_cap (8 + (xs.length : Int)) W (by omega) (by omega)
  rw [show (8 + (xs.length : Int)).toNat = 8 + xs.length from by omega] at hmk
  have hL1 := hL.below ((Below.refl _ _).alloc (Nat.le_refl _) (.cells (madeCells #[.int .u8 0] (8 + xs.length)) 5))
  have s0 : (w.alloc (.cells (madeCells #[.int .u8 0] (8 + xs.length)) 5)).cell? ⟨3, 0, none⟩ = some (.int .u8 0) := hL1.sync 0 (by omega)
  have s1 : (w.alloc (.cells (madeCells #[.int .u8 0] (8 + xs.length)) 5)).cell? ⟨3, 1, none⟩ = some (.int .u8 0) := hL1.sync 1 (by omega)
  have s2 : (w.alloc (.cells (madeCells #[.int .u8 0] (8 + xs.length)) 5)).cell? ⟨3, 2, none⟩ = some (.int .u8 0) := hL1.sync 2 (by omega)
  have s3 : (w.alloc (.cells (madeCells #[.int .u8 0] (8 + xs.length)) 5)).cell? ⟨3, 3, none⟩ = some (.int .u8 0) := hL1.sync 3 (by omega)
  have s4 : (w.alloc (.cells (madeCells #[.int .u8 0] (8 + xs.length)) 5)).cell? ⟨3, 4, none⟩ = some (.int .u8 0) := hL1.sync 4 (by omega)
  have s5 : (w.alloc (.cells (madeCells #[.int .u8 0] (8 + xs.length)) 5)).cell? ⟨3, 5, none⟩ = some (.int .u8 0) := hL1.sync 5 (by omega)
  have s6 : (w.alloc (.cells (madeCells #[.int .u8 0] (8 + xs.length)) 5)).cell? ⟨3, 6, none⟩ = some (.int .u8 0) := hL1.sync 6 (by omega)
  have s7 : (w.alloc (.cells (madeCells #[.int .u8 0] (8 + xs.length)) 5)).cell? ⟨3, 7, none⟩ = some (.int .u8 1) := hL1.sync 7 (by omega)
  go_enter Tryz.func75, Tryz.ntmps75
  go_wp2
  clear hmk s0 s1 s2 s3 s4 s5 s6 s7
  go_loopw [3, 11] (fun o i wr => ∃ k : Nat, k ≤ 8 ∧ i = .int .i64 k ∧ wr.ownsRow w.heap.size 5 1 o (syncL.take k).length ((syncL.take k).map bv) ∧ Below w.heap.size w wr) (fun _ i _ => 8 - (intOf i).toNat)
  case atStart => exact ⟨0, Nat.zero_le _, rfl, World.ownsRow_made w _ _ (Nat.le_refl _) (by unfold maxLen; omega) (by simp [size_madeCells]), (Below.refl _ _).alloc (Nat.le_refl _) _⟩
  case round =>
    obtain ⟨k, hk, rfl, hown, hb⟩ := hrel
    by_cases hlt : k < 8
    · have hix := index_sync k hlt
      have hn := take_snoc syncL (k := k) (by simpa [syncL] using hlt)
      have hlz : (syncL.take k).length ≤ 8 := by rw [List.length_take]; simp [syncL]; omega
      generalize syncL.getD k 0 = x at hix hn
      generalize syncL.take k = zs at hown hn hlz
      have Hn := Lib.hid hn
      clear hn
      go_wp2_with (at_builtin; refine wpl_append1 Tryz.underlying27 Tryz.info5 rfl (.tmp 14) (.tmp 16) rfl w.heap.size u3 zs rfl hown x _ rfl rfl (by omega) hb.size ?_; intro v' w1 hown2 hb2)
      go_roundw
      case rel => exact ⟨k + 1, by omega, by go_num, by rw [Hn.out]; exact hown2, hb.trans hb2⟩
      case measure => simp [intOf]; omega
    · have hk9 : k = 8 := by omega
      subst hk9
      have hown8 : wr.ownsRow w.heap.size 5 1 u3 syncL.length (syncL.map bv) := hown
      have hl8 : syncL.length = 8 := rfl
      generalize hz : syncL = zs at hown8 hl8
      have Hz := Lib.hid hz
      clear hz
      have Hl8 := Lib.hid hl8
      clear hl8 hown
      go_wp2_with (at_builtin; refine wpl_appendN Tryz.underlying27 Tryz.info5 rfl (.tmp 19) (.tmp 20) rfl w.heap.size u3 zs rfl hown8 w.heap.size c A xs (h.below hb) rfl (by rw [Hl8.out]; omega) hb.size ?_; intro v' w1 hown2 hb2)
      obtain ⟨A', c', rfl, hr⟩ := Rd.of_own hown2
      go_ret
      obtain rfl := Hz.out
      exact ⟨A', c', rfl, hr, hb.trans hb2⟩

set_option maxHeartbeats 800000 in
set_option maxRecDepth 100000 in
theorem withEnd_own (w : World) (hL : Laid w) (A : Option Addr) (c : Nat) (xs : List UInt8) (h : Rd w w.heap.size A c xs) (hl : xs.length ≤ 300000) :
    Calls Tryz.prog 77 #[.slice A xs.length c] w (ResO w 58 (xs ++ endL)) := by
  have hmk := fun W : World => makeS_cap ((xs.length : Int) + 3) W (by omega) (by omega)
  rw [show ((xs.length : Int) + 3).toNat = xs.length + 3 from by omega] at hmk
  have hown0 : (w.alloc (.cells (madeCells #[.int .u8 0] (xs.length + 3)) 58)).ownsRow w.heap.size 58 1 (.slice (some ⟨w.heap.size, 0, none⟩) 0 (xs.length + 3)) ([] : List UInt8).length (([] : List UInt8).map bv) :=
    World.ownsRow_made w _ _ (Nat.le_refl _) (by unfold maxLen; omega) (by simp [size_madeCells])
  have hb0 := (Below.refl w.heap.size w).alloc (Nat.le_refl _) (.cells (madeCells #[.int .u8 0] (xs.length + 3)) 58)
  go_enter Tryz.func77, Tryz.ntmps77
  go_wp2_with (at_builtin; refine wpl_appendN Tryz.underlying48 Tryz.info58 rfl (.tmp 10) (.tmp 11) rfl w.heap.size _ [] rfl hown0 w.heap.size c A xs (h.below hb0) rfl (by simp; omega) hb0.size ?_; intro v1 w1 hown1 hb1; have hL1 := hL.below (hb0.trans hb1); have s0 : w1.cell? ⟨4, 0, none⟩ = some (.int .u8 2) := hL1.ends 0 (by omega); have s1 : w1.cell? ⟨4, 1, none⟩ = some (.int .u8 2) := hL1.ends 1 (by omega); have s2 : w1.cell? ⟨4, 2, none⟩ = some (.int .u8 0) := hL1.ends 2 (by omega))
  clear hmk s0 s1 s2
  rw [List.nil_append] at hown1
  go_loopw [3, 14] (fun o i wr => ∃ k : Nat, k ≤ 3 ∧ i = .int .i64 k ∧ wr.ownsRow w.heap.size 58 1 o (xs ++ endL.take k).length ((xs ++ endL.take k).map bv) ∧ Below w.heap.size w wr) (fun _ i _ => 3 - (intOf i).toNat)
  case atStart => exact ⟨0, Nat.zero_le _, rfl, by simpa using hown1, hb0.trans hb1⟩
  case round =>
    obtain ⟨k, hk, rfl, hown, hb⟩ := hrel
    by_cases hlt : k < 3
    · have hix := index_end k hlt
      have hn : xs ++ endL.take (k + 1) = (xs ++ endL.take k) ++ [endL.getD k 0] := by rw [take_snoc endL (k := k) (by simpa [endL] using hlt), List.append_assoc]
      have hlz : (xs ++ endL.take k).length ≤ 300003 := by rw [List.length_append, List.length_take]; simp [endL]; omega
      generalize endL.getD k 0 = x at hix hn
      generalize xs ++ endL.take k = zs at hown hn hlz
      have Hn := Lib.hid hn
      clear hn
      go_wp2_with (at_builtin; refine wpl_append1 Tryz.underlying48 Tryz.info58 rfl (.tmp 17) (.tmp 19) rfl w.heap.size u3 zs rfl hown x _ rfl rfl (by omega) hb.size ?_; intro v' w1 hown2 hb2)
      go_roundw
      case rel => exact ⟨k + 1, by omega, by go_num, by rw [Hn.out]; exact hown2, hb.trans hb2⟩
      case measure => simp [intOf]; omega
    · have hk9 : k = 3 := by omega
      subst hk9
      have hown8 : wr.ownsRow w.heap.size 58 1 u3 (xs ++ endL).length ((xs ++ endL).map bv) := hown
      clear hown
      go_wp2
      go_ret
      exact ⟨_, rfl, hown8, hb⟩

theorem withEnd_any (w : World) (hL : Laid w) (A : Option Addr) (c : Nat) (xs : List UInt8) (h : Rd w w.heap.size A c xs) (hl : xs.length ≤ 300000) :
    Calls Tryz.prog 77 #[.slice A xs.length c] w (Res1 w (xs ++ endL)) :=
  (withEnd_own w hL A c xs h hl).mono fun _ _ hh => hh.to1

end Go.Proofs.YtfblpakoibadoaaGreatDoor.Lv

namespace Go.Proofs.YtfblpakoibadoaaGreatDoor.Lv
open Go Go.RowKit

def optL : Option (List UInt8) → List UInt8
  | none => []
  | some l => l
def optE (n : Int) : Option (List UInt8) → Int
  | none => n
  | some _ => 0
/-- The relation of the loop of Unstuff. -/
def UnRel (xs : List UInt8) (w wr : World) (o n : Value) (k : Nat) : Prop :=
  ∃ m ys, unS (xs.take k) = some (m, ys) ∧ m ≤ 6 ∧ ys.length ≤ k ∧ n = .int .i64 ((m : Nat) : Int) ∧ wr.ownsRow w.heap.size 5 1 o ys.length (ys.map bv) ∧ Below w.heap.size w wr

set_option maxHeartbeats 1600000 in
set_option maxRecDepth 100000 in
theorem unstuff_good (w : World) (A : Option Addr) (c : Nat) (xs : List UInt8) (h : Rd w w.heap.size A c xs) (hl : xs.length ≤ 100000) (hv : validL xs = true) :
    Calls Tryz.prog 81 #[.slice A xs.length c] w (ResE w (optL (unstuffL xs)) (optE 4 (unstuffL xs))) := by
  have hmk := fun W : World => make_cap (xs.length : Int) W (by omega) (by omega)
  rw [Int.toNat_natCast] at hmk
  have Hv := Lib.hid hv
  clear hv
  go_enter Tryz.func81, Tryz.ntmps81
  go_wp2_with (go_at_call 102; refine (areBits_any _ _ _ _ h hl).mono ?_; rw [Hv.out]; rintro e w' ⟨rfl, rfl⟩)
  clear hmk
  go_loopw [4, 5, 16] (fun o n i wr => ∃ k : Nat, k ≤ xs.length ∧ i = .int .i64 k ∧ UnRel xs w wr o n k) (fun _ _ i _ => xs.length - (intOf i).toNat)
  case atStart => exact ⟨0, Nat.zero_le _, rfl, 0, [], rfl, by omega, by simp, rfl, World.ownsRow_made w _ _ (Nat.le_refl _) (by unfold maxLen; omega) (by simp [size_madeCells]), (Below.refl _ _).alloc (Nat.le_refl _) _⟩
  case round =>
    obtain ⟨k, hk, rfl, m, ys, hst, hm6, hyl, rfl, hown, hb⟩ := hrel
    by_cases hlt : k < xs.length
    · obtain ⟨b, off, rfl, hbB, hcell⟩ := (h.below hb).at_ hlt
      have hsn := unS_snoc xs hlt
      rw [hst] at hsn
      have hvx := validL_get Hv.out hlt
      have hno : unS (xs.take (k + 1)) = none → unstuffL xs = none := fun hh => by unfold unstuffL; rw [unS_none xs hh]
      generalize xs.getD k 0 = x at hcell hsn hvx
      have ho6 := onesB_le m x
      have Hob := onesBehind_any m x
      have hdf : stepU (some (m, ys)) x = if m < 6 then some (onesB m x, ys ++ [x]) else if x = 1 then none else some (onesB m x, ys) := rfl
      rw [hdf] at hsn
      have hxo : x ≠ 1 → onesB m x = 0 := fun hx => by
        have : x = 0 := by
          rw [u8_eq_zero]
          have h1 : ¬ (x.toNat : Int) = 1 := fun h => hx ((u8_eq_one x).2 h)
          omega
        unfold onesB; rw [if_pos this]
      generalize onesB m x = m2 at hsn ho6 Hob hxo
      have Hst := Lib.hid hst
      have Hno := Lib.hid hno
      clear hst hno hdf
      by_cases h6 : m < 6
      · rw [if_pos h6] at hsn
        have Hs := Lib.hid hsn
        clear hsn hxo
        have hmi : (m : Int) < 6 := by omega
        go_wp2_with (first | (at_builtin; refine wpl_append1 Tryz.underlying27 Tryz.info5 rfl (.tmp 22) (.tmp 24) rfl w.heap.size u4 ys rfl hown x _ rfl rfl (by omega) hb.size ?_; intro v' w1 hown2 hb2) | (go_at_call 99; refine (Hob _ (by omega)).mono ?_; rintro e w' ⟨rfl, rfl⟩))
        go_roundw
        case rel => exact ⟨k + 1, by omega, by go_num, m2, ys ++ [x], Hs.out, by omega, by simp; omega, rfl, hown2, hb.trans hb2⟩
        case measure => simp [intOf]; omega
      · rw [if_neg h6] at hsn
        have hmi : ¬ (m : Int) < 6 := by omega
        by_cases hx : x = 1
        · rw [if_pos hx] at hsn
          have t1 : ((x.toNat : Int) == 1) = true := by rw [hx]; rfl
          have Hs := Lib.hid hsn
          clear hsn hxo hx
          go_wp2
          go_ret2
          rw [Hno.out Hs.out]
          exact ⟨_, _, rfl, Rd.nil _ _, hb⟩
        · have hm2 := hxo hx
          rw [if_neg hx] at hsn
          have t1 : ((x.toNat : Int) == 1) = false := by
            rw [beq_eq_false_iff_ne]
            exact fun h => hx ((u8_eq_one x).2 h)
          have Hs := Lib.hid hsn
          have hle2 : m2 ≤ 6 := by omega
          clear hsn hxo hx hm2
          go_wp2_with (go_at_call 99; refine (Hob _ (by omega)).mono ?_; rintro e w' ⟨rfl, rfl⟩)
          go_roundw
          case rel => exact ⟨k + 1, by omega, by go_num, m2, ys, Hs.out, hle2, by omega, rfl, hown, hb⟩
          case measure => simp [intOf]; omega
    · have hk9 : k = xs.length := by omega
      subst hk9
      rw [List.take_length] at hst
      have hu : unstuffL xs = if m = 6 then none else some ys := by unfold unstuffL; rw [hst]
      have Hst := Lib.hid hst
      clear hst
      by_cases h6 : m = 6
      · subst h6
        rw [if_pos rfl] at hu
        have Hu := Lib.hid hu
        clear hu
        go_wp2
        go_ret2
        rw [Hu.out]
        exact ⟨_, _, rfl, Rd.nil _ _, hb⟩
      · rw [if_neg h6] at hu
        have t6 : (((m : Nat) : Int) == 6) = false := by rw [beq_eq_false_iff_ne]; omega
        have Hu := Lib.hid hu
        clear hu h6
        obtain ⟨A', c', rfl, hr⟩ := Rd.of_own hown
        go_wp2_with (go_at_call 100; refine (clip_any _ _ _ _ hr).mono ?_; rintro e w' ⟨rfl, rfl⟩)
        go_ret2
        rw [Hu.out]
        exact ⟨A', _, rfl, hr.clip, hb⟩

set_option maxHeartbeats 800000 in
theorem unstuff_bad (w : World) (A : Option Addr) (c : Nat) (xs : List UInt8) (h : Rd w w.heap.size A c xs) (hl : xs.length ≤ 100000) (hv : validL xs = false) :
    Calls Tryz.prog 81 #[.slice A xs.length c] w (ResE w [] 1) := by
  have Hv := Lib.hid hv
  clear hv
  go_enter Tryz.func81, Tryz.ntmps81
  go_wp2_with (go_at_call 102; refine (areBits_any _ _ _ _ h hl).mono ?_; rw [Hv.out]; rintro e w' ⟨rfl, rfl⟩)
  go_ret2
  exact ⟨_, _, rfl, Rd.nil _ _, Below.refl _ _⟩

theorem or_val (a x : UInt8) (j : Nat) (h : j < 8) (hx : x.toNat ≤ 1) : Value.int .u8 (bits .or .u8 (a.toNat : Int) (((x.toNat : Int) * 2 ^ j) % 256)) = bv (a ||| (x <<< UInt8.ofNat j)) := by
  have H : ∀ a : Fin 256, ∀ x : Fin 2, ∀ j : Fin 8, bits .or .u8 (a.val : Int) (((x.val : Int) * 2 ^ j.val) % 256) = ((UInt8.ofNat a.val ||| (UInt8.ofNat x.val <<< UInt8.ofNat j.val)).toNat : Int) := by decide +kernel
  have := H ⟨a.toNat, a.toNat_lt⟩ ⟨x.toNat, by omega⟩ ⟨j, h⟩
  simp only [UInt8.ofNat_toNat] at this
  rw [this]

set_option maxHeartbeats 1600000 in
set_option maxRecDepth 100000 in
theorem bytes_good (w : World) (A : Option Addr) (c : Nat) (xs : List UInt8) (h : Rd w w.heap.size A c xs) (hl : xs.length ≤ 100000) (hv : validL xs = true) (h8 : xs.length % 8 = 0) :
    Calls Tryz.prog 103 #[.slice A xs.length c] w (ResF w (bytesL xs) 0) := by
  have hmk := fun W : World => make_full ((xs.length : Int) / 8) W (by omega) (by omega)
  rw [show ((xs.length : Int) / 8).toNat = xs.length / 8 from by omega] at hmk
  have Hv := Lib.hid hv
  clear hv
  have t8 : ((xs.length : Int) % 8 != 0) = false := by
    rw [bne_eq_false_iff_eq]; omega
  go_enter Tryz.func103, Tryz.ntmps103
  go_wp2_with (go_at_call 102; refine (areBits_any _ _ _ _ h hl).mono ?_; rw [Hv.out]; rintro e w' ⟨rfl, rfl⟩)
  clear hmk
  go_loopw [19] (fun i wr => ∃ k : Nat, k ≤ xs.length ∧ i = .int .i64 k ∧ Row wr w.heap.size 5 (bytesP xs k) ∧ Below w.heap.size w wr) (fun i _ => xs.length - (intOf i).toNat)
  case atStart => exact ⟨0, Nat.zero_le _, rfl, by rw [bytesP_zero]; exact Row.made w _ _, (Below.refl _ _).alloc (Nat.le_refl _) _⟩
  case round =>
    obtain ⟨k, hk, rfl, hrow, hb⟩ := hrel
    by_cases hlt : k < xs.length
    · obtain ⟨b, off, rfl, hbB, hcell⟩ := (h.below hb).at_ hlt
      have hvx := validL_get Hv.out hlt
      have hc2 := hrow.cell (i := k / 8) (by rw [bytesP_len]; omega)
      have hf2 := hrow.frozen (k / 8)
      have hset := hrow.set (k / 8) (y := accB xs (k / 8) (k % 8) ||| (xs.getD k 0 <<< UInt8.ofNat (k % 8))) rfl
      rw [bytesP_set xs hlt h8] at hset
      rw [bytesP_at xs hlt h8] at hc2
      have hov := or_val (accB xs (k / 8) (k % 8)) (xs.getD k 0) (k % 8) (by omega) hvx
      generalize xs.getD k 0 = x at hcell hset hov
      generalize accB xs (k / 8) (k % 8) = a at hc2 hset hov
      have Hov := Lib.hid hov
      have Hset := Lib.hid hset
      clear hov hset
      have hd8 : k / 8 < xs.length / 8 := by omega
      go_wp2
      go_region
      rw [Hov.out]
      go_wp2
      go_roundw
      case rel => exact ⟨k + 1, by omega, by go_num, Hset.out.drew, (hb.setCell (Nat.le_refl _) _).drew⟩
      case measure => simp [intOf]; omega
    · have hk9 : k = xs.length := by omega
      subst hk9
      have hrd := hrow.rd (by rw [bytesP_len]; omega)
      rw [bytesP_len, bytesP_full xs h8] at hrd
      have hlen := bytesL_len xs
      have Hr := Lib.hid hrd
      have Hl := Lib.hid hlen
      clear hrd hlen hrow
      go_wp2
      go_ret2
      refine ⟨_, _, ?_, Hr.out, hb, fun ad hh => by obtain rfl := Option.some.inj hh; exact Nat.le_refl _⟩
      rw [Hl.out]
      rfl

set_option maxHeartbeats 800000 in
theorem bytes_bad (w : World) (A : Option Addr) (c : Nat) (xs : List UInt8) (h : Rd w w.heap.size A c xs) (hl : xs.length ≤ 100000) (hv : validL xs = false) :
    Calls Tryz.prog 103 #[.slice A xs.length c] w (ResE w [] 1) := by
  have Hv := Lib.hid hv
  clear hv
  go_enter Tryz.func103, Tryz.ntmps103
  go_wp2_with (go_at_call 102; refine (areBits_any _ _ _ _ h hl).mono ?_; rw [Hv.out]; rintro e w' ⟨rfl, rfl⟩)
  go_ret2
  exact ⟨_, _, rfl, Rd.nil _ _, Below.refl _ _⟩

set_option maxHeartbeats 800000 in
theorem bytes_width (w : World) (A : Option Addr) (c : Nat) (xs : List UInt8) (h : Rd w w.heap.size A c xs) (hl : xs.length ≤ 100000) (hv : validL xs = true) (h8 : ¬ xs.length % 8 = 0) :
    Calls Tryz.prog 103 #[.slice A xs.length c] w (ResE w [] 5) := by
  have Hv := Lib.hid hv
  clear hv
  have t8 : ((xs.length : Int) % 8 != 0) = true := by
    rw [bne_iff_ne]; omega
  clear h8
  go_enter Tryz.func103, Tryz.ntmps103
  go_wp2_with (go_at_call 102; refine (areBits_any _ _ _ _ h hl).mono ?_; rw [Hv.out]; rintro e w' ⟨rfl, rfl⟩)
  go_ret2
  exact ⟨_, _, rfl, Rd.nil _ _, Below.refl _ _⟩

end Go.Proofs.YtfblpakoibadoaaGreatDoor.Lv

namespace Go.Proofs.YtfblpakoibadoaaGreatDoor.Lv
open Go Go.RowKit

/-- Do the last three states end a packet? -/
def hasEndL (xs : List UInt8) : Bool := decide (3 ≤ xs.length) && decide (xs.drop (xs.length - 3) = endL)
def hasSyncL (xs : List UInt8) : Bool := decide (xs.take 8 = syncL)

theorem drop_get (xs : List UInt8) (d k : Nat) (h : d + k < xs.length) : (xs.drop d).getD k 0 = xs.getD (d + k) 0 := by
  simp [List.getD, List.getElem?_drop]
theorem list_ext_getD (xs ys : List UInt8) (hl : xs.length = ys.length) (h : ∀ k, k < xs.length → xs.getD k 0 = ys.getD k 0) : xs = ys := by
  apply List.ext_getElem hl
  intro k h1 h2
  have := h k h1
  simpa [List.getD, h1, h2] using this

theorem hasEnd_short (w : World) (A : Option Addr) (c : Nat) (xs : List UInt8) (hl : xs.length < 3) :
    Calls Tryz.prog 79 #[.slice A xs.length c] w fun e w' => e = .returned (.bool false) ∧ w = w' := by
  have h3 : (xs.length : Int) - 3 < 0 := by omega
  go_enter Tryz.func79, Tryz.ntmps79
  go_wp2
  go_ret
  exact ⟨rfl, rfl⟩

set_option maxHeartbeats 800000 in
set_option maxRecDepth 100000 in
theorem hasEnd_long (w : World) (hL : Laid w) (A : Option Addr) (c : Nat) (xs : List UInt8) (h : Rd w w.heap.size A c xs) (hl : xs.length ≤ 100000) (h3 : 3 ≤ xs.length) :
    Calls Tryz.prog 79 #[.slice A xs.length c] w fun e w' => e = .returned (.bool (hasEndL xs)) ∧ w = w' := by
  have s0 : w.cell? ⟨4, 0, none⟩ = some (.int .u8 2) := hL.ends 0 (by omega)
  have s1 : w.cell? ⟨4, 1, none⟩ = some (.int .u8 2) := hL.ends 1 (by omega)
  have s2 : w.cell? ⟨4, 2, none⟩ = some (.int .u8 0) := hL.ends 2 (by omega)
  go_enter Tryz.func79, Tryz.ntmps79
  go_wp2
  clear s0 s1 s2
  go_loop [12] (fun i => ∃ k : Nat, k ≤ 3 ∧ i = .int .i64 k ∧ ∀ j, j < k → xs.getD (xs.length - 3 + j) 0 = endL.getD j 0) (fun i => 3 - (intOf i).toNat)
  case atStart => exact ⟨0, Nat.zero_le _, rfl, fun j hj => absurd hj (by omega)⟩
  case round =>
    obtain ⟨k, hk, rfl, heq⟩ := hrel
    have Heq := Lib.hid heq
    clear heq
    by_cases hlt : k < 3
    · have hj : xs.length - 3 + k < xs.length := by omega
      obtain ⟨b, off, rfl, hbB, hcell⟩ := h.at_ hj
      rw [show off + (xs.length - 3 + k) = off + (xs.length - 3 + k) from rfl] at hcell
      have hix := index_end k hlt
      by_cases e : xs.getD (xs.length - 3 + k) 0 = endL.getD k 0
      · have He := Lib.hid e
        rw [e] at hcell
        generalize endL.getD k 0 = x at hcell hix
        have t0 : ((x.toNat : Int) != (x.toNat : Int)) = false := by simp
        clear e
        go_wp2
        go_round
        case rel => exact ⟨k + 1, by omega, by go_num, fun j hj => by
          rcases Nat.lt_or_ge j k with h1 | h1
          · exact Heq.out j h1
          · have hjk : j = k := by omega
            subst hjk
            exact He.out⟩
        case measure => simp [intOf]; omega
      · have hbad : hasEndL xs = false := by
          unfold hasEndL
          rw [Bool.and_eq_false_iff]
          right
          rw [decide_eq_false_iff_not]
          intro hh
          exact e (by rw [← drop_get xs _ k (by omega), hh])
        have Hb := Lib.hid hbad
        have t0 : (((xs.getD (xs.length - 3 + k) 0).toNat : Int) != ((endL.getD k 0).toNat : Int)) = true := by
          rw [bne_iff_ne]
          exact fun hh => e (UInt8.toNat_inj.1 (by omega))
        clear hbad e
        generalize endL.getD k 0 = x at hix t0
        generalize xs.getD (xs.length - 3 + k) 0 = y at hcell t0
        go_wp2
        go_ret
        exact ⟨by rw [Hb.out]; rfl, rfl⟩
    · have hk9 : k = 3 := by omega
      subst hk9
      have hgood : hasEndL xs = true := by
        unfold hasEndL
        rw [Bool.and_eq_true_iff]
        refine ⟨by simpa using h3, ?_⟩
        rw [decide_eq_true_iff]
        refine list_ext_getD _ _ (by simp [endL]; omega) fun j hj => ?_
        rw [List.length_drop] at hj
        rw [drop_get xs _ j (by omega)]
        exact Heq.out j (by omega)
      have Hg := Lib.hid hgood
      clear hgood
      go_wp2
      go_ret
      exact ⟨by rw [Hg.out]; rfl, rfl⟩

theorem hasEndL_short (xs : List UInt8) (h : xs.length < 3) : hasEndL xs = false := by
  unfold hasEndL
  rw [Bool.and_eq_false_iff]
  left
  simpa using h

theorem hasEnd_any (w : World) (hL : Laid w) (A : Option Addr) (c : Nat) (xs : List UInt8) (h : Rd w w.heap.size A c xs) (hl : xs.length ≤ 100000) :
    Calls Tryz.prog 79 #[.slice A xs.length c] w fun e w' => e = .returned (.bool (hasEndL xs)) ∧ w = w' := by
  rcases Nat.lt_or_ge xs.length 3 with h3 | h3
  · rw [hasEndL_short xs h3]
    exact hasEnd_short w A c xs h3
  · exact hasEnd_long w hL A c xs h hl h3

theorem hasSync_short (w : World) (A : Option Addr) (c : Nat) (xs : List UInt8) (hl : xs.length < 8) :
    Calls Tryz.prog 82 #[.slice A xs.length c] w fun e w' => e = .returned (.bool false) ∧ w = w' := by
  have h3 : (xs.length : Int) < 8 := by omega
  go_enter Tryz.func82, Tryz.ntmps82
  go_wp2
  go_ret
  exact ⟨rfl, rfl⟩

set_option maxHeartbeats 800000 in
set_option maxRecDepth 100000 in
theorem hasSync_long (w : World) (hL : Laid w) (A : Option Addr) (c : Nat) (xs : List UInt8) (h : Rd w w.heap.size A c xs) (hl : xs.length ≤ 100000) (h8 : 8 ≤ xs.length) :
    Calls Tryz.prog 82 #[.slice A xs.length c] w fun e w' => e = .returned (.bool (hasSyncL xs)) ∧ w = w' := by
  have s0 : w.cell? ⟨3, 0, none⟩ = some (.int .u8 0) := hL.sync 0 (by omega)
  have s1 : w.cell? ⟨3, 1, none⟩ = some (.int .u8 0) := hL.sync 1 (by omega)
  have s2 : w.cell? ⟨3, 2, none⟩ = some (.int .u8 0) := hL.sync 2 (by omega)
  have s3 : w.cell? ⟨3, 3, none⟩ = some (.int .u8 0) := hL.sync 3 (by omega)
  have s4 : w.cell? ⟨3, 4, none⟩ = some (.int .u8 0) := hL.sync 4 (by omega)
  have s5 : w.cell? ⟨3, 5, none⟩ = some (.int .u8 0) := hL.sync 5 (by omega)
  have s6 : w.cell? ⟨3, 6, none⟩ = some (.int .u8 0) := hL.sync 6 (by omega)
  have s7 : w.cell? ⟨3, 7, none⟩ = some (.int .u8 1) := hL.sync 7 (by omega)
  go_enter Tryz.func82, Tryz.ntmps82
  go_wp2
  clear s0 s1 s2 s3 s4 s5 s6 s7
  go_loop [9] (fun i => ∃ k : Nat, k ≤ 8 ∧ i = .int .i64 k ∧ ∀ j, j < k → xs.getD j 0 = syncL.getD j 0) (fun i => 8 - (intOf i).toNat)
  case atStart => exact ⟨0, Nat.zero_le _, rfl, fun j hj => absurd hj (by omega)⟩
  case round =>
    obtain ⟨k, hk, rfl, heq⟩ := hrel
    have Heq := Lib.hid heq
    clear heq
    by_cases hlt : k < 8
    · have hj : k < xs.length := by omega
      obtain ⟨b, off, rfl, hbB, hcell⟩ := h.at_ hj
      have hix := index_sync k hlt
      by_cases e : xs.getD k 0 = syncL.getD k 0
      · have He := Lib.hid e
        rw [e] at hcell
        generalize syncL.getD k 0 = x at hcell hix
        have t0 : ((x.toNat : Int) != (x.toNat : Int)) = false := by simp
        clear e
        go_wp2
        go_round
        case rel => exact ⟨k + 1, by omega, by go_num, fun j hj => by
          rcases Nat.lt_or_ge j k with h1 | h1
          · exact Heq.out j h1
          · have hjk : j = k := by omega
            subst hjk
            exact He.out⟩
        case measure => simp [intOf]; omega
      · have hbad : hasSyncL xs = false := by
          unfold hasSyncL
          rw [decide_eq_false_iff_not]
          intro hh
          refine e ?_
          rw [← hh]
          simp [List.getD, List.getElem?_take, hlt]
        have Hb := Lib.hid hbad
        have t0 : (((xs.getD k 0).toNat : Int) != ((syncL.getD k 0).toNat : Int)) = true := by
          rw [bne_iff_ne]
          exact fun hh => e (UInt8.toNat_inj.1 (by omega))
        clear hbad e
        generalize syncL.getD k 0 = x at hix t0
        generalize xs.getD k 0 = y at hcell t0
        go_wp2
        go_ret
        exact ⟨by rw [Hb.out]; rfl, rfl⟩
    · have hk9 : k = 8 := by omega
      subst hk9
      have hgood : hasSyncL xs = true := by
        unfold hasSyncL
        rw [decide_eq_true_iff]
        refine list_ext_getD _ _ (by simp [syncL]; omega) fun j hj => ?_
        rw [List.length_take] at hj
        have hj8 : j < 8 := by omega
        rw [← Heq.out j hj8]
        simp [List.getD, List.getElem?_take, hj8]
      have Hg := Lib.hid hgood
      clear hgood
      go_wp2
      go_ret
      exact ⟨by rw [Hg.out]; rfl, rfl⟩

theorem hasSyncL_short (xs : List UInt8) (h : xs.length < 8) : hasSyncL xs = false := by
  unfold hasSyncL
  rw [decide_eq_false_iff_not]
  intro hh
  have := congrArg List.length hh
  rw [List.length_take] at this
  simp [syncL] at this
  omega

theorem hasSync_any (w : World) (hL : Laid w) (A : Option Addr) (c : Nat) (xs : List UInt8) (h : Rd w w.heap.size A c xs) (hl : xs.length ≤ 100000) :
    Calls Tryz.prog 82 #[.slice A xs.length c] w fun e w' => e = .returned (.bool (hasSyncL xs)) ∧ w = w' := by
  rcases Nat.lt_or_ge xs.length 8 with h3 | h3
  · rw [hasSyncL_short xs h3]
    exact hasSync_short w A c xs h3
  · exact hasSync_long w hL A c xs h hl h3

/-- The bytes behind the sync, or the error. -/
def contentL (xs : List UInt8) : List UInt8 × Int :=
  if ¬ xs.length % 8 = 0 then ([], 5) else if xs.length = 0 then ([], 1) else if 8216 < xs.length then ([], 3) else (bytesL xs, 0)

set_option maxHeartbeats 800000 in
theorem content_any (w : World) (A : Option Addr) (c : Nat) (xs : List UInt8) (h : Rd w w.heap.size A c xs) (hl : xs.length ≤ 100000) (hv : validL xs = true) :
    Calls Tryz.prog 83 #[.slice A xs.length c] w (ResF w (contentL xs).1 (contentL xs).2) := by
  have hdef : contentL xs = if ¬ xs.length % 8 = 0 then ([], 5) else if xs.length = 0 then ([], 1) else if 8216 < xs.length then ([], 3) else (bytesL xs, 0) := rfl
  generalize contentL xs = r at hdef
  by_cases h8 : xs.length % 8 = 0
  · have t8 : ((xs.length : Int) % 8 != 0) = false := by rw [bne_eq_false_iff_eq]; omega
    rw [if_neg (by omega)] at hdef
    by_cases h0 : xs.length = 0
    · rw [if_pos h0] at hdef
      have t0 : ((xs.length : Int) == 0) = true := by rw [beq_iff_eq]; omega
      clear h8 h0
      subst hdef
      go_enter Tryz.func83, Tryz.ntmps83
      go_wp2
      go_ret2
      exact ⟨_, _, rfl, Rd.nil _ _, Below.refl _ _, none_new⟩
    · rw [if_neg h0] at hdef
      have t0 : ((xs.length : Int) == 0) = false := by rw [beq_eq_false_iff_ne]; omega
      have hp : 0 < xs.length := by omega
      clear h0
      by_cases hm : 8216 < xs.length
      · rw [if_pos hm] at hdef
        have hm2 : (8216 : Int) < (xs.length : Int) := by omega
        clear h8
        subst hdef
        go_enter Tryz.func83, Tryz.ntmps83
        go_wp2
        go_ret2
        exact ⟨_, _, rfl, Rd.nil _ _, Below.refl _ _, none_new⟩
      · rw [if_neg hm] at hdef
        have hm2 : ¬ (8216 : Int) < (xs.length : Int) := by omega
        have hB := bytes_good w A c xs h hl hv h8
        have HB := Lib.hid hB
        clear hB h8 hv
        subst hdef
        go_enter Tryz.func83, Tryz.ntmps83
        go_wp2_with (go_at_call 103; refine HB.out.mono ?_; rintro e w1 ⟨A1, c1, rfl, hr1, hb1, hf1⟩)
        go_ret2
        exact ⟨_, _, rfl, hr1, hb1, hf1⟩
  · have t8 : ((xs.length : Int) % 8 != 0) = true := by rw [bne_iff_ne]; omega
    rw [if_pos h8] at hdef
    clear h8
    subst hdef
    go_enter Tryz.func83, Tryz.ntmps83
    go_wp2
    go_ret2
    exact ⟨_, _, rfl, Rd.nil _ _, Below.refl _ _, none_new⟩

end Go.Proofs.YtfblpakoibadoaaGreatDoor.Lv

namespace Go.Proofs.YtfblpakoibadoaaGreatDoor.Lv
open Go Go.RowKit

/-- The states of a packet. -/
def sendL (xs : List UInt8) : List UInt8 := encL (stuffL (syncL ++ bitsL xs)) ++ endL
theorem stuffL_len (xs : List UInt8) : (stuffL xs).length ≤ 2 * xs.length := (stuffS_bound xs).2

set_option maxHeartbeats 1600000 in
set_option maxRecDepth 100000 in
theorem send_own (w : World) (hL : Laid w) (A : Option Addr) (c : Nat) (xs : List UInt8) (h : Rd w w.heap.size A c xs) (h1 : 0 < xs.length) (hl : xs.length ≤ 1027) :
    Calls Tryz.prog 45 #[.slice A xs.length c] w (ResOE w 58 (sendL xs) 0) := by
  have t0 : ((xs.length : Int) == 0) = false := by rw [beq_eq_false_iff_ne]; omega
  have t1 : ¬ (1027 : Int) < (xs.length : Int) := by omega
  have hs : sendL xs = encL (stuffL (syncL ++ bitsL xs)) ++ endL := rfl
  have l1 : (bitsL xs).length ≤ 8216 := by rw [bitsL_len]; omega
  have l2 : (syncL ++ bitsL xs).length ≤ 8224 := by rw [List.length_append]; simp [syncL]; omega
  have l3 := stuffL_len (syncL ++ bitsL xs)
  have l4 := encL_len (stuffL (syncL ++ bitsL xs))
  have c1 := fun (W : World) => bits_any W A c xs
  have c2 := fun (W : World) (hL : Laid W) (A : Option Addr) (c : Nat) (h : Rd W W.heap.size A c (bitsL xs)) => withSync_any W hL A c (bitsL xs) h (by omega)
  have c3 := fun (W : World) (A : Option Addr) (c : Nat) (h : Rd W W.heap.size A c (syncL ++ bitsL xs)) => stuffed_any W A c (syncL ++ bitsL xs) h (by omega)
  have c4 := fun (W : World) (A : Option Addr) (c : Nat) (h : Rd W W.heap.size A c (stuffL (syncL ++ bitsL xs))) => encoded_any W A c (stuffL (syncL ++ bitsL xs)) h (by omega)
  have c5 := fun (W : World) (hL : Laid W) (A : Option Addr) (c : Nat) (h : Rd W W.heap.size A c (encL (stuffL (syncL ++ bitsL xs)))) => withEnd_own W hL A c _ h (by omega)
  generalize encL (stuffL (syncL ++ bitsL xs)) ++ endL = z5 at hs c5
  generalize encL (stuffL (syncL ++ bitsL xs)) = z4 at l4 c4 c5
  generalize stuffL (syncL ++ bitsL xs) = z3 at l3 l4 c3 c4
  generalize syncL ++ bitsL xs = z2 at l2 l3 c2 c3
  generalize bitsL xs = z1 at l1 c1 c2
  have C1 := Lib.hid c1
  have C2 := Lib.hid c2
  have C3 := Lib.hid c3
  have C4 := Lib.hid c4
  have C5 := Lib.hid c5
  clear c1 c2 c3 c4 c5
  have Hs := Lib.hid hs
  clear hs l4
  go_enter Tryz.func45, Tryz.ntmps45
  go_wp2_with fail
  refine (C1.out _ h (by omega)).mono ?_
  rintro e w1 ⟨A1, c1, rfl, hr1, hb1⟩
  go_wp2_with fail
  refine (C2.out _ (hL.below hb1) _ _ hr1).mono ?_
  rintro e w2 ⟨A2, c2, rfl, hr2, hb2⟩
  go_wp2_with fail
  refine (C3.out _ _ _ hr2).mono ?_
  rintro e w3 ⟨A3, c3, rfl, hr3, hb3⟩
  go_wp2_with fail
  refine (C4.out _ _ _ hr3).mono ?_
  rintro e w4 ⟨A4, c4, rfl, hr4, hb4⟩
  have b2 := hb1.trans (hb2.mono hb1.size)
  have b3 := b2.trans (hb3.mono b2.size)
  have b4 := b3.trans (hb4.mono b3.size)
  go_wp2_with fail
  refine (C5.out _ (hL.below b4) _ _ hr4).mono ?_
  rintro e w5 ⟨v5, rfl, hr5, hb5⟩
  have b5 := b4.trans (hb5.mono b4.size)
  go_wp2
  go_ret2
  rw [Hs.out]
  exact ⟨_, rfl, own_base hr5 b4.size, b5⟩
theorem send_good (w : World) (hL : Laid w) (A : Option Addr) (c : Nat) (xs : List UInt8) (h : Rd w w.heap.size A c xs) (h1 : 0 < xs.length) (hl : xs.length ≤ 1027) :
    Calls Tryz.prog 45 #[.slice A xs.length c] w (ResE w (sendL xs) 0) :=
  (send_own w hL A c xs h h1 hl).mono fun _ _ hh => hh.toE

theorem send_none (w : World) (A : Option Addr) (c : Nat) :
    Calls Tryz.prog 45 #[.slice A 0 c] w (ResE w [] 1) := by
  go_enter Tryz.func45, Tryz.ntmps45
  go_wp2
  go_ret2
  exact ⟨_, _, rfl, Rd.nil _ _, Below.refl _ _⟩

theorem send_long (w : World) (A : Option Addr) (c n : Nat) (h : 1027 < n) :
    Calls Tryz.prog 45 #[.slice A n c] w (ResE w [] 3) := by
  have t0 : ((n : Int) == 0) = false := by rw [beq_eq_false_iff_ne]; omega
  have t1 : (1027 : Int) < (n : Int) := by omega
  go_enter Tryz.func45, Tryz.ntmps45
  go_wp2
  go_ret2
  exact ⟨_, _, rfl, Rd.nil _ _, Below.refl _ _⟩

/-- What Receive returns. -/
def recvL (xs : List UInt8) : List UInt8 × Int :=
  if hasEndL xs then
    if validL (xs.take (xs.length - 3)) then
      match unstuffL (decL (xs.take (xs.length - 3))) with
      | none => ([], 4)
      | some u => if hasSyncL u then contentL (u.drop 8) else ([], 4)
    else ([], 4)
  else ([], 4)

theorem validL_decL (xs : List UInt8) : validL (decL xs) = true := by
  unfold validL decL
  rw [List.all_eq_true]
  intro x hx
  obtain ⟨i, _, rfl⟩ := List.mem_map.1 hx
  unfold decF
  split <;> simp
theorem unS_props (xs : List UInt8) (hv : validL xs = true) : ∀ k, k ≤ xs.length → ∀ n ys, unS (xs.take k) = some (n, ys) → validL ys = true ∧ ys.length ≤ k := by
  intro k
  induction k with
  | zero =>
    intro _ n ys h
    simp [unS] at h
    obtain ⟨_, rfl⟩ := h
    exact ⟨rfl, by simp⟩
  | succ k ih =>
    intro hk n ys h
    rw [unS_snoc xs (by omega)] at h
    cases hu : unS (xs.take k) with
    | none => rw [hu] at h; cases h
    | some p =>
      obtain ⟨m, zs⟩ := p
      obtain ⟨i1, i2⟩ := ih (by omega) m zs hu
      rw [hu] at h
      have hx := validL_get hv (k := k) (by omega)
      unfold stepU at h
      simp only at h
      split at h
      · simp only [Option.some.injEq, Prod.mk.injEq] at h
        obtain ⟨_, rfl⟩ := h
        refine ⟨?_, by simp; omega⟩
        unfold validL at i1 ⊢
        rw [List.all_append, i1]
        simpa using hx
      · split at h
        · cases h
        · simp only [Option.some.injEq, Prod.mk.injEq] at h
          obtain ⟨_, rfl⟩ := h
          exact ⟨i1, by omega⟩
theorem unstuffL_props (xs : List UInt8) (hv : validL xs = true) (ys : List UInt8) (h : unstuffL xs = some ys) : validL ys = true ∧ ys.length ≤ xs.length := by
  unfold unstuffL at h
  cases hu : unS xs with
  | none => rw [hu] at h; cases h
  | some p =>
    obtain ⟨m, zs⟩ := p
    rw [hu] at h
    simp only at h
    split at h
    · cases h
    · obtain rfl := Option.some.inj h
      exact unS_props xs hv xs.length (Nat.le_refl _) m zs (by rw [List.take_length]; exact hu)
theorem validL_drop (xs : List UInt8) (k : Nat) (h : validL xs = true) : validL (xs.drop k) = true := by
  unfold validL at h ⊢
  rw [List.all_eq_true] at h ⊢
  exact fun x hx => h x (List.mem_of_mem_drop hx)
theorem hasSyncL_len (xs : List UInt8) (h : hasSyncL xs = true) : 8 ≤ xs.length := by
  rcases Nat.lt_or_ge xs.length 8 with h8 | h8
  · rw [hasSyncL_short xs h8] at h; cases h
  · exact h8
theorem hasEndL_len (xs : List UInt8) (h : hasEndL xs = true) : 3 ≤ xs.length := by
  rcases Nat.lt_or_ge xs.length 3 with h8 | h8
  · rw [hasEndL_short xs h8] at h; cases h
  · exact h8

set_option maxHeartbeats 1600000 in
set_option maxRecDepth 100000 in
theorem receive_any (w : World) (hL : Laid w) (A : Option Addr) (c : Nat) (xs : List UInt8) (h : Rd w w.heap.size A c xs) (hl : xs.length ≤ 100000) :
    Calls Tryz.prog 46 #[.slice A xs.length c] w (ResF w (recvL xs).1 (recvL xs).2) := by
  have hdef : recvL xs = if hasEndL xs then
    if validL (xs.take (xs.length - 3)) then
      match unstuffL (decL (xs.take (xs.length - 3))) with
      | none => ([], 4)
      | some u => if hasSyncL u then contentL (u.drop 8) else ([], 4)
    else ([], 4)
  else ([], 4) := rfl
  generalize recvL xs = r at hdef
  have hE := hasEnd_any w hL A c xs h hl
  have hle := h.le
  have hcap := h.cap
  cases he : hasEndL xs
  · rw [he] at hE hdef
    rw [if_neg (by simp)] at hdef
    subst hdef
    have HE := Lib.hid hE
    clear hE he
    go_enter Tryz.func46, Tryz.ntmps46
    go_wp2_with (go_at_call 79; refine HE.out.mono ?_; rintro e w' ⟨rfl, rfl⟩)
    go_ret2
    exact ⟨_, _, rfl, Rd.nil _ _, Below.refl _ _, none_new⟩
  · have h3 := hasEndL_len xs he
    rw [he] at hE hdef
    rw [if_pos rfl] at hdef
    have HE := Lib.hid hE
    clear hE he
    have hr0 := h.take (k := xs.length - 3) (by omega)
    have hzl : (xs.take (xs.length - 3)).length = xs.length - 3 := by rw [List.length_take]; omega
    generalize xs.take (xs.length - 3) = zs at hr0 hzl hdef
    have hD := decode_any w A c zs hr0 (by omega)
    rw [hzl] at hD
    cases hv : validL zs
    · rw [hv] at hD hdef
      rw [if_neg (by simp)] at hdef
      rw [ifV_false, errV_false] at hD
      subst hdef
      have HD := Lib.hid hD
      clear hD hv hzl
      go_enter Tryz.func46, Tryz.ntmps46
      go_wp2_with fail
      refine HE.out.mono ?_
      rintro e w' ⟨rfl, rfl⟩
      go_wp2_with fail
      refine HD.out.mono ?_
      rintro e w1 ⟨A1, c1, rfl, hr1, hb1⟩
      go_wp2
      go_ret2
      exact ⟨_, _, rfl, Rd.nil _ _, hb1, none_new⟩
    · rw [hv] at hD hdef
      rw [if_pos rfl] at hdef
      rw [ifV_true, errV_true] at hD
      have hdv := validL_decL zs
      have hdl : (decL zs).length ≤ 100000 := by rw [decL_len]; omega
      generalize decL zs = ds at hD hdv hdl hdef
      have hUn := fun (W : World) (A : Option Addr) (c : Nat) (h : Rd W W.heap.size A c ds) => unstuff_good W A c ds h hdl hdv
      have HD := Lib.hid hD
      clear hD hv hzl
      cases hu : unstuffL ds with
      | none =>
        rw [hu] at hdef hUn
        have hdef2 : r = ([], 4) := hdef
        clear hdef
        subst hdef2
        have HUn := Lib.hid hUn
        clear hUn hu hdv
        go_enter Tryz.func46, Tryz.ntmps46
        go_wp2_with fail
        refine HE.out.mono ?_
        rintro e w' ⟨rfl, rfl⟩
        go_wp2_with fail
        refine HD.out.mono ?_
        rintro e w1 ⟨A1, c1, rfl, hr1, hb1⟩
        go_wp2_with fail
        refine (HUn.out _ _ _ hr1).mono ?_
        rintro e w2 ⟨A2, c2, rfl, hr2, hb2⟩
        rw [show optE 4 none = 4 from rfl]
        go_wp2
        go_ret2
        exact ⟨_, _, rfl, Rd.nil _ _, hb1.trans (hb2.mono hb1.size), none_new⟩
      | some u =>
        have hup := unstuffL_props ds hdv u hu
        obtain ⟨huv, hul⟩ := hup
        rw [hu] at hdef hUn
        have hdef2 : r = if hasSyncL u then contentL (u.drop 8) else ([], 4) := hdef
        clear hdef
        have HUn : Hid (∀ (W : World) (A : Option Addr) (c : Nat), Rd W W.heap.size A c ds → Calls Tryz.prog 81 #[.slice A ds.length c] W (ResE W u 0)) := hUn
        clear hUn hu hdv
        have hS := fun (W : World) (hL : Laid W) (A : Option Addr) (c : Nat) (h : Rd W W.heap.size A c u) => hasSync_any W hL A c u h (by omega)
        cases hsy : hasSyncL u
        · rw [hsy] at hS hdef2
          rw [if_neg (by simp)] at hdef2
          subst hdef2
          have HS := Lib.hid hS
          clear hS hsy huv
          go_enter Tryz.func46, Tryz.ntmps46
          go_wp2_with fail
          refine HE.out.mono ?_
          rintro e w' ⟨rfl, rfl⟩
          go_wp2_with fail
          refine HD.out.mono ?_
          rintro e w1 ⟨A1, c1, rfl, hr1, hb1⟩
          go_wp2_with fail
          refine (HUn.out _ _ _ hr1).mono ?_
          rintro e w2 ⟨A2, c2, rfl, hr2, hb2⟩
          have b2 := hb1.trans (hb2.mono hb1.size)
          go_wp2_with fail
          refine (HS.out _ (hL.below b2) _ _ hr2).mono ?_
          rintro e w' ⟨rfl, rfl⟩
          go_wp2
          go_ret2
          exact ⟨_, _, rfl, Rd.nil _ _, b2, none_new⟩
        · have hu8 := hasSyncL_len u hsy
          rw [hsy] at hS hdef2
          rw [if_pos rfl] at hdef2
          have hdl8 : (u.drop 8).length = u.length - 8 := by rw [List.length_drop]
          have htk : (u.take u.length).drop 8 = u.drop 8 := by rw [List.take_length]
          have hC := fun (W : World) (A : Option Addr) (c : Nat) (h : Rd W W.heap.size A c (u.drop 8)) => content_any W A c (u.drop 8) h (by omega) (validL_drop u 8 huv)
          rw [hdl8] at hC
          generalize u.drop 8 = q at hdef2 htk hC
          subst hdef2
          generalize contentL q = r at hC
          have HS := Lib.hid hS
          have Htk := Lib.hid htk
          have HC := Lib.hid hC
          clear hS hsy huv hdl8 htk hC
          go_enter Tryz.func46, Tryz.ntmps46
          go_wp2_with fail
          refine HE.out.mono ?_
          rintro e w' ⟨rfl, rfl⟩
          go_wp2_with fail
          refine HD.out.mono ?_
          rintro e w1 ⟨A1, c1, rfl, hr1, hb1⟩
          go_wp2_with fail
          refine (HUn.out _ _ _ hr1).mono ?_
          rintro e w2 ⟨A2, c2, rfl, hr2, hb2⟩
          have b2 := hb1.trans (hb2.mono hb1.size)
          go_wp2_with fail
          refine (HS.out _ (hL.below b2) _ _ hr2).mono ?_
          rintro e w' ⟨rfl, rfl⟩
          obtain ⟨A3, c3, hsl, hr3⟩ := hr2.cut (lo := 8) (hi := u.length) hu8 (Nat.le_refl _)
          rw [Htk.out] at hr3
          have hsx := fun (W : World) => slice_from A2 u.length c2 8 W (by omega) (by omega)
          rw [show (8 : Int).toNat = 8 from rfl, hsl] at hsx
          have Hsl := Lib.hid hsl
          clear hsl
          go_wp2_with fail
          refine (HC.out _ _ _ hr3).mono ?_
          rintro e w4 ⟨A4, c4, rfl, hr4, hb4, hf4⟩
          go_wp2
          go_ret2
          exact ⟨_, _, rfl, hr4, b2.trans (hb4.mono b2.size), fun ad hh => Nat.le_trans b2.size (hf4 ad hh)⟩

end Go.Proofs.YtfblpakoibadoaaGreatDoor.Lv

namespace Go.Proofs.YtfblpakoibadoaaGreatDoor.Lv
open Go Go.RowKit

def bitF (xs : List UInt8) (i : Nat) : UInt8 := (xs.getD (i / 8) 0 >>> UInt8.ofNat (i % 8)) &&& 1
theorem bitsL_eq (xs : List UInt8) : (List.range (8 * xs.length)).map (bitF xs) = bitsL xs := by
  induction xs with
  | nil => rfl
  | cons x xs ih =>
    have h8 : 8 * (x :: xs).length = 8 + 8 * xs.length := by simp; omega
    rw [h8, List.range_add, List.map_append]
    have h2 : bitsL (x :: xs) = byteL x ++ bitsL xs := by simp [bitsL]
    rw [h2]
    congr 1
    rw [List.map_map, ← ih]
    apply List.map_congr_left
    intro i _
    unfold bitF
    have e1 : (8 + i) / 8 = i / 8 + 1 := by omega
    have e2 : (8 + i) % 8 = i % 8 := by omega
    simp only [Function.comp_apply, e1, e2, List.getD_cons_succ]
theorem rbit_val (x : UInt8) (j : Nat) (h : j < 8) : Value.int .u8 (((x.toNat : Int) / 2 ^ j).tmod 2) = bv ((x >>> UInt8.ofNat j) &&& 1) := by
  have H : ∀ x : Fin 256, ∀ j : Fin 8, ((x.val : Int) / 2 ^ j.val).tmod 2 = (((UInt8.ofNat x.val >>> UInt8.ofNat j.val) &&& 1).toNat : Int) := by decide +kernel
  have := H ⟨x.toNat, x.toNat_lt⟩ ⟨j, h⟩
  simp only [UInt8.ofNat_toNat] at this
  rw [this]

set_option maxHeartbeats 1600000 in
set_option maxRecDepth 100000 in
theorem refBits_any (w : World) (A : Option Addr) (c : Nat) (xs : List UInt8) (h : Rd w w.heap.size A c xs) (hl : xs.length ≤ 100000) :
    Calls Tryz.prog 50 #[.slice A xs.length c] w (Res1 w (bitsL xs)) := by
  have hmk := fun W : World => make_full (8 * (xs.length : Int)) W (by omega) (by omega)
  rw [show (8 * (xs.length : Int)).toNat = 8 * xs.length from by omega] at hmk
  go_enter Tryz.func50, Tryz.ntmps50
  go_wp2
  clear hmk
  go_loopw [4] (fun i wr => ∃ k : Nat, k ≤ 8 * xs.length ∧ i = .int .i64 k ∧ Row wr w.heap.size 5 (fillL (8 * xs.length) k (bitF xs)) ∧ Below w.heap.size w wr) (fun i _ => 8 * xs.length - (intOf i).toNat)
  case atStart => exact ⟨0, Nat.zero_le _, rfl, by rw [fillL_zero]; exact Row.made w _ _, (Below.refl _ _).alloc (Nat.le_refl _) _⟩
  case round =>
    obtain ⟨k, hk, rfl, hrow, hb⟩ := hrel
    by_cases hlt : k < 8 * xs.length
    · obtain ⟨b, off, rfl, hbB, hcell⟩ := (h.below hb).at_ (k := k / 8) (by omega)
      have hc2 := hrow.cell (i := k) (by rw [fillL_len]; exact hlt)
      have hf2 := hrow.frozen k
      have hset := hrow.set k (y := bitF xs k) rfl
      rw [fillL_set] at hset
      have hbv : bitF xs k = (xs.getD (k / 8) 0 >>> UInt8.ofNat (k % 8)) &&& 1 := rfl
      rw [hbv] at hset
      generalize (fillL (8 * xs.length) k (bitF xs)).getD k 0 = old at hc2
      have hrv := rbit_val (xs.getD (k / 8) 0) (k % 8) (by omega)
      generalize xs.getD (k / 8) 0 = x at hcell hset hrv
      have Hrv := Lib.hid hrv
      have Hset := Lib.hid hset
      clear hrv hset hbv
      have hk8 : (k : Int) / 8 < (xs.length : Int) := by omega
      have hk0 : (0 : Int) ≤ (k : Int) % 8 := by omega
      have hk7 : (k : Int) % 8 < 8 := by omega
      go_wp2
      rw [Hrv.out]
      go_roundw
      case rel => exact ⟨k + 1, by omega, by go_num, Hset.out, hb.setCell (Nat.le_refl _) _⟩
      case measure => simp [intOf]; omega
    · have hk9 : k = 8 * xs.length := by omega
      subst hk9
      have hrd := hrow.rd (by rw [fillL_len]; omega)
      rw [fillL_full, bitsL_eq] at hrd
      have hlen := bitsL_len xs
      rw [hlen] at hrd
      have Hr := Lib.hid hrd
      have Hl := Lib.hid hlen
      clear hrd hlen hrow
      go_wp2
      go_ret
      refine ⟨_, _, ?_, Hr.out, hb⟩
      rw [Hl.out]
      rfl

end Go.Proofs.YtfblpakoibadoaaGreatDoor.Lv

namespace Go.Proofs.YtfblpakoibadoaaGreatDoor.Lv
open Go Go.RowKit

def encP (xs : List UInt8) (k : Nat) : List UInt8 := (List.range k).map fun i => stA xs (i + 1)
theorem encP_snoc (xs : List UInt8) (k : Nat) : encP xs (k + 1) = encP xs k ++ [stA xs (k + 1)] := by simp [encP, List.range_succ]
theorem encP_full (xs : List UInt8) : encP xs xs.length = encL xs := rfl
theorem encP_len (xs : List UInt8) (k : Nat) : (encP xs k).length = k := by simp [encP]
theorem flip_val (s : UInt8) (h : s.toNat ≤ 1) : Value.int .u8 (1 - (s.toNat : Int)) = bv (flipL s) := by
  have H : ∀ x : Fin 2, 1 - (x.val : Int) = ((flipL (UInt8.ofNat x.val)).toNat : Int) := by decide +kernel
  have := H ⟨s.toNat, by omega⟩
  simp only [UInt8.ofNat_toNat] at this
  rw [this]

set_option maxHeartbeats 1600000 in
set_option maxRecDepth 100000 in
theorem refStates_own (w : World) (A : Option Addr) (c : Nat) (xs : List UInt8) (h : Rd w w.heap.size A c xs) (hl : xs.length ≤ 100000) :
    Calls Tryz.prog 47 #[.slice A xs.length c] w (ResO w 5 (encL xs)) := by
  go_enter Tryz.func47, Tryz.ntmps47
  go_wp2
  go_loopw [3, 4, 5] (fun o s i wr => ∃ k : Nat, k ≤ xs.length ∧ i = .int .i64 k ∧ s = bv (stA xs k) ∧ wr.ownsRow w.heap.size 5 1 o (encP xs k).length ((encP xs k).map bv) ∧ Below w.heap.size w wr) (fun _ _ i _ => xs.length - (intOf i).toNat)
  case atStart => exact ⟨0, Nat.zero_le _, rfl, rfl, World.ownsRow_nil _ _ _ _, Below.refl _ _⟩
  case round =>
    obtain ⟨k, hk, rfl, rfl, hown, hb⟩ := hrel
    by_cases hlt : k < xs.length
    · obtain ⟨b, off, rfl, hbB, hcell⟩ := (h.below hb).at_ hlt
      have hn := encP_snoc xs k
      have hlz : (encP xs k).length ≤ 100000 := by rw [encP_len]; omega
      have hst : stA xs (k + 1) = if xs.getD k 0 = 0 then flipL (stA xs k) else stA xs k := rfl
      have hsl := stA_le xs k
      generalize xs.getD k 0 = x at hcell hst
      generalize encP xs k = zs at hown hn hlz
      have hfv := flip_val (stA xs k) hsl
      have Hfv := Lib.hid hfv
      clear hfv
      by_cases hx : x = 0
      · subst hx
        rw [if_pos rfl] at hst
        rw [hst] at hn
        have Hst := Lib.hid hst
        have Hn := Lib.hid hn
        clear hst hn
        generalize flipL (stA xs k) = s2 at Hst Hn Hfv
        generalize stA xs k = s1 at hsl Hfv
        go_wp2_with (at_builtin; refine wpl_append1 Tryz.underlying27 Tryz.info5 rfl (.tmp 19) (.tmp 21) rfl w.heap.size u3 zs rfl hown s2 _ Hfv.out rfl (by omega) hb.size ?_; intro v' w1 hown2 hb2)
        go_roundw
        case rel => exact ⟨k + 1, by omega, by go_num, by rw [Hst.out]; exact Hfv.out, by rw [Hn.out]; exact hown2, hb.trans hb2⟩
        case measure => simp [intOf]; omega
      · have t0 : ((x.toNat : Int) == 0) = false := by
          rw [beq_eq_false_iff_ne]
          exact fun h => hx ((u8_eq_zero x).2 h)
        rw [if_neg hx] at hst
        rw [hst] at hn
        have Hst := Lib.hid hst
        have Hn := Lib.hid hn
        clear hst hn hx Hfv
        go_wp2_with (at_builtin; refine wpl_append1 Tryz.underlying27 Tryz.info5 rfl (.tmp 19) (.tmp 21) rfl w.heap.size u3 zs rfl hown (stA xs k) _ rfl rfl (by omega) hb.size ?_; intro v' w1 hown2 hb2)
        go_roundw
        case rel => exact ⟨k + 1, by omega, by go_num, by rw [Hst.out], by rw [Hn.out]; exact hown2, hb.trans hb2⟩
        case measure => simp [intOf]; omega
    · have hk9 : k = xs.length := by omega
      subst hk9
      rw [encP_full] at hown
      go_wp2
      go_ret
      exact ⟨_, rfl, hown, hb⟩
theorem refStates_any (w : World) (A : Option Addr) (c : Nat) (xs : List UInt8) (h : Rd w w.heap.size A c xs) (hl : xs.length ≤ 100000) :
    Calls Tryz.prog 47 #[.slice A xs.length c] w (Res1 w (encL xs)) :=
  (refStates_own w A c xs h hl).mono fun _ _ hh => hh.to1

def decP (xs : List UInt8) (k : Nat) : List UInt8 := (List.range k).map (decF xs)
theorem decP_snoc (xs : List UInt8) (k : Nat) : decP xs (k + 1) = decP xs k ++ [decF xs k] := by simp [decP, List.range_succ]
theorem decP_full (xs : List UInt8) : decP xs xs.length = decL xs := rfl
theorem decP_len (xs : List UInt8) (k : Nat) : (decP xs k).length = k := by simp [decP]
/-- Bytes and a truth value are returned. -/
def ResT (w : World) (ys : List UInt8) (b : Bool) (e : Ending) (w' : World) : Prop :=
  ∃ A c, e = .returned (.tuple #[.slice A ys.length c, .bool b]) ∧ Rd w' w'.heap.size A c ys ∧ Below w.heap.size w w'

set_option maxHeartbeats 1600000 in
set_option maxRecDepth 100000 in
theorem refLevels_any (w : World) (A : Option Addr) (c : Nat) (xs : List UInt8) (h : Rd w w.heap.size A c xs) (hl : xs.length ≤ 100000) :
    Calls Tryz.prog 51 #[.slice A xs.length c] w (ResT w (ifV (validL xs) (decL xs)) (validL xs)) := by
  go_enter Tryz.func51, Tryz.ntmps51
  go_wp2
  go_loopw [4, 5] (fun o i wr => ∃ k : Nat, k ≤ xs.length ∧ i = .int .i64 k ∧ validL (xs.take k) = true ∧ wr.ownsRow w.heap.size 5 1 o (decP xs k).length ((decP xs k).map bv) ∧ Below w.heap.size w wr) (fun _ i _ => xs.length - (intOf i).toNat)
  case atStart => exact ⟨0, Nat.zero_le _, rfl, rfl, World.ownsRow_nil _ _ _ _, Below.refl _ _⟩
  case round =>
    obtain ⟨k, hk, rfl, hv, hown, hb⟩ := hrel
    have Hv := Lib.hid hv
    clear hv
    by_cases hlt : k < xs.length
    · obtain ⟨b, off, rfl, hbB, hcell⟩ := (h.below hb).at_ hlt
      have hs := validL_snoc xs hlt
      have hbad := fun hx => validL_bad xs hlt hx
      have hn := decP_snoc xs k
      have hlz : (decP xs k).length ≤ 100000 := by rw [decP_len]; omega
      have hF : decF xs k = if xs.getD k 0 = before xs k then 1 else 0 := rfl
      have hq : before xs k = if k = 0 then 0 else xs.getD (k - 1) 0 := rfl
      have hy : 0 < k → wr.cell? ⟨b, off + (k - 1), none⟩ = some (bv (xs.getD (k - 1) 0)) := fun hk0 => by
        obtain ⟨b', off', hbo, _, hcelly⟩ := (h.below hb).at_ (k := k - 1) (by omega)
        obtain ⟨rfl, rfl⟩ : b = b' ∧ off = off' := by simpa using hbo
        exact hcelly
      generalize xs.getD k 0 = x at hcell hs hbad hF
      generalize before xs k = q at hF hq
      generalize decP xs k = zs at hown hn hlz
      have Hs := Lib.hid hs
      have Hb := Lib.hid hbad
      clear hs hbad
      by_cases hx : x.toNat ≤ 1
      · have hx1 : ¬ (1 : Int) < (x.toNat : Int) := by omega
        have hvn : validL (xs.take (k + 1)) = true := by rw [Hs.out, Hv.out]; simpa using hx
        have Hvn := Lib.hid hvn
        clear hvn
        have hcellq : 0 < k → wr.cell? ⟨b, off + (k - 1), none⟩ = some (bv q) := fun hk0 => by rw [hq, if_neg (by omega)]; exact hy hk0
        have hq0 : k = 0 → q = 0 := fun hk0 => by rw [hq, if_pos hk0]
        clear hy hq hx
        rcases Nat.eq_zero_or_pos k with hk0 | hk0
        · have hq1 := hq0 hk0
          subst hk0
          subst hq1
          rw [Nat.add_zero] at hcell
          clear hcellq hq0
          by_cases e : x = 0
          · rw [if_pos e] at hF
            rw [hF] at hn
            have Hn := Lib.hid hn
            subst e
            clear hF hn
            go_wp2_with (at_builtin; refine wpl_append1 Tryz.underlying27 Tryz.info5 rfl (.tmp 31) (.tmp 32) rfl w.heap.size u4 zs rfl hown 1 _ rfl rfl (by omega) hb.size ?_; intro v' w1 hown2 hb2)
            go_roundw
            case rel => exact ⟨1, by omega, by go_num, Hvn.out, by rw [Hn.out]; exact hown2, hb.trans hb2⟩
            case measure => simp [intOf]; omega
          · have t0 : ((0 : Int) == (x.toNat : Int)) = false := by
              rw [beq_eq_false_iff_ne]
              exact fun h => e ((u8_eq_zero x).2 h.symm)
            rw [if_neg e] at hF
            rw [hF] at hn
            have Hn := Lib.hid hn
            clear hF hn e
            go_wp2_with (at_builtin; refine wpl_append1 Tryz.underlying27 Tryz.info5 rfl (.tmp 34) (.tmp 35) rfl w.heap.size u4 zs rfl hown 0 _ rfl rfl (by omega) hb.size ?_; intro v' w1 hown2 hb2)
            go_roundw
            case rel => exact ⟨1, by omega, by go_num, Hvn.out, by rw [Hn.out]; exact hown2, hb.trans hb2⟩
            case measure => simp [intOf]; omega
        · have hcq := hcellq hk0
          have hki : (0 : Int) < (k : Int) := by omega
          clear hcellq hq0
          by_cases e : x = q
          · have tq : ((q.toNat : Int) == (x.toNat : Int)) = true := by rw [e]; simp
            rw [if_pos e] at hF
            rw [hF] at hn
            have Hn := Lib.hid hn
            clear hF hn e
            go_wp2_with (at_builtin; refine wpl_append1 Tryz.underlying27 Tryz.info5 rfl (.tmp 31) (.tmp 32) rfl w.heap.size u4 zs rfl hown 1 _ rfl rfl (by omega) hb.size ?_; intro v' w1 hown2 hb2)
            go_roundw
            case rel => exact ⟨k + 1, by omega, by go_num, Hvn.out, by rw [Hn.out]; exact hown2, hb.trans hb2⟩
            case measure => simp [intOf]; omega
          · have tq : ((q.toNat : Int) == (x.toNat : Int)) = false := by
              rw [beq_eq_false_iff_ne]
              exact fun h => e (UInt8.toNat_inj.1 (by omega))
            rw [if_neg e] at hF
            rw [hF] at hn
            have Hn := Lib.hid hn
            clear hF hn e
            go_wp2_with (at_builtin; refine wpl_append1 Tryz.underlying27 Tryz.info5 rfl (.tmp 34) (.tmp 35) rfl w.heap.size u4 zs rfl hown 0 _ rfl rfl (by omega) hb.size ?_; intro v' w1 hown2 hb2)
            go_roundw
            case rel => exact ⟨k + 1, by omega, by go_num, Hvn.out, by rw [Hn.out]; exact hown2, hb.trans hb2⟩
            case measure => simp [intOf]; omega
      · have hx1 : (1 : Int) < (x.toNat : Int) := by omega
        clear hF hq hy
        go_wp2
        go_ret2
        rw [Hb.out hx, ifV_false]
        exact ⟨_, _, rfl, Rd.nil _ _, hb⟩
    · have hk9 : k = xs.length := by omega
      subst hk9
      rw [decP_full] at hown
      obtain ⟨A', c', rfl, hr⟩ := Rd.of_own hown
      go_wp2
      go_ret2
      have hv := Hv.out
      rw [List.take_length] at hv
      rw [hv, ifV_true]
      exact ⟨A', c', rfl, hr, hb⟩

theorem decF_01 (xs : List UInt8) (k : Nat) : decF xs k = 0 ∨ decF xs k = 1 := by unfold decF; split <;> simp
theorem u8_01 {x : UInt8} (h : x.toNat ≤ 1) : x = 0 ∨ x = 1 := by
  rcases (by omega : x.toNat = 0 ∨ x.toNat = 1) with h | h
  · left; exact UInt8.toNat_inj.1 h
  · right; exact UInt8.toNat_inj.1 h
theorem flip_ne {x : UInt8} (h : x.toNat ≤ 1) : flipL x ≠ x := by
  rcases u8_01 h with rfl | rfl <;> decide
theorem flip_of_ne {x y : UInt8} (hx : x.toNat ≤ 1) (hy : y.toNat ≤ 1) (h : x ≠ y) : flipL y = x := by
  rcases u8_01 hx with rfl | rfl <;> rcases u8_01 hy with rfl | rfl <;> first | rfl | exact absurd rfl h
theorem encL_get (xs : List UInt8) {k : Nat} (h : k < xs.length) : (encL xs).getD k 0 = stA xs (k + 1) := by simp [encL, List.getD, h]
theorem before_encL (xs : List UInt8) {k : Nat} (h : k ≤ xs.length) : before (encL xs) k = stA xs k := by
  unfold before
  cases k with
  | zero => rfl
  | succ k =>
    rw [if_neg (by omega), Nat.add_sub_cancel, encL_get xs (by omega)]
theorem decL_get (xs : List UInt8) {k : Nat} (h : k < xs.length) : (decL xs).getD k 0 = decF xs k := by simp [decL, List.getD, h]
theorem decL_encL (xs : List UInt8) (hv : validL xs = true) : decL (encL xs) = xs := by
  refine list_ext_getD _ _ (by rw [decL_len, encL_len]) fun k hk => ?_
  rw [decL_len, encL_len] at hk
  rw [decL_get _ (by rw [encL_len]; exact hk)]
  unfold decF
  rw [encL_get xs hk, before_encL xs (by omega)]
  have hx := validL_get hv hk
  show (if (if xs.getD k 0 = 0 then flipL (stA xs k) else stA xs k) = stA xs k then (1 : UInt8) else 0) = _
  rcases u8_01 hx with h | h <;> rw [h]
  · rw [if_pos rfl, if_neg (flip_ne (stA_le xs k))]
  · rw [if_neg (show ¬ (1 : UInt8) = 0 by decide), if_pos rfl]
theorem stA_decL (ls : List UInt8) (hv : validL ls = true) : ∀ k, k ≤ ls.length → stA (decL ls) k = before ls k := by
  intro k
  induction k with
  | zero => intro _; rfl
  | succ k ih =>
    intro hk
    have ih := ih (by omega)
    show (if (decL ls).getD k 0 = 0 then flipL (stA (decL ls) k) else stA (decL ls) k) = ls.getD k 0
    rw [ih, decL_get ls (by omega)]
    unfold decF
    have hb : (before ls k).toNat ≤ 1 := by
      unfold before
      split
      · simp
      · exact validL_get hv (by omega)
    by_cases e : ls.getD k 0 = before ls k
    · rw [if_pos e, if_neg (by decide), e]
    · rw [if_neg e, if_pos rfl]
      exact flip_of_ne (validL_get hv (by omega)) hb e
theorem encL_decL (ls : List UInt8) (hv : validL ls = true) : encL (decL ls) = ls := by
  refine list_ext_getD _ _ (by rw [encL_len, decL_len]) fun k hk => ?_
  rw [encL_len, decL_len] at hk
  rw [encL_get _ (by rw [decL_len]; exact hk), stA_decL ls hv (k + 1) (by omega)]
  rfl
theorem validL_encL (xs : List UInt8) : validL (encL xs) = true := by
  unfold validL encL
  rw [List.all_eq_true]
  intro x hx
  obtain ⟨i, _, rfl⟩ := List.mem_map.1 hx
  simpa using stA_le xs (i + 1)

end Go.Proofs.YtfblpakoibadoaaGreatDoor.Lv

namespace Go.Proofs.YtfblpakoibadoaaGreatDoor.Lv
open Go Go.RowKit

theorem bitsL_get (xs : List UInt8) {i : Nat} (h : i < 8 * xs.length) : (bitsL xs).getD i 0 = bitF xs i := by
  rw [← bitsL_eq]
  simp [List.getD, h]
theorem validL_bitsL (xs : List UInt8) : validL (bitsL xs) = true := by
  rw [← bitsL_eq]
  unfold validL
  rw [List.all_eq_true]
  intro x hx
  obtain ⟨i, _, rfl⟩ := List.mem_map.1 hx
  unfold bitF
  rw [UInt8.toNat_and]
  have := Nat.and_le_right (n := (xs.getD (i / 8) 0 >>> UInt8.ofNat (i % 8)).toNat) (m := (1 : UInt8).toNat)
  simpa using this
theorem byte_back (x : UInt8) : (0 : UInt8) ||| ((x >>> UInt8.ofNat 0 &&& 1) <<< UInt8.ofNat 0) ||| ((x >>> UInt8.ofNat 1 &&& 1) <<< UInt8.ofNat 1) ||| ((x >>> UInt8.ofNat 2 &&& 1) <<< UInt8.ofNat 2) ||| ((x >>> UInt8.ofNat 3 &&& 1) <<< UInt8.ofNat 3) ||| ((x >>> UInt8.ofNat 4 &&& 1) <<< UInt8.ofNat 4) ||| ((x >>> UInt8.ofNat 5 &&& 1) <<< UInt8.ofNat 5) ||| ((x >>> UInt8.ofNat 6 &&& 1) <<< UInt8.ofNat 6) ||| ((x >>> UInt8.ofNat 7 &&& 1) <<< UInt8.ofNat 7) = x := by
  have H : ∀ x : Fin 256, (0 : UInt8) ||| ((UInt8.ofNat x.val >>> UInt8.ofNat 0 &&& 1) <<< UInt8.ofNat 0) ||| ((UInt8.ofNat x.val >>> UInt8.ofNat 1 &&& 1) <<< UInt8.ofNat 1) ||| ((UInt8.ofNat x.val >>> UInt8.ofNat 2 &&& 1) <<< UInt8.ofNat 2) ||| ((UInt8.ofNat x.val >>> UInt8.ofNat 3 &&& 1) <<< UInt8.ofNat 3) ||| ((UInt8.ofNat x.val >>> UInt8.ofNat 4 &&& 1) <<< UInt8.ofNat 4) ||| ((UInt8.ofNat x.val >>> UInt8.ofNat 5 &&& 1) <<< UInt8.ofNat 5) ||| ((UInt8.ofNat x.val >>> UInt8.ofNat 6 &&& 1) <<< UInt8.ofNat 6) ||| ((UInt8.ofNat x.val >>> UInt8.ofNat 7 &&& 1) <<< UInt8.ofNat 7) = UInt8.ofNat x.val := by decide +kernel
  have := H ⟨x.toNat, x.toNat_lt⟩
  simpa only [UInt8.ofNat_toNat] using this
theorem bytesL_bitsL (xs : List UInt8) : bytesL (bitsL xs) = xs := by
  have hl : (bitsL xs).length / 8 = xs.length := by rw [bitsL_len]; omega
  refine list_ext_getD _ _ (by rw [bytesL_len, hl]) fun j hj => ?_
  rw [bytesL_len, hl] at hj
  have e0 : (bytesL (bitsL xs)).getD j 0 = accB (bitsL xs) j 8 := by simp [bytesL, List.getD, hl, hj]
  rw [e0]
  have hb : ∀ t, t < 8 → (bitsL xs).getD (8 * j + t) 0 = (xs.getD j 0 >>> UInt8.ofNat t) &&& 1 := by
    intro t ht
    rw [bitsL_get xs (by omega)]
    unfold bitF
    rw [show (8 * j + t) / 8 = j from by omega, show (8 * j + t) % 8 = t from by omega]
  simp only [accB]
  rw [hb 0 (by omega), hb 1 (by omega), hb 2 (by omega), hb 3 (by omega), hb 4 (by omega), hb 5 (by omega), hb 6 (by omega), hb 7 (by omega)]
  exact byte_back _
theorem bit_back (b0 b1 b2 b3 b4 b5 b6 b7 : UInt8) (h0 : b0.toNat ≤ 1) (h1 : b1.toNat ≤ 1) (h2 : b2.toNat ≤ 1) (h3 : b3.toNat ≤ 1) (h4 : b4.toNat ≤ 1) (h5 : b5.toNat ≤ 1) (h6 : b6.toNat ≤ 1) (h7 : b7.toNat ≤ 1) (j : Nat) (hj : j < 8) :
    (((0 : UInt8) ||| b0 <<< UInt8.ofNat 0 ||| b1 <<< UInt8.ofNat 1 ||| b2 <<< UInt8.ofNat 2 ||| b3 <<< UInt8.ofNat 3 ||| b4 <<< UInt8.ofNat 4 ||| b5 <<< UInt8.ofNat 5 ||| b6 <<< UInt8.ofNat 6 ||| b7 <<< UInt8.ofNat 7) >>> UInt8.ofNat j) &&& 1 = [b0, b1, b2, b3, b4, b5, b6, b7].getD j 0 := by
  have c : ∀ x : UInt8, x.toNat ≤ 1 → x = 0 ∨ x = 1 := by
    intro x hx
    rcases (by omega : x.toNat = 0 ∨ x.toNat = 1) with h | h
    · left; exact UInt8.toNat_inj.1 h
    · right; exact UInt8.toNat_inj.1 h
  have H : ∀ a0 a1 a2 a3 a4 a5 a6 a7 : Bool, ∀ j : Fin 8, (((0 : UInt8) ||| (if a0 then 1 else 0 : UInt8) <<< UInt8.ofNat 0 ||| (if a1 then 1 else 0 : UInt8) <<< UInt8.ofNat 1 ||| (if a2 then 1 else 0 : UInt8) <<< UInt8.ofNat 2 ||| (if a3 then 1 else 0 : UInt8) <<< UInt8.ofNat 3 ||| (if a4 then 1 else 0 : UInt8) <<< UInt8.ofNat 4 ||| (if a5 then 1 else 0 : UInt8) <<< UInt8.ofNat 5 ||| (if a6 then 1 else 0 : UInt8) <<< UInt8.ofNat 6 ||| (if a7 then 1 else 0 : UInt8) <<< UInt8.ofNat 7) >>> UInt8.ofNat j.val) &&& 1 = [(if a0 then 1 else 0 : UInt8), if a1 then 1 else 0, if a2 then 1 else 0, if a3 then 1 else 0, if a4 then 1 else 0, if a5 then 1 else 0, if a6 then 1 else 0, if a7 then 1 else 0].getD j.val 0 := by decide +kernel
  have e : ∀ x : UInt8, x.toNat ≤ 1 → ∃ a : Bool, x = if a then 1 else 0 := by
    intro x hx
    rcases c x hx with h | h
    · exact ⟨false, h⟩
    · exact ⟨true, h⟩
  obtain ⟨a0, rfl⟩ := e b0 h0
  obtain ⟨a1, rfl⟩ := e b1 h1
  obtain ⟨a2, rfl⟩ := e b2 h2
  obtain ⟨a3, rfl⟩ := e b3 h3
  obtain ⟨a4, rfl⟩ := e b4 h4
  obtain ⟨a5, rfl⟩ := e b5 h5
  obtain ⟨a6, rfl⟩ := e b6 h6
  obtain ⟨a7, rfl⟩ := e b7 h7
  exact H a0 a1 a2 a3 a4 a5 a6 a7 ⟨j, hj⟩
theorem bitsL_bytesL (ys : List UInt8) (hv : validL ys = true) (h8 : ys.length % 8 = 0) : bitsL (bytesL ys) = ys := by
  have hl : 8 * (bytesL ys).length = ys.length := by rw [bytesL_len]; omega
  refine list_ext_getD _ _ (by rw [bitsL_len, hl]) fun i hi => ?_
  rw [bitsL_len] at hi
  rw [bitsL_get _ hi]
  rw [hl] at hi
  unfold bitF
  have hj : i / 8 < ys.length / 8 := by omega
  have e0 : (bytesL ys).getD (i / 8) 0 = accB ys (i / 8) 8 := by simp [bytesL, List.getD, hj]
  rw [e0]
  have hb : ∀ t, t < 8 → (ys.getD (8 * (i / 8) + t) 0).toNat ≤ 1 := fun t ht => validL_get hv (by omega)
  simp only [accB]
  have := bit_back _ _ _ _ _ _ _ _ (hb 0 (by omega)) (hb 1 (by omega)) (hb 2 (by omega)) (hb 3 (by omega)) (hb 4 (by omega)) (hb 5 (by omega)) (hb 6 (by omega)) (hb 7 (by omega)) (i % 8) (by omega)
  refine Eq.trans this ?_
  rcases (by omega : i % 8 = 0 ∨ i % 8 = 1 ∨ i % 8 = 2 ∨ i % 8 = 3 ∨ i % 8 = 4 ∨ i % 8 = 5 ∨ i % 8 = 6 ∨ i % 8 = 7) with h | h | h | h | h | h | h | h <;> rw [h] <;> simp only [List.getD_cons_zero, List.getD_cons_succ] <;> congr 1 <;> omega

end Go.Proofs.YtfblpakoibadoaaGreatDoor.Lv

namespace Go.Proofs.YtfblpakoibadoaaGreatDoor.Lv
open Go Go.RowKit

theorem stepU_six (acc : List UInt8) : stepU (some (6, acc)) 0 = some (0, acc) := by
  unfold stepU onesB
  simp
theorem stepU_lt {n : Nat} (h : n < 6) (acc : List UInt8) (x : UInt8) : stepU (some (n, acc)) x = some (onesB n x, acc ++ [x]) := by
  show (if n < 6 then some (onesB n x, acc ++ [x]) else if x = 1 then none else some (onesB n x, acc)) = _
  rw [if_pos h]
/-- What is stuffed behind n bits 1, and the bits 1 behind it. -/
def emit (n : Nat) : List UInt8 → Nat × List UInt8
  | [] => (n, [])
  | x :: xs => if onesB n x = 6 then ((emit 0 xs).1, x :: 0 :: (emit 0 xs).2) else ((emit (onesB n x) xs).1, x :: (emit (onesB n x) xs).2)
theorem foldS_emit (xs : List UInt8) : ∀ (n : Nat) (out : List UInt8), xs.foldl stepS (n, out) = ((emit n xs).1, out ++ (emit n xs).2) := by
  induction xs with
  | nil => intro n out; simp [emit]
  | cons x xs ih =>
    intro n out
    simp only [List.foldl_cons, stepS, emit]
    split
    · rw [ih]; simp
    · rw [ih]; simp
theorem emit_le (xs : List UInt8) : ∀ n, n ≤ 5 → (emit n xs).1 ≤ 5 := by
  induction xs with
  | nil => intro n h; exact h
  | cons x xs ih =>
    intro n h
    have := onesB_le n x
    simp only [emit]
    split
    · exact ih 0 (by omega)
    · exact ih _ (by omega)
theorem foldU_emit (xs : List UInt8) : ∀ (n : Nat) (acc : List UInt8), n ≤ 5 → (emit n xs).2.foldl stepU (some (n, acc)) = some ((emit n xs).1, acc ++ xs) := by
  induction xs with
  | nil => intro n acc _; simp [emit]
  | cons x xs ih =>
    intro n acc h
    have hb := onesB_le n x
    simp only [emit]
    split
    · rename_i e
      simp only [List.foldl_cons]
      rw [stepU_lt (by omega), e, stepU_six, ih 0 _ (by omega)]
      simp
    · simp only [List.foldl_cons]
      rw [stepU_lt (by omega), ih _ _ (by omega)]
      simp
theorem stuffL_emit (xs : List UInt8) : stuffL xs = (emit 0 xs).2 := by
  unfold stuffL stuffS
  rw [foldS_emit]
  simp
theorem unstuff_stuff (xs : List UInt8) : unstuffL (stuffL xs) = some xs := by
  have h := foldU_emit xs 0 [] (by omega)
  have hl := emit_le xs 0 (by omega)
  unfold unstuffL unS
  rw [stuffL_emit, h]
  simp only [List.nil_append]
  rw [if_neg (by omega)]

/-- What is accepted so far, stuffed again. -/
theorem unS_stuff (ys : List UInt8) (hv : validL ys = true) : ∀ k, k ≤ ys.length → ∀ n us, unS (ys.take k) = some (n, us) → (n < 6 ∧ stuffS us = (n, ys.take k)) ∨ (n = 6 ∧ stuffS us = (0, ys.take k ++ [0])) := by
  intro k
  induction k with
  | zero =>
    intro _ n us h
    simp [unS] at h
    obtain ⟨rfl, rfl⟩ := h
    exact .inl ⟨by omega, rfl⟩
  | succ k ih =>
    intro hk n us h
    rw [unS_snoc ys (by omega)] at h
    rw [take_snoc ys (by omega)]
    cases hu : unS (ys.take k) with
    | none => rw [hu] at h; cases h
    | some p =>
      obtain ⟨m, zs⟩ := p
      have hx := validL_get hv (k := k) (by omega)
      rw [hu] at h
      generalize ys.getD k 0 = x at h hx
      rcases ih (by omega) m zs hu with ⟨hm, hs⟩ | ⟨rfl, hs⟩
      · rw [stepU_lt hm] at h
        simp only [Option.some.injEq, Prod.mk.injEq] at h
        obtain ⟨rfl, rfl⟩ := h
        have hb := onesB_le m x
        have he : stuffS (zs ++ [x]) = stepS (stuffS zs) x := by simp [stuffS, List.foldl_append]
        rw [he, hs]
        unfold stepS
        by_cases e : onesB m x = 6
        · rw [if_pos e]
          exact .inr ⟨e, rfl⟩
        · rw [if_neg e]
          exact .inl ⟨by omega, rfl⟩
      · rcases u8_01 hx with rfl | rfl
        · rw [stepU_six] at h
          simp only [Option.some.injEq, Prod.mk.injEq] at h
          obtain ⟨rfl, rfl⟩ := h
          exact .inl ⟨by omega, hs⟩
        · simp [stepU] at h
theorem stuff_unstuff (ys us : List UInt8) (hv : validL ys = true) (h : unstuffL ys = some us) : stuffL us = ys := by
  unfold unstuffL at h
  cases hu : unS ys with
  | none => rw [hu] at h; cases h
  | some p =>
    obtain ⟨n, zs⟩ := p
    rw [hu] at h
    simp only at h
    split at h
    · cases h
    · rename_i hn
      obtain rfl := Option.some.inj h
      have := unS_stuff ys hv ys.length (Nat.le_refl _) n zs (by rw [List.take_length]; exact hu)
      rw [List.take_length] at this
      rcases this with ⟨_, hs⟩ | ⟨h6, _⟩
      · unfold stuffL; rw [hs]
      · exact absurd h6 hn
theorem emit_valid (xs : List UInt8) (hv : validL xs = true) : ∀ n, validL (emit n xs).2 = true := by
  induction xs with
  | nil => intro n; rfl
  | cons x xs ih =>
    intro n
    have h1 : x.toNat ≤ 1 ∧ validL xs = true := by simpa [validL] using hv
    have ih := ih h1.2
    simp only [emit]
    unfold validL at ih ⊢
    split
    · simp only [List.all_cons, Bool.and_eq_true, decide_eq_true_eq]
      exact ⟨h1.1, by simp, ih 0⟩
    · simp only [List.all_cons, Bool.and_eq_true, decide_eq_true_eq]
      exact ⟨h1.1, ih _⟩
theorem validL_stuffL (xs : List UInt8) (hv : validL xs = true) : validL (stuffL xs) = true := by
  rw [stuffL_emit]
  exact emit_valid xs hv 0
theorem validL_append (xs ys : List UInt8) (h1 : validL xs = true) (h2 : validL ys = true) : validL (xs ++ ys) = true := by
  unfold validL at h1 h2 ⊢
  rw [List.all_append, h1, h2]
  rfl

theorem end_split (l : List UInt8) (h : hasEndL l = true) : l = l.take (l.length - 3) ++ endL := by
  have h3 := hasEndL_len l h
  unfold hasEndL at h
  rw [Bool.and_eq_true, decide_eq_true_eq, decide_eq_true_eq] at h
  conv => lhs; rw [← List.take_append_drop (l.length - 3) l, h.2]
theorem recv_send (xs : List UInt8) (h1 : 0 < xs.length) (h2 : xs.length ≤ 1027) : recvL (sendL xs) = (xs, 0) := by
  have hvb := validL_append syncL (bitsL xs) (by decide) (validL_bitsL xs)
  have hz := validL_stuffL _ hvb
  have hl : (sendL xs).length - 3 = (encL (stuffL (syncL ++ bitsL xs))).length := by simp [sendL, endL]
  have ht : (sendL xs).take ((sendL xs).length - 3) = encL (stuffL (syncL ++ bitsL xs)) := by
    rw [hl]
    unfold sendL
    rw [List.take_left]
  have he : hasEndL (sendL xs) = true := by
    unfold hasEndL
    rw [Bool.and_eq_true, decide_eq_true_eq, decide_eq_true_eq]
    refine ⟨by simp [sendL, endL], ?_⟩
    rw [hl]
    unfold sendL
    rw [List.drop_left]
  unfold recvL
  rw [if_pos he, ht, if_pos (validL_encL _), decL_encL _ hz, unstuff_stuff]
  simp only
  have hs : hasSyncL (syncL ++ bitsL xs) = true := by
    unfold hasSyncL
    rw [decide_eq_true_eq]
    rfl
  rw [if_pos hs]
  have hd : (syncL ++ bitsL xs).drop 8 = bitsL xs := rfl
  rw [hd]
  unfold contentL
  rw [bitsL_len, if_neg (by omega), if_neg (by omega), if_neg (by omega), bytesL_bitsL]
theorem recv_ok (l ys : List UInt8) (h : recvL l = (ys, 0)) : sendL ys = l ∧ 0 < ys.length ∧ ys.length ≤ 1027 := by
  unfold recvL at h
  split at h
  · rename_i he
    split at h
    · rename_i hv
      cases hu : unstuffL (decL (l.take (l.length - 3))) with
      | none => rw [hu] at h; simp at h
      | some u =>
        rw [hu] at h
        simp only at h
        split at h
        · rename_i hs
          have hdv := validL_decL (l.take (l.length - 3))
          have huv := (unstuffL_props _ hdv u hu).1
          have h8 := hasSyncL_len u hs
          have hsy : u.take 8 = syncL := by unfold hasSyncL at hs; simpa using hs
          unfold contentL at h
          split at h
          · simp at h
          · rename_i hm
            split at h
            · simp at h
            · rename_i h0
              split at h
              · simp at h
              · rename_i hb
                simp only [Prod.mk.injEq, and_true] at h
                have hback := bitsL_bytesL (u.drop 8) (validL_drop u 8 huv) (by omega)
                rw [h] at hback
                have hlen : ys.length = (u.drop 8).length / 8 := by rw [← h, bytesL_len]
                refine ⟨?_, by omega, by omega⟩
                unfold sendL
                rw [hback, ← hsy, List.take_append_drop, stuff_unstuff _ u hdv hu, encL_decL _ hv]
                exact (end_split l he).symm
        · simp at h
    · simp at h
  · simp at h

end Go.Proofs.YtfblpakoibadoaaGreatDoor.Lv

namespace Go.Proofs.YtfblpakoibadoaaGreatDoor.Lv
open Go Go.RowKit

theorem sync_any (w : World) : Calls Tryz.prog 49 #[] w (ResO w 5 syncL) := by
  go_enter Tryz.func49, Tryz.ntmps49
  go_wp2
  go_ret
  exact ⟨_, rfl, own_built w 5 syncL (by decide), (Below.refl _ w).alloc (Nat.le_refl _) _⟩

set_option maxHeartbeats 1600000 in
set_option maxRecDepth 100000 in
theorem refStuff_any (w : World) (A : Option Addr) (c : Nat) (xs : List UInt8) (h : Rd w w.heap.size A c xs) (hl : xs.length ≤ 100000) (hv : validL xs = true) :
    Calls Tryz.prog 48 #[.slice A xs.length c] w (Res1 w (stuffL xs)) := by
  have Hv := Lib.hid hv
  clear hv
  go_enter Tryz.func48, Tryz.ntmps48
  go_wp2
  go_loopw [3, 4, 5] (fun o n i wr => ∃ k : Nat, k ≤ xs.length ∧ i = .int .i64 k ∧ n = .int .i64 (((stuffS (xs.take k)).1 : Nat) : Int) ∧ wr.ownsRow w.heap.size 5 1 o (stuffS (xs.take k)).2.length ((stuffS (xs.take k)).2.map bv) ∧ Below w.heap.size w wr) (fun _ _ i _ => xs.length - (intOf i).toNat)
  case atStart => exact ⟨0, Nat.zero_le _, rfl, rfl, World.ownsRow_nil _ _ _ _, Below.refl _ _⟩
  case round =>
    obtain ⟨k, hk, rfl, rfl, hown, hb⟩ := hrel
    by_cases hlt : k < xs.length
    · obtain ⟨b, off, rfl, hbB, hcell⟩ := (h.below hb).at_ hlt
      have hcc : ∀ w2, Below w.heap.size wr w2 → w2.cell? ⟨b, off + k, none⟩ = some (bv (xs.getD k 0)) := fun w2 h2 => (h2.cell (p := ⟨b, off + k, none⟩) hbB).trans hcell
      have hvx := validL_get Hv.out hlt
      have hsn := stuffS_snoc xs hlt
      have hbd := stuffS_bound (xs.take k)
      have htl : (xs.take k).length ≤ 100000 := by rw [List.length_take]; omega
      generalize xs.getD k 0 = x at hcell hsn hvx hcc
      generalize stuffS (xs.take k) = st at hown hsn hbd
      obtain ⟨n, zs⟩ := st
      obtain ⟨hn5, hlz⟩ := hbd
      simp only at hn5 hlz hown hsn
      have hzl : zs.length ≤ 200000 := by omega
      have hst : stepS (n, zs) x = if onesB n x = 6 then (0, zs ++ [x] ++ [0]) else (onesB n x, zs ++ [x]) := rfl
      rw [hst] at hsn
      have Hcc := Lib.hid hcc
      clear hst htl hlz hcc
      rcases u8_01 hvx with rfl | rfl
      · have ho : onesB n 0 = 0 := rfl
        rw [ho, if_neg (by omega)] at hsn
        have Hs := Lib.hid hsn
        clear hsn ho
        go_wp2_with (at_builtin; refine wpl_append1 Tryz.underlying27 Tryz.info5 rfl (.tmp 12) (.tmp 17) rfl w.heap.size u3 zs rfl hown 0 _ rfl rfl (by omega) hb.size ?_; intro v' w1 hown2 hb2; have hcell2 := Hcc.out w1 hb2)
        go_roundw
        case rel => exact ⟨k + 1, by omega, by go_num, by rw [Hs.out]; rfl, by rw [Hs.out]; exact hown2, hb.trans hb2⟩
        case measure => simp [intOf]; omega
      · have ho : onesB n 1 = n + 1 := rfl
        rw [ho] at hsn
        by_cases h6 : n = 5
        · subst h6
          rw [if_pos rfl] at hsn
          have Hs := Lib.hid hsn
          clear hsn ho
          go_wp2_with (first | (at_builtin; refine wpl_append1 Tryz.underlying27 Tryz.info5 rfl (.tmp 12) (.tmp 17) rfl w.heap.size u3 zs rfl hown 1 _ rfl rfl (by omega) hb.size ?_; intro v' w1 hown2 hb2; have hcell2 := Hcc.out w1 hb2) | (at_builtin; refine wpl_append1 Tryz.underlying27 Tryz.info5 rfl (.tmp 28) (.tmp 29) rfl w.heap.size v' (zs ++ [1]) rfl hown2 0 _ rfl rfl (by simp; omega) (hb.trans hb2).size ?_; intro v3 w3 hown3 hb3))
          go_roundw
          case rel => exact ⟨k + 1, by omega, by go_num, by rw [Hs.out]; rfl, by rw [Hs.out]; exact hown3, (hb.trans hb2).trans hb3⟩
          case measure => simp [intOf]; omega
        · rw [if_neg (by omega)] at hsn
          have t6 : ((n : Int) + 1 == 6) = false := by rw [beq_eq_false_iff_ne]; omega
          have Hs := Lib.hid hsn
          clear hsn ho h6
          go_wp2_with (at_builtin; refine wpl_append1 Tryz.underlying27 Tryz.info5 rfl (.tmp 12) (.tmp 17) rfl w.heap.size u3 zs rfl hown 1 _ rfl rfl (by omega) hb.size ?_; intro v' w1 hown2 hb2; have hcell2 := Hcc.out w1 hb2)
          go_roundw
          case rel => exact ⟨k + 1, by omega, by go_num, by rw [Hs.out]; go_num, by rw [Hs.out]; exact hown2, hb.trans hb2⟩
          case measure => simp [intOf]; omega
    · have hk9 : k = xs.length := by omega
      subst hk9
      rw [List.take_length] at hown
      obtain ⟨A', c', rfl, hr⟩ := Rd.of_own hown
      go_wp2
      go_ret
      exact ⟨A', c', rfl, hr, hb⟩

set_option maxHeartbeats 1600000 in
set_option maxRecDepth 100000 in
theorem refSend_own (w : World) (A : Option Addr) (c : Nat) (xs : List UInt8) (h : Rd w w.heap.size A c xs) (hl : xs.length ≤ 2000) :
    Calls Tryz.prog 21 #[.slice A xs.length c] w (ResO w 5 (sendL xs)) := by
  have hs : sendL xs = encL (stuffL (syncL ++ bitsL xs)) ++ endL := rfl
  have l1 : (bitsL xs).length ≤ 16000 := by rw [bitsL_len]; omega
  have l2 : (syncL ++ bitsL xs).length ≤ 16008 := by rw [List.length_append]; simp [syncL]; omega
  have l3 := stuffL_len (syncL ++ bitsL xs)
  have l4 := encL_len (stuffL (syncL ++ bitsL xs))
  have l5 : (encL (stuffL (syncL ++ bitsL xs))).length ≤ 40000 := by omega
  have c1 := fun (W : World) (h : Rd W W.heap.size A c xs) => refBits_any W A c xs h (by omega)
  have c3 := fun (W : World) (A : Option Addr) (c : Nat) (h : Rd W W.heap.size A c (syncL ++ bitsL xs)) => refStuff_any W A c (syncL ++ bitsL xs) h (by omega) (validL_append syncL (bitsL xs) (by decide) (validL_bitsL xs))
  have c4 := fun (W : World) (A : Option Addr) (c : Nat) (h : Rd W W.heap.size A c (stuffL (syncL ++ bitsL xs))) => refStates_own W A c (stuffL (syncL ++ bitsL xs)) h (by omega)
  generalize encL (stuffL (syncL ++ bitsL xs)) = z4 at l4 l5 c4 hs
  generalize stuffL (syncL ++ bitsL xs) = z3 at l3 l4 c3 c4
  have hsy : syncL.length = 8 := rfl
  generalize bitsL xs = z1 at l1 l2 c1 c3 l3
  have C1 := Lib.hid c1
  have C3 := Lib.hid c3
  have C4 := Lib.hid c4
  have Hs := Lib.hid hs
  clear c1 c3 c4 hs l3 l4
  go_enter Tryz.func21, Tryz.ntmps21
  go_wp2_with fail
  refine (sync_any _).mono ?_
  rintro e w1 ⟨v1, rfl, ho1, b1⟩
  have r0 := h.belowTop b1
  go_wp2_with fail
  refine (C1.out _ r0).mono ?_
  rintro e w2 ⟨A2, c2, rfl, r2, b2⟩
  have ho2 := own_below ho1 b2
  have b2 := b1.trans (b2.mono b1.size)
  generalize hsz : syncL = sy at ho2 hsy l2 C3
  have Hsz := Lib.hid hsz
  have hsy2 : sy.length ≤ 8 := by omega
  clear hsz hsy
  go_wp2_with (at_builtin; refine wpl_appendN Tryz.underlying27 Tryz.info5 rfl (.tmp 3) (.tmp 5) rfl w.heap.size v1 sy rfl ho2 _ c2 A2 z1 r2 rfl (by omega) b2.size ?_; intro v3 w3 ho3 hb3; obtain ⟨A3, c3, hv3, r3⟩ := Rd.of_own ho3; subst hv3; generalize sy ++ z1 = z2 at ho3 r3 l2 C3)
  have b3 := b2.trans hb3
  refine (C3.out _ _ _ r3).mono ?_
  rintro e w4 ⟨A4, c4, rfl, r4, b4⟩
  have b4 := b3.trans (b4.mono b3.size)
  go_wp2_with fail
  refine (C4.out _ _ _ r4).mono ?_
  rintro e w5 ⟨v5, rfl, ho5, b5⟩
  have b5 := b4.trans (b5.mono b4.size)
  have ho5 := own_base ho5 b4.size
  have hro : Rd (w5.alloc (.cells #[.int .u8 2, .int .u8 2, .int .u8 0] 5)) (w5.heap.size + 1) (some ⟨w5.heap.size, 0, none⟩) 3 endL := rd_built w5 5 endL (by decide)
  have hol := ho5.alloc (.cells #[.int .u8 2, .int .u8 2, .int .u8 0] 5)
  have hbl := b5.alloc b5.size (.cells #[.int .u8 2, .int .u8 2, .int .u8 0] 5)
  go_wp2_with (at_builtin; refine wpl_appendN Tryz.underlying27 Tryz.info5 rfl (.tmp 8) (.tmp 9) rfl w.heap.size v5 z4 rfl hol _ 3 _ endL hro rfl (by simp [endL]; omega) hbl.size ?_; intro v6 w6 ho6 hb6)
  go_ret
  rw [Hs.out]
  exact ⟨_, rfl, ho6, hbl.trans hb6⟩

end Go.Proofs.YtfblpakoibadoaaGreatDoor.Lv

namespace Go.Proofs.YtfblpakoibadoaaGreatDoor.Lv
open Go Go.RowKit

/-- The number of bits 1 at the end. -/
def trail (xs : List UInt8) : Nat := xs.foldl (fun n x => if x = 1 then n + 1 else 0) 0
theorem trail_snoc (xs : List UInt8) (x : UInt8) : trail (xs ++ [x]) = if x = 1 then trail xs + 1 else 0 := by simp [trail, List.foldl_append]
theorem trail_le (xs : List UInt8) : ∀ k, k ≤ xs.length → trail (xs.take k) ≤ k := by
  intro k
  induction k with
  | zero => intro _; simp [trail]
  | succ k ih =>
    intro hk
    have := ih (by omega)
    rw [take_snoc xs (by omega), trail_snoc]
    split <;> omega
/-- The last places are 1, and the one in front of them is not. -/
theorem trail_of (xs : List UInt8) : ∀ k, k ≤ xs.length → (∀ j, j < k → xs.getD (xs.length - 1 - j) 0 = 1) → (k = xs.length ∨ xs.getD (xs.length - 1 - k) 0 ≠ 1) → trail xs = k := by
  have key : ∀ n, n ≤ xs.length → ∀ k, k ≤ n → (∀ j, j < k → xs.getD (n - 1 - j) 0 = 1) → (k = n ∨ xs.getD (n - 1 - k) 0 ≠ 1) → trail (xs.take n) = k := by
    intro n
    induction n with
    | zero => intro _ k hk _ _; have : k = 0 := by omega
              subst this; simp [trail]
    | succ n ih =>
      intro hn k hk h1 h2
      rw [take_snoc xs (by omega), trail_snoc]
      rcases Nat.eq_zero_or_pos k with h0 | h0
      · subst h0
        rw [if_neg]
        rcases h2 with h2 | h2
        · omega
        · simpa using h2
      · have hx := h1 0 h0
        simp only [Nat.add_sub_cancel, Nat.sub_zero] at hx
        rw [if_pos hx]
        have e1 : ∀ j, j < k - 1 → xs.getD (n - 1 - j) 0 = 1 := fun j hj => by
          have := h1 (j + 1) (by omega)
          rwa [show n + 1 - 1 - (j + 1) = n - 1 - j from by omega] at this
        have e2 : k - 1 = n ∨ xs.getD (n - 1 - (k - 1)) 0 ≠ 1 := by
          rcases h2 with h2 | h2
          · left; omega
          · right
            rwa [show n + 1 - 1 - k = n - 1 - (k - 1) from by omega] at h2
        rw [ih (by omega) (k - 1) (by omega) e1 e2]
        omega
  intro k hk h1 h2
  have := key xs.length (Nat.le_refl _) k hk h1 h2
  rwa [List.take_length] at this

set_option maxHeartbeats 1600000 in
set_option maxRecDepth 100000 in
theorem ones_any (w : World) (A : Option Addr) (c : Nat) (xs : List UInt8) (h : Rd w w.heap.size A c xs) (hl : xs.length ≤ 100000) :
    Calls Tryz.prog 104 #[.slice A xs.length c] w fun e w' => e = .returned (.int .i64 ((trail xs : Nat) : Int)) ∧ w = w' := by
  go_enter Tryz.func104, Tryz.ntmps104
  go_wp2
  go_loop [3] (fun i => ∃ k : Nat, k ≤ xs.length ∧ i = .int .i64 k ∧ ∀ j, j < k → xs.getD (xs.length - 1 - j) 0 = 1) (fun i => xs.length - (intOf i).toNat)
  case atStart => exact ⟨0, Nat.zero_le _, rfl, fun j hj => absurd hj (by omega)⟩
  case round =>
    obtain ⟨k, hk, rfl, h1⟩ := hrel
    have H1 := Lib.hid h1
    clear h1
    by_cases hlt : k < xs.length
    · obtain ⟨b, off, rfl, hbB, hcell⟩ := h.at_ (k := xs.length - 1 - k) (by omega)
      have hli : (k : Int) < (xs.length : Int) := by omega
      have hi0 : (0 : Int) ≤ (xs.length : Int) - 1 - (k : Int) := by omega
      have hi1 : (xs.length : Int) - 1 - (k : Int) < (xs.length : Int) := by omega
      by_cases e : xs.getD (xs.length - 1 - k) 0 = 1
      · have He := Lib.hid e
        rw [e] at hcell
        clear e
        go_wp2
        go_round
        case rel => exact ⟨k + 1, by omega, by go_num, fun j hj => by
          rcases Nat.lt_or_ge j k with h2 | h2
          · exact H1.out j h2
          · have hjk : j = k := by omega
            subst hjk
            exact He.out⟩
        case measure => simp [intOf]; omega
      · have ht := trail_of xs k hk H1.out (.inr e)
        have Ht := Lib.hid ht
        have te : (((xs.getD (xs.length - 1 - k) 0).toNat : Int) == 1) = false := by
          rw [beq_eq_false_iff_ne]
          exact fun hh => e ((u8_eq_one _).2 hh)
        clear ht e
        generalize xs.getD (xs.length - 1 - k) 0 = x at hcell te
        go_wp2
        go_ret
        exact ⟨by rw [Ht.out]; rfl, rfl⟩
    · have hk9 : k = xs.length := by omega
      have ht := trail_of xs k hk H1.out (.inl hk9)
      have Ht := Lib.hid ht
      have hli : ¬ (k : Int) < (xs.length : Int) := by omega
      clear ht hk9
      go_wp2
      go_ret
      exact ⟨by rw [Ht.out]; rfl, rfl⟩

theorem behind_any (w : World) (A : Option Addr) (c : Nat) (xs : List UInt8) (h : Rd w w.heap.size A c xs) (hl : xs.length ≤ 100000) :
    Calls Tryz.prog 84 #[.slice A xs.length c] w fun e w' => e = .returned (.bool ((((trail xs : Nat) : Int)) == 6)) ∧ w = w' := by
  have k1 := Lib.hid (ones_any w A c xs h hl)
  go_enter Tryz.func84, Tryz.ntmps84
  go_wp2_with fail
  refine k1.out.mono ?_
  rintro e w' ⟨rfl, rfl⟩
  go_wp2
  go_ret
  exact ⟨rfl, rfl⟩

theorem unS_trail (ys : List UInt8) (hv : validL ys = true) : ∀ k, k ≤ ys.length → ∀ n us, unS (ys.take k) = some (n, us) → n = trail (ys.take k) ∧ us.length ≤ k := by
  intro k
  induction k with
  | zero =>
    intro _ n us h
    simp [unS] at h
    obtain ⟨rfl, rfl⟩ := h
    simp [trail]
  | succ k ih =>
    intro hk n us h
    rw [unS_snoc ys (by omega)] at h
    rw [take_snoc ys (by omega), trail_snoc]
    cases hu : unS (ys.take k) with
    | none => rw [hu] at h; cases h
    | some p =>
      obtain ⟨m, zs⟩ := p
      obtain ⟨i1, i2⟩ := ih (by omega) m zs hu
      have hx := validL_get hv (k := k) (by omega)
      rw [hu] at h
      generalize ys.getD k 0 = x at h hx
      rw [← i1]
      have hob : onesB m x = if x = 1 then m + 1 else 0 := by
        unfold onesB
        rcases u8_01 hx with rfl | rfl <;> rfl
      unfold stepU at h
      simp only at h
      split at h
      · simp only [Option.some.injEq, Prod.mk.injEq] at h
        obtain ⟨rfl, rfl⟩ := h
        exact ⟨hob, by simp; omega⟩
      · split at h
        · cases h
        · simp only [Option.some.injEq, Prod.mk.injEq] at h
          obtain ⟨rfl, rfl⟩ := h
          exact ⟨hob, by omega⟩

/-- What holds at the head of the loop. -/
def UnRel2 (xs : List UInt8) (w wr : World) (o : Value) (k : Nat) : Prop :=
  ∃ m ys, unS (xs.take k) = some (m, ys) ∧ m < 6 ∧ ys.length ≤ k ∧ wr.ownsRow w.heap.size 5 1 o ys.length (ys.map bv) ∧ Below w.heap.size w wr

set_option maxHeartbeats 3200000 in
set_option maxRecDepth 100000 in
theorem refUnstuff_any (w : World) (A : Option Addr) (c : Nat) (xs : List UInt8) (h : Rd w w.heap.size A c xs) (hl : xs.length ≤ 100000) (hv : validL xs = true) :
    Calls Tryz.prog 52 #[.slice A xs.length c] w (ResT w (optL (unstuffL xs)) (unstuffL xs).isSome) := by
  have hle := h.le
  have Hv := Lib.hid hv
  clear hv
  go_enter Tryz.func52, Tryz.ntmps52
  go_wp2
  go_loopw [4, 5] (fun o i wr => ∃ k : Nat, k ≤ xs.length ∧ i = .int .i64 k ∧ UnRel2 xs w wr o k) (fun _ i _ => xs.length - (intOf i).toNat)
  case atStart => exact ⟨0, Nat.zero_le _, rfl, 0, [], rfl, by omega, by simp, World.ownsRow_nil _ _ _ _, Below.refl _ _⟩
  case round =>
    obtain ⟨k, hk, rfl, m, ys, hst, hm6, hyl, hown, hb⟩ := hrel
    by_cases hlt : k < xs.length
    · obtain ⟨b, off, hA, hbB, hcell⟩ := (h.below hb).at_ hlt
      subst hA
      have hli : (k : Int) < (xs.length : Int) := by omega
      have hvx := validL_get Hv.out hlt
      have hsn : unS (xs.take (k + 1)) = some (onesB m (xs.getD k 0), ys ++ [xs.getD k 0]) := by rw [unS_snoc xs hlt, hst, stepU_lt hm6]
      have htr := (unS_trail xs Hv.out (k + 1) (by omega) _ _ hsn).1
      have htl := trail_le xs (k + 1) (by omega)
      have hsl := fun (W : World) => slice_h (some ⟨b, off, none⟩) xs.length c ((k : Int) + 1) W (by omega) (by omega)
      rw [show ((k : Int) + 1).toNat = k + 1 from by omega] at hsl
      have hcc : ∀ w2, Below w.heap.size wr w2 → w2.cell? ⟨b, off + k, none⟩ = some (bv (xs.getD k 0)) := fun w2 h2 => (h2.cell (p := ⟨b, off + k, none⟩) hbB).trans hcell
      have hrd : ∀ w2, Below w.heap.size w w2 → Rd w2 w2.heap.size (some ⟨b, off, none⟩) c (xs.take (k + 1)) := fun w2 h2 => ((h.belowTop h2).take (by omega))
      have htk : (xs.take (k + 1)).length = k + 1 := by rw [List.length_take]; omega
      have hkb := fun (w2 : World) (h2 : Below w.heap.size w w2) => behind_any w2 (some ⟨b, off, none⟩) c (xs.take (k + 1)) (hrd w2 h2) (by omega)
      rw [htk, ← htr] at hkb
      have Hkb := Lib.hid hkb
      have Hcc := Lib.hid hcc
      have Hsn := Lib.hid hsn
      have Htr := Lib.hid htr
      clear hkb hcc hsn hrd htk hst
      rcases u8_01 hvx with hx | hx
      · -- a bit 0
        rw [hx] at hcell Hcc Hsn
        have ho : onesB m 0 = 0 := rfl
        rw [ho] at Hsn
        clear Htr Hkb htl ho hvx hx
        by_cases h5 : k < 5
        · have t5 : ¬ (6 : Int) ≤ (k : Int) + 1 := by omega
          clear hsl
          go_wp2_with (at_builtin; refine wpl_append1 Tryz.underlying27 Tryz.info5 rfl (.tmp 10) (.tmp 15) rfl w.heap.size u4 ys rfl hown 0 _ rfl rfl (by omega) hb.size ?_; intro v' w1 hown2 hb2; have hcell2 := Hcc.out w1 hb2)
          go_roundw
          case rel => exact ⟨k + 1, by omega, by go_num, 0, ys ++ [0], Hsn.out, by omega, by simp; omega, hown2, hb.trans hb2⟩
          case measure => simp [intOf]; omega
        · have t5 : (6 : Int) ≤ (k : Int) + 1 := by omega
          clear hsl
          go_wp2_with (at_builtin; refine wpl_append1 Tryz.underlying27 Tryz.info5 rfl (.tmp 10) (.tmp 15) rfl w.heap.size u4 ys rfl hown 0 _ rfl rfl (by omega) hb.size ?_; intro v' w1 hown2 hb2; have hcell2 := Hcc.out w1 hb2)
          go_roundw
          case rel => exact ⟨k + 1, by omega, by go_num, 0, ys ++ [0], Hsn.out, by omega, by simp; omega, hown2, hb.trans hb2⟩
          case measure => simp [intOf]; omega
      · -- a bit 1
        rw [hx] at hcell Hcc Hsn Htr Hkb
        have ho : onesB m 1 = m + 1 := rfl
        rw [ho] at Hsn Htr Hkb
        clear ho hvx hx
        have hmk : m + 1 ≤ k + 1 := by have := Htr.out; omega
        clear htl
        by_cases h5 : k < 5
        · have t5 : ¬ (6 : Int) ≤ (k : Int) + 1 := by omega
          clear hsl Hkb
          go_wp2_with (at_builtin; refine wpl_append1 Tryz.underlying27 Tryz.info5 rfl (.tmp 10) (.tmp 15) rfl w.heap.size u4 ys rfl hown 1 _ rfl rfl (by omega) hb.size ?_; intro v' w1 hown2 hb2; have hcell2 := Hcc.out w1 hb2)
          go_roundw
          case rel => exact ⟨k + 1, by omega, by go_num, m + 1, ys ++ [1], Hsn.out, by omega, by simp; omega, hown2, hb.trans hb2⟩
          case measure => simp [intOf]; omega
        · have t5 : (6 : Int) ≤ (k : Int) + 1 := by omega
          by_cases h6 : m = 5
          · subst h6
            have Hkb2 : Hid (∀ (w2 : World), Below w.heap.size w w2 → Calls Tryz.prog 84 #[.slice (some ⟨b, off, none⟩) (k + 1) c] w2 fun e w' => e = .returned (.bool true) ∧ w2 = w') := Hkb.out
            clear Hkb Htr
            by_cases hend : k + 1 = xs.length
            · have tend : ((k : Int) + 1 == (xs.length : Int)) = true := by rw [beq_iff_eq]; omega
              have hfin : unstuffL xs = none := by
                have := Hsn.out
                rw [hend, List.take_length] at this
                unfold unstuffL
                rw [this]
                rfl
              have Hfin := Lib.hid hfin
              clear hfin hend
              go_wp2_with (first | (at_builtin; refine wpl_append1 Tryz.underlying27 Tryz.info5 rfl (.tmp 10) (.tmp 15) rfl w.heap.size u4 ys rfl hown 1 _ rfl rfl (by omega) hb.size ?_; intro v' w1 hown2 hb2; have hcell2 := Hcc.out w1 hb2) | (go_at_call 84; refine (Hkb2.out _ (hb.trans hb2)).mono ?_; rintro e w' ⟨rfl, rfl⟩))
              go_ret2
              rw [Hfin.out]
              exact ⟨_, _, rfl, Rd.nil _ _, hb.trans hb2⟩
            · have hlt2 : k + 1 < xs.length := by omega
              have tend : ((k : Int) + 1 == (xs.length : Int)) = false := by rw [beq_eq_false_iff_ne]; omega
              obtain ⟨b', off', hbo, _, hcelln⟩ := (h.below hb).at_ hlt2
              obtain ⟨rfl, rfl⟩ : b = b' ∧ off = off' := by simpa using hbo
              clear hbo
              have hcn : ∀ w2, Below w.heap.size wr w2 → w2.cell? ⟨b, off + (k + 1), none⟩ = some (bv (xs.getD (k + 1) 0)) := fun w2 h2 => (h2.cell (p := ⟨b, off + (k + 1), none⟩) hbB).trans hcelln
              have hvy := validL_get Hv.out hlt2
              have hsn2 := unS_snoc xs hlt2
              rw [Hsn.out] at hsn2
              have Hcn := Lib.hid hcn
              clear hcn hcelln
              rcases u8_01 hvy with hy | hy
              · rw [hy] at hsn2 Hcn
                rw [stepU_six] at hsn2
                have Hsn2 := Lib.hid hsn2
                have hli2 : (k : Int) + 1 < (xs.length : Int) := by omega
                clear hsn2 hy hvy hend
                go_wp2_with (first | (at_builtin; refine wpl_append1 Tryz.underlying27 Tryz.info5 rfl (.tmp 10) (.tmp 15) rfl w.heap.size u4 ys rfl hown 1 _ rfl rfl (by omega) hb.size ?_; intro v' w1 hown2 hb2; have hcell2 := Hcc.out w1 hb2; have hcell3 := Hcn.out w1 hb2) | (go_at_call 84; refine (Hkb2.out _ (hb.trans hb2)).mono ?_; rintro e w' ⟨rfl, rfl⟩))
                go_roundw
                case rel => exact ⟨k + 2, by omega, by go_num, 0, ys ++ [1], Hsn2.out, by omega, by simp; omega, hown2, hb.trans hb2⟩
                case measure => simp [intOf]; omega
              · rw [hy] at hsn2 Hcn
                have hno : stepU (some (5 + 1, ys ++ [1])) 1 = none := by simp [stepU]
                rw [hno] at hsn2
                have hfin : unstuffL xs = none := by unfold unstuffL; rw [unS_none xs hsn2]
                have Hfin := Lib.hid hfin
                have hli2 : (k : Int) + 1 < (xs.length : Int) := by omega
                clear hsn2 hno hfin hy hvy hend
                go_wp2_with (first | (at_builtin; refine wpl_append1 Tryz.underlying27 Tryz.info5 rfl (.tmp 10) (.tmp 15) rfl w.heap.size u4 ys rfl hown 1 _ rfl rfl (by omega) hb.size ?_; intro v' w1 hown2 hb2; have hcell2 := Hcc.out w1 hb2; have hcell3 := Hcn.out w1 hb2) | (go_at_call 84; refine (Hkb2.out _ (hb.trans hb2)).mono ?_; rintro e w' ⟨rfl, rfl⟩))
                go_ret2
                rw [Hfin.out]
                exact ⟨_, _, rfl, Rd.nil _ _, hb.trans hb2⟩
          · have Hkb2 : Hid (∀ (w2 : World), Below w.heap.size w w2 → Calls Tryz.prog 84 #[.slice (some ⟨b, off, none⟩) (k + 1) c] w2 fun e w' => e = .returned (.bool false) ∧ w2 = w') := by
              have h0 := Hkb.out
              rw [show (((m + 1 : Nat) : Int) == 6) = false from by rw [beq_eq_false_iff_ne]; omega] at h0
              exact h0
            have hm5 : m + 1 < 6 := by omega
            clear Hkb Htr h6
            go_wp2_with (first | (at_builtin; refine wpl_append1 Tryz.underlying27 Tryz.info5 rfl (.tmp 10) (.tmp 15) rfl w.heap.size u4 ys rfl hown 1 _ rfl rfl (by omega) hb.size ?_; intro v' w1 hown2 hb2; have hcell2 := Hcc.out w1 hb2) | (go_at_call 84; refine (Hkb2.out _ (hb.trans hb2)).mono ?_; rintro e w' ⟨rfl, rfl⟩))
            go_roundw
            case rel => exact ⟨k + 1, by omega, by go_num, m + 1, ys ++ [1], Hsn.out, hm5, by simp; omega, hown2, hb.trans hb2⟩
            case measure => simp [intOf]; omega
    · have hk9 : k = xs.length := by omega
      subst hk9
      rw [List.take_length] at hst
      have hfin : unstuffL xs = some ys := by unfold unstuffL; rw [hst]; simp only; rw [if_neg (by omega)]
      have Hfin := Lib.hid hfin
      clear hfin hst
      obtain ⟨A', c', rfl, hr⟩ := Rd.of_own hown
      go_wp2
      go_ret2
      rw [Hfin.out]
      exact ⟨A', c', rfl, hr, hb⟩

end Go.Proofs.YtfblpakoibadoaaGreatDoor.Lv

namespace Go.Proofs.YtfblpakoibadoaaGreatDoor.Lv
open Go Go.RowKit

/-- The string conversion of a slice that reads as xs. -/
abbrev Cv (w : World) (A : Option Addr) (n c : Nat) (xs : List UInt8) : Prop := (convert 27 9 (.slice A n c)).run Tryz.prog w = .ok (.string ⟨xs.toArray⟩) w
theorem _root_.Go.Proofs.YtfblpakoibadoaaGreatDoor.Rd.cv {w : World} {B c : Nat} {A : Option Addr} {xs : List UInt8} (h : Rd w B A c xs) : Cv w A xs.length c xs := h.str Tryz.underlying27 Tryz.underlying5 Tryz.underlying9
theorem _root_.Go.Proofs.YtfblpakoibadoaaGreatDoor.Rd.cvs {w : World} {c : Nat} {A : Option Addr} {xs : List UInt8} (h : Rd w w.heap.size A c xs) : ∀ w', Gr w w' → Cv w' A xs.length c xs := fun _ hg => (h.below hg).cv

theorem foldU_none (xs : List UInt8) : xs.foldl stepU none = none := by
  induction xs with
  | nil => rfl
  | cons x xs ih => exact ih
theorem foldU_front (xs : List UInt8) : ∀ (n : Nat) (acc : List UInt8) (m : Nat) (u : List UInt8), xs.foldl stepU (some (n, acc)) = some (m, u) → ∃ t, u = acc ++ t := by
  induction xs with
  | nil =>
    intro n acc m u h
    simp only [List.foldl_nil, Option.some.injEq, Prod.mk.injEq] at h
    exact ⟨[], by rw [h.2]; simp⟩
  | cons x xs ih =>
    intro n acc m u h
    rw [List.foldl_cons] at h
    have hd : stepU (some (n, acc)) x = if n < 6 then some (onesB n x, acc ++ [x]) else if x = 1 then none else some (onesB n x, acc) := rfl
    rw [hd] at h
    split at h
    · obtain ⟨t, rfl⟩ := ih _ _ _ _ h
      exact ⟨x :: t, by simp⟩
    · split at h
      · rw [foldU_none] at h; cases h
      · exact ih _ _ _ _ h
theorem sync_fwd (d u : List UInt8) (h8 : d.take 8 = syncL) (hu : unstuffL d = some u) : u.take 8 = syncL ∧ 8 ≤ u.length := by
  unfold unstuffL at hu
  cases hs : unS d with
  | none => rw [hs] at hu; cases hu
  | some p =>
    obtain ⟨m, z⟩ := p
    rw [hs] at hu
    simp only at hu
    split at hu
    · cases hu
    · obtain rfl := Option.some.inj hu
      unfold unS at hs
      rw [← List.take_append_drop 8 d, h8, List.foldl_append] at hs
      obtain ⟨t, rfl⟩ := foldU_front _ 1 syncL _ _ hs
      refine ⟨?_, by simp [syncL]⟩
      rw [List.take_append_of_le_length (by decide)]
      rfl
theorem sync_back (d u : List UInt8) (hv : validL d = true) (h8 : u.take 8 = syncL) (hu : unstuffL d = some u) : d.take 8 = syncL := by
  rw [← stuff_unstuff d u hv hu, ← List.take_append_drop 8 u, h8]
  unfold stuffL stuffS
  rw [List.foldl_append]
  have h1 : List.foldl stepS (0, []) syncL = (1, syncL) := by decide
  rw [h1, foldS_emit]
  simp only
  rw [List.take_append_of_le_length (by decide)]
  rfl

theorem accB_lt (bits : List UInt8) (hv : ∀ k, (bits.getD k 0).toNat ≤ 1) (j : Nat) : ∀ m, m ≤ 8 → (accB bits j m).toNat < 2 ^ m := by
  intro m
  induction m with
  | zero => intro _; simp [accB]
  | succ m ih =>
    intro hm
    have h1 := ih (by omega)
    have H : ∀ m : Fin 8, ∀ a : Fin 256, ∀ x : Fin 2, a.val < 2 ^ m.val → (UInt8.ofNat a.val ||| (UInt8.ofNat x.val <<< UInt8.ofNat m.val)).toNat < 2 ^ (m.val + 1) := by decide +kernel
    have := H ⟨m, by omega⟩ ⟨(accB bits j m).toNat, (accB bits j m).toNat_lt⟩ ⟨(bits.getD (8 * j + m) 0).toNat, by have := hv (8 * j + m); omega⟩ h1
    simp only [UInt8.ofNat_toNat] at this
    exact this
theorem add_val (a x : UInt8) (j : Nat) (h : j < 8) (hx : x.toNat ≤ 1) (ha : a.toNat < 2 ^ j) : Value.int .u8 (((a.toNat : Int) + (x.toNat : Int) * 2 ^ j) % 256) = bv (a ||| (x <<< UInt8.ofNat j)) := by
  have H : ∀ j : Fin 8, ∀ a : Fin 256, ∀ x : Fin 2, a.val < 2 ^ j.val → ((a.val : Int) + (x.val : Int) * 2 ^ j.val) % 256 = ((UInt8.ofNat a.val ||| (UInt8.ofNat x.val <<< UInt8.ofNat j.val)).toNat : Int) := by decide +kernel
  have := H ⟨j, h⟩ ⟨a.toNat, a.toNat_lt⟩ ⟨x.toNat, by omega⟩ ha
  simp only [UInt8.ofNat_toNat] at this
  rw [this]

theorem end_get (xs : List UInt8) (h3 : 3 ≤ xs.length) : hasEndL xs = (decide (xs.getD (xs.length - 3) 0 = 2) && decide (xs.getD (xs.length - 2) 0 = 2) && decide (xs.getD (xs.length - 1) 0 = 0)) := by
  have hd : ∀ k, k < 3 → (xs.drop (xs.length - 3)).getD k 0 = xs.getD (xs.length - 3 + k) 0 := fun k hk => drop_get xs _ k (by omega)
  have e2 : xs.length - 3 + 1 = xs.length - 2 := by omega
  have e1 : xs.length - 3 + 2 = xs.length - 1 := by omega
  rw [Bool.eq_iff_iff]
  unfold hasEndL
  simp only [Bool.and_eq_true, decide_eq_true_eq]
  constructor
  · rintro ⟨_, he⟩
    have a0 := hd 0 (by omega)
    have a1 := hd 1 (by omega)
    have a2 := hd 2 (by omega)
    rw [he] at a0 a1 a2
    rw [Nat.add_zero] at a0
    rw [e2] at a1
    rw [e1] at a2
    exact ⟨⟨a0.symm, a1.symm⟩, a2.symm⟩
  · rintro ⟨⟨a0, a1⟩, a2⟩
    refine ⟨h3, ?_⟩
    refine list_ext_getD _ _ (by simp [endL]; omega) fun k hk => ?_
    rw [List.length_drop] at hk
    rw [hd k (by omega)]
    rcases (by omega : k = 0 ∨ k = 1 ∨ k = 2) with rfl | rfl | rfl
    · rw [Nat.add_zero, a0]; rfl
    · rw [e2, a1]; rfl
    · rw [e1, a2]; rfl

theorem recv_short (xs : List UInt8) (h : xs.length < 3) : recvL xs = ([], 4) := by
  unfold recvL
  rw [hasEndL_short xs h]
  rfl
theorem recv_noend (xs : List UInt8) (h : hasEndL xs = false) : recvL xs = ([], 4) := by
  unfold recvL
  rw [h]
  rfl

set_option maxHeartbeats 1600000 in
set_option maxRecDepth 100000 in
theorem refReceive_noend (w : World) (A : Option Addr) (c : Nat) (xs : List UInt8) (h : Rd w w.heap.size A c xs) (hl : xs.length ≤ 100000) (he : hasEndL xs = false) :
    Calls Tryz.prog 23 #[.slice A xs.length c] w (ResE w [] 4) := by
  rcases Nat.lt_or_ge xs.length 3 with h3 | h3
  · have t3 : (xs.length : Int) < 3 := by omega
    go_enter Tryz.func23, Tryz.ntmps23
    go_wp2
    go_ret2
    exact ⟨_, _, rfl, Rd.nil _ _, Below.refl _ _⟩
  · have t3 : ¬ (xs.length : Int) < 3 := by omega
    rw [end_get xs h3] at he
    obtain ⟨b, off, rfl, hbB, hc3⟩ := h.at_ (k := xs.length - 3) (by omega)
    obtain ⟨b', off', hbo, _, hc2⟩ := h.at_ (k := xs.length - 2) (by omega)
    obtain ⟨rfl, rfl⟩ : b = b' ∧ off = off' := by simpa using hbo
    obtain ⟨b', off', hbo', _, hc1⟩ := h.at_ (k := xs.length - 1) (by omega)
    obtain ⟨rfl, rfl⟩ : b = b' ∧ off = off' := by simpa using hbo'
    clear hbo hbo'
    generalize xs.getD (xs.length - 3) 0 = x3 at he hc3
    generalize xs.getD (xs.length - 2) 0 = x2 at he hc2
    generalize xs.getD (xs.length - 1) 0 = x1 at he hc1
    have hi3 : (0 : Int) ≤ (xs.length : Int) - 3 := by omega
    by_cases e3 : x3 = 2
    · by_cases e2 : x2 = 2
      · have e1 : x1 ≠ 0 := by
          rintro rfl
          rw [e3, e2] at he
          simp at he
        have t1 : ((x1.toNat : Int) != 0) = true := by
          rw [bne_iff_ne]
          exact fun hh => e1 ((u8_eq_zero x1).2 hh)
        subst e3
        subst e2
        clear e1 he
        go_enter Tryz.func23, Tryz.ntmps23
        go_wp2
        go_ret2
        exact ⟨_, _, rfl, Rd.nil _ _, Below.refl _ _⟩
      · have t2 : ((x2.toNat : Int) != 2) = true := by
          rw [bne_iff_ne]
          intro hh
          exact e2 (UInt8.toNat_inj.1 (by show _ = 2; omega))
        subst e3
        clear e2 he
        go_enter Tryz.func23, Tryz.ntmps23
        go_wp2
        go_ret2
        exact ⟨_, _, rfl, Rd.nil _ _, Below.refl _ _⟩
    · have t2 : ((x3.toNat : Int) != 2) = true := by
        rw [bne_iff_ne]
        intro hh
        exact e3 (UInt8.toNat_inj.1 (by show _ = 2; omega))
      clear e3 he
      go_enter Tryz.func23, Tryz.ntmps23
      go_wp2
      go_ret2
      exact ⟨_, _, rfl, Rd.nil _ _, Below.refl _ _⟩

end Go.Proofs.YtfblpakoibadoaaGreatDoor.Lv

namespace Go.Proofs.YtfblpakoibadoaaGreatDoor.Lv
open Go Go.RowKit



/-- The rest of the reference's Receive, when the bits behind the sync are q: the same as 'contentL'. -/
theorem recv_bad (xs : List UInt8) (he : hasEndL xs = true) (hv : validL (xs.take (xs.length - 3)) = false) : recvL xs = ([], 4) := by
  unfold recvL
  rw [he, hv]
  rfl
theorem recv_nosync (xs : List UInt8) (he : hasEndL xs = true) (hs : ¬ (decL (xs.take (xs.length - 3))).take 8 = syncL) : recvL xs = ([], 4) := by
  unfold recvL
  rw [if_pos he]
  split
  · rename_i hv
    cases hu : unstuffL (decL (xs.take (xs.length - 3))) with
    | none => rfl
    | some u =>
      simp only
      rw [if_neg]
      intro hh
      unfold hasSyncL at hh
      rw [decide_eq_true_eq] at hh
      exact hs (sync_back _ u (validL_decL _) hh hu)
  · rfl
theorem recv_nostuff (xs : List UInt8) (he : hasEndL xs = true) (hu : unstuffL (decL (xs.take (xs.length - 3))) = none) : recvL xs = ([], 4) := by
  unfold recvL
  rw [if_pos he, hu]
  split <;> rfl
theorem recv_content (xs u : List UInt8) (he : hasEndL xs = true) (hv : validL (xs.take (xs.length - 3)) = true) (hs : (decL (xs.take (xs.length - 3))).take 8 = syncL) (hu : unstuffL (decL (xs.take (xs.length - 3))) = some u) : recvL xs = contentL (u.drop 8) := by
  unfold recvL
  rw [if_pos he, if_pos hv, hu]
  simp only
  rw [if_pos]
  unfold hasSyncL
  rw [decide_eq_true_eq]
  exact (sync_fwd _ u hs hu).1

set_option maxHeartbeats 3200000 in
set_option maxRecDepth 100000 in
theorem refReceive_end (w : World) (A : Option Addr) (c : Nat) (xs : List UInt8) (h : Rd w w.heap.size A c xs) (hl : xs.length ≤ 100000) (he : hasEndL xs = true) :
    Calls Tryz.prog 23 #[.slice A xs.length c] w (ResE w (recvL xs).1 (recvL xs).2) := by
  have h3 := hasEndL_len xs he
  have hle := h.le
  have hE := end_get xs h3
  rw [he] at hE
  replace hE := hE.symm
  rw [Bool.and_eq_true, Bool.and_eq_true, decide_eq_true_eq, decide_eq_true_eq, decide_eq_true_eq] at hE
  obtain ⟨⟨x3, x2⟩, x1⟩ := hE
  obtain ⟨b, off, rfl, hbB, hc3⟩ := h.at_ (k := xs.length - 3) (by omega)
  obtain ⟨b', off', hbo, _, hc2⟩ := h.at_ (k := xs.length - 2) (by omega)
  obtain ⟨rfl, rfl⟩ : b = b' ∧ off = off' := by simpa using hbo
  obtain ⟨b', off', hbo', _, hc1⟩ := h.at_ (k := xs.length - 1) (by omega)
  obtain ⟨rfl, rfl⟩ : b = b' ∧ off = off' := by simpa using hbo'
  clear hbo hbo'
  rw [x3] at hc3
  rw [x2] at hc2
  rw [x1] at hc1
  clear x1 x2 x3
  have t3 : ¬ (xs.length : Int) < 3 := by omega
  have hi3 : (0 : Int) ≤ (xs.length : Int) - 3 := by omega
  have hsl := fun (W : World) => slice_h (some ⟨b, off, none⟩) xs.length c ((xs.length : Int) - 3) W (by omega) (by omega)
  rw [show ((xs.length : Int) - 3).toNat = xs.length - 3 from by omega] at hsl
  have hr0 := h.take (k := xs.length - 3) (by omega)
  have hzl : (xs.take (xs.length - 3)).length = xs.length - 3 := by rw [List.length_take]; omega
  have hbad := recv_bad xs he
  have hnosync := recv_nosync xs he
  have hnostuff := recv_nostuff xs he
  have hcontent := fun u => recv_content xs u he
  generalize xs.take (xs.length - 3) = zs at hr0 hzl hbad hnosync hnostuff hcontent
  generalize recvL xs = r at hbad hnosync hnostuff hcontent ⊢
  have kl := refLevels_any w (some ⟨b, off, none⟩) c zs hr0 (by omega)
  rw [hzl] at kl
  cases hv : validL zs
  · rw [hv, ifV_false] at kl
    have hr := hbad hv
    subst hr
    have KL := Lib.hid kl
    clear kl hv hzl hbad hnosync hnostuff hcontent he
    go_enter Tryz.func23, Tryz.ntmps23
    go_wp2_with fail
    refine KL.out.mono ?_
    rintro e w1 ⟨A1, d1, rfl, r1, b1⟩
    have b1 : Below w.heap.size w w1.drew := b1.drew
    go_wp2_with fail
    refine startG 15 (l := #[false, false, false, false, false, false, false, false, false, false, false, false, false, false, false]) (by kernel_rfl) rfl rfl ?_
    ((first | (refine takeG 0 (v := ?_) rfl (by decide +kernel) (by decide +kernel) (by decide +kernel) (fun _ _ _ h => h) (Or.inl ⟨by rfl, ?_⟩) ?_; rotate_left 1; (focus (intro W hW; go_simp; first | done | with_reducible rfl)); try simp only [Act.put, List.setIfInBounds_toArray, List.set_cons_zero, List.set_cons_succ]) | (refine takeG 0 rfl (by decide +kernel) (by decide +kernel) (by decide +kernel) (fun _ _ _ h => h) (Or.inr ⟨by rfl, rfl⟩) ?_; try simp only [Act.put, List.setIfInBounds_toArray, List.set_cons_zero, List.set_cons_succ]) | skip); (first | (refine takeG 1 (v := ?_) rfl (by decide +kernel) (by decide +kernel) (by decide +kernel) (fun _ _ _ h => h) (Or.inl ⟨by rfl, ?_⟩) ?_; rotate_left 1; (focus (intro W hW; go_simp; first | done | with_reducible rfl)); try simp only [Act.put, List.setIfInBounds_toArray, List.set_cons_zero, List.set_cons_succ]) | (refine takeG 1 rfl (by decide +kernel) (by decide +kernel) (by decide +kernel) (fun _ _ _ h => h) (Or.inr ⟨by rfl, rfl⟩) ?_; try simp only [Act.put, List.setIfInBounds_toArray, List.set_cons_zero, List.set_cons_succ]) | skip); (first | (refine takeG 2 (v := ?_) rfl (by decide +kernel) (by decide +kernel) (by decide +kernel) (fun _ _ _ h => h) (Or.inl ⟨by rfl, ?_⟩) ?_; rotate_left 1; (focus (intro W hW; go_simp; first | done | with_reducible rfl)); try simp only [Act.put, List.setIfInBounds_toArray, List.set_cons_zero, List.set_cons_succ]) | (refine takeG 2 rfl (by decide +kernel) (by decide +kernel) (by decide +kernel) (fun _ _ _ h => h) (Or.inr ⟨by rfl, rfl⟩) ?_; try simp only [Act.put, List.setIfInBounds_toArray, List.set_cons_zero, List.set_cons_succ]) | skip); (first | (refine takeG 3 (v := ?_) rfl (by decide +kernel) (by decide +kernel) (by decide +kernel) (fun _ _ _ h => h) (Or.inl ⟨by rfl, ?_⟩) ?_; rotate_left 1; (focus (intro W hW; go_simp; first | done | with_reducible rfl)); try simp only [Act.put, List.setIfInBounds_toArray, List.set_cons_zero, List.set_cons_succ]) | (refine takeG 3 rfl (by decide +kernel) (by decide +kernel) (by decide +kernel) (fun _ _ _ h => h) (Or.inr ⟨by rfl, rfl⟩) ?_; try simp only [Act.put, List.setIfInBounds_toArray, List.set_cons_zero, List.set_cons_succ]) | skip); (first | (refine takeG 4 (v := ?_) rfl (by decide +kernel) (by decide +kernel) (by decide +kernel) (fun _ _ _ h => h) (Or.inl ⟨by rfl, ?_⟩) ?_; rotate_left 1; (focus (intro W hW; go_simp; first | done | with_reducible rfl)); try simp only [Act.put, List.setIfInBounds_toArray, List.set_cons_zero, List.set_cons_succ]) | (refine takeG 4 rfl (by decide +kernel) (by decide +kernel) (by decide +kernel) (fun _ _ _ h => h) (Or.inr ⟨by rfl, rfl⟩) ?_; try simp only [Act.put, List.setIfInBounds_toArray, List.set_cons_zero, List.set_cons_succ]) | skip); (first | (refine takeG 5 (v := ?_) rfl (by decide +kernel) (by decide +kernel) (by decide +kernel) (fun _ _ _ h => h) (Or.inl ⟨by rfl, ?_⟩) ?_; rotate_left 1; (focus (intro W hW; go_simp; first | done | with_reducible rfl)); try simp only [Act.put, List.setIfInBounds_toArray, List.set_cons_zero, List.set_cons_succ]) | (refine takeG 5 rfl (by decide +kernel) (by decide +kernel) (by decide +kernel) (fun _ _ _ h => h) (Or.inr ⟨by rfl, rfl⟩) ?_; try simp only [Act.put, List.setIfInBounds_toArray, List.set_cons_zero, List.set_cons_succ]) | skip); (first | (refine takeG 6 (v := ?_) rfl (by decide +kernel) (by decide +kernel) (by decide +kernel) (fun _ _ _ h => h) (Or.inl ⟨by rfl, ?_⟩) ?_; rotate_left 1; (focus (intro W hW; go_simp; first | done | with_reducible rfl)); try simp only [Act.put, List.setIfInBounds_toArray, List.set_cons_zero, List.set_cons_succ]) | (refine takeG 6 rfl (by decide +kernel) (by decide +kernel) (by decide +kernel) (fun _ _ _ h => h) (Or.inr ⟨by rfl, rfl⟩) ?_; try simp only [Act.put, List.setIfInBounds_toArray, List.set_cons_zero, List.set_cons_succ]) | skip); (first | (refine takeG 7 (v := ?_) rfl (by decide +kernel) (by decide +kernel) (by decide +kernel) (fun _ _ _ h => h) (Or.inl ⟨by rfl, ?_⟩) ?_; rotate_left 1; (focus (intro W hW; go_simp; first | done | with_reducible rfl)); try simp only [Act.put, List.setIfInBounds_toArray, List.set_cons_zero, List.set_cons_succ]) | (refine takeG 7 rfl (by decide +kernel) (by decide +kernel) (by decide +kernel) (fun _ _ _ h => h) (Or.inr ⟨by rfl, rfl⟩) ?_; try simp only [Act.put, List.setIfInBounds_toArray, List.set_cons_zero, List.set_cons_succ]) | skip); (first | (refine takeG 8 (v := ?_) rfl (by decide +kernel) (by decide +kernel) (by decide +kernel) (fun _ _ _ h => h) (Or.inl ⟨by rfl, ?_⟩) ?_; rotate_left 1; (focus (intro W hW; go_simp; first | done | with_reducible rfl)); try simp only [Act.put, List.setIfInBounds_toArray, List.set_cons_zero, List.set_cons_succ]) | (refine takeG 8 rfl (by decide +kernel) (by decide +kernel) (by decide +kernel) (fun _ _ _ h => h) (Or.inr ⟨by rfl, rfl⟩) ?_; try simp only [Act.put, List.setIfInBounds_toArray, List.set_cons_zero, List.set_cons_succ]) | skip); (first | (refine takeG 9 (v := ?_) rfl (by decide +kernel) (by decide +kernel) (by decide +kernel) (fun _ _ _ h => h) (Or.inl ⟨by rfl, ?_⟩) ?_; rotate_left 1; (focus (intro W hW; go_simp; first | done | with_reducible rfl)); try simp only [Act.put, List.setIfInBounds_toArray, List.set_cons_zero, List.set_cons_succ]) | (refine takeG 9 rfl (by decide +kernel) (by decide +kernel) (by decide +kernel) (fun _ _ _ h => h) (Or.inr ⟨by rfl, rfl⟩) ?_; try simp only [Act.put, List.setIfInBounds_toArray, List.set_cons_zero, List.set_cons_succ]) | skip); (first | (refine takeG 10 (v := ?_) rfl (by decide +kernel) (by decide +kernel) (by decide +kernel) (fun _ _ _ h => h) (Or.inl ⟨by rfl, ?_⟩) ?_; rotate_left 1; (focus (intro W hW; go_simp; first | done | with_reducible rfl)); try simp only [Act.put, List.setIfInBounds_toArray, List.set_cons_zero, List.set_cons_succ]) | (refine takeG 10 rfl (by decide +kernel) (by decide +kernel) (by decide +kernel) (fun _ _ _ h => h) (Or.inr ⟨by rfl, rfl⟩) ?_; try simp only [Act.put, List.setIfInBounds_toArray, List.set_cons_zero, List.set_cons_succ]) | skip); (first | (refine takeG 11 (v := ?_) rfl (by decide +kernel) (by decide +kernel) (by decide +kernel) (fun _ _ _ h => h) (Or.inl ⟨by rfl, ?_⟩) ?_; rotate_left 1; (focus (intro W hW; go_simp; first | done | with_reducible rfl)); try simp only [Act.put, List.setIfInBounds_toArray, List.set_cons_zero, List.set_cons_succ]) | (refine takeG 11 rfl (by decide +kernel) (by decide +kernel) (by decide +kernel) (fun _ _ _ h => h) (Or.inr ⟨by rfl, rfl⟩) ?_; try simp only [Act.put, List.setIfInBounds_toArray, List.set_cons_zero, List.set_cons_succ]) | skip); (first | (refine takeG 12 (v := ?_) rfl (by decide +kernel) (by decide +kernel) (by decide +kernel) (fun _ _ _ h => h) (Or.inl ⟨by rfl, ?_⟩) ?_; rotate_left 1; (focus (intro W hW; go_simp; first | done | with_reducible rfl)); try simp only [Act.put, List.setIfInBounds_toArray, List.set_cons_zero, List.set_cons_succ]) | (refine takeG 12 rfl (by decide +kernel) (by decide +kernel) (by decide +kernel) (fun _ _ _ h => h) (Or.inr ⟨by rfl, rfl⟩) ?_; try simp only [Act.put, List.setIfInBounds_toArray, List.set_cons_zero, List.set_cons_succ]) | skip); (first | (refine takeG 13 (v := ?_) rfl (by decide +kernel) (by decide +kernel) (by decide +kernel) (fun _ _ _ h => h) (Or.inl ⟨by rfl, ?_⟩) ?_; rotate_left 1; (focus (intro W hW; go_simp; first | done | with_reducible rfl)); try simp only [Act.put, List.setIfInBounds_toArray, List.set_cons_zero, List.set_cons_succ]) | (refine takeG 13 rfl (by decide +kernel) (by decide +kernel) (by decide +kernel) (fun _ _ _ h => h) (Or.inr ⟨by rfl, rfl⟩) ?_; try simp only [Act.put, List.setIfInBounds_toArray, List.set_cons_zero, List.set_cons_succ]) | skip); (first | (refine takeG 14 (v := ?_) rfl (by decide +kernel) (by decide +kernel) (by decide +kernel) (fun _ _ _ h => h) (Or.inl ⟨by rfl, ?_⟩) ?_; rotate_left 1; (focus (intro W hW; go_simp; first | done | with_reducible rfl)); try simp only [Act.put, List.setIfInBounds_toArray, List.set_cons_zero, List.set_cons_succ]) | (refine takeG 14 rfl (by decide +kernel) (by decide +kernel) (by decide +kernel) (fun _ _ _ h => h) (Or.inr ⟨by rfl, rfl⟩) ?_; try simp only [Act.put, List.setIfInBounds_toArray, List.set_cons_zero, List.set_cons_succ]) | skip))
    refine doneG (by kernel_rfl) ?_
    go_wp2
    go_ret2
    exact ⟨_, _, rfl, Rd.nil _ _, b1⟩
  · rw [hv, ifV_true] at kl
    have hdv := validL_decL zs
    have hdl : (decL zs).length ≤ 100000 := by rw [decL_len]; omega
    replace hcontent := fun u => hcontent u hv
    generalize decL zs = ds at kl hdv hdl hnosync hnostuff hcontent
    have KL := Lib.hid kl
    clear kl hv hzl hbad he
    rcases Nat.lt_or_ge ds.length 8 with h8 | h8
    · have t8 : (ds.length : Int) < 8 := by omega
      have hr := hnosync (fun hh => by have := congrArg List.length hh; rw [List.length_take] at this; simp [syncL] at this; omega)
      subst hr
      clear hnosync hnostuff hcontent
      go_enter Tryz.func23, Tryz.ntmps23
      go_wp2_with fail
      refine KL.out.mono ?_
      rintro e w1 ⟨A1, d1, rfl, r1, b1⟩
      have b1 : Below w.heap.size w w1.drew := b1.drew
      go_wp2_with fail
      refine startG 15 (l := #[false, false, false, false, false, false, false, false, false, false, false, false, false, false, false]) (by kernel_rfl) rfl rfl ?_
      ((first | (refine takeG 0 (v := ?_) rfl (by decide +kernel) (by decide +kernel) (by decide +kernel) (fun _ _ _ h => h) (Or.inl ⟨by rfl, ?_⟩) ?_; rotate_left 1; (focus (intro W hW; go_simp; first | done | with_reducible rfl)); try simp only [Act.put, List.setIfInBounds_toArray, List.set_cons_zero, List.set_cons_succ]) | (refine takeG 0 rfl (by decide +kernel) (by decide +kernel) (by decide +kernel) (fun _ _ _ h => h) (Or.inr ⟨by rfl, rfl⟩) ?_; try simp only [Act.put, List.setIfInBounds_toArray, List.set_cons_zero, List.set_cons_succ]) | skip); (first | (refine takeG 1 (v := ?_) rfl (by decide +kernel) (by decide +kernel) (by decide +kernel) (fun _ _ _ h => h) (Or.inl ⟨by rfl, ?_⟩) ?_; rotate_left 1; (focus (intro W hW; go_simp; first | done | with_reducible rfl)); try simp only [Act.put, List.setIfInBounds_toArray, List.set_cons_zero, List.set_cons_succ]) | (refine takeG 1 rfl (by decide +kernel) (by decide +kernel) (by decide +kernel) (fun _ _ _ h => h) (Or.inr ⟨by rfl, rfl⟩) ?_; try simp only [Act.put, List.setIfInBounds_toArray, List.set_cons_zero, List.set_cons_succ]) | skip); (first | (refine takeG 2 (v := ?_) rfl (by decide +kernel) (by decide +kernel) (by decide +kernel) (fun _ _ _ h => h) (Or.inl ⟨by rfl, ?_⟩) ?_; rotate_left 1; (focus (intro W hW; go_simp; first | done | with_reducible rfl)); try simp only [Act.put, List.setIfInBounds_toArray, List.set_cons_zero, List.set_cons_succ]) | (refine takeG 2 rfl (by decide +kernel) (by decide +kernel) (by decide +kernel) (fun _ _ _ h => h) (Or.inr ⟨by rfl, rfl⟩) ?_; try simp only [Act.put, List.setIfInBounds_toArray, List.set_cons_zero, List.set_cons_succ]) | skip); (first | (refine takeG 3 (v := ?_) rfl (by decide +kernel) (by decide +kernel) (by decide +kernel) (fun _ _ _ h => h) (Or.inl ⟨by rfl, ?_⟩) ?_; rotate_left 1; (focus (intro W hW; go_simp; first | done | with_reducible rfl)); try simp only [Act.put, List.setIfInBounds_toArray, List.set_cons_zero, List.set_cons_succ]) | (refine takeG 3 rfl (by decide +kernel) (by decide +kernel) (by decide +kernel) (fun _ _ _ h => h) (Or.inr ⟨by rfl, rfl⟩) ?_; try simp only [Act.put, List.setIfInBounds_toArray, List.set_cons_zero, List.set_cons_succ]) | skip); (first | (refine takeG 4 (v := ?_) rfl (by decide +kernel) (by decide +kernel) (by decide +kernel) (fun _ _ _ h => h) (Or.inl ⟨by rfl, ?_⟩) ?_; rotate_left 1; (focus (intro W hW; go_simp; first | done | with_reducible rfl)); try simp only [Act.put, List.setIfInBounds_toArray, List.set_cons_zero, List.set_cons_succ]) | (refine takeG 4 rfl (by decide +kernel) (by decide +kernel) (by decide +kernel) (fun _ _ _ h => h) (Or.inr ⟨by rfl, rfl⟩) ?_; try simp only [Act.put, List.setIfInBounds_toArray, List.set_cons_zero, List.set_cons_succ]) | skip); (first | (refine takeG 5 (v := ?_) rfl (by decide +kernel) (by decide +kernel) (by decide +kernel) (fun _ _ _ h => h) (Or.inl ⟨by rfl, ?_⟩) ?_; rotate_left 1; (focus (intro W hW; go_simp; first | done | with_reducible rfl)); try simp only [Act.put, List.setIfInBounds_toArray, List.set_cons_zero, List.set_cons_succ]) | (refine takeG 5 rfl (by decide +kernel) (by decide +kernel) (by decide +kernel) (fun _ _ _ h => h) (Or.inr ⟨by rfl, rfl⟩) ?_; try simp only [Act.put, List.setIfInBounds_toArray, List.set_cons_zero, List.set_cons_succ]) | skip); (first | (refine takeG 6 (v := ?_) rfl (by decide +kernel) (by decide +kernel) (by decide +kernel) (fun _ _ _ h => h) (Or.inl ⟨by rfl, ?_⟩) ?_; rotate_left 1; (focus (intro W hW; go_simp; first | done | with_reducible rfl)); try simp only [Act.put, List.setIfInBounds_toArray, List.set_cons_zero, List.set_cons_succ]) | (refine takeG 6 rfl (by decide +kernel) (by decide +kernel) (by decide +kernel) (fun _ _ _ h => h) (Or.inr ⟨by rfl, rfl⟩) ?_; try simp only [Act.put, List.setIfInBounds_toArray, List.set_cons_zero, List.set_cons_succ]) | skip); (first | (refine takeG 7 (v := ?_) rfl (by decide +kernel) (by decide +kernel) (by decide +kernel) (fun _ _ _ h => h) (Or.inl ⟨by rfl, ?_⟩) ?_; rotate_left 1; (focus (intro W hW; go_simp; first | done | with_reducible rfl)); try simp only [Act.put, List.setIfInBounds_toArray, List.set_cons_zero, List.set_cons_succ]) | (refine takeG 7 rfl (by decide +kernel) (by decide +kernel) (by decide +kernel) (fun _ _ _ h => h) (Or.inr ⟨by rfl, rfl⟩) ?_; try simp only [Act.put, List.setIfInBounds_toArray, List.set_cons_zero, List.set_cons_succ]) | skip); (first | (refine takeG 8 (v := ?_) rfl (by decide +kernel) (by decide +kernel) (by decide +kernel) (fun _ _ _ h => h) (Or.inl ⟨by rfl, ?_⟩) ?_; rotate_left 1; (focus (intro W hW; go_simp; first | done | with_reducible rfl)); try simp only [Act.put, List.setIfInBounds_toArray, List.set_cons_zero, List.set_cons_succ]) | (refine takeG 8 rfl (by decide +kernel) (by decide +kernel) (by decide +kernel) (fun _ _ _ h => h) (Or.inr ⟨by rfl, rfl⟩) ?_; try simp only [Act.put, List.setIfInBounds_toArray, List.set_cons_zero, List.set_cons_succ]) | skip); (first | (refine takeG 9 (v := ?_) rfl (by decide +kernel) (by decide +kernel) (by decide +kernel) (fun _ _ _ h => h) (Or.inl ⟨by rfl, ?_⟩) ?_; rotate_left 1; (focus (intro W hW; go_simp; first | done | with_reducible rfl)); try simp only [Act.put, List.setIfInBounds_toArray, List.set_cons_zero, List.set_cons_succ]) | (refine takeG 9 rfl (by decide +kernel) (by decide +kernel) (by decide +kernel) (fun _ _ _ h => h) (Or.inr ⟨by rfl, rfl⟩) ?_; try simp only [Act.put, List.setIfInBounds_toArray, List.set_cons_zero, List.set_cons_succ]) | skip); (first | (refine takeG 10 (v := ?_) rfl (by decide +kernel) (by decide +kernel) (by decide +kernel) (fun _ _ _ h => h) (Or.inl ⟨by rfl, ?_⟩) ?_; rotate_left 1; (focus (intro W hW; go_simp; first | done | with_reducible rfl)); try simp only [Act.put, List.setIfInBounds_toArray, List.set_cons_zero, List.set_cons_succ]) | (refine takeG 10 rfl (by decide +kernel) (by decide +kernel) (by decide +kernel) (fun _ _ _ h => h) (Or.inr ⟨by rfl, rfl⟩) ?_; try simp only [Act.put, List.setIfInBounds_toArray, List.set_cons_zero, List.set_cons_succ]) | skip); (first | (refine takeG 11 (v := ?_) rfl (by decide +kernel) (by decide +kernel) (by decide +kernel) (fun _ _ _ h => h) (Or.inl ⟨by rfl, ?_⟩) ?_; rotate_left 1; (focus (intro W hW; go_simp; first | done | with_reducible rfl)); try simp only [Act.put, List.setIfInBounds_toArray, List.set_cons_zero, List.set_cons_succ]) | (refine takeG 11 rfl (by decide +kernel) (by decide +kernel) (by decide +kernel) (fun _ _ _ h => h) (Or.inr ⟨by rfl, rfl⟩) ?_; try simp only [Act.put, List.setIfInBounds_toArray, List.set_cons_zero, List.set_cons_succ]) | skip); (first | (refine takeG 12 (v := ?_) rfl (by decide +kernel) (by decide +kernel) (by decide +kernel) (fun _ _ _ h => h) (Or.inl ⟨by rfl, ?_⟩) ?_; rotate_left 1; (focus (intro W hW; go_simp; first | done | with_reducible rfl)); try simp only [Act.put, List.setIfInBounds_toArray, List.set_cons_zero, List.set_cons_succ]) | (refine takeG 12 rfl (by decide +kernel) (by decide +kernel) (by decide +kernel) (fun _ _ _ h => h) (Or.inr ⟨by rfl, rfl⟩) ?_; try simp only [Act.put, List.setIfInBounds_toArray, List.set_cons_zero, List.set_cons_succ]) | skip); (first | (refine takeG 13 (v := ?_) rfl (by decide +kernel) (by decide +kernel) (by decide +kernel) (fun _ _ _ h => h) (Or.inl ⟨by rfl, ?_⟩) ?_; rotate_left 1; (focus (intro W hW; go_simp; first | done | with_reducible rfl)); try simp only [Act.put, List.setIfInBounds_toArray, List.set_cons_zero, List.set_cons_succ]) | (refine takeG 13 rfl (by decide +kernel) (by decide +kernel) (by decide +kernel) (fun _ _ _ h => h) (Or.inr ⟨by rfl, rfl⟩) ?_; try simp only [Act.put, List.setIfInBounds_toArray, List.set_cons_zero, List.set_cons_succ]) | skip); (first | (refine takeG 14 (v := ?_) rfl (by decide +kernel) (by decide +kernel) (by decide +kernel) (fun _ _ _ h => h) (Or.inl ⟨by rfl, ?_⟩) ?_; rotate_left 1; (focus (intro W hW; go_simp; first | done | with_reducible rfl)); try simp only [Act.put, List.setIfInBounds_toArray, List.set_cons_zero, List.set_cons_succ]) | (refine takeG 14 rfl (by decide +kernel) (by decide +kernel) (by decide +kernel) (fun _ _ _ h => h) (Or.inr ⟨by rfl, rfl⟩) ?_; try simp only [Act.put, List.setIfInBounds_toArray, List.set_cons_zero, List.set_cons_succ]) | skip))
      refine doneG (by kernel_rfl) ?_
      go_wp2
      go_ret2
      exact ⟨_, _, rfl, Rd.nil _ _, b1⟩
    · have t8 : decide ((ds.length : Int) < 8) = false := by rw [decide_eq_false_iff_not]; omega
      have hl8 : (ds.take 8).length = 8 := by rw [List.length_take]; omega
      by_cases hsy : ds.take 8 = syncL
      · have hsc := fun u => hcontent u hsy
        have hku := fun (W : World) (A : Option Addr) (c : Nat) (h : Rd W W.heap.size A c ds) => refUnstuff_any W A c ds h hdl hdv
        cases hu : unstuffL ds with
        | none =>
          rw [hu] at hku
          have hr := hnostuff hu
          subst hr
          have KU : Hid (∀ (W : World) (A : Option Addr) (c : Nat), Rd W W.heap.size A c ds → Calls Tryz.prog 52 #[.slice A ds.length c] W (ResT W [] false)) := hku
          clear hku hu hsc hcontent hnosync hnostuff hdv
          go_enter Tryz.func23, Tryz.ntmps23
          go_wp2_with fail
          refine KL.out.mono ?_
          rintro e w1 ⟨A1, d1, rfl, r1, b1⟩
          have q1 : Rd w1.drew w1.drew.heap.size A1 d1 ds := r1.drew
          have b1 : Below w.heap.size w w1.drew := b1.drew
          have hle1 := r1.le
          have hs8 := fun (W : World) => slice_h A1 ds.length d1 8 W (by omega) (by omega)
          rw [show (8 : Int).toNat = 8 from rfl] at hs8
          have hq8 := (q1.take (k := 8) h8).cvs
          rw [hl8, hsy] at hq8
          generalize hsz : syncL = sy at hq8
          have Hsz := Lib.hid hsz
          clear hsz hsl
          go_wp2_with fail
          refine startG 15 (l := #[false, false, false, false, false, false, false, false, false, false, false, false, false, false, false]) (by kernel_rfl) rfl rfl ?_
          generalize w1.drew = w2 at q1 b1 hq8 ⊢
          ((first | (refine takeG 0 (v := ?_) rfl (by decide +kernel) (by decide +kernel) (by decide +kernel) (fun _ _ _ h => h) (Or.inl ⟨by rfl, ?_⟩) ?_; rotate_left 1; (focus (intro W hW; go_simp; first | done | with_reducible rfl)); try simp only [Act.put, List.setIfInBounds_toArray, List.set_cons_zero, List.set_cons_succ]) | (refine takeG 0 rfl (by decide +kernel) (by decide +kernel) (by decide +kernel) (fun _ _ _ h => h) (Or.inr ⟨by rfl, rfl⟩) ?_; try simp only [Act.put, List.setIfInBounds_toArray, List.set_cons_zero, List.set_cons_succ]) | skip); (first | (refine takeG 1 (v := ?_) rfl (by decide +kernel) (by decide +kernel) (by decide +kernel) (fun _ _ _ h => h) (Or.inl ⟨by rfl, ?_⟩) ?_; rotate_left 1; (focus (intro W hW; go_simp; first | done | with_reducible rfl)); try simp only [Act.put, List.setIfInBounds_toArray, List.set_cons_zero, List.set_cons_succ]) | (refine takeG 1 rfl (by decide +kernel) (by decide +kernel) (by decide +kernel) (fun _ _ _ h => h) (Or.inr ⟨by rfl, rfl⟩) ?_; try simp only [Act.put, List.setIfInBounds_toArray, List.set_cons_zero, List.set_cons_succ]) | skip); (first | (refine takeG 2 (v := ?_) rfl (by decide +kernel) (by decide +kernel) (by decide +kernel) (fun _ _ _ h => h) (Or.inl ⟨by rfl, ?_⟩) ?_; rotate_left 1; (focus (intro W hW; go_simp; first | done | with_reducible rfl)); try simp only [Act.put, List.setIfInBounds_toArray, List.set_cons_zero, List.set_cons_succ]) | (refine takeG 2 rfl (by decide +kernel) (by decide +kernel) (by decide +kernel) (fun _ _ _ h => h) (Or.inr ⟨by rfl, rfl⟩) ?_; try simp only [Act.put, List.setIfInBounds_toArray, List.set_cons_zero, List.set_cons_succ]) | skip); (first | (refine takeG 3 (v := ?_) rfl (by decide +kernel) (by decide +kernel) (by decide +kernel) (fun _ _ _ h => h) (Or.inl ⟨by rfl, ?_⟩) ?_; rotate_left 1; (focus (intro W hW; go_simp; first | done | with_reducible rfl)); try simp only [Act.put, List.setIfInBounds_toArray, List.set_cons_zero, List.set_cons_succ]) | (refine takeG 3 rfl (by decide +kernel) (by decide +kernel) (by decide +kernel) (fun _ _ _ h => h) (Or.inr ⟨by rfl, rfl⟩) ?_; try simp only [Act.put, List.setIfInBounds_toArray, List.set_cons_zero, List.set_cons_succ]) | skip); (first | (refine takeG 4 (v := ?_) rfl (by decide +kernel) (by decide +kernel) (by decide +kernel) (fun _ _ _ h => h) (Or.inl ⟨by rfl, ?_⟩) ?_; rotate_left 1; (focus (intro W hW; go_simp; first | done | with_reducible rfl)); try simp only [Act.put, List.setIfInBounds_toArray, List.set_cons_zero, List.set_cons_succ]) | (refine takeG 4 rfl (by decide +kernel) (by decide +kernel) (by decide +kernel) (fun _ _ _ h => h) (Or.inr ⟨by rfl, rfl⟩) ?_; try simp only [Act.put, List.setIfInBounds_toArray, List.set_cons_zero, List.set_cons_succ]) | skip); (first | (refine takeG 5 (v := ?_) rfl (by decide +kernel) (by decide +kernel) (by decide +kernel) (fun _ _ _ h => h) (Or.inl ⟨by rfl, ?_⟩) ?_; rotate_left 1; (focus (intro W hW; go_simp; first | done | with_reducible rfl)); try simp only [Act.put, List.setIfInBounds_toArray, List.set_cons_zero, List.set_cons_succ]) | (refine takeG 5 rfl (by decide +kernel) (by decide +kernel) (by decide +kernel) (fun _ _ _ h => h) (Or.inr ⟨by rfl, rfl⟩) ?_; try simp only [Act.put, List.setIfInBounds_toArray, List.set_cons_zero, List.set_cons_succ]) | skip); (first | (refine takeG 6 (v := ?_) rfl (by decide +kernel) (by decide +kernel) (by decide +kernel) (fun _ _ _ h => h) (Or.inl ⟨by rfl, ?_⟩) ?_; rotate_left 1; (focus (intro W hW; go_simp; first | done | with_reducible rfl)); try simp only [Act.put, List.setIfInBounds_toArray, List.set_cons_zero, List.set_cons_succ]) | (refine takeG 6 rfl (by decide +kernel) (by decide +kernel) (by decide +kernel) (fun _ _ _ h => h) (Or.inr ⟨by rfl, rfl⟩) ?_; try simp only [Act.put, List.setIfInBounds_toArray, List.set_cons_zero, List.set_cons_succ]) | skip); (first | (refine takeG 7 (v := ?_) rfl (by decide +kernel) (by decide +kernel) (by decide +kernel) (fun _ _ _ h => h) (Or.inl ⟨by rfl, ?_⟩) ?_; rotate_left 1; (focus (intro W hW; go_simp; first | done | with_reducible rfl)); try simp only [Act.put, List.setIfInBounds_toArray, List.set_cons_zero, List.set_cons_succ]) | (refine takeG 7 rfl (by decide +kernel) (by decide +kernel) (by decide +kernel) (fun _ _ _ h => h) (Or.inr ⟨by rfl, rfl⟩) ?_; try simp only [Act.put, List.setIfInBounds_toArray, List.set_cons_zero, List.set_cons_succ]) | skip); (first | (refine takeG 8 (v := ?_) rfl (by decide +kernel) (by decide +kernel) (by decide +kernel) (fun _ _ _ h => h) (Or.inl ⟨by rfl, ?_⟩) ?_; rotate_left 1; (focus (intro W hW; go_simp; first | done | with_reducible rfl)); try simp only [Act.put, List.setIfInBounds_toArray, List.set_cons_zero, List.set_cons_succ]) | (refine takeG 8 rfl (by decide +kernel) (by decide +kernel) (by decide +kernel) (fun _ _ _ h => h) (Or.inr ⟨by rfl, rfl⟩) ?_; try simp only [Act.put, List.setIfInBounds_toArray, List.set_cons_zero, List.set_cons_succ]) | skip); (first | (refine takeG 9 (v := ?_) rfl (by decide +kernel) (by decide +kernel) (by decide +kernel) (fun _ _ _ h => h) (Or.inl ⟨by rfl, ?_⟩) ?_; rotate_left 1; (focus (intro W hW; go_simp; first | done | with_reducible rfl)); try simp only [Act.put, List.setIfInBounds_toArray, List.set_cons_zero, List.set_cons_succ]) | (refine takeG 9 rfl (by decide +kernel) (by decide +kernel) (by decide +kernel) (fun _ _ _ h => h) (Or.inr ⟨by rfl, rfl⟩) ?_; try simp only [Act.put, List.setIfInBounds_toArray, List.set_cons_zero, List.set_cons_succ]) | skip); (first | (refine takeG 10 (v := ?_) rfl (by decide +kernel) (by decide +kernel) (by decide +kernel) (fun _ _ _ h => h) (Or.inl ⟨by rfl, ?_⟩) ?_; rotate_left 1; (focus (intro W hW; go_simp; first | done | with_reducible rfl)); try simp only [Act.put, List.setIfInBounds_toArray, List.set_cons_zero, List.set_cons_succ]) | (refine takeG 10 rfl (by decide +kernel) (by decide +kernel) (by decide +kernel) (fun _ _ _ h => h) (Or.inr ⟨by rfl, rfl⟩) ?_; try simp only [Act.put, List.setIfInBounds_toArray, List.set_cons_zero, List.set_cons_succ]) | skip); (first | (refine takeG 12 (v := ?_) rfl (by decide +kernel) (by decide +kernel) (by decide +kernel) (fun _ _ _ h => h) (Or.inl ⟨by rfl, ?_⟩) ?_; rotate_left 1; (focus (intro W hW; go_simp; first | done | with_reducible rfl)); try simp only [Act.put, List.setIfInBounds_toArray, List.set_cons_zero, List.set_cons_succ]) | (refine takeG 12 rfl (by decide +kernel) (by decide +kernel) (by decide +kernel) (fun _ _ _ h => h) (Or.inr ⟨by rfl, rfl⟩) ?_; try simp only [Act.put, List.setIfInBounds_toArray, List.set_cons_zero, List.set_cons_succ]) | skip); (first | (refine takeG 13 (v := ?_) rfl (by decide +kernel) (by decide +kernel) (by decide +kernel) (fun _ _ _ h => h) (Or.inl ⟨by rfl, ?_⟩) ?_; rotate_left 1; (focus (intro W hW; go_simp; first | done | with_reducible rfl)); try simp only [Act.put, List.setIfInBounds_toArray, List.set_cons_zero, List.set_cons_succ]) | (refine takeG 13 rfl (by decide +kernel) (by decide +kernel) (by decide +kernel) (fun _ _ _ h => h) (Or.inr ⟨by rfl, rfl⟩) ?_; try simp only [Act.put, List.setIfInBounds_toArray, List.set_cons_zero, List.set_cons_succ]) | skip); (first | (refine takeG 14 (v := ?_) rfl (by decide +kernel) (by decide +kernel) (by decide +kernel) (fun _ _ _ h => h) (Or.inl ⟨by rfl, ?_⟩) ?_; rotate_left 1; (focus (intro W hW; go_simp; first | done | with_reducible rfl)); try simp only [Act.put, List.setIfInBounds_toArray, List.set_cons_zero, List.set_cons_succ]) | (refine takeG 14 rfl (by decide +kernel) (by decide +kernel) (by decide +kernel) (fun _ _ _ h => h) (Or.inr ⟨by rfl, rfl⟩) ?_; try simp only [Act.put, List.setIfInBounds_toArray, List.set_cons_zero, List.set_cons_succ]) | skip))
          refine stepG 11 rfl (by decide +kernel) (by rfl) ?_
          intro K hK
          go_simp
          refine (sync_any _).mono ?_
          rintro e w3 ⟨v3, rfl, ho3, b3⟩
          rw [Hsz.out] at ho3
          obtain ⟨A3, d3, rfl, r3⟩ := Rd.of_own ho3
          refine hK _ _ b3 ?_
          clear hK K hq8 ho3
          try simp only [Act.put, List.setIfInBounds_toArray, List.set_cons_zero, List.set_cons_succ]
          have q1 := q1.belowTop b3
          have b3 := b1.trans (b3.mono b1.size)
          have hq3 := r3.cvs
          ((first | (refine takeG 12 (v := ?_) rfl (by decide +kernel) (by decide +kernel) (by decide +kernel) (fun _ _ _ h => h) (Or.inl ⟨by rfl, ?_⟩) ?_; rotate_left 1; (focus (intro W hW; go_simp; first | done | with_reducible rfl)); try simp only [Act.put, List.setIfInBounds_toArray, List.set_cons_zero, List.set_cons_succ]) | (refine takeG 12 rfl (by decide +kernel) (by decide +kernel) (by decide +kernel) (fun _ _ _ h => h) (Or.inr ⟨by rfl, rfl⟩) ?_; try simp only [Act.put, List.setIfInBounds_toArray, List.set_cons_zero, List.set_cons_succ]) | skip); (first | (refine takeG 13 (v := ?_) rfl (by decide +kernel) (by decide +kernel) (by decide +kernel) (fun _ _ _ h => h) (Or.inl ⟨by rfl, ?_⟩) ?_; rotate_left 1; (focus (intro W hW; go_simp; first | done | with_reducible rfl)); try simp only [Act.put, List.setIfInBounds_toArray, List.set_cons_zero, List.set_cons_succ]) | (refine takeG 13 rfl (by decide +kernel) (by decide +kernel) (by decide +kernel) (fun _ _ _ h => h) (Or.inr ⟨by rfl, rfl⟩) ?_; try simp only [Act.put, List.setIfInBounds_toArray, List.set_cons_zero, List.set_cons_succ]) | skip); (first | (refine takeG 14 (v := ?_) rfl (by decide +kernel) (by decide +kernel) (by decide +kernel) (fun _ _ _ h => h) (Or.inl ⟨by rfl, ?_⟩) ?_; rotate_left 1; (focus (intro W hW; go_simp; first | done | with_reducible rfl)); try simp only [Act.put, List.setIfInBounds_toArray, List.set_cons_zero, List.set_cons_succ]) | (refine takeG 14 rfl (by decide +kernel) (by decide +kernel) (by decide +kernel) (fun _ _ _ h => h) (Or.inr ⟨by rfl, rfl⟩) ?_; try simp only [Act.put, List.setIfInBounds_toArray, List.set_cons_zero, List.set_cons_succ]) | skip))
          refine doneG (by kernel_rfl) ?_
          clear hq3
          go_wp2_with fail
          refine (KU.out _ _ _ q1).mono ?_
          rintro e w4 ⟨A4, d4, rfl, r4, b4⟩
          have b4 := b3.trans (b4.mono b3.size)
          go_wp2
          go_ret2
          exact ⟨_, _, rfl, Rd.nil _ _, b4⟩
        | some u =>
          rw [hu] at hku
          have hr := hsc u hu
          obtain ⟨_, hu8⟩ := sync_fwd ds u hsy hu
          obtain ⟨huv, hul⟩ := unstuffL_props ds hdv u hu
          subst hr
          have KU : Hid (∀ (W : World) (A : Option Addr) (c : Nat), Rd W W.heap.size A c ds → Calls Tryz.prog 52 #[.slice A ds.length c] W (ResT W u true)) := hku
          have hqv := validL_drop u 8 huv
          have hdl8 : (u.drop 8).length = u.length - 8 := by rw [List.length_drop]
          have htk : (u.take u.length).drop 8 = u.drop 8 := by rw [List.take_length]
          clear hku hu hsc hcontent hnosync hnostuff hdv huv
          go_enter Tryz.func23, Tryz.ntmps23
          go_wp2_with fail
          refine KL.out.mono ?_
          rintro e w1 ⟨A1, d1, rfl, r1, b1⟩
          have q1 : Rd w1.drew w1.drew.heap.size A1 d1 ds := r1.drew
          have b1 : Below w.heap.size w w1.drew := b1.drew
          have hle1 := r1.le
          have hs8 := fun (W : World) => slice_h A1 ds.length d1 8 W (by omega) (by omega)
          rw [show (8 : Int).toNat = 8 from rfl] at hs8
          have hq8 := (q1.take (k := 8) h8).cvs
          rw [hl8, hsy] at hq8
          generalize hsz : syncL = sy at hq8
          have Hsz := Lib.hid hsz
          have Htk := Lib.hid htk
          have Hdl8 := Lib.hid hdl8
          have Hqv := Lib.hid hqv
          clear hsz hsl htk hdl8 hqv
          go_wp2_with fail
          refine startG 15 (l := #[false, false, false, false, false, false, false, false, false, false, false, false, false, false, false]) (by kernel_rfl) rfl rfl ?_
          generalize w1.drew = w2 at q1 b1 hq8 ⊢
          ((first | (refine takeG 0 (v := ?_) rfl (by decide +kernel) (by decide +kernel) (by decide +kernel) (fun _ _ _ h => h) (Or.inl ⟨by rfl, ?_⟩) ?_; rotate_left 1; (focus (intro W hW; go_simp; first | done | with_reducible rfl)); try simp only [Act.put, List.setIfInBounds_toArray, List.set_cons_zero, List.set_cons_succ]) | (refine takeG 0 rfl (by decide +kernel) (by decide +kernel) (by decide +kernel) (fun _ _ _ h => h) (Or.inr ⟨by rfl, rfl⟩) ?_; try simp only [Act.put, List.setIfInBounds_toArray, List.set_cons_zero, List.set_cons_succ]) | skip); (first | (refine takeG 1 (v := ?_) rfl (by decide +kernel) (by decide +kernel) (by decide +kernel) (fun _ _ _ h => h) (Or.inl ⟨by rfl, ?_⟩) ?_; rotate_left 1; (focus (intro W hW; go_simp; first | done | with_reducible rfl)); try simp only [Act.put, List.setIfInBounds_toArray, List.set_cons_zero, List.set_cons_succ]) | (refine takeG 1 rfl (by decide +kernel) (by decide +kernel) (by decide +kernel) (fun _ _ _ h => h) (Or.inr ⟨by rfl, rfl⟩) ?_; try simp only [Act.put, List.setIfInBounds_toArray, List.set_cons_zero, List.set_cons_succ]) | skip); (first | (refine takeG 2 (v := ?_) rfl (by decide +kernel) (by decide +kernel) (by decide +kernel) (fun _ _ _ h => h) (Or.inl ⟨by rfl, ?_⟩) ?_; rotate_left 1; (focus (intro W hW; go_simp; first | done | with_reducible rfl)); try simp only [Act.put, List.setIfInBounds_toArray, List.set_cons_zero, List.set_cons_succ]) | (refine takeG 2 rfl (by decide +kernel) (by decide +kernel) (by decide +kernel) (fun _ _ _ h => h) (Or.inr ⟨by rfl, rfl⟩) ?_; try simp only [Act.put, List.setIfInBounds_toArray, List.set_cons_zero, List.set_cons_succ]) | skip); (first | (refine takeG 3 (v := ?_) rfl (by decide +kernel) (by decide +kernel) (by decide +kernel) (fun _ _ _ h => h) (Or.inl ⟨by rfl, ?_⟩) ?_; rotate_left 1; (focus (intro W hW; go_simp; first | done | with_reducible rfl)); try simp only [Act.put, List.setIfInBounds_toArray, List.set_cons_zero, List.set_cons_succ]) | (refine takeG 3 rfl (by decide +kernel) (by decide +kernel) (by decide +kernel) (fun _ _ _ h => h) (Or.inr ⟨by rfl, rfl⟩) ?_; try simp only [Act.put, List.setIfInBounds_toArray, List.set_cons_zero, List.set_cons_succ]) | skip); (first | (refine takeG 4 (v := ?_) rfl (by decide +kernel) (by decide +kernel) (by decide +kernel) (fun _ _ _ h => h) (Or.inl ⟨by rfl, ?_⟩) ?_; rotate_left 1; (focus (intro W hW; go_simp; first | done | with_reducible rfl)); try simp only [Act.put, List.setIfInBounds_toArray, List.set_cons_zero, List.set_cons_succ]) | (refine takeG 4 rfl (by decide +kernel) (by decide +kernel) (by decide +kernel) (fun _ _ _ h => h) (Or.inr ⟨by rfl, rfl⟩) ?_; try simp only [Act.put, List.setIfInBounds_toArray, List.set_cons_zero, List.set_cons_succ]) | skip); (first | (refine takeG 5 (v := ?_) rfl (by decide +kernel) (by decide +kernel) (by decide +kernel) (fun _ _ _ h => h) (Or.inl ⟨by rfl, ?_⟩) ?_; rotate_left 1; (focus (intro W hW; go_simp; first | done | with_reducible rfl)); try simp only [Act.put, List.setIfInBounds_toArray, List.set_cons_zero, List.set_cons_succ]) | (refine takeG 5 rfl (by decide +kernel) (by decide +kernel) (by decide +kernel) (fun _ _ _ h => h) (Or.inr ⟨by rfl, rfl⟩) ?_; try simp only [Act.put, List.setIfInBounds_toArray, List.set_cons_zero, List.set_cons_succ]) | skip); (first | (refine takeG 6 (v := ?_) rfl (by decide +kernel) (by decide +kernel) (by decide +kernel) (fun _ _ _ h => h) (Or.inl ⟨by rfl, ?_⟩) ?_; rotate_left 1; (focus (intro W hW; go_simp; first | done | with_reducible rfl)); try simp only [Act.put, List.setIfInBounds_toArray, List.set_cons_zero, List.set_cons_succ]) | (refine takeG 6 rfl (by decide +kernel) (by decide +kernel) (by decide +kernel) (fun _ _ _ h => h) (Or.inr ⟨by rfl, rfl⟩) ?_; try simp only [Act.put, List.setIfInBounds_toArray, List.set_cons_zero, List.set_cons_succ]) | skip); (first | (refine takeG 7 (v := ?_) rfl (by decide +kernel) (by decide +kernel) (by decide +kernel) (fun _ _ _ h => h) (Or.inl ⟨by rfl, ?_⟩) ?_; rotate_left 1; (focus (intro W hW; go_simp; first | done | with_reducible rfl)); try simp only [Act.put, List.setIfInBounds_toArray, List.set_cons_zero, List.set_cons_succ]) | (refine takeG 7 rfl (by decide +kernel) (by decide +kernel) (by decide +kernel) (fun _ _ _ h => h) (Or.inr ⟨by rfl, rfl⟩) ?_; try simp only [Act.put, List.setIfInBounds_toArray, List.set_cons_zero, List.set_cons_succ]) | skip); (first | (refine takeG 8 (v := ?_) rfl (by decide +kernel) (by decide +kernel) (by decide +kernel) (fun _ _ _ h => h) (Or.inl ⟨by rfl, ?_⟩) ?_; rotate_left 1; (focus (intro W hW; go_simp; first | done | with_reducible rfl)); try simp only [Act.put, List.setIfInBounds_toArray, List.set_cons_zero, List.set_cons_succ]) | (refine takeG 8 rfl (by decide +kernel) (by decide +kernel) (by decide +kernel) (fun _ _ _ h => h) (Or.inr ⟨by rfl, rfl⟩) ?_; try simp only [Act.put, List.setIfInBounds_toArray, List.set_cons_zero, List.set_cons_succ]) | skip); (first | (refine takeG 9 (v := ?_) rfl (by decide +kernel) (by decide +kernel) (by decide +kernel) (fun _ _ _ h => h) (Or.inl ⟨by rfl, ?_⟩) ?_; rotate_left 1; (focus (intro W hW; go_simp; first | done | with_reducible rfl)); try simp only [Act.put, List.setIfInBounds_toArray, List.set_cons_zero, List.set_cons_succ]) | (refine takeG 9 rfl (by decide +kernel) (by decide +kernel) (by decide +kernel) (fun _ _ _ h => h) (Or.inr ⟨by rfl, rfl⟩) ?_; try simp only [Act.put, List.setIfInBounds_toArray, List.set_cons_zero, List.set_cons_succ]) | skip); (first | (refine takeG 10 (v := ?_) rfl (by decide +kernel) (by decide +kernel) (by decide +kernel) (fun _ _ _ h => h) (Or.inl ⟨by rfl, ?_⟩) ?_; rotate_left 1; (focus (intro W hW; go_simp; first | done | with_reducible rfl)); try simp only [Act.put, List.setIfInBounds_toArray, List.set_cons_zero, List.set_cons_succ]) | (refine takeG 10 rfl (by decide +kernel) (by decide +kernel) (by decide +kernel) (fun _ _ _ h => h) (Or.inr ⟨by rfl, rfl⟩) ?_; try simp only [Act.put, List.setIfInBounds_toArray, List.set_cons_zero, List.set_cons_succ]) | skip); (first | (refine takeG 12 (v := ?_) rfl (by decide +kernel) (by decide +kernel) (by decide +kernel) (fun _ _ _ h => h) (Or.inl ⟨by rfl, ?_⟩) ?_; rotate_left 1; (focus (intro W hW; go_simp; first | done | with_reducible rfl)); try simp only [Act.put, List.setIfInBounds_toArray, List.set_cons_zero, List.set_cons_succ]) | (refine takeG 12 rfl (by decide +kernel) (by decide +kernel) (by decide +kernel) (fun _ _ _ h => h) (Or.inr ⟨by rfl, rfl⟩) ?_; try simp only [Act.put, List.setIfInBounds_toArray, List.set_cons_zero, List.set_cons_succ]) | skip); (first | (refine takeG 13 (v := ?_) rfl (by decide +kernel) (by decide +kernel) (by decide +kernel) (fun _ _ _ h => h) (Or.inl ⟨by rfl, ?_⟩) ?_; rotate_left 1; (focus (intro W hW; go_simp; first | done | with_reducible rfl)); try simp only [Act.put, List.setIfInBounds_toArray, List.set_cons_zero, List.set_cons_succ]) | (refine takeG 13 rfl (by decide +kernel) (by decide +kernel) (by decide +kernel) (fun _ _ _ h => h) (Or.inr ⟨by rfl, rfl⟩) ?_; try simp only [Act.put, List.setIfInBounds_toArray, List.set_cons_zero, List.set_cons_succ]) | skip); (first | (refine takeG 14 (v := ?_) rfl (by decide +kernel) (by decide +kernel) (by decide +kernel) (fun _ _ _ h => h) (Or.inl ⟨by rfl, ?_⟩) ?_; rotate_left 1; (focus (intro W hW; go_simp; first | done | with_reducible rfl)); try simp only [Act.put, List.setIfInBounds_toArray, List.set_cons_zero, List.set_cons_succ]) | (refine takeG 14 rfl (by decide +kernel) (by decide +kernel) (by decide +kernel) (fun _ _ _ h => h) (Or.inr ⟨by rfl, rfl⟩) ?_; try simp only [Act.put, List.setIfInBounds_toArray, List.set_cons_zero, List.set_cons_succ]) | skip))
          refine stepG 11 rfl (by decide +kernel) (by rfl) ?_
          intro K hK
          go_simp
          refine (sync_any _).mono ?_
          rintro e w3 ⟨v3, rfl, ho3, b3⟩
          rw [Hsz.out] at ho3
          obtain ⟨A3, d3, rfl, r3⟩ := Rd.of_own ho3
          refine hK _ _ b3 ?_
          clear hK K hq8 ho3
          try simp only [Act.put, List.setIfInBounds_toArray, List.set_cons_zero, List.set_cons_succ]
          have q1 := q1.belowTop b3
          have b3 := b1.trans (b3.mono b1.size)
          have hq3 := r3.cvs
          ((first | (refine takeG 12 (v := ?_) rfl (by decide +kernel) (by decide +kernel) (by decide +kernel) (fun _ _ _ h => h) (Or.inl ⟨by rfl, ?_⟩) ?_; rotate_left 1; (focus (intro W hW; go_simp; first | done | with_reducible rfl)); try simp only [Act.put, List.setIfInBounds_toArray, List.set_cons_zero, List.set_cons_succ]) | (refine takeG 12 rfl (by decide +kernel) (by decide +kernel) (by decide +kernel) (fun _ _ _ h => h) (Or.inr ⟨by rfl, rfl⟩) ?_; try simp only [Act.put, List.setIfInBounds_toArray, List.set_cons_zero, List.set_cons_succ]) | skip); (first | (refine takeG 13 (v := ?_) rfl (by decide +kernel) (by decide +kernel) (by decide +kernel) (fun _ _ _ h => h) (Or.inl ⟨by rfl, ?_⟩) ?_; rotate_left 1; (focus (intro W hW; go_simp; first | done | with_reducible rfl)); try simp only [Act.put, List.setIfInBounds_toArray, List.set_cons_zero, List.set_cons_succ]) | (refine takeG 13 rfl (by decide +kernel) (by decide +kernel) (by decide +kernel) (fun _ _ _ h => h) (Or.inr ⟨by rfl, rfl⟩) ?_; try simp only [Act.put, List.setIfInBounds_toArray, List.set_cons_zero, List.set_cons_succ]) | skip); (first | (refine takeG 14 (v := ?_) rfl (by decide +kernel) (by decide +kernel) (by decide +kernel) (fun _ _ _ h => h) (Or.inl ⟨by rfl, ?_⟩) ?_; rotate_left 1; (focus (intro W hW; go_simp; first | done | with_reducible rfl)); try simp only [Act.put, List.setIfInBounds_toArray, List.set_cons_zero, List.set_cons_succ]) | (refine takeG 14 rfl (by decide +kernel) (by decide +kernel) (by decide +kernel) (fun _ _ _ h => h) (Or.inr ⟨by rfl, rfl⟩) ?_; try simp only [Act.put, List.setIfInBounds_toArray, List.set_cons_zero, List.set_cons_succ]) | skip))
          refine doneG (by kernel_rfl) ?_
          clear hq3 hs8
          go_wp2_with fail
          refine (KU.out _ _ _ q1).mono ?_
          rintro e w4 ⟨A4, d4, rfl, r4, b4⟩
          have b4 := b3.trans (b4.mono b3.size)
          obtain ⟨A5, d5, hsl5, r5⟩ := r4.cut (lo := 8) (hi := u.length) hu8 (Nat.le_refl _)
          rw [Htk.out] at r5
          have hsx := fun (W : World) => slice_from A4 u.length d4 8 W (by omega) (by omega)
          rw [show (8 : Int).toNat = 8 from rfl, hsl5] at hsx
          have hdl8 := Hdl8.out
          have hqv := Hqv.out
          generalize hq : u.drop 8 = q at r5 hdl8 hqv
          rw [← hdl8] at hsx
          have hql : q.length ≤ 100000 := by omega
          have hdef : contentL (u.drop 8) = if ¬ q.length % 8 = 0 then ([], 5) else if q.length = 0 then ([], 1) else if 8216 < q.length then ([], 3) else (bytesL q, 0) := by rw [hq]; rfl
          clear hsl5 hdl8 hq
          by_cases hm8 : q.length % 8 = 0
          · have tm8 : ((q.length : Int) % 8 != 0) = false := by rw [bne_eq_false_iff_eq]; omega
            rw [if_neg (by omega)] at hdef
            by_cases h0 : q.length = 0
            · rw [if_pos h0] at hdef
              have t0 : ((q.length : Int) == 0) = true := by rw [beq_iff_eq]; omega
              have Hdef := Lib.hid hdef
              clear hm8 h0 hdef
              go_wp2
              go_ret2
              rw [Hdef.out]
              exact ⟨_, _, rfl, Rd.nil _ _, b4⟩
            · rw [if_neg h0] at hdef
              have t0 : ((q.length : Int) == 0) = false := by rw [beq_eq_false_iff_ne]; omega
              by_cases hmx : 8216 < q.length
              · rw [if_pos hmx] at hdef
                have tmx : (8216 : Int) < (q.length : Int) := by omega
                have Hdef := Lib.hid hdef
                clear hm8 h0 hdef
                go_wp2
                go_ret2
                rw [Hdef.out]
                exact ⟨_, _, rfl, Rd.nil _ _, b4⟩
              · rw [if_neg hmx] at hdef
                have tmx : ¬ (8216 : Int) < (q.length : Int) := by omega
                have Hdef := Lib.hid hdef
                have hmk := fun W : World => make_full ((q.length : Int) / 8) W (by omega) (by omega)
                rw [show ((q.length : Int) / 8).toNat = q.length / 8 from by omega] at hmk
                have Hm8 := Lib.hid hm8
                clear hm8 h0 hdef
                obtain ⟨w9, rfl⟩ : ∃ w9 : World, w9 = w4 := ⟨_, rfl⟩
                go_wp2
                clear hmk hsx
                go_loopw [8] (fun i wr => ∃ k : Nat, k ≤ q.length ∧ i = .int .i64 k ∧ Row wr w9.heap.size 5 (bytesP q k) ∧ Below w9.heap.size w9 wr) (fun i _ => q.length - (intOf i).toNat)
                case atStart => exact ⟨0, Nat.zero_le _, rfl, by rw [bytesP_zero]; exact Row.made w9 _ _, (Below.refl _ _).alloc (Nat.le_refl _) _⟩
                case round =>
                  obtain ⟨k, hk, rfl, hrow, hb⟩ := hrel
                  by_cases hlt : k < q.length
                  · obtain ⟨b5, off5, rfl, hbB5, hcell⟩ := (r5.below hb).at_ hlt
                    have hvx := validL_get hqv hlt
                    have hd8 : k / 8 < q.length / 8 := by have := Hm8.out; omega
                    have hc6 := hrow.cell (i := k / 8) (by rw [bytesP_len]; exact hd8)
                    have hf6 := hrow.frozen (k / 8)
                    have hset := hrow.set (k / 8) (y := accB q (k / 8) (k % 8) ||| (q.getD k 0 <<< UInt8.ofNat (k % 8))) rfl
                    rw [bytesP_set q hlt Hm8.out] at hset
                    rw [bytesP_at q hlt Hm8.out] at hc6
                    have hacc := accB_lt q (fun k => by
                      rcases Nat.lt_or_ge k q.length with hk | hk
                      · exact validL_get hqv hk
                      · simp [List.getD, List.getElem?_eq_none hk]) (k / 8) (k % 8) (by omega)
                    have hov := add_val (accB q (k / 8) (k % 8)) (q.getD k 0) (k % 8) (by omega) hvx hacc
                    generalize q.getD k 0 = x at hcell hset hov hvx
                    generalize accB q (k / 8) (k % 8) = a at hc6 hset hov hacc
                    have Hov := Lib.hid hov
                    have Hset := Lib.hid hset
                    clear hov hset hacc hqv
                    go_wp2
                    go_region
                    rw [Hov.out]
                    go_wp2
                    go_roundw
                    case rel => exact ⟨k + 1, by omega, by go_num, Hset.out.drew, (hb.setCell (Nat.le_refl _) _).drew⟩
                    case measure => simp [intOf]; omega
                  · have hk9 : k = q.length := by omega
                    subst hk9
                    have hrd := hrow.rd (by rw [bytesP_len]; omega)
                    rw [bytesP_len, bytesP_full q Hm8.out] at hrd
                    have hlen := bytesL_len q
                    have Hr := Lib.hid hrd
                    have Hl := Lib.hid hlen
                    clear hrd hlen hrow
                    go_wp2
                    go_ret2
                    rw [Hdef.out]
                    refine ⟨_, _, ?_, Hr.out, b4.trans (hb.mono b4.size)⟩
                    rw [Hl.out]
                    rfl
          · rw [if_pos hm8] at hdef
            have tm8 : ((q.length : Int) % 8 != 0) = true := by rw [bne_iff_ne]; omega
            have Hdef := Lib.hid hdef
            clear hm8 hdef
            go_wp2
            go_ret2
            rw [Hdef.out]
            exact ⟨_, _, rfl, Rd.nil _ _, b4⟩
      · have hr := hnosync hsy
        subst hr
        have hsyb : (ds.take 8 == syncL) = false := beq_eq_false_iff_ne.2 hsy
        clear hnosync hnostuff hcontent hsy
        go_enter Tryz.func23, Tryz.ntmps23
        go_wp2_with fail
        refine KL.out.mono ?_
        rintro e w1 ⟨A1, d1, rfl, r1, b1⟩
        have q1 : Rd w1.drew w1.drew.heap.size A1 d1 ds := r1.drew
        have b1 : Below w.heap.size w w1.drew := b1.drew
        have hle1 := r1.le
        have hs8 := fun (W : World) => slice_h A1 ds.length d1 8 W (by omega) (by omega)
        rw [show (8 : Int).toNat = 8 from rfl] at hs8
        have hq8 := (q1.take (k := 8) h8).cvs
        rw [hl8] at hq8
        generalize ds.take 8 = d8 at hq8 hsyb hl8
        generalize hsz : syncL = sy at hsyb
        have Hsz := Lib.hid hsz
        clear hsz hl8 hsl
        go_wp2_with fail
        refine startG 15 (l := #[false, false, false, false, false, false, false, false, false, false, false, false, false, false, false]) (by kernel_rfl) rfl rfl ?_
        generalize w1.drew = w2 at q1 b1 hq8 ⊢
        ((first | (refine takeG 0 (v := ?_) rfl (by decide +kernel) (by decide +kernel) (by decide +kernel) (fun _ _ _ h => h) (Or.inl ⟨by rfl, ?_⟩) ?_; rotate_left 1; (focus (intro W hW; go_simp; first | done | with_reducible rfl)); try simp only [Act.put, List.setIfInBounds_toArray, List.set_cons_zero, List.set_cons_succ]) | (refine takeG 0 rfl (by decide +kernel) (by decide +kernel) (by decide +kernel) (fun _ _ _ h => h) (Or.inr ⟨by rfl, rfl⟩) ?_; try simp only [Act.put, List.setIfInBounds_toArray, List.set_cons_zero, List.set_cons_succ]) | skip); (first | (refine takeG 1 (v := ?_) rfl (by decide +kernel) (by decide +kernel) (by decide +kernel) (fun _ _ _ h => h) (Or.inl ⟨by rfl, ?_⟩) ?_; rotate_left 1; (focus (intro W hW; go_simp; first | done | with_reducible rfl)); try simp only [Act.put, List.setIfInBounds_toArray, List.set_cons_zero, List.set_cons_succ]) | (refine takeG 1 rfl (by decide +kernel) (by decide +kernel) (by decide +kernel) (fun _ _ _ h => h) (Or.inr ⟨by rfl, rfl⟩) ?_; try simp only [Act.put, List.setIfInBounds_toArray, List.set_cons_zero, List.set_cons_succ]) | skip); (first | (refine takeG 2 (v := ?_) rfl (by decide +kernel) (by decide +kernel) (by decide +kernel) (fun _ _ _ h => h) (Or.inl ⟨by rfl, ?_⟩) ?_; rotate_left 1; (focus (intro W hW; go_simp; first | done | with_reducible rfl)); try simp only [Act.put, List.setIfInBounds_toArray, List.set_cons_zero, List.set_cons_succ]) | (refine takeG 2 rfl (by decide +kernel) (by decide +kernel) (by decide +kernel) (fun _ _ _ h => h) (Or.inr ⟨by rfl, rfl⟩) ?_; try simp only [Act.put, List.setIfInBounds_toArray, List.set_cons_zero, List.set_cons_succ]) | skip); (first | (refine takeG 3 (v := ?_) rfl (by decide +kernel) (by decide +kernel) (by decide +kernel) (fun _ _ _ h => h) (Or.inl ⟨by rfl, ?_⟩) ?_; rotate_left 1; (focus (intro W hW; go_simp; first | done | with_reducible rfl)); try simp only [Act.put, List.setIfInBounds_toArray, List.set_cons_zero, List.set_cons_succ]) | (refine takeG 3 rfl (by decide +kernel) (by decide +kernel) (by decide +kernel) (fun _ _ _ h => h) (Or.inr ⟨by rfl, rfl⟩) ?_; try simp only [Act.put, List.setIfInBounds_toArray, List.set_cons_zero, List.set_cons_succ]) | skip); (first | (refine takeG 4 (v := ?_) rfl (by decide +kernel) (by decide +kernel) (by decide +kernel) (fun _ _ _ h => h) (Or.inl ⟨by rfl, ?_⟩) ?_; rotate_left 1; (focus (intro W hW; go_simp; first | done | with_reducible rfl)); try simp only [Act.put, List.setIfInBounds_toArray, List.set_cons_zero, List.set_cons_succ]) | (refine takeG 4 rfl (by decide +kernel) (by decide +kernel) (by decide +kernel) (fun _ _ _ h => h) (Or.inr ⟨by rfl, rfl⟩) ?_; try simp only [Act.put, List.setIfInBounds_toArray, List.set_cons_zero, List.set_cons_succ]) | skip); (first | (refine takeG 5 (v := ?_) rfl (by decide +kernel) (by decide +kernel) (by decide +kernel) (fun _ _ _ h => h) (Or.inl ⟨by rfl, ?_⟩) ?_; rotate_left 1; (focus (intro W hW; go_simp; first | done | with_reducible rfl)); try simp only [Act.put, List.setIfInBounds_toArray, List.set_cons_zero, List.set_cons_succ]) | (refine takeG 5 rfl (by decide +kernel) (by decide +kernel) (by decide +kernel) (fun _ _ _ h => h) (Or.inr ⟨by rfl, rfl⟩) ?_; try simp only [Act.put, List.setIfInBounds_toArray, List.set_cons_zero, List.set_cons_succ]) | skip); (first | (refine takeG 6 (v := ?_) rfl (by decide +kernel) (by decide +kernel) (by decide +kernel) (fun _ _ _ h => h) (Or.inl ⟨by rfl, ?_⟩) ?_; rotate_left 1; (focus (intro W hW; go_simp; first | done | with_reducible rfl)); try simp only [Act.put, List.setIfInBounds_toArray, List.set_cons_zero, List.set_cons_succ]) | (refine takeG 6 rfl (by decide +kernel) (by decide +kernel) (by decide +kernel) (fun _ _ _ h => h) (Or.inr ⟨by rfl, rfl⟩) ?_; try simp only [Act.put, List.setIfInBounds_toArray, List.set_cons_zero, List.set_cons_succ]) | skip); (first | (refine takeG 7 (v := ?_) rfl (by decide +kernel) (by decide +kernel) (by decide +kernel) (fun _ _ _ h => h) (Or.inl ⟨by rfl, ?_⟩) ?_; rotate_left 1; (focus (intro W hW; go_simp; first | done | with_reducible rfl)); try simp only [Act.put, List.setIfInBounds_toArray, List.set_cons_zero, List.set_cons_succ]) | (refine takeG 7 rfl (by decide +kernel) (by decide +kernel) (by decide +kernel) (fun _ _ _ h => h) (Or.inr ⟨by rfl, rfl⟩) ?_; try simp only [Act.put, List.setIfInBounds_toArray, List.set_cons_zero, List.set_cons_succ]) | skip); (first | (refine takeG 8 (v := ?_) rfl (by decide +kernel) (by decide +kernel) (by decide +kernel) (fun _ _ _ h => h) (Or.inl ⟨by rfl, ?_⟩) ?_; rotate_left 1; (focus (intro W hW; go_simp; first | done | with_reducible rfl)); try simp only [Act.put, List.setIfInBounds_toArray, List.set_cons_zero, List.set_cons_succ]) | (refine takeG 8 rfl (by decide +kernel) (by decide +kernel) (by decide +kernel) (fun _ _ _ h => h) (Or.inr ⟨by rfl, rfl⟩) ?_; try simp only [Act.put, List.setIfInBounds_toArray, List.set_cons_zero, List.set_cons_succ]) | skip); (first | (refine takeG 9 (v := ?_) rfl (by decide +kernel) (by decide +kernel) (by decide +kernel) (fun _ _ _ h => h) (Or.inl ⟨by rfl, ?_⟩) ?_; rotate_left 1; (focus (intro W hW; go_simp; first | done | with_reducible rfl)); try simp only [Act.put, List.setIfInBounds_toArray, List.set_cons_zero, List.set_cons_succ]) | (refine takeG 9 rfl (by decide +kernel) (by decide +kernel) (by decide +kernel) (fun _ _ _ h => h) (Or.inr ⟨by rfl, rfl⟩) ?_; try simp only [Act.put, List.setIfInBounds_toArray, List.set_cons_zero, List.set_cons_succ]) | skip); (first | (refine takeG 10 (v := ?_) rfl (by decide +kernel) (by decide +kernel) (by decide +kernel) (fun _ _ _ h => h) (Or.inl ⟨by rfl, ?_⟩) ?_; rotate_left 1; (focus (intro W hW; go_simp; first | done | with_reducible rfl)); try simp only [Act.put, List.setIfInBounds_toArray, List.set_cons_zero, List.set_cons_succ]) | (refine takeG 10 rfl (by decide +kernel) (by decide +kernel) (by decide +kernel) (fun _ _ _ h => h) (Or.inr ⟨by rfl, rfl⟩) ?_; try simp only [Act.put, List.setIfInBounds_toArray, List.set_cons_zero, List.set_cons_succ]) | skip); (first | (refine takeG 12 (v := ?_) rfl (by decide +kernel) (by decide +kernel) (by decide +kernel) (fun _ _ _ h => h) (Or.inl ⟨by rfl, ?_⟩) ?_; rotate_left 1; (focus (intro W hW; go_simp; first | done | with_reducible rfl)); try simp only [Act.put, List.setIfInBounds_toArray, List.set_cons_zero, List.set_cons_succ]) | (refine takeG 12 rfl (by decide +kernel) (by decide +kernel) (by decide +kernel) (fun _ _ _ h => h) (Or.inr ⟨by rfl, rfl⟩) ?_; try simp only [Act.put, List.setIfInBounds_toArray, List.set_cons_zero, List.set_cons_succ]) | skip); (first | (refine takeG 13 (v := ?_) rfl (by decide +kernel) (by decide +kernel) (by decide +kernel) (fun _ _ _ h => h) (Or.inl ⟨by rfl, ?_⟩) ?_; rotate_left 1; (focus (intro W hW; go_simp; first | done | with_reducible rfl)); try simp only [Act.put, List.setIfInBounds_toArray, List.set_cons_zero, List.set_cons_succ]) | (refine takeG 13 rfl (by decide +kernel) (by decide +kernel) (by decide +kernel) (fun _ _ _ h => h) (Or.inr ⟨by rfl, rfl⟩) ?_; try simp only [Act.put, List.setIfInBounds_toArray, List.set_cons_zero, List.set_cons_succ]) | skip); (first | (refine takeG 14 (v := ?_) rfl (by decide +kernel) (by decide +kernel) (by decide +kernel) (fun _ _ _ h => h) (Or.inl ⟨by rfl, ?_⟩) ?_; rotate_left 1; (focus (intro W hW; go_simp; first | done | with_reducible rfl)); try simp only [Act.put, List.setIfInBounds_toArray, List.set_cons_zero, List.set_cons_succ]) | (refine takeG 14 rfl (by decide +kernel) (by decide +kernel) (by decide +kernel) (fun _ _ _ h => h) (Or.inr ⟨by rfl, rfl⟩) ?_; try simp only [Act.put, List.setIfInBounds_toArray, List.set_cons_zero, List.set_cons_succ]) | skip))
        refine stepG 11 rfl (by decide +kernel) (by rfl) ?_
        intro K hK
        go_simp
        refine (sync_any _).mono ?_
        rintro e w3 ⟨v3, rfl, ho3, b3⟩
        rw [Hsz.out] at ho3
        obtain ⟨A3, d3, rfl, r3⟩ := Rd.of_own ho3
        refine hK _ _ b3 ?_
        clear hK K hq8 ho3
        try simp only [Act.put, List.setIfInBounds_toArray, List.set_cons_zero, List.set_cons_succ]
        have b3 := b1.trans (b3.mono b1.size)
        have hq3 := r3.cvs
        ((first | (refine takeG 12 (v := ?_) rfl (by decide +kernel) (by decide +kernel) (by decide +kernel) (fun _ _ _ h => h) (Or.inl ⟨by rfl, ?_⟩) ?_; rotate_left 1; (focus (intro W hW; go_simp; first | done | with_reducible rfl)); try simp only [Act.put, List.setIfInBounds_toArray, List.set_cons_zero, List.set_cons_succ]) | (refine takeG 12 rfl (by decide +kernel) (by decide +kernel) (by decide +kernel) (fun _ _ _ h => h) (Or.inr ⟨by rfl, rfl⟩) ?_; try simp only [Act.put, List.setIfInBounds_toArray, List.set_cons_zero, List.set_cons_succ]) | skip); (first | (refine takeG 13 (v := ?_) rfl (by decide +kernel) (by decide +kernel) (by decide +kernel) (fun _ _ _ h => h) (Or.inl ⟨by rfl, ?_⟩) ?_; rotate_left 1; (focus (intro W hW; go_simp; first | done | with_reducible rfl)); try simp only [Act.put, List.setIfInBounds_toArray, List.set_cons_zero, List.set_cons_succ]) | (refine takeG 13 rfl (by decide +kernel) (by decide +kernel) (by decide +kernel) (fun _ _ _ h => h) (Or.inr ⟨by rfl, rfl⟩) ?_; try simp only [Act.put, List.setIfInBounds_toArray, List.set_cons_zero, List.set_cons_succ]) | skip); (first | (refine takeG 14 (v := ?_) rfl (by decide +kernel) (by decide +kernel) (by decide +kernel) (fun _ _ _ h => h) (Or.inl ⟨by rfl, ?_⟩) ?_; rotate_left 1; (focus (intro W hW; go_simp; first | done | with_reducible rfl)); try simp only [Act.put, List.setIfInBounds_toArray, List.set_cons_zero, List.set_cons_succ]) | (refine takeG 14 rfl (by decide +kernel) (by decide +kernel) (by decide +kernel) (fun _ _ _ h => h) (Or.inr ⟨by rfl, rfl⟩) ?_; try simp only [Act.put, List.setIfInBounds_toArray, List.set_cons_zero, List.set_cons_succ]) | skip))
        refine doneG (by kernel_rfl) ?_
        clear hq3
        go_wp2
        go_ret2
        exact ⟨_, _, rfl, Rd.nil _ _, b3⟩

theorem refReceive_any (w : World) (A : Option Addr) (c : Nat) (xs : List UInt8) (h : Rd w w.heap.size A c xs) (hl : xs.length ≤ 100000) :
    Calls Tryz.prog 23 #[.slice A xs.length c] w (ResE w (recvL xs).1 (recvL xs).2) := by
  cases he : hasEndL xs
  · rw [recv_noend xs he]
    exact refReceive_noend w A c xs h hl he
  · exact refReceive_end w A c xs h hl he

end Go.Proofs.YtfblpakoibadoaaGreatDoor.Lv


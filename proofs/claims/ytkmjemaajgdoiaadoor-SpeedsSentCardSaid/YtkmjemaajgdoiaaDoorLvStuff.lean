/-
  Helper text: contracts of the functions that stuff bits and take out what is stuffed; no statement is proved here.
-/
import Derived.Test.YtkmjemaajgdoiaaDoorLvTwo
namespace Go.Proofs.YtkmjemaajgdoiaaDoor.Lv
open Go Go.RowKit

theorem onesBehind_any (n : Nat) (x : UInt8) (w : World) (hn : n ≤ 100000) : Calls Tryd.prog 34 #[.int .i64 (n : Int), bv x] w fun e w' => e = .returned (.int .i64 ((onesB n x : Nat) : Int)) ∧ w = w' := by
  by_cases hx : x = 0
  · subst hx
    have ho : onesB n 0 = 0 := rfl
    have Ho := Lib.hid ho
    clear ho
    go_enter Tryd.func34, Tryd.ntmps34
    go_wp2
    go_ret
    exact ⟨by rw [Ho.out]; rfl, rfl⟩
  · have t0 : ((x.toNat : Int) == 0) = false := by
      rw [beq_eq_false_iff_ne]
      exact fun h => hx ((u8_eq_zero x).2 h)
    have ho : onesB n x = n + 1 := by unfold onesB; rw [if_neg hx]
    have Ho := Lib.hid ho
    clear ho hx
    go_enter Tryd.func34, Tryd.ntmps34
    go_wp2
    go_ret
    exact ⟨by rw [Ho.out]; rfl, rfl⟩

theorem clip_any (w : World) (A : Option Addr) (c : Nat) (xs : List UInt8) (h : Rd w w.heap.size A c xs) : Calls Tryd.prog 35 #[.slice A xs.length c] w fun e w' => e = .returned (.slice A xs.length xs.length) ∧ w = w' := by
  have hle := h.le
  have hcap := h.cap
  go_enter Tryd.func35, Tryd.ntmps35
  go_wp2
  go_ret
  exact ⟨rfl, rfl⟩

theorem nat_beq (a b : Nat) : (((a : Nat) : Int) == (b : Int)) = (a == b) := by
  by_cases h : a = b
  · subst h; simp
  · have : (a : Int) ≠ (b : Int) := by omega
    rw [beq_eq_false_iff_ne.2 this, beq_eq_false_iff_ne.2 h]

set_option maxHeartbeats 1600000 in
set_option maxRecDepth 100000 in
theorem stuffed_any (w : World) (A : Option Addr) (c : Nat) (xs : List UInt8) (h : Rd w w.heap.size A c xs) (hl : xs.length ≤ 100000) :
    Calls Tryd.prog 20 #[.slice A xs.length c] w (Res1 w (stuffL xs)) := by
  have hmk := fun W : World => make_cap ((xs.length : Int) + (xs.length : Int) / 6) W (by omega) (by omega)
  rw [show ((xs.length : Int) + (xs.length : Int) / 6).toNat = xs.length + xs.length / 6 from by omega] at hmk
  go_enter Tryd.func20, Tryd.ntmps20
  go_wp2
  clear hmk
  go_loopw [3, 4, 16] (fun o n i wr => ∃ k : Nat, k ≤ xs.length ∧ i = .int .i64 k ∧ n = .int .i64 (((stuffS (xs.take k)).1 : Nat) : Int) ∧ wr.ownsRow w.heap.size 5 1 o (stuffS (xs.take k)).2.length ((stuffS (xs.take k)).2.map bv) ∧ Below w.heap.size w wr) (fun _ _ i _ => xs.length - (intOf i).toNat)
  case atStart => exact ⟨0, Nat.zero_le _, rfl, rfl, World.ownsRow_made w _ _ (Nat.le_refl _) (by unfold maxLen; omega) (by simp [size_madeCells]), (Below.refl _ _).alloc (Nat.le_refl _) _⟩
  case round =>
    obtain ⟨k, hk, rfl, rfl, hown, hb⟩ := hrel
    by_cases hlt : k < xs.length
    · obtain ⟨b, off, rfl, hbB, hcell⟩ := (h.below hb).at_ hlt
      have hsn := stuffS_snoc xs hlt
      have hbd := stuffS_bound (xs.take k)
      have htl : (xs.take k).length ≤ 100000 := by rw [List.length_take]; omega
      generalize xs.getD k 0 = x at hcell hsn
      generalize stuffS (xs.take k) = st at hown hsn hbd
      obtain ⟨n, zs⟩ := st
      obtain ⟨hn5, hlz⟩ := hbd
      simp only at hn5 hlz hown hsn
      have hzl : zs.length ≤ 200000 := by omega
      have ho6 := onesB_le n x
      have hst : stepS (n, zs) x = if onesB n x = 6 then (0, zs ++ [x] ++ [0]) else (onesB n x, zs ++ [x]) := rfl
      rw [hst] at hsn
      have Hob := onesBehind_any n x
      generalize onesB n x = m at hsn ho6 Hob
      clear hst htl hlz
      by_cases h6 : m = 6
      · subst h6
        rw [if_pos rfl] at hsn
        have Hs := Lib.hid hsn
        clear hsn
        go_wp2_with (first | (at_builtin; refine wpl_append1 Tryd.underlying22 Tryd.info5 rfl (.tmp 20) (.tmp 22) rfl w.heap.size u3 zs rfl hown x _ rfl rfl (by omega) hb.size ?_; intro v' w1 hown2 hb2) | (go_at_call 34; refine (Hob _ (by omega)).mono ?_; rintro e w' ⟨rfl, rfl⟩) | (at_builtin; refine wpl_append1 Tryd.underlying22 Tryd.info5 rfl (.tmp 29) (.tmp 30) rfl w.heap.size v' (zs ++ [x]) rfl hown2 0 _ rfl rfl (by simp; omega) (hb.trans hb2).size ?_; intro v3 w3 hown3 hb3))
        go_roundw
        case rel => exact ⟨k + 1, by omega, by go_num, by rw [Hs.out]; rfl, by rw [Hs.out]; exact hown3, (hb.trans hb2).trans hb3⟩
        case measure => simp [intOf]; omega
      · rw [if_neg h6] at hsn
        have t6 : (((m : Nat) : Int) == 6) = false := by rw [beq_eq_false_iff_ne]; omega
        have Hs := Lib.hid hsn
        clear hsn h6
        go_wp2_with (first | (at_builtin; refine wpl_append1 Tryd.underlying22 Tryd.info5 rfl (.tmp 20) (.tmp 22) rfl w.heap.size u3 zs rfl hown x _ rfl rfl (by omega) hb.size ?_; intro v' w1 hown2 hb2) | (go_at_call 34; refine (Hob _ (by omega)).mono ?_; rintro e w' ⟨rfl, rfl⟩))
        go_roundw
        case rel => exact ⟨k + 1, by omega, by go_num, by rw [Hs.out], by rw [Hs.out]; exact hown2, hb.trans hb2⟩
        case measure => simp [intOf]; omega
    · have hk9 : k = xs.length := by omega
      subst hk9
      rw [List.take_length] at hown
      obtain ⟨A', c', rfl, hr⟩ := Rd.of_own hown
      go_wp2_with (go_at_call 35; refine (clip_any _ _ _ _ hr).mono ?_; rintro e w' ⟨rfl, rfl⟩)
      go_ret
      exact ⟨A', _, rfl, hr.clip, hb⟩

end Go.Proofs.YtkmjemaajgdoiaaDoor.Lv

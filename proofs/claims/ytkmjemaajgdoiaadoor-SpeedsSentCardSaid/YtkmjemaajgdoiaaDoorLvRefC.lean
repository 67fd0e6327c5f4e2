/-
  Helper text: contracts of the reference's Sync, Stuff and Send; no statement is proved here.
-/
import Derived.Test.YtkmjemaajgdoiaaDoorLvCode
namespace Go.Proofs.YtkmjemaajgdoiaaDoor.Lv
open Go Go.RowKit

theorem sync_any (w : World) : Calls Tryd.prog 30 #[] w (ResO w 5 syncL) := by
  go_enter Tryd.func30, Tryd.ntmps30
  go_wp2
  go_ret
  exact ⟨_, rfl, own_built w 5 syncL (by decide), (Below.refl _ w).alloc (Nat.le_refl _) _⟩

set_option maxHeartbeats 1600000 in
set_option maxRecDepth 100000 in
theorem refStuff_any (w : World) (A : Option Addr) (c : Nat) (xs : List UInt8) (h : Rd w w.heap.size A c xs) (hl : xs.length ≤ 100000) (hv : validL xs = true) :
    Calls Tryd.prog 29 #[.slice A xs.length c] w (Res1 w (stuffL xs)) := by
  have Hv := Lib.hid hv
  clear hv
  go_enter Tryd.func29, Tryd.ntmps29
  go_wp2
  go_loopw [3, 4, 5] (fun o n i wr => ∃ k : Nat, k ≤ xs.length ∧ i = .int .i64 k ∧ n = .int .i64 (((stuffS (xs.take k)).1 : Nat) : Int) ∧ wr.ownsRow w.heap.size 5 1 o (stuffS (xs.take k)).2.length ((stuffS (xs.take k)).2.map bv) ∧ Below w.heap.size w wr) (fun _ _ i _ => xs.length - (intOf i).toNat)
  case atStart => exact ⟨0, Nat.zero_le _, rfl, rfl, World.ownsRow_nil _ _ _ _, Below.refl _ _⟩
  case round =>
    obtain ⟨k, hk, rfl, rfl, hown, hb⟩ := hrel
    by_cases hlt : k < xs.length
    · obtain ⟨b, off, rfl, hbB, hcell⟩ := (h.below hb).at_ hlt
      have hcc : ∀ w2, Below w.heap.size wr w2 → w2.cell? ⟨b, off + k, none⟩ = some (bv (xs.getD k 0)) := fun w2 h2 => (h2.cell (p := ⟨b, off + k, none⟩) hbB).trans hcell
      have hvx := validL_get Hv.out hlt
      have hsn := stuffS_snoc xs hlt
      have hbd := stuffS_bound (xs.take k)
      have htl : (xs.take k).length ≤ 100000 := by rw [List.length_take]; omega
      generalize xs.getD k 0 = x at hcell hsn hvx hcc
      generalize stuffS (xs.take k) = st at hown hsn hbd
      obtain ⟨n, zs⟩ := st
      obtain ⟨hn5, hlz⟩ := hbd
      simp only at hn5 hlz hown hsn
      have hzl : zs.length ≤ 200000 := by omega
      have hst : stepS (n, zs) x = if onesB n x = 6 then (0, zs ++ [x] ++ [0]) else (onesB n x, zs ++ [x]) := rfl
      rw [hst] at hsn
      have Hcc := Lib.hid hcc
      clear hst htl hlz hcc
      rcases u8_01 hvx with rfl | rfl
      · have ho : onesB n 0 = 0 := rfl
        rw [ho, if_neg (by omega)] at hsn
        have Hs := Lib.hid hsn
        clear hsn ho
        go_wp2_with (at_builtin; refine wpl_append1 Tryd.underlying22 Tryd.info5 rfl (.tmp 12) (.tmp 17) rfl w.heap.size u3 zs rfl hown 0 _ rfl rfl (by omega) hb.size ?_; intro v' w1 hown2 hb2; have hcell2 := Hcc.out w1 hb2)
        go_roundw
        case rel => exact ⟨k + 1, by omega, by go_num, by rw [Hs.out]; rfl, by rw [Hs.out]; exact hown2, hb.trans hb2⟩
        case measure => simp [intOf]; omega
      · have ho : onesB n 1 = n + 1 := rfl
        rw [ho] at hsn
        by_cases h6 : n = 5
        · subst h6
          rw [if_pos rfl] at hsn
          have Hs := Lib.hid hsn
          clear hsn ho
          go_wp2_with (first | (at_builtin; refine wpl_append1 Tryd.underlying22 Tryd.info5 rfl (.tmp 12) (.tmp 17) rfl w.heap.size u3 zs rfl hown 1 _ rfl rfl (by omega) hb.size ?_; intro v' w1 hown2 hb2; have hcell2 := Hcc.out w1 hb2) | (at_builtin; refine wpl_append1 Tryd.underlying22 Tryd.info5 rfl (.tmp 28) (.tmp 29) rfl w.heap.size v' (zs ++ [1]) rfl hown2 0 _ rfl rfl (by simp; omega) (hb.trans hb2).size ?_; intro v3 w3 hown3 hb3))
          go_roundw
          case rel => exact ⟨k + 1, by omega, by go_num, by rw [Hs.out]; rfl, by rw [Hs.out]; exact hown3, (hb.trans hb2).trans hb3⟩
          case measure => simp [intOf]; omega
        · rw [if_neg (by omega)] at hsn
          have t6 : ((n : Int) + 1 == 6) = false := by rw [beq_eq_false_iff_ne]; omega
          have Hs := Lib.hid hsn
          clear hsn ho h6
          go_wp2_with (at_builtin; refine wpl_append1 Tryd.underlying22 Tryd.info5 rfl (.tmp 12) (.tmp 17) rfl w.heap.size u3 zs rfl hown 1 _ rfl rfl (by omega) hb.size ?_; intro v' w1 hown2 hb2; have hcell2 := Hcc.out w1 hb2)
          go_roundw
          case rel => exact ⟨k + 1, by omega, by go_num, by rw [Hs.out]; go_num, by rw [Hs.out]; exact hown2, hb.trans hb2⟩
          case measure => simp [intOf]; omega
    · have hk9 : k = xs.length := by omega
      subst hk9
      rw [List.take_length] at hown
      obtain ⟨A', c', rfl, hr⟩ := Rd.of_own hown
      go_wp2
      go_ret
      exact ⟨A', c', rfl, hr, hb⟩

set_option maxHeartbeats 1600000 in
set_option maxRecDepth 100000 in
theorem refSend_own (w : World) (A : Option Addr) (c : Nat) (xs : List UInt8) (h : Rd w w.heap.size A c xs) (hl : xs.length ≤ 2000) :
    Calls Tryd.prog 13 #[.slice A xs.length c] w (ResO w 5 (sendL xs)) := by
  have hs : sendL xs = encL (stuffL (syncL ++ bitsL xs)) ++ endL := rfl
  have l1 : (bitsL xs).length ≤ 16000 := by rw [bitsL_len]; omega
  have l2 : (syncL ++ bitsL xs).length ≤ 16008 := by rw [List.length_append]; simp [syncL]; omega
  have l3 := stuffL_len (syncL ++ bitsL xs)
  have l4 := encL_len (stuffL (syncL ++ bitsL xs))
  have l5 : (encL (stuffL (syncL ++ bitsL xs))).length ≤ 40000 := by omega
  have c1 := fun (W : World) (h : Rd W W.heap.size A c xs) => refBits_any W A c xs h (by omega)
  have c3 := fun (W : World) (A : Option Addr) (c : Nat) (h : Rd W W.heap.size A c (syncL ++ bitsL xs)) => refStuff_any W A c (syncL ++ bitsL xs) h (by omega) (validL_append syncL (bitsL xs) (by decide) (validL_bitsL xs))
  have c4 := fun (W : World) (A : Option Addr) (c : Nat) (h : Rd W W.heap.size A c (stuffL (syncL ++ bitsL xs))) => refStates_own W A c (stuffL (syncL ++ bitsL xs)) h (by omega)
  generalize encL (stuffL (syncL ++ bitsL xs)) = z4 at l4 l5 c4 hs
  generalize stuffL (syncL ++ bitsL xs) = z3 at l3 l4 c3 c4
  have hsy : syncL.length = 8 := rfl
  generalize bitsL xs = z1 at l1 l2 c1 c3 l3
  have C1 := Lib.hid c1
  have C3 := Lib.hid c3
  have C4 := Lib.hid c4
  have Hs := Lib.hid hs
  clear c1 c3 c4 hs l3 l4
  go_enter Tryd.func13, Tryd.ntmps13
  go_wp2_with fail
  refine (sync_any _).mono ?_
  rintro e w1 ⟨v1, rfl, ho1, b1⟩
  have r0 := h.belowTop b1
  go_wp2_with fail
  refine (C1.out _ r0).mono ?_
  rintro e w2 ⟨A2, c2, rfl, r2, b2⟩
  have ho2 := own_below ho1 b2
  have b2 := b1.trans (b2.mono b1.size)
  generalize hsz : syncL = sy at ho2 hsy l2 C3
  have Hsz := Lib.hid hsz
  have hsy2 : sy.length ≤ 8 := by omega
  clear hsz hsy
  go_wp2_with (at_builtin; refine wpl_appendN Tryd.underlying22 Tryd.info5 rfl (.tmp 3) (.tmp 5) rfl w.heap.size v1 sy rfl ho2 _ c2 A2 z1 r2 rfl (by omega) b2.size ?_; intro v3 w3 ho3 hb3; obtain ⟨A3, c3, hv3, r3⟩ := Rd.of_own ho3; subst hv3; generalize sy ++ z1 = z2 at ho3 r3 l2 C3)
  have b3 := b2.trans hb3
  refine (C3.out _ _ _ r3).mono ?_
  rintro e w4 ⟨A4, c4, rfl, r4, b4⟩
  have b4 := b3.trans (b4.mono b3.size)
  go_wp2_with fail
  refine (C4.out _ _ _ r4).mono ?_
  rintro e w5 ⟨v5, rfl, ho5, b5⟩
  have b5 := b4.trans (b5.mono b4.size)
  have ho5 := own_base ho5 b4.size
  have hro : Rd (w5.alloc (.cells #[.int .u8 2, .int .u8 2, .int .u8 0] 5)) (w5.heap.size + 1) (some ⟨w5.heap.size, 0, none⟩) 3 endL := rd_built w5 5 endL (by decide)
  have hol := ho5.alloc (.cells #[.int .u8 2, .int .u8 2, .int .u8 0] 5)
  have hbl := b5.alloc b5.size (.cells #[.int .u8 2, .int .u8 2, .int .u8 0] 5)
  go_wp2_with (at_builtin; refine wpl_appendN Tryd.underlying22 Tryd.info5 rfl (.tmp 8) (.tmp 9) rfl w.heap.size v5 z4 rfl hol _ 3 _ endL hro rfl (by simp [endL]; omega) hbl.size ?_; intro v6 w6 ho6 hb6)
  go_ret
  rw [Hs.out]
  exact ⟨_, rfl, ho6, hbl.trans hb6⟩

end Go.Proofs.YtkmjemaajgdoiaaDoor.Lv

/-
  The law LevelsReceive is walked: at any states, any place and any state that is put there it returns true, and what was there is as it was.
-/
import Derived.Test.YtbeghnpdmcmdmaaDoorRefF
import Derived.Test.YtbeghnpdmcmdmaaDoorLawSend
namespace Go.Proofs.YtbeghnpdmcmdmaaDoor
open Go Go.RowKit

set_option maxHeartbeats 3200000 in
set_option maxRecDepth 100000 in
theorem lawReceive_in (w : World) (hL : Laid w) (A1 : Option Addr) (c1 : Nat) (xs : List UInt8) (h1 : Rd w w.heap.size A1 c1 xs) (hx : xs.length ≤ 1500) (m : Nat) (hm : m < 65536) (t : UInt8) :
    Calls Tryd.prog 7 #[.slice A1 xs.length c1, .int .u16 (m : Int), bv t] w (ResB w true) := by
  have t1 : ¬ (1500 : Int) < (xs.length : Int) := by omega
  by_cases hc : ¬ m % 4 = 0 ∧ 0 < xs.length ∧ xs.length ≤ 150
  · obtain ⟨hc1, hc2, hc3⟩ := hc
    have t4 : ((m : Int) % 4 != 0) = true := by rw [bne_iff_ne]; omega
    have t5 : (0 : Int) < (xs.length : Int) := by omega
    have t6 : (xs.length : Int) ≤ 150 := by omega
    have ks := refSend_own w A1 c1 xs h1 (by omega)
    have hsl := sendL_len xs
    generalize sendL xs = zs at ks hsl
    have KS := Lib.hid ks
    clear ks hc1 hc2 hc3
    have hil : m / 4 % zs.length < zs.length := Nat.mod_lt _ (by omega)
    have hm0 : (0 : Int) ≤ (m : Int) / 4 % (zs.length : Int) := Int.emod_nonneg _ (by omega)
    have hm1 : (m : Int) / 4 % (zs.length : Int) < (zs.length : Int) := Int.emod_lt_of_pos _ (by omega)
    have hz1 : (0 : Int) < (zs.length : Int) := by omega
    have hz2 : ((zs.length : Int) == 0) = false := by rw [beq_eq_false_iff_ne]; omega
    go_enter Tryd.func7, Tryd.ntmps7
    go_wp2_with fail
    refine KS.out.mono ?_
    rintro e w1 ⟨v, rfl, ho, b1⟩
    obtain ⟨g, cz, rfl, hg, hfr, hcell, hset⟩ := own_store ho (by omega)
    have hcl := hcell (m / 4 % zs.length) hil
    have hf := hfr (m / 4 % zs.length)
    have rz := Rd.of_own_at (hset (m / 4 % zs.length) t hil)
    have b9 := b1.setCell (p := ⟨g, m / 4 % zs.length, none⟩) hg (bv t)
    have r9 := ((h1.below b1).setCell (p := ⟨g, m / 4 % zs.length, none⟩) hg (bv t)).more b9.size
    have hlen : (zs.set (m / 4 % zs.length) t).length = zs.length := List.length_set
    have hzl : (zs.set (m / 4 % zs.length) t).length ≤ 3000 := by omega
    have sz := rz.cv
    rw [hlen] at sz
    generalize zs.set (m / 4 % zs.length) t = ys at rz hlen hzl sz
    have Rz := Lib.hid rz
    have R9 := Lib.hid r9
    have B9 := Lib.hid b9
    have Hlen := Lib.hid hlen
    clear rz r9 b9 hcell hset hfr hlen KS
    have kl := line_any _ (some ⟨g, 0, none⟩) cz ys Rz.out (by omega)
    have kr := fun (W : World) (hL : Laid W) (A : Option Addr) (c : Nat) (h : Rd W W.heap.size A c ys) => receive_any W hL A c ys h (by omega)
    have kf := fun (W : World) (h : Rd W W.heap.size (some ⟨g, 0, none⟩) cz ys) => refReceive_any W (some ⟨g, 0, none⟩) cz ys h (by omega)
    have kt := fun (W : World) (A : Option Addr) (c : Nat) (h : Rd W W.heap.size A c ys) => states_any W A c ys h (by omega)
    rw [Hlen.out] at kl
    replace kf := fun (W : World) (h : Rd W W.heap.size (some ⟨g, 0, none⟩) cz ys) => by have := kf W h; rw [Hlen.out] at this; exact this
    have hok := fun us => recv_ok ys us
    generalize recvL ys = r at kr kf hok
    obtain ⟨us, n⟩ := r
    have KL := Lib.hid kl
    have KR : Hid (∀ (W : World) (_ : Laid W) (A : Option Addr) (c : Nat), Rd W W.heap.size A c ys → Calls Tryd.prog 27 #[.slice A ys.length c] W (ResF W us n)) := Lib.hid kr
    have KF : Hid (∀ (W : World), Rd W W.heap.size (some ⟨g, 0, none⟩) cz ys → Calls Tryd.prog 29 #[.slice (some ⟨g, 0, none⟩) zs.length cz] W (ResE W us n)) := Lib.hid kf
    have KT := Lib.hid kt
    have Hok := Lib.hid hok
    clear kl kr kf kt hok
    go_wp2_with fail
    refine KL.out.mono ?_
    rintro e w2 ⟨A2, d2, rfl, r2, b2⟩
    have rz := Rz.out.belowTop b2
    have b2 := B9.out.trans (b2.mono B9.out.size)
    go_wp2_with fail
    refine (KR.out _ (hL.below b2) _ _ r2).mono ?_
    rintro e w3 ⟨A3, d3, rfl, r3, b3, _⟩
    have rz := rz.belowTop b3
    have r2 := r2.belowTop b3
    have b3 := b2.trans (b3.mono b2.size)
    go_wp2_with fail
    refine (KF.out _ rz).mono ?_
    rintro e w4 ⟨A4, d4, rfl, r4, b4⟩
    have r2 := r2.belowTop b4
    have r3 := r3.belowTop b4
    have b4 := b3.trans (b4.mono b3.size)
    have s3 := r3.cv
    have s4 := r4.cv
    go_wp2_with fail
    clear s3 s4
    refine (KT.out _ _ _ r2).mono ?_
    rintro e w5 ⟨A5, d5, rfl, r5, b5⟩
    have r3 := r3.belowTop b5
    have b5 := b4.trans (b5.mono b4.size)
    have s5 := r5.cv
    by_cases hn : n = 0
    · obtain ⟨h8, h9, h10⟩ := Hok.out us (by rw [hn])
      have km := fun (W : World) (A : Option Addr) (c : Nat) (h : Rd W W.heap.size A c us) => refSend_own W A c us h (by omega)
      rw [h8] at km
      have KM := Lib.hid km
      subst hn
      clear km h8 Hok
      go_wp2_with fail
      clear s5
      refine (KM.out _ _ _ r3).mono ?_
      rintro e w6 ⟨v6, rfl, ho6, b6⟩
      obtain ⟨A6, d6, rfl, r6⟩ := Rd.of_own ho6
      have b6 := b5.trans (b6.mono b5.size)
      have s6 := r6.cv
      have T := Lib.hid (law_tail hL b6)
      clear ho6
      go_wp2_with fail
      refine T.out.mono ?_
      rintro e w7 ⟨rfl, b7⟩
      go_wp2
      go_ret
      exact ⟨rfl, b6.trans (b7.mono b6.size)⟩
    · have tn : (n == 0) = false := beq_eq_false_iff_ne.2 hn
      have T := Lib.hid (law_tail hL b5)
      clear hn Hok
      go_wp2_with fail
      refine T.out.mono ?_
      rintro e w7 ⟨rfl, b7⟩
      go_wp2
      go_ret
      exact ⟨rfl, b5.trans (b7.mono b5.size)⟩
  · have sz := h1.cv
    have Rz := Lib.hid h1
    have B9 := Lib.hid (Below.refl w.heap.size w)
    have t7 : ((m : Int) % 4 != 0) = false ∨ (((m : Int) % 4 != 0) = true ∧ ¬ (0 : Int) < (xs.length : Int)) ∨ (((m : Int) % 4 != 0) = true ∧ (0 : Int) < (xs.length : Int) ∧ ¬ (xs.length : Int) ≤ 150) := by
      by_cases h4 : m % 4 = 0
      · left
        rw [bne_eq_false_iff_eq]; omega
      · right
        have h4' : ((m : Int) % 4 != 0) = true := by rw [bne_iff_ne]; omega
        by_cases h0 : 0 < xs.length
        · exact .inr ⟨h4', by omega, by omega⟩
        · exact .inl ⟨h4', by omega⟩
    clear hc
    rcases t7 with t7 | ⟨t7, t8⟩ | ⟨t7, t8, t9⟩
    all_goals go_enter Tryd.func7, Tryd.ntmps7
    all_goals
      have kl := line_any _ A1 c1 xs Rz.out (by omega)
      have kr := fun (W : World) (hL : Laid W) (A : Option Addr) (c : Nat) (h : Rd W W.heap.size A c xs) => receive_any W hL A c xs h (by omega)
      have kf := fun (W : World) (h : Rd W W.heap.size A1 c1 xs) => refReceive_any W A1 c1 xs h (by omega)
      have kt := fun (W : World) (A : Option Addr) (c : Nat) (h : Rd W W.heap.size A c xs) => states_any W A c xs h (by omega)
      have hok := fun us => recv_ok xs us
      generalize recvL xs = r at kr kf hok
      obtain ⟨us, n⟩ := r
      have KL := Lib.hid kl
      have KR : Hid (∀ (W : World) (_ : Laid W) (A : Option Addr) (c : Nat), Rd W W.heap.size A c xs → Calls Tryd.prog 27 #[.slice A xs.length c] W (ResF W us n)) := Lib.hid kr
      have KF : Hid (∀ (W : World), Rd W W.heap.size A1 c1 xs → Calls Tryd.prog 29 #[.slice A1 xs.length c1] W (ResE W us n)) := Lib.hid kf
      have KT := Lib.hid kt
      have Hok := Lib.hid hok
      clear kl kr kf kt hok
      go_wp2_with fail
      refine KL.out.mono ?_
      rintro e w2 ⟨A2, d2, rfl, r2, b2⟩
      have rz := Rz.out.belowTop b2
      have b2 := B9.out.trans (b2.mono B9.out.size)
      go_wp2_with fail
      refine (KR.out _ (hL.below b2) _ _ r2).mono ?_
      rintro e w3 ⟨A3, d3, rfl, r3, b3, _⟩
      have rz := rz.belowTop b3
      have r2 := r2.belowTop b3
      have b3 := b2.trans (b3.mono b2.size)
      go_wp2_with fail
      refine (KF.out _ rz).mono ?_
      rintro e w4 ⟨A4, d4, rfl, r4, b4⟩
      have r2 := r2.belowTop b4
      have r3 := r3.belowTop b4
      have b4 := b3.trans (b4.mono b3.size)
      have s3 := r3.cv
      have s4 := r4.cv
      go_wp2_with fail
      clear s3 s4
      refine (KT.out _ _ _ r2).mono ?_
      rintro e w5 ⟨A5, d5, rfl, r5, b5⟩
      have r3 := r3.belowTop b5
      have b5 := b4.trans (b5.mono b4.size)
      have s5 := r5.cv
      by_cases hn : n = 0
      · obtain ⟨h8, h9, h10⟩ := Hok.out us (by rw [hn])
        have km := fun (W : World) (A : Option Addr) (c : Nat) (h : Rd W W.heap.size A c us) => refSend_own W A c us h (by omega)
        rw [h8] at km
        have KM := Lib.hid km
        subst hn
        clear km h8 Hok
        go_wp2_with fail
        clear s5
        refine (KM.out _ _ _ r3).mono ?_
        rintro e w6 ⟨v6, rfl, ho6, b6⟩
        obtain ⟨A6, d6, rfl, r6⟩ := Rd.of_own ho6
        have b6 := b5.trans (b6.mono b5.size)
        have s6 := r6.cv
        have T := Lib.hid (law_tail hL b6)
        clear ho6
        go_wp2_with fail
        refine T.out.mono ?_
        rintro e w7 ⟨rfl, b7⟩
        go_wp2
        go_ret
        exact ⟨rfl, b6.trans (b7.mono b6.size)⟩
      · have tn : (n == 0) = false := beq_eq_false_iff_ne.2 hn
        have T := Lib.hid (law_tail hL b5)
        clear hn Hok
        go_wp2_with fail
        refine T.out.mono ?_
        rintro e w7 ⟨rfl, b7⟩
        go_wp2
        go_ret
        exact ⟨rfl, b5.trans (b7.mono b5.size)⟩

theorem lawReceive_any (w : World) (hL : Laid w) (A1 : Option Addr) (c1 : Nat) (xs : List UInt8) (h1 : Rd w w.heap.size A1 c1 xs) (m : Nat) (hm : m < 65536) (t : UInt8) :
    Calls Tryd.prog 7 #[.slice A1 xs.length c1, .int .u16 (m : Int), bv t] w (ResB w true) := by
  rcases Nat.lt_or_ge 1500 xs.length with hx | hx
  · have t1 : (1500 : Int) < (xs.length : Int) := by omega
    go_enter Tryd.func7, Tryd.ntmps7
    go_wp2
    go_ret
    exact ⟨rfl, Below.refl _ _⟩
  · exact lawReceive_in w hL A1 c1 xs h1 hx m hm t

end Go.Proofs.YtbeghnpdmcmdmaaDoor

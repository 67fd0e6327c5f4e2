/-
  The law LevelsChange is walked: at any bytes, any place and any state it returns true, and what was there is as it was.
-/
import Derived.Test.YtbeghnpdmcmdmaaDoorCode
import Derived.Test.YtbeghnpdmcmdmaaDoorLawBits
namespace Go.Proofs.YtbeghnpdmcmdmaaDoor
open Go Go.RowKit

theorem sendL_len (xs : List UInt8) : 3 ≤ (sendL xs).length ∧ (sendL xs).length ≤ 16 * xs.length + 19 := by
  have h1 := stuffL_len (syncL ++ bitsL xs)
  have h2 := encL_len (stuffL (syncL ++ bitsL xs))
  have h3 := bitsL_len xs
  have h4 : (syncL ++ bitsL xs).length = 8 + (bitsL xs).length := by simp [syncL]; omega
  unfold sendL
  rw [List.length_append]
  have h5 : endL.length = 3 := rfl
  omega
theorem change_bad (xs ys : List UInt8) {i : Nat} {t : UInt8} (hi : i < (sendL xs).length) (ht : (sendL xs).getD i 0 ≠ t) (h : recvL ((sendL xs).set i t) = (ys, 0)) : ys ≠ xs := by
  rintro rfl
  have h1 := (recv_ok _ _ h).1
  apply ht
  have h2 : ((sendL ys).set i t).getD i 0 = t := by simp [List.getD, hi]
  rw [← h2, ← h1]

set_option maxHeartbeats 2000000 in
set_option maxRecDepth 100000 in
theorem lawChange_some (w : World) (hL : Laid w) (A1 : Option Addr) (c1 : Nat) (xs : List UInt8) (h1 : Rd w w.heap.size A1 c1 xs) (hx : xs.length ≤ 300) (h0 : 0 < xs.length) (m : Nat) (hm : m < 65536) (t : UInt8) :
    Calls Tryd.prog 8 #[.slice A1 xs.length c1, .int .u16 (m : Int), bv t] w (ResB w true) := by
  have t1 : ¬ (300 : Int) < (xs.length : Int) := by omega
  have ks := send_own w hL A1 c1 xs h1 h0 (by omega)
  have hsl := sendL_len xs
  have hbad := fun ys i => change_bad xs ys (i := i) (t := t)
  generalize sendL xs = zs at ks hsl hbad
  have KS := Lib.hid ks
  have Hbad := Lib.hid hbad
  clear ks hbad
  have hil : m % zs.length < zs.length := Nat.mod_lt _ (by omega)
  have hm0 : (0 : Int) ≤ (m : Int) % (zs.length : Int) := by omega
  have hm1 : (m : Int) % (zs.length : Int) < (zs.length : Int) := by omega
  have hz1 : (0 : Int) < (zs.length : Int) := by omega
  have hz2 : ((zs.length : Int) == 0) = false := by rw [beq_eq_false_iff_ne]; omega
  go_enter Tryd.func8, Tryd.ntmps8
  go_wp2_with fail
  refine KS.out.mono ?_
  rintro e w1 ⟨v, rfl, ho, b1⟩
  obtain ⟨g, c, rfl, hg, hfr, hcell, hset⟩ := own_store ho (by omega)
  have r1 := h1.belowTop b1
  have hc := hcell (m % zs.length) hil
  have hf := hfr (m % zs.length)
  have hs := Rd.of_own_at (hset (m % zs.length) t hil)
  have bs := b1.setCell (p := ⟨g, m % zs.length, none⟩) hg (bv t)
  have rs := ((h1.below b1).setCell (p := ⟨g, m % zs.length, none⟩) hg (bv t)).more bs.size
  have T := Lib.hid (law_tail hL b1)
  by_cases hy : zs.getD (m % zs.length) 0 = t
  · subst hy
    generalize zs.getD (m % zs.length) 0 = t at hc T ⊢
    clear hs rs bs Hbad hset hcell hfr
    go_wp2_with fail
    refine T.out.mono ?_
    rintro e w2 ⟨rfl, b2⟩
    go_wp2
    go_ret
    exact ⟨rfl, b1.trans (b2.mono b1.size)⟩
  · have ty : (((zs.getD (m % zs.length) 0).toNat : Int) == (t.toNat : Int)) = false := by
      rw [beq_eq_false_iff_ne]
      exact fun hh => hy (UInt8.toNat_inj.1 (by omega))
    have hlen : (zs.set (m % zs.length) t).length = zs.length := List.length_set
    have kr := receive_any _ (hL.below bs) (some ⟨g, 0, none⟩) c (zs.set (m % zs.length) t) hs (by omega)
    rw [hlen] at kr
    have hb2 := fun ys => Hbad.out ys (m % zs.length) hil hy
    generalize recvL (zs.set (m % zs.length) t) = r at kr hb2
    obtain ⟨ys, n⟩ := r
    have hb3 : n = 0 → ys ≠ xs := fun hn => hb2 ys (by rw [hn])
    have KR : Hid (Calls Tryd.prog 27 #[.slice (some ⟨g, 0, none⟩) zs.length c] (w1.setCell ⟨g, m % zs.length, none⟩ (bv t)) (ResF (w1.setCell ⟨g, m % zs.length, none⟩ (bv t)) ys n)) := kr
    have Hb3 := Lib.hid hb3
    have Hs := Lib.hid hs
    have Rs := Lib.hid rs
    have Bs := Lib.hid bs
    clear kr hb2 hb3 hs rs bs hlen hy Hbad hset hcell hfr T
    generalize zs.getD (m % zs.length) 0 = t9 at hc ty
    go_wp2_with fail
    refine KR.out.mono ?_
    rintro e w2 ⟨A2, c2, rfl, r2, b2, _⟩
    have r1 := Rs.out.belowTop b2
    have b2 := Bs.out.trans (b2.mono Bs.out.size)
    have T := Lib.hid (law_tail hL b2)
    by_cases hn : n = 0
    · have tne : (ys == xs) = false := beq_eq_false_iff_ne.2 (Hb3.out hn)
      subst hn
      have s1 := r1.cv
      have s2 := r2.cv
      clear hc hf
      go_wp2_with fail
      refine T.out.mono ?_
      rintro e w3 ⟨rfl, b3⟩
      go_wp2
      go_ret
      exact ⟨rfl, b2.trans (b3.mono b2.size)⟩
    · have tn : (n != 0) = true := by rw [bne_iff_ne]; exact hn
      clear hn hc hf
      go_wp2_with fail
      refine T.out.mono ?_
      rintro e w3 ⟨rfl, b3⟩
      go_wp2
      go_ret
      exact ⟨rfl, b2.trans (b3.mono b2.size)⟩

set_option maxHeartbeats 800000 in
theorem lawChange_none (w : World) (hL : Laid w) (A1 : Option Addr) (c1 : Nat) (m : Nat) (t : UInt8) :
    Calls Tryd.prog 8 #[.slice A1 0 c1, .int .u16 (m : Int), bv t] w (ResB w true) := by
  have ks := Lib.hid (send_none w A1 c1)
  go_enter Tryd.func8, Tryd.ntmps8
  go_wp2_with fail
  refine ks.out.mono ?_
  rintro e w1 ⟨A2, c2, rfl, r2, b1⟩
  have T := Lib.hid (law_tail hL b1)
  go_wp2_with fail
  refine T.out.mono ?_
  rintro e w3 ⟨rfl, b3⟩
  go_wp2
  go_ret
  exact ⟨rfl, b1.trans (b3.mono b1.size)⟩
theorem lawChange_long (w : World) (A1 : Option Addr) (c1 n : Nat) (h : 300 < n) (m : Nat) (t : UInt8) :
    Calls Tryd.prog 8 #[.slice A1 n c1, .int .u16 (m : Int), bv t] w (ResB w true) := by
  have t1 : (300 : Int) < (n : Int) := by omega
  go_enter Tryd.func8, Tryd.ntmps8
  go_wp2
  go_ret
  exact ⟨rfl, Below.refl _ _⟩
theorem lawChange_any (w : World) (hL : Laid w) (A1 : Option Addr) (c1 : Nat) (xs : List UInt8) (h1 : Rd w w.heap.size A1 c1 xs) (m : Nat) (hm : m < 65536) (t : UInt8) :
    Calls Tryd.prog 8 #[.slice A1 xs.length c1, .int .u16 (m : Int), bv t] w (ResB w true) := by
  rcases Nat.lt_or_ge 300 xs.length with hx | hx
  · exact lawChange_long w A1 c1 xs.length hx m t
  · rcases Nat.eq_zero_or_pos xs.length with h0 | h0
    · rw [h0]
      exact lawChange_none w hL A1 c1 m t
    · exact lawChange_some w hL A1 c1 xs h1 hx h0 m hm t

end Go.Proofs.YtbeghnpdmcmdmaaDoor

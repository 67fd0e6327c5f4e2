/-
  Helper text: the walk of the law ChecksFive; no statement is proved here.
-/
import Derived.Test.YtfpfadenfoehfaaDoorRefC
namespace Go.Proofs.YtfpfadenfoehfaaDoor
open Go Go.RowKit

theorem part_join (w : World) (hL : Laid w) (v n : Nat) (hn : n ≤ 24) (hv : v < 2 ^ n) : Calls Tryd.prog 12 #[.int .u32 ((v + 2 ^ n * chk 20 5 n v : Nat) : Int), .int .i64 ((n + 5 : Nat) : Int)] w (ResN w .u32 v 0) := by
  have hc := chk_lt (m := 20) (d := 5) (by decide) hv
  have hok : okN 20 5 (n + 5) (v + 2 ^ n * chk 20 5 n v) := okN_join (m := 20) (d := 5) hv
  have hmod : (v + 2 ^ n * chk 20 5 n v) % 2 ^ n = v := by rw [Nat.add_mul_mod_self_left, Nat.mod_eq_of_lt hv]
  unfold okN at hok
  rw [Nat.add_sub_cancel] at hok
  have := Part_good w hL (v + 2 ^ n * chk 20 5 n v) n hn (by
    rw [Nat.pow_add]
    have h1 : v + 2 ^ n * chk 20 5 n v < 2 ^ n + 2 ^ n * chk 20 5 n v := by omega
    have h2 : 2 ^ n + 2 ^ n * chk 20 5 n v ≤ 2 ^ n * 2 ^ 5 := by
      have := Nat.mul_le_mul_left (2 ^ n) (show chk 20 5 n v + 1 ≤ 2 ^ 5 by omega)
      rw [Nat.mul_add, Nat.mul_one] at this
      omega
    omega)
  rw [if_pos hok, if_pos hok, hmod] at this
  exact this

set_option maxHeartbeats 1600000 in
set_option maxRecDepth 100000 in
theorem lawFive_bad (w : World) (hL : Laid w) (v : Nat) (n : Int) (hv : v < 2 ^ 32) (hn : n < 0 ∨ 24 < n) :
    Calls Tryd.prog 3 #[.int .u32 (v : Int), .int .i64 n] w (ResB w true) := by
  have hf : ¬ Fit v n 24 := fun h => by have := h.1; have := h.2.1; omega
  have K1 := Lib.hid (Five_bad w v n hf)
  have K2 := Lib.hid fun W => Join_bad W v n hf
  clear hf
  rcases hn with hn | hn
  · go_enter Tryd.func3, Tryd.ntmps3
    go_wp2_with fail
    refine K1.out.mono ?_
    rintro e w1 ⟨rfl, b1⟩
    go_wp2_with fail
    refine (K2.out _).mono ?_
    rintro e w2 ⟨rfl, b2⟩
    have b2 := b1.trans (b2.mono b1.size)
    go_wp2_with fail
    refine (lives_any w2 (hL.below b2)).mono ?_
    rintro e w3 ⟨rfl, b3⟩
    go_wp2
    go_ret
    exact ⟨rfl, b2.trans (b3.mono b2.size)⟩
  · have hn2 : ¬ n < 0 := by omega
    go_enter Tryd.func3, Tryd.ntmps3
    go_wp2_with fail
    refine K1.out.mono ?_
    rintro e w1 ⟨rfl, b1⟩
    go_wp2_with fail
    refine (K2.out _).mono ?_
    rintro e w2 ⟨rfl, b2⟩
    have b2 := b1.trans (b2.mono b1.size)
    go_wp2_with fail
    refine (lives_any w2 (hL.below b2)).mono ?_
    rintro e w3 ⟨rfl, b3⟩
    go_wp2
    go_ret
    exact ⟨rfl, b2.trans (b3.mono b2.size)⟩

set_option maxHeartbeats 1600000 in
set_option maxRecDepth 100000 in
theorem lawFive_great (w : World) (hL : Laid w) (v n : Nat) (hv : v < 2 ^ 32) (hn : n ≤ 24) (hvn : ¬ v < 2 ^ n) :
    Calls Tryd.prog 3 #[.int .u32 (v : Int), .int .i64 (n : Int)] w (ResB w true) := by
  have hf : ¬ Fit v n 24 := fun h => by have := h.2.2; rw [Int.toNat_natCast] at this; exact hvn this
  have K1 := Lib.hid (Five_bad w v n hf)
  have K2 := Lib.hid fun W => Join_bad W v n hf
  have t1 : ((v : Int) / 2 ^ n == 0) = false := by rw [div_zero_iff, decide_eq_false hvn]
  have t2 : ((v : Int) / 2 ^ n != 0) = true := by rw [bne, t1]; rfl
  clear t1
  clear hf hvn
  go_enter Tryd.func3, Tryd.ntmps3
  go_wp2_with fail
  refine K1.out.mono ?_
  rintro e w1 ⟨rfl, b1⟩
  go_wp2_with fail
  refine (K2.out _).mono ?_
  rintro e w2 ⟨rfl, b2⟩
  have b2 := b1.trans (b2.mono b1.size)
  go_wp2_with fail
  refine (lives_any w2 (hL.below b2)).mono ?_
  rintro e w3 ⟨rfl, b3⟩
  go_wp2
  go_ret
  exact ⟨rfl, b2.trans (b3.mono b2.size)⟩

set_option maxHeartbeats 1600000 in
set_option maxRecDepth 100000 in
theorem lawFive_good (w : World) (hL : Laid w) (v n : Nat) (hn : n ≤ 24) (hv : v < 2 ^ n) :
    Calls Tryd.prog 3 #[.int .u32 (v : Int), .int .i64 (n : Int)] w (ResB w true) := by
  have t1 : ((v : Int) / 2 ^ n == 0) = true := by rw [div_zero_iff, decide_eq_true hv]
  have t2 : ((v : Int) / 2 ^ n != 0) = false := by rw [bne, t1]; rfl
  clear t1
  have hc := chk_lt (m := 20) (d := 5) (by decide) hv
  have K1 := Lib.hid (Five_good w hL v n hn hv)
  have K2 := Lib.hid fun W hLW => Join_good W hLW v n hn hv
  have K3 := Lib.hid fun W => refFive_any W v n hn hv
  have K4 := Lib.hid fun W hLW => part_join W hLW v n hn hv
  have hp : 2 ^ n ≤ 2 ^ 24 := Nat.pow_le_pow_right (by omega) hn
  generalize chk 20 5 n v = c at hc K1 K2 K3 K4
  generalize hJ : v + 2 ^ n * c = J at K2 K4
  generalize hN : n + 5 = N at K4
  have hb : 2 ^ n * c < 2 ^ 29 := by
    have := Nat.mul_le_mul hp (by omega : c ≤ 31)
    omega
  have hv24 : v < 2 ^ 24 := Nat.lt_of_lt_of_le hv hp
  have t5 : IntKind.u64.wrap ((c : Int) * 2 ^ n) = ((2 ^ n * c : Nat) : Int) := by
    have : (c : Int) * 2 ^ n = ((2 ^ n * c : Nat) : Int) := by
      rw [Nat.mul_comm]; simp only [Int.natCast_mul, Int.natCast_pow]; rfl
    rw [this, IntKind.wrap_u64]; omega
  have t6 : IntKind.u64.wrap (v : Int) = (v : Int) := by rw [IntKind.wrap_u64]; omega
  generalize 2 ^ n * c = P at hb t5 hJ
  have t7 : IntKind.u64.wrap (J : Int) = (J : Int) := by rw [IntKind.wrap_u64]; omega
  have t8 : IntKind.u64.wrap ((v : Int) + (P : Int)) = (J : Int) := by rw [IntKind.wrap_u64]; omega
  have HJ := Lib.hid hJ
  have HN := Lib.hid hN
  have h7 : (n : Int) + 5 = (N : Int) := by omega
  clear hJ hN hv
  go_enter Tryd.func3, Tryd.ntmps3
  go_wp2_with fail
  refine K1.out.mono ?_
  rintro e w1 ⟨rfl, b1⟩
  go_wp2_with fail
  refine (K2.out _ (hL.below b1)).mono ?_
  rintro e w2 ⟨rfl, b2⟩
  have b2 := b1.trans (b2.mono b1.size)
  go_wp2_with fail
  refine (K3.out _).mono ?_
  rintro e w3 ⟨rfl, b3⟩
  have b3 := b2.trans (b3.mono b2.size)
  go_wp2_with fail
  refine (K4.out _ (hL.below b3)).mono ?_
  rintro e w4 ⟨rfl, b4⟩
  have b4 := b3.trans (b4.mono b3.size)
  go_wp2_with fail
  refine (lives_any w4 (hL.below b4)).mono ?_
  rintro e w5 ⟨rfl, b5⟩
  go_wp2
  go_ret
  exact ⟨rfl, b4.trans (b5.mono b4.size)⟩

theorem lawFive_any (w : World) (hL : Laid w) (v : Nat) (n : Int) (hv : v < 2 ^ 32) :
    Calls Tryd.prog 3 #[.int .u32 (v : Int), .int .i64 n] w (ResB w true) := by
  by_cases h : n < 0 ∨ 24 < n
  · exact lawFive_bad w hL v n hv h
  · obtain ⟨k, rfl⟩ : ∃ k : Nat, n = (k : Int) := ⟨n.toNat, by omega⟩
    by_cases hvk : v < 2 ^ k
    · exact lawFive_good w hL v k (by omega) hvk
    · exact lawFive_great w hL v k hv (by omega) hvk

end Go.Proofs.YtfpfadenfoehfaaDoor

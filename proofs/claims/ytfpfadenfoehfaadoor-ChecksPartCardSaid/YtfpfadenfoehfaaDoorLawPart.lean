/-
  Helper text: the walk of the law ChecksPart; no statement is proved here.
-/
import Derived.Test.YtfpfadenfoehfaaDoorRefC
namespace Go.Proofs.YtfpfadenfoehfaaDoor
open Go Go.RowKit

set_option maxHeartbeats 1600000 in
set_option maxRecDepth 100000 in
theorem lawPart_bad (w : World) (hL : Laid w) (v : Nat) (n : Int) (hv : v < 2 ^ 32) (hn : n < 0 ∨ 29 < n) :
    Calls Tryd.prog 4 #[.int .u32 (v : Int), .int .i64 n] w (ResB w true) := by
  have hf : ¬ Fit v n 29 := fun h => by have := h.1; have := h.2.1; omega
  have K1 := Lib.hid (Part_bad w v n hf)
  clear hf
  rcases hn with hn | hn
  · go_enter Tryd.func4, Tryd.ntmps4
    go_wp2_with fail
    refine K1.out.mono ?_
    rintro e w1 ⟨rfl, b1⟩
    go_wp2_with fail
    refine (lives_any w1 (hL.below b1)).mono ?_
    rintro e w3 ⟨rfl, b3⟩
    go_wp2
    go_ret
    exact ⟨rfl, b1.trans (b3.mono b1.size)⟩
  · have hn2 : ¬ n < 0 := by omega
    go_enter Tryd.func4, Tryd.ntmps4
    go_wp2_with fail
    refine K1.out.mono ?_
    rintro e w1 ⟨rfl, b1⟩
    go_wp2_with fail
    refine (lives_any w1 (hL.below b1)).mono ?_
    rintro e w3 ⟨rfl, b3⟩
    go_wp2
    go_ret
    exact ⟨rfl, b1.trans (b3.mono b1.size)⟩

set_option maxHeartbeats 1600000 in
set_option maxRecDepth 100000 in
theorem lawPart_great (w : World) (hL : Laid w) (v n : Nat) (hn : n ≤ 29) (hvn : ¬ v < 2 ^ n) :
    Calls Tryd.prog 4 #[.int .u32 (v : Int), .int .i64 (n : Int)] w (ResB w true) := by
  have hf : ¬ Fit v n 29 := fun h => by have := h.2.2; rw [Int.toNat_natCast] at this; exact hvn this
  have K1 := Lib.hid (Part_bad w v n hf)
  have t1 : ((v : Int) / 2 ^ n == 0) = false := by rw [div_zero_iff, decide_eq_false hvn]
  have t2 : ((v : Int) / 2 ^ n != 0) = true := by rw [bne, t1]; rfl
  clear hf hvn t1
  go_enter Tryd.func4, Tryd.ntmps4
  go_wp2_with fail
  refine K1.out.mono ?_
  rintro e w1 ⟨rfl, b1⟩
  go_wp2_with fail
  refine (lives_any w1 (hL.below b1)).mono ?_
  rintro e w3 ⟨rfl, b3⟩
  go_wp2
  go_ret
  exact ⟨rfl, b1.trans (b3.mono b1.size)⟩

set_option maxHeartbeats 1600000 in
set_option maxRecDepth 100000 in
theorem lawPart_width (w : World) (hL : Laid w) (v n : Nat) (hn : n < 5) (hvn : v < 2 ^ n) :
    Calls Tryd.prog 4 #[.int .u32 (v : Int), .int .i64 (n : Int)] w (ResB w true) := by
  have K1 := Lib.hid (Part_width w v n hn hvn)
  have t1 : ((v : Int) / 2 ^ n == 0) = true := by rw [div_zero_iff, decide_eq_true hvn]
  have t2 : ((v : Int) / 2 ^ n != 0) = false := by rw [bne, t1]; rfl
  clear hvn t1
  go_enter Tryd.func4, Tryd.ntmps4
  go_wp2_with fail
  refine K1.out.mono ?_
  rintro e w1 ⟨rfl, b1⟩
  go_wp2_with fail
  refine (lives_any w1 (hL.below b1)).mono ?_
  rintro e w3 ⟨rfl, b3⟩
  go_wp2
  go_ret
  exact ⟨rfl, b1.trans (b3.mono b1.size)⟩

set_option maxHeartbeats 1600000 in
set_option maxRecDepth 100000 in
theorem lawPart_good (w : World) (hL : Laid w) (v k : Nat) (hk : k ≤ 24) (hv : v < 2 ^ (k + 5)) :
    Calls Tryd.prog 4 #[.int .u32 (v : Int), .int .i64 ((k + 5 : Nat) : Int)] w (ResB w true) := by
  have hx : v % 2 ^ k < 2 ^ k := Nat.mod_lt _ (Nat.two_pow_pos k)
  have t1 : ((v : Int) / 2 ^ (k + 5) == 0) = true := by rw [div_zero_iff, decide_eq_true hv]
  have t2 : ((v : Int) / 2 ^ (k + 5) != 0) = false := by rw [bne, t1]; rfl
  have hc := chk_lt (m := 20) (d := 5) (by decide) hx
  have K1 := Lib.hid (Part_good w hL v k hk hv)
  have K3 := Lib.hid fun W => refFive_any W (v % 2 ^ k) k hk hx
  have hT : (v : Int) / 2 ^ k = ((v / 2 ^ k : Nat) : Int) := by simp only [Int.natCast_ediv, Int.natCast_pow]; rfl
  have hX : (v : Int) % 2 ^ k = ((v % 2 ^ k : Nat) : Int) := by simp only [Int.natCast_emod, Int.natCast_pow]; rfl
  have hp1 : (2 : Int) ^ k % 4294967296 = 2 ^ k := by
    have h2 : 2 ^ k ≤ 2 ^ 24 := Nat.pow_le_pow_right (by omega) hk
    have : (2 : Int) ^ k = ((2 ^ k : Nat) : Int) := by simp only [Int.natCast_pow]; rfl
    rw [this]; omega
  clear t1
  have hTl : v / 2 ^ k < 2 ^ 5 := by
    rw [Nat.div_lt_iff_lt_mul (Nat.two_pow_pos k), ← Nat.pow_add, Nat.add_comm]; exact hv
  generalize chk 20 5 k (v % 2 ^ k) = c at hc K1 K3
  generalize v / 2 ^ k = T at hT K1 hTl
  have hw1 : IntKind.u64.wrap (T : Int) = (T : Int) := by rw [IntKind.wrap_u64]; omega
  generalize v % 2 ^ k = x at hX hx K1 K3
  generalize hN : k + 5 = N at K1 t2 ⊢
  have h7 : (N : Int) - 5 = (k : Int) := by omega
  have h8 : (5 : Int) ≤ (N : Int) := by omega
  have h9 : (N : Int) ≤ 29 := by omega
  have HN := Lib.hid hN
  clear hN hx hv
  go_enter Tryd.func4, Tryd.ntmps4
  go_wp2_with fail
  by_cases hcT : c = T
  · have K1' := K1.out
    rw [if_pos hcT, if_pos hcT] at K1'
    refine K1'.mono ?_
    rintro e w1 ⟨rfl, b1⟩
    clear K1' K1
    subst hcT
    go_wp2_with fail
    refine (K3.out _).mono ?_
    rintro e w2 ⟨rfl, b2⟩
    have b2 := b1.trans (b2.mono b1.size)
    go_wp2_with fail
    refine (lives_any w2 (hL.below b2)).mono ?_
    rintro e w3 ⟨rfl, b3⟩
    go_wp2
    go_ret
    exact ⟨rfl, b2.trans (b3.mono b2.size)⟩
  · have K1' := K1.out
    rw [if_neg hcT, if_neg hcT] at K1'
    refine K1'.mono ?_
    rintro e w1 ⟨rfl, b1⟩
    clear K1' K1
    have hci : ¬ (c : Int) = (T : Int) := by omega
    have hcb : ((c : Int) == (T : Int)) = false := by rw [beq_eq_false_iff_ne]; exact hci
    go_wp2_with fail
    refine (K3.out _).mono ?_
    rintro e w2 ⟨rfl, b2⟩
    have b2 := b1.trans (b2.mono b1.size)
    go_wp2_with fail
    refine (lives_any w2 (hL.below b2)).mono ?_
    rintro e w3 ⟨rfl, b3⟩
    go_wp2
    go_ret
    exact ⟨rfl, b2.trans (b3.mono b2.size)⟩

theorem lawPart_any (w : World) (hL : Laid w) (v : Nat) (n : Int) (hv : v < 2 ^ 32) :
    Calls Tryd.prog 4 #[.int .u32 (v : Int), .int .i64 n] w (ResB w true) := by
  by_cases h : n < 0 ∨ 29 < n
  · exact lawPart_bad w hL v n hv h
  · obtain ⟨k, rfl⟩ : ∃ k : Nat, n = (k : Int) := ⟨n.toNat, by omega⟩
    by_cases hvk : v < 2 ^ k
    · by_cases h5 : k < 5
      · exact lawPart_width w hL v k h5 hvk
      · obtain ⟨j, rfl⟩ : ∃ j, k = j + 5 := ⟨k - 5, by omega⟩
        exact lawPart_good w hL v j (by omega) hvk
    · exact lawPart_great w hL v k (by omega) hvk

end Go.Proofs.YtfpfadenfoehfaaDoor

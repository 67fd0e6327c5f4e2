/-
  Helper text: the walks of the laws SpeedsBudget, SpeedsSplits and SpeedsMost; no statement is proved here.
-/
import Derived.Test.YtkmjemaajgdoiaaRefS
namespace Go.Proofs.Ytkmjemaajgdoiaa
open Go Go.RowKit

theorem block_at {w : World} {g t i : Nat} {cs : Array Value} {v : Value} (h : w.heap[g]? = some (.cells cs t (0, 0))) (hv : cs[i]? = some v) : w.cell? ⟨g, i, none⟩ = some v := by
  rw [cell_of_row w g i cs t (0, 0) h]; exact hv

theorem lawBudget_any (w : World) (s : Nat) (hs : s < 256) : Calls Try.prog 5 #[.int .u8 (s : Int)] w (ResB w true) := by
  have K1 := Lib.hid (budget_any w s hs)
  have K2 := Lib.hid (share_any w s hs)
  have K3 := Lib.hid (lives_any w)
  by_cases h2 : s ≤ 2
  · rcases (by omega : s = 0 ∨ s = 1 ∨ s = 2) with rfl | rfl | rfl
    · rw [show budN 0 = 12000 from rfl] at K1
      rw [show shaN 0 = 10800 from rfl] at K2
      go_enter Try.func5, Try.ntmps5
      go_wp2_with fail
      refine K1.out.mono ?_
      rintro e w1 ⟨rfl, rfl⟩
      go_wp2_with fail
      refine K2.out.mono ?_
      rintro e w1 ⟨rfl, rfl⟩
      go_wp2_with fail
      refine K3.out.mono ?_
      rintro e w1 ⟨rfl, b1⟩
      go_wp2
      go_ret
      exact ⟨rfl, b1⟩
    · rw [show budN 1 = 12000 from rfl] at K1
      rw [show shaN 1 = 10800 from rfl] at K2
      go_enter Try.func5, Try.ntmps5
      go_wp2_with fail
      refine K1.out.mono ?_
      rintro e w1 ⟨rfl, rfl⟩
      go_wp2_with fail
      refine K2.out.mono ?_
      rintro e w1 ⟨rfl, rfl⟩
      go_wp2_with fail
      refine K3.out.mono ?_
      rintro e w1 ⟨rfl, b1⟩
      go_wp2
      go_ret
      exact ⟨rfl, b1⟩
    · rw [show budN 2 = 60000 from rfl] at K1
      rw [show shaN 2 = 48000 from rfl] at K2
      go_enter Try.func5, Try.ntmps5
      go_wp2_with fail
      refine K1.out.mono ?_
      rintro e w1 ⟨rfl, rfl⟩
      go_wp2_with fail
      refine K2.out.mono ?_
      rintro e w1 ⟨rfl, rfl⟩
      go_wp2_with fail
      refine K3.out.mono ?_
      rintro e w1 ⟨rfl, b1⟩
      go_wp2
      go_ret
      exact ⟨rfl, b1⟩
  · rw [show budN s = 0 by unfold budN; rw [if_neg (by omega), if_neg (by omega)]] at K1
    rw [show shaN s = 0 by unfold shaN; rw [if_neg (by omega), if_neg (by omega)]] at K2
    have h0 : ¬ (s : Int) = 0 := by omega
    have h1 : ¬ (s : Int) = 1 := by omega
    have h2 : ¬ (s : Int) = 2 := by omega
    have b0 : ((s : Int) == 0) = false := by rw [beq_eq_false_iff_ne]; exact h0
    have b1 : ((s : Int) == 1) = false := by rw [beq_eq_false_iff_ne]; exact h1
    have b2 : ((s : Int) == 2) = false := by rw [beq_eq_false_iff_ne]; exact h2
    go_enter Try.func5, Try.ntmps5
    go_wp2_with fail
    refine K1.out.mono ?_
    rintro e w1 ⟨rfl, rfl⟩
    go_wp2_with fail
    refine K2.out.mono ?_
    rintro e w1 ⟨rfl, rfl⟩
    go_wp2_with fail
    refine K3.out.mono ?_
    rintro e w1 ⟨rfl, b1⟩
    go_wp2
    go_ret
    exact ⟨rfl, b1⟩

theorem lawSplits_a (w : World) (k : Nat) (i : Bool) (n : Int) (hk : k < 256) (h1 : 3 < k) : Calls Try.prog 4 #[.int .u8 (k : Int), .bool i, .int .i64 n] w (ResB w true) := by
  have K1 := Lib.hid (Start_bad w k i n (.inl h1))
  have K2 := Lib.hid fun W => Compl_bad W k i n hk (.inl (.inl h1))
  have K3 := Lib.hid lives_any
  have t1 : ¬ (k : Int) ≤ 3 := by omega
  have t2 : (3 : Int) < (k : Int) := by omega
  clear h1
  go_enter Try.func4, Try.ntmps4
  go_wp2_with fail
  refine K1.out.mono ?_
  rintro e w1 ⟨rfl, b1⟩
  go_wp2_with fail
  refine (K2.out _).mono ?_
  rintro e w2 ⟨rfl, b2⟩
  have b2 := b1.trans (b2.mono b1.size)
  go_wp2_with fail
  refine (K3.out _).mono ?_
  rintro e w3 ⟨rfl, b3⟩
  have b3 := b2.trans (b3.mono b2.size)
  go_wp2
  go_ret
  exact ⟨rfl, b3⟩
theorem lawSplits_b (w : World) (k : Nat) (i : Bool) (n : Int) (hk : k < 256) (h1 : k ≤ 3) (h2 : n < 0) : Calls Try.prog 4 #[.int .u8 (k : Int), .bool i, .int .i64 n] w (ResB w true) := by
  have K1 := Lib.hid (Start_bad w k i n (.inr (.inl h2)))
  have K2 := Lib.hid fun W => Compl_bad W k i n hk (.inl (.inr (.inl h2)))
  have K3 := Lib.hid lives_any
  have t1 : (k : Int) ≤ 3 := by omega
  have t2 : ¬ (3 : Int) < (k : Int) := by omega
  go_enter Try.func4, Try.ntmps4
  go_wp2_with fail
  refine K1.out.mono ?_
  rintro e w1 ⟨rfl, b1⟩
  go_wp2_with fail
  refine (K2.out _).mono ?_
  rintro e w2 ⟨rfl, b2⟩
  have b2 := b1.trans (b2.mono b1.size)
  go_wp2_with fail
  refine (K3.out _).mono ?_
  rintro e w3 ⟨rfl, b3⟩
  have b3 := b2.trans (b3.mono b2.size)
  go_wp2
  go_ret
  exact ⟨rfl, b3⟩
theorem lawSplits_c (w : World) (k : Nat) (i : Bool) (n : Int) (hk : k < 256) (h1 : k ≤ 3) (h2 : ¬ n < 0) (h3 : 1024 < n) : Calls Try.prog 4 #[.int .u8 (k : Int), .bool i, .int .i64 n] w (ResB w true) := by
  have K1 := Lib.hid (Start_bad w k i n (.inr (.inr h3)))
  have K2 := Lib.hid fun W => Compl_bad W k i n hk (.inl (.inr (.inr h3)))
  have K3 := Lib.hid lives_any
  have t1 : (k : Int) ≤ 3 := by omega
  have t2 : ¬ (3 : Int) < (k : Int) := by omega
  go_enter Try.func4, Try.ntmps4
  go_wp2_with fail
  refine K1.out.mono ?_
  rintro e w1 ⟨rfl, b1⟩
  go_wp2_with fail
  refine (K2.out _).mono ?_
  rintro e w2 ⟨rfl, b2⟩
  have b2 := b1.trans (b2.mono b1.size)
  go_wp2_with fail
  refine (K3.out _).mono ?_
  rintro e w3 ⟨rfl, b3⟩
  have b3 := b2.trans (b3.mono b2.size)
  go_wp2
  go_ret
  exact ⟨rfl, b3⟩
theorem lawSplits_none (w : World) (n : Nat) (hn : n ≤ 1024) : Calls Try.prog 4 #[.int .u8 1, .bool false, .int .i64 (n : Int)] w (ResB w true) := by
  have K1 := Lib.hid (Start_good w 1 false n (by omega) hn)
  have K2 := Lib.hid fun W => Compl_bad W 1 false (n : Int) (by omega) (.inr ⟨rfl, rfl⟩)
  have K3 := Lib.hid fun W => refStart_any W 1 n false hn
  have K4 := Lib.hid lives_any
  generalize startN 1 false n = T at K1 K3
  go_enter Try.func4, Try.ntmps4
  go_wp2_with fail
  refine K1.out.mono ?_
  rintro e w1 ⟨rfl, b1⟩
  go_wp2_with fail
  refine (K2.out _).mono ?_
  rintro e w2 ⟨rfl, b2⟩
  have b2 := b1.trans (b2.mono b1.size)
  go_wp2_with fail
  refine (K3.out _).mono ?_
  rintro e w3 ⟨rfl, b3⟩
  have b3 := b2.trans (b3.mono b2.size)
  go_wp2_with fail
  refine (K4.out _).mono ?_
  rintro e w4 ⟨rfl, b4⟩
  have b4 := b3.trans (b4.mono b3.size)
  go_wp2
  go_ret
  exact ⟨rfl, b4⟩
theorem lawSplits_one (w : World) (n : Nat)  (hn : n ≤ 1024) : Calls Try.prog 4 #[.int .u8 1, .bool true, .int .i64 (n : Int)] w (ResB w true) := by
  have K1 := Lib.hid (Start_good w 1 true n (by omega) hn)
  have K2 := Lib.hid fun W => Compl_good W 1 true n (by omega) hn (by simp)
  have K3 := Lib.hid fun W => refStart_any W 1 n true hn
  have K5 := Lib.hid fun W => refCompl_any W 1 n true hn
  have K4 := Lib.hid lives_any
  generalize startN 1 true n = T at K1 K3
  generalize complN 1 true n = U at K2 K5
  go_enter Try.func4, Try.ntmps4
  go_wp2_with fail
  refine K1.out.mono ?_
  rintro e w1 ⟨rfl, b1⟩
  go_wp2_with fail
  refine (K2.out _).mono ?_
  rintro e w2 ⟨rfl, b2⟩
  have b2 := b1.trans (b2.mono b1.size)
  go_wp2_with fail
  refine (K3.out _).mono ?_
  rintro e w3 ⟨rfl, b3⟩
  have b3 := b2.trans (b3.mono b2.size)
  go_wp2_with fail
  refine (K5.out _).mono ?_
  rintro e w5 ⟨rfl, b5⟩
  have b5 := b3.trans (b5.mono b3.size)
  go_wp2_with fail
  refine (K4.out _).mono ?_
  rintro e w4 ⟨rfl, b4⟩
  have b4 := b5.trans (b4.mono b5.size)
  go_wp2
  go_ret
  exact ⟨rfl, b4⟩
theorem lawSplits_k (w : World) (n : Nat) (k : Nat) (i : Bool) (hk : k ≤ 3) (hk1 : ¬ k = 1) (hn : n ≤ 1024) : Calls Try.prog 4 #[.int .u8 (k : Int), .bool i, .int .i64 (n : Int)] w (ResB w true) := by
  have K1 := Lib.hid (Start_good w k i n hk hn)
  have K2 := Lib.hid fun W => Compl_good W k i n hk hn (fun h => hk1 h.1)
  have K3 := Lib.hid fun W => refStart_any W k n i hn
  have K5 := Lib.hid fun W => refCompl_any W k n i hn
  have K4 := Lib.hid lives_any
  generalize startN k i n = T at K1 K3
  generalize complN k i n = U at K2 K5
  have t1 : ¬ (k : Int) = 1 := by omega
  have t2 : ((k : Int) == 1) = false := by rw [beq_eq_false_iff_ne]; exact t1
  have t3 : ¬ (3 : Int) < (k : Int) := by omega
  clear hk1
  go_enter Try.func4, Try.ntmps4
  go_wp2_with fail
  refine K1.out.mono ?_
  rintro e w1 ⟨rfl, b1⟩
  go_wp2_with fail
  refine (K2.out _).mono ?_
  rintro e w2 ⟨rfl, b2⟩
  have b2 := b1.trans (b2.mono b1.size)
  go_wp2_with fail
  refine (K3.out _).mono ?_
  rintro e w3 ⟨rfl, b3⟩
  have b3 := b2.trans (b3.mono b2.size)
  go_wp2_with fail
  refine (K5.out _).mono ?_
  rintro e w5 ⟨rfl, b5⟩
  have b5 := b3.trans (b5.mono b3.size)
  go_wp2_with fail
  refine (K4.out _).mono ?_
  rintro e w4 ⟨rfl, b4⟩
  have b4 := b5.trans (b4.mono b5.size)
  go_wp2
  go_ret
  exact ⟨rfl, b4⟩
theorem lawSplits_any (w : World) (k : Nat) (i : Bool) (n : Int) (hk : k < 256) : Calls Try.prog 4 #[.int .u8 (k : Int), .bool i, .int .i64 n] w (ResB w true) := by
  by_cases h1 : 3 < k
  · exact lawSplits_a w k i n hk h1
  · by_cases h2 : n < 0
    · exact lawSplits_b w k i n hk (by omega) h2
    · by_cases h3 : 1024 < n
      · exact lawSplits_c w k i n hk (by omega) h2 h3
      · obtain ⟨m, rfl⟩ : ∃ m : Nat, n = (m : Int) := ⟨n.toNat, by omega⟩
        by_cases hk1 : k = 1
        · subst hk1
          cases i
          · exact lawSplits_none w m (by omega)
          · exact lawSplits_one w m (by omega)
        · exact lawSplits_k w m k i (by omega) hk1 (by omega)

set_option maxHeartbeats 800000 in
set_option maxRecDepth 100000 in
theorem lawMost_bad (w : World) (s k : Nat) (a b : Int) (hs : s < 256) (hk : k < 256) (h : 2 < s ∨ 3 < k ∨ a < 1 ∨ 1024 < a ∨ b < 0) : Calls Try.prog 7 #[.int .u8 (s : Int), .int .u8 (k : Int), .agg #[.int .i64 a, .int .i64 b]] w (ResB w true) := by
  have K1 := Lib.hid fun W => Most_bad W s k a b hs h
  have K2 := Lib.hid lives_any
  have hn := heap_alloc_new w (.cells #[.int .i64 a, .int .i64 b] 22)
  have hb := (Below.refl w.heap.size w).alloc (Nat.le_refl _) (.cells #[.int .i64 a, .int .i64 b] 22)
  have hlt := lt_of_block hn
  rcases (by omega : (2 : Int) < s ∨ (¬ (2 : Int) < s ∧ (3 : Int) < k) ∨ (¬ (2 : Int) < s ∧ ¬ (3 : Int) < k ∧ a < 1) ∨ (¬ (2 : Int) < s ∧ ¬ (3 : Int) < k ∧ ¬ a < 1 ∧ 1024 < a) ∨ (¬ (2 : Int) < s ∧ ¬ (3 : Int) < k ∧ ¬ a < 1 ∧ ¬ 1024 < a ∧ b < 0)) with t1 | ⟨t1, t2⟩ | ⟨t1, t2, t3⟩ | ⟨t1, t2, t3, t4⟩ | ⟨t1, t2, t3, t4, t5⟩
  all_goals
    clear h
    go_enter Try.func7, Try.ntmps7
    go_wp2_with fail
    refine (K1.out _).mono ?_
    rintro e w1 ⟨rfl, b1⟩
    have hn1 := (b1.block _ hlt).trans hn
    have c0 := block_at (i := 0) hn1 rfl
    have c1 := block_at (i := 1) hn1 rfl
    have b1 := hb.trans (b1.mono hb.size)
    clear hn1 hn hlt hb
    go_wp2_with fail
    refine (K2.out _).mono ?_
    rintro e w2 ⟨rfl, b2⟩
    have b2 := b1.trans (b2.mono b1.size)
    go_wp2
    go_ret
    exact ⟨rfl, b2⟩

set_option maxHeartbeats 800000 in
set_option maxRecDepth 100000 in
theorem lawMost_good (w : World) (s k a b : Nat) (hs : s ≤ 2) (hk : k ≤ 3) (h1 : 1 ≤ a) (h2 : a ≤ 1024) (h3 : b < 2 ^ 63) : Calls Try.prog 7 #[.int .u8 (s : Int), .int .u8 (k : Int), .agg #[.int .i64 (a : Int), .int .i64 (b : Int)]] w (ResB w true) := by
  have K1 := Lib.hid fun W => Most_good W s k a b hs hk h1 h2 h3
  have K2 := Lib.hid lives_any
  have K3 := Lib.hid fun W => refCost_any W s k a (by omega) (by omega) h2
  have hg := costN_gt s k a
  generalize costN s k a = C at K1 K3 hg
  have e1 : (b : Int) / (C : Int) = ((b / C : Nat) : Int) := by simp only [Int.natCast_ediv]
  have e2 : (b : Int).tdiv (C : Int) = ((b / C : Nat) : Int) := by rw [Int.tdiv_eq_ediv_of_nonneg (by omega)]; exact e1
  have hX : a * (b / C) ≤ b := Nat.le_trans (Nat.mul_le_mul_right _ (Nat.le_of_lt hg)) (Nat.mul_div_le b C)
  have e3 : ((a * (b / C) : Nat) : Int) / (a : Int) = ((b / C : Nat) : Int) := by
    rw [← Int.natCast_ediv, Nat.mul_div_cancel_left _ (by omega)]
  have e4 : ((a * (b / C) : Nat) : Int).tdiv (a : Int) = ((b / C : Nat) : Int) := by rw [Int.tdiv_eq_ediv_of_nonneg (by omega)]; exact e3
  have e5 : ((a * (b / C) : Nat) : Int) % (a : Int) = 0 := by
    rw [← Int.natCast_emod, Nat.mul_mod_right]; rfl
  have e6 : ((a * (b / C) : Nat) : Int).tmod (a : Int) = 0 := by rw [Int.tmod_eq_emod_of_nonneg (by omega)]; exact e5
  have hqb : b / C ≤ b := Nat.div_le_self _ _
  generalize a * (b / C) = X at K1 hX e3 e4 e5 e6
  generalize b / C = q at e1 e2 e3 e4 hqb
  have hC0 : ¬ (C : Int) = 0 := by omega
  have hCb : ((C : Int) == 0) = false := by rw [beq_eq_false_iff_ne]; exact hC0
  have ha0 : ¬ (a : Int) = 0 := by omega
  have hab : ((a : Int) == 0) = false := by rw [beq_eq_false_iff_ne]; exact ha0
  have t1 : ¬ (2 : Int) < s := by omega
  have t2 : ¬ (3 : Int) < k := by omega
  have t3 : ¬ (a : Int) < 1 := by omega
  have t4 : ¬ 1024 < (a : Int) := by omega
  have t5 : ¬ (b : Int) < 0 := by omega
  have hXi : (X : Int) ≤ 9223372036854775807 := by omega
  have hqi : (q : Int) ≤ 9223372036854775807 := by omega
  have hn := heap_alloc_new w (.cells #[.int .i64 (a : Int), .int .i64 (b : Int)] 22)
  have hb := (Below.refl w.heap.size w).alloc (Nat.le_refl _) (.cells #[.int .i64 (a : Int), .int .i64 (b : Int)] 22)
  have hlt := lt_of_block hn
  go_enter Try.func7, Try.ntmps7
  go_wp2_with fail
  refine (K1.out _).mono ?_
  rintro e w1 ⟨rfl, b1⟩
  have hn1 := (b1.block _ hlt).trans hn
  have c0 := block_at (i := 0) hn1 rfl
  have c1 := block_at (i := 1) hn1 rfl
  have b1 := hb.trans (b1.mono hb.size)
  clear hn hlt hb
  go_wp2_with fail
  refine (K3.out _).mono ?_
  rintro e w2 ⟨rfl, b2⟩
  have hn2 := (b2.block _ (lt_of_block hn1)).trans hn1
  have c2 := block_at (i := 0) hn2 rfl
  have c3 := block_at (i := 1) hn2 rfl
  have b2 := b1.trans (b2.mono b1.size)
  clear hn1 hn2 c0 c1
  go_wp2_with fail
  refine (K2.out _).mono ?_
  rintro e w3 ⟨rfl, b3⟩
  have b3 := b2.trans (b3.mono b2.size)
  go_wp2
  go_ret
  exact ⟨rfl, b3⟩
theorem lawMost_any (w : World) (s k : Nat) (a b : Int) (hs : s < 256) (hk : k < 256) (hb : b ≤ 9223372036854775807) : Calls Try.prog 7 #[.int .u8 (s : Int), .int .u8 (k : Int), .agg #[.int .i64 a, .int .i64 b]] w (ResB w true) := by
  by_cases h : 2 < s ∨ 3 < k ∨ a < 1 ∨ 1024 < a ∨ b < 0
  · exact lawMost_bad w s k a b hs hk h
  · obtain ⟨m, rfl⟩ : ∃ m : Nat, a = (m : Int) := ⟨a.toNat, by omega⟩
    obtain ⟨c, rfl⟩ : ∃ c : Nat, b = (c : Int) := ⟨b.toNat, by omega⟩
    exact lawMost_good w s k m c (by omega) (by omega) (by omega) (by omega) (by omega)

end Go.Proofs.Ytkmjemaajgdoiaa

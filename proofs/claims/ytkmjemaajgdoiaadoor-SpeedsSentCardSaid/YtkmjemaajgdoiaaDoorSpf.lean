/-
  Helper text: Worst, Cost, Start, Complete, Budget, Share and Most; no statement is proved here.
-/
import Derived.Test.YtkmjemaajgdoiaaDoorSpe
namespace Go.Proofs.YtkmjemaajgdoiaaDoor
open Go Go.RowKit

/-- A number and an error number are returned; what was there is as it was. -/
def ResP (w : World) (x : Nat) (n : Int) (e : Ending) (w' : World) : Prop := e = .returned (.tuple #[.int .i64 (x : Int), .int .i64 n]) ∧ Below w.heap.size w w'

theorem worst_bad (w : World) (n : Int) (h : n < 1 ∨ 1027 < n) : Calls Tryd.prog 5 #[.int .i64 n] w (ResP w 0 1) := by
  rcases h with h | h
  · go_enter Tryd.func5, Tryd.ntmps5
    go_wp2
    go_ret2
    exact ⟨rfl, Below.refl _ _⟩
  · have h1 : ¬ n < 1 := by omega
    go_enter Tryd.func5, Tryd.ntmps5
    go_wp2
    go_ret2
    exact ⟨rfl, Below.refl _ _⟩
theorem worst_good (w : World) (n : Nat) (h : 1 ≤ n) (h2 : n ≤ 1027) : Calls Tryd.prog 5 #[.int .i64 (n : Int)] w (ResP w (worstN n) 0) := by
  have K := Lib.hid (worst_any w n (by omega))
  generalize worstN n = x at K ⊢
  go_enter Tryd.func5, Tryd.ntmps5
  go_wp2_with fail
  refine K.out.mono ?_
  rintro e w1 ⟨rfl, rfl⟩
  go_wp2
  go_ret2
  exact ⟨rfl, Below.refl _ _⟩

theorem isT_bad (w : World) (k : Nat) (n : Int) (h : 3 < k ∨ n < 0 ∨ 1024 < n) : Calls Tryd.prog 26 #[.int .u8 (k : Int), .int .i64 n] w fun e w' => e = .returned (.bool false) ∧ w' = w := by
  by_cases hk : k ≤ 3
  · have hki : (k : Int) ≤ 3 := by omega
    by_cases hn : n < 0
    · go_enter Tryd.func26, Tryd.ntmps26
      go_wp2
      go_ret
      exact ⟨rfl, rfl⟩
    · have hn2 : ¬ n ≤ 1024 := by omega
      go_enter Tryd.func26, Tryd.ntmps26
      go_wp2
      go_ret
      exact ⟨rfl, rfl⟩
  · have hki : ¬ (k : Int) ≤ 3 := by omega
    go_enter Tryd.func26, Tryd.ntmps26
    go_wp2
    go_ret
    exact ⟨rfl, rfl⟩
theorem isT_good (w : World) (k n : Nat) (hk : k ≤ 3) (hn : n ≤ 1024) : Calls Tryd.prog 26 #[.int .u8 (k : Int), .int .i64 (n : Int)] w fun e w' => e = .returned (.bool true) ∧ w' = w := by
  have hki : (k : Int) ≤ 3 := by omega
  have h1 : (0 : Int) ≤ (n : Int) := by omega
  have h2 : (n : Int) ≤ 1024 := by omega
  go_enter Tryd.func26, Tryd.ntmps26
  go_wp2
  go_ret
  exact ⟨rfl, rfl⟩

/-- The bit times of a transaction with a device of a speed. -/
def costN (s k n : Nat) : Nat := (if s = 0 then 8 else 1) * transN k n
theorem transN_le {k n : Nat} (h : n ≤ 1024) : transN k n ≤ 30000 := by
  have := worstN_le (n := n + 3) (by omega)
  unfold transN
  split <;> omega
theorem cost_bad (w : World) (s k : Nat) (n : Int) (hs : s < 256) (h : 2 < s ∨ 3 < k ∨ n < 0 ∨ 1024 < n) : Calls Tryd.prog 11 #[.int .u8 (s : Int), .int .u8 (k : Int), .int .i64 n] w (ResP w 0 1) := by
  by_cases hb : 3 < k ∨ n < 0 ∨ 1024 < n
  · have K := Lib.hid (isT_bad w k n hb)
    clear h hb
    go_enter Tryd.func11, Tryd.ntmps11
    go_wp2_with fail
    refine K.out.mono ?_
    rintro e w1 ⟨rfl, rfl⟩
    go_wp2
    go_ret2
    exact ⟨rfl, Below.refl _ _⟩
  · obtain ⟨m, rfl⟩ : ∃ m : Nat, n = (m : Int) := ⟨n.toNat, by omega⟩
    have K := Lib.hid (isT_good w k m (by omega) (by omega))
    have h0 : ¬ (s : Int) = 0 := by omega
    have h1 : ¬ (s : Int) = 1 := by omega
    have h2 : ¬ (s : Int) = 2 := by omega
    have b0 : ((s : Int) == 0) = false := by rw [beq_eq_false_iff_ne]; exact h0
    have b1 : ((s : Int) == 1) = false := by rw [beq_eq_false_iff_ne]; exact h1
    have b2 : ((s : Int) == 2) = false := by rw [beq_eq_false_iff_ne]; exact h2
    clear h hb
    go_enter Tryd.func11, Tryd.ntmps11
    go_wp2_with fail
    refine K.out.mono ?_
    rintro e w1 ⟨rfl, rfl⟩
    go_wp2
    go_ret2
    exact ⟨rfl, Below.refl _ _⟩
set_option maxHeartbeats 400000 in
theorem cost_good (w : World) (s k n : Nat) (hs : s ≤ 2) (hk : k ≤ 3) (hn : n ≤ 1024) : Calls Tryd.prog 11 #[.int .u8 (s : Int), .int .u8 (k : Int), .int .i64 (n : Int)] w (ResP w (costN s k n) 0) := by
  have K := Lib.hid (isT_good w k n hk hn)
  have K2 := Lib.hid (trans_any w k n (by omega) hn)
  have hl := transN_le (k := k) hn
  have Hc := Lib.hid (show costN s k n = (if s = 0 then 8 else 1) * transN k n from rfl)
  generalize transN k n = T at hl K2 Hc
  generalize costN s k n = C at Hc ⊢
  rcases (by omega : s = 0 ∨ s = 1 ∨ s = 2) with rfl | rfl | rfl
  · have e : 8 * T = C := by have := Hc.out; simpa using this.symm
    subst e
    go_enter Tryd.func11, Tryd.ntmps11
    go_wp2_with fail
    refine K.out.mono ?_
    rintro e w1 ⟨rfl, rfl⟩
    go_wp2_with fail
    refine K2.out.mono ?_
    rintro e w2 ⟨rfl, b2⟩
    go_wp2
    go_ret2
    exact ⟨by congr 4, b2⟩
  · have e : T = C := by have := Hc.out; simpa using this.symm
    subst e
    go_enter Tryd.func11, Tryd.ntmps11
    go_wp2_with fail
    refine K.out.mono ?_
    rintro e w1 ⟨rfl, rfl⟩
    go_wp2_with fail
    refine K2.out.mono ?_
    rintro e w2 ⟨rfl, b2⟩
    go_wp2
    go_ret2
    exact ⟨rfl, b2⟩
  · have e : T = C := by have := Hc.out; simpa using this.symm
    subst e
    go_enter Tryd.func11, Tryd.ntmps11
    go_wp2_with fail
    refine K.out.mono ?_
    rintro e w1 ⟨rfl, rfl⟩
    go_wp2_with fail
    refine K2.out.mono ?_
    rintro e w2 ⟨rfl, b2⟩
    go_wp2
    go_ret2
    exact ⟨rfl, b2⟩

theorem Start_bad (w : World) (k : Nat) (i : Bool) (n : Int) (h : 3 < k ∨ n < 0 ∨ 1024 < n) : Calls Tryd.prog 14 #[.int .u8 (k : Int), .bool i, .int .i64 n] w (ResP w 0 1) := by
  have K := Lib.hid (isT_bad w k n h)
  clear h
  go_enter Tryd.func14, Tryd.ntmps14
  go_wp2_with fail
  refine K.out.mono ?_
  rintro e w1 ⟨rfl, rfl⟩
  go_wp2
  go_ret2
  exact ⟨rfl, Below.refl _ _⟩
theorem Start_good (w : World) (k : Nat) (i : Bool) (n : Nat) (hk : k ≤ 3) (hn : n ≤ 1024) : Calls Tryd.prog 14 #[.int .u8 (k : Int), .bool i, .int .i64 (n : Int)] w (ResP w (startN k i n) 0) := by
  have K := Lib.hid (isT_good w k n hk hn)
  have K2 := Lib.hid (start_any w k n i (by omega) hn)
  generalize startN k i n = T at K2 ⊢
  go_enter Tryd.func14, Tryd.ntmps14
  go_wp2_with fail
  refine K.out.mono ?_
  rintro e w1 ⟨rfl, rfl⟩
  go_wp2_with fail
  refine K2.out.mono ?_
  rintro e w2 ⟨rfl, b2⟩
  go_wp2
  go_ret2
  exact ⟨rfl, b2⟩
theorem Compl_bad (w : World) (k : Nat) (i : Bool) (n : Int) (hk : k < 256) (h : (3 < k ∨ n < 0 ∨ 1024 < n) ∨ k = 1 ∧ i = false) : Calls Tryd.prog 15 #[.int .u8 (k : Int), .bool i, .int .i64 n] w (ResP w 0 1) := by
  by_cases hb : 3 < k ∨ n < 0 ∨ 1024 < n
  · have K := Lib.hid (isT_bad w k n hb)
    clear h hb
    go_enter Tryd.func15, Tryd.ntmps15
    go_wp2_with fail
    refine K.out.mono ?_
    rintro e w1 ⟨rfl, rfl⟩
    go_wp2
    go_ret2
    exact ⟨rfl, Below.refl _ _⟩
  · obtain ⟨m, rfl⟩ : ∃ m : Nat, n = (m : Int) := ⟨n.toNat, by omega⟩
    have hki : k = 1 ∧ i = false := h.resolve_left hb
    obtain ⟨rfl, rfl⟩ := hki
    have K := Lib.hid (isT_good w 1 m (by omega) (by omega))
    clear h hb
    go_enter Tryd.func15, Tryd.ntmps15
    go_wp2_with fail
    refine K.out.mono ?_
    rintro e w1 ⟨rfl, rfl⟩
    go_wp2
    go_ret2
    exact ⟨rfl, Below.refl _ _⟩
theorem Compl_good (w : World) (k : Nat) (i : Bool) (n : Nat) (hk : k ≤ 3) (hn : n ≤ 1024) (h : ¬ (k = 1 ∧ i = false)) : Calls Tryd.prog 15 #[.int .u8 (k : Int), .bool i, .int .i64 (n : Int)] w (ResP w (complN k i n) 0) := by
  have K := Lib.hid (isT_good w k n hk hn)
  have K2 := Lib.hid (compl_any w k n i (by omega) hn)
  generalize complN k i n = T at K2 ⊢
  by_cases hk1 : k = 1
  · obtain rfl : i = true := by cases i <;> simp_all
    subst hk1
    clear h
    go_enter Tryd.func15, Tryd.ntmps15
    go_wp2_with fail
    refine K.out.mono ?_
    rintro e w1 ⟨rfl, rfl⟩
    go_wp2_with fail
    refine K2.out.mono ?_
    rintro e w2 ⟨rfl, b2⟩
    go_wp2
    go_ret2
    exact ⟨rfl, b2⟩
  · have h1 : ¬ (k : Int) = 1 := by omega
    have b1 : ((k : Int) == 1) = false := by rw [beq_eq_false_iff_ne]; exact h1
    clear h
    go_enter Tryd.func15, Tryd.ntmps15
    go_wp2_with fail
    refine K.out.mono ?_
    rintro e w1 ⟨rfl, rfl⟩
    go_wp2_with fail
    refine K2.out.mono ?_
    rintro e w2 ⟨rfl, b2⟩
    go_wp2
    go_ret2
    exact ⟨rfl, b2⟩

/-- The budget and the share of a speed. -/
def budN (s : Nat) : Nat := if s = 2 then 60000 else if s ≤ 1 then 12000 else 0
def shaN (s : Nat) : Nat := if s = 2 then 48000 else if s ≤ 1 then 10800 else 0
theorem budget_any (w : World) (s : Nat) (hs : s < 256) : Calls Tryd.prog 18 #[.int .u8 (s : Int)] w fun e w' => e = .returned (.int .i64 (budN s : Int)) ∧ w' = w := by
  by_cases h2 : s ≤ 2
  · rcases (by omega : s = 0 ∨ s = 1 ∨ s = 2) with rfl | rfl | rfl
    all_goals
      go_enter Tryd.func18, Tryd.ntmps18
      go_wp2
      go_ret
      exact ⟨rfl, rfl⟩
  · have e : budN s = 0 := by unfold budN; rw [if_neg (by omega), if_neg (by omega)]
    rw [e]
    have h0 : ¬ (s : Int) = 0 := by omega
    have h1 : ¬ (s : Int) = 1 := by omega
    have h2 : ¬ (s : Int) = 2 := by omega
    have b0 : ((s : Int) == 0) = false := by rw [beq_eq_false_iff_ne]; exact h0
    have b1 : ((s : Int) == 1) = false := by rw [beq_eq_false_iff_ne]; exact h1
    have b2 : ((s : Int) == 2) = false := by rw [beq_eq_false_iff_ne]; exact h2
    go_enter Tryd.func18, Tryd.ntmps18
    go_wp2
    go_ret
    exact ⟨rfl, rfl⟩
theorem share_any (w : World) (s : Nat) (hs : s < 256) : Calls Tryd.prog 17 #[.int .u8 (s : Int)] w fun e w' => e = .returned (.int .i64 (shaN s : Int)) ∧ w' = w := by
  have K := Lib.hid (budget_any w s hs)
  by_cases h2 : s ≤ 2
  · rcases (by omega : s = 0 ∨ s = 1 ∨ s = 2) with rfl | rfl | rfl
    · rw [show budN 0 = 12000 from rfl] at K
      rw [show shaN 0 = 10800 from rfl]
      go_enter Tryd.func17, Tryd.ntmps17
      go_wp2_with fail
      refine K.out.mono ?_
      rintro e w1 ⟨rfl, rfl⟩
      go_wp2
      go_ret
      exact ⟨rfl, rfl⟩
    · rw [show budN 1 = 12000 from rfl] at K
      rw [show shaN 1 = 10800 from rfl]
      go_enter Tryd.func17, Tryd.ntmps17
      go_wp2_with fail
      refine K.out.mono ?_
      rintro e w1 ⟨rfl, rfl⟩
      go_wp2
      go_ret
      exact ⟨rfl, rfl⟩
    · rw [show budN 2 = 60000 from rfl] at K
      rw [show shaN 2 = 48000 from rfl]
      go_enter Tryd.func17, Tryd.ntmps17
      go_wp2_with fail
      refine K.out.mono ?_
      rintro e w1 ⟨rfl, rfl⟩
      go_wp2
      go_ret
      exact ⟨rfl, rfl⟩
  · rw [show budN s = 0 by unfold budN; rw [if_neg (by omega), if_neg (by omega)]] at K
    rw [show shaN s = 0 by unfold shaN; rw [if_neg (by omega), if_neg (by omega)]]
    have h2 : ¬ (s : Int) = 2 := by omega
    have b2 : ((s : Int) == 2) = false := by rw [beq_eq_false_iff_ne]; exact h2
    go_enter Tryd.func17, Tryd.ntmps17
    go_wp2_with fail
    refine K.out.mono ?_
    rintro e w1 ⟨rfl, rfl⟩
    go_wp2
    go_ret
    exact ⟨rfl, rfl⟩

/-- A transaction costs more than its bytes. -/
theorem costN_gt (s k n : Nat) : n < costN s k n := by
  have h1 : n < transN k n := by
    unfold transN worstN
    omega
  unfold costN
  split
  · omega
  · omega
theorem Most_bad (w : World) (s k : Nat) (m b : Int) (hs : s < 256) (h : 2 < s ∨ 3 < k ∨ m < 1 ∨ 1024 < m ∨ b < 0) : Calls Tryd.prog 16 #[.int .u8 (s : Int), .int .u8 (k : Int), .int .i64 m, .int .i64 b] w (ResP w 0 1) := by
  by_cases h1 : m < 1
  · clear h
    go_enter Tryd.func16, Tryd.ntmps16
    go_wp2
    go_ret2
    exact ⟨rfl, Below.refl _ _⟩
  · by_cases h2 : b < 0
    · clear h
      go_enter Tryd.func16, Tryd.ntmps16
      go_wp2
      go_ret2
      exact ⟨rfl, Below.refl _ _⟩
    · have K := Lib.hid (cost_bad w s k m hs (by omega))
      clear h
      go_enter Tryd.func16, Tryd.ntmps16
      go_wp2_with fail
      refine K.out.mono ?_
      rintro e w1 ⟨rfl, b1⟩
      go_wp2
      go_ret2
      exact ⟨rfl, b1⟩
theorem Most_good (w : World) (s k m b : Nat) (hs : s ≤ 2) (hk : k ≤ 3) (h1 : 1 ≤ m) (hm : m ≤ 1024) (hb : b < 2 ^ 63) : Calls Tryd.prog 16 #[.int .u8 (s : Int), .int .u8 (k : Int), .int .i64 (m : Int), .int .i64 (b : Int)] w (ResP w (m * (b / costN s k m)) 0) := by
  have K := Lib.hid (cost_good w s k m hs hk hm)
  have hg := costN_gt s k m
  generalize costN s k m = C at K hg ⊢
  have hq : m * (b / C) ≤ b := Nat.le_trans (Nat.mul_le_mul_right _ (Nat.le_of_lt hg)) (Nat.mul_div_le b C)
  have e1 : (b : Int) / (C : Int) = ((b / C : Nat) : Int) := by simp only [Int.natCast_ediv]
  have e2 : (b : Int).tdiv (C : Int) = ((b / C : Nat) : Int) := by rw [Int.tdiv_eq_ediv_of_nonneg (by omega)]; exact e1
  have hqb : b / C ≤ b := Nat.div_le_self _ _
  have e3 : (m : Int) * ((b / C : Nat) : Int) = ((m * (b / C) : Nat) : Int) := by rw [Int.natCast_mul]
  have hC0 : ¬ (C : Int) = 0 := by omega
  have hCb : ((C : Int) == 0) = false := by rw [beq_eq_false_iff_ne]; exact hC0
  generalize m * (b / C) = X at hq e3 ⊢
  generalize b / C = q at e1 e2 e3 hqb
  have hX : (X : Int) ≤ 9223372036854775807 := by omega
  go_enter Tryd.func16, Tryd.ntmps16
  go_wp2_with fail
  refine K.out.mono ?_
  rintro e w1 ⟨rfl, b1⟩
  go_wp2
  go_ret2
  exact ⟨rfl, b1⟩

end Go.Proofs.YtkmjemaajgdoiaaDoor

/-
  Helper text: the walk of the law SpeedsCost; no statement is proved here.
-/
import Derived.Test.YtkmjemaajgdoiaaLawA
namespace Go.Proofs.Ytkmjemaajgdoiaa
open Go Go.RowKit

theorem transN_mono (k : Nat) {m n : Nat} (h : m ≤ n) : transN k m ≤ transN k n := by
  have := worstN_mono (show m + 3 ≤ n + 3 by omega)
  unfold transN
  omega
theorem costN_mono (s k : Nat) {m n : Nat} (h : m ≤ n) : costN s k m ≤ costN s k n := Nat.mul_le_mul_left _ (transN_mono k h)
theorem costN_le (s k : Nat) {n : Nat} (h : n ≤ 1024) : costN s k n ≤ 240000 := by
  have := transN_le (k := k) h
  unfold costN
  split <;> omega
/-- No cost for these. -/
def NoCost (s k : Nat) (n : Int) : Prop := 2 < s ∨ 3 < k ∨ n < 0 ∨ 1024 < n
/-- The last cost behind the first of two rounds. -/
def Last1 (s k : Nat) (a : Int) (L : Nat) : Prop := L = 0 ∨ (¬ NoCost s k a ∧ L = costN s k a.toNat)

set_option maxHeartbeats 3200000 in
set_option maxRecDepth 100000 in
theorem lawCost_any (w : World) (s k : Nat) (a b : Int) (hs : s < 256) (hk : k < 256) :
    Calls Try.prog 3 #[.int .u8 (s : Int), .int .u8 (k : Int), .agg #[.int .i64 a, .int .i64 b]] w (ResB w true) := by
  have hn0 := heap_alloc_new w (.cells #[.int .i64 a, .int .i64 b] 22)
  have hb0 := (Below.refl w.heap.size w).alloc (Nat.le_refl _) (.cells #[.int .i64 a, .int .i64 b] 22)
  have KL := Lib.hid lives_any
  go_enter Try.func3, Try.ntmps3
  go_wp2
  go_loopw [7, 8] (fun l i wr => ∃ j L : Nat, j ≤ 2 ∧ i = .int .i64 j ∧ l = .int .i64 ((L : Nat) : Int) ∧ L ≤ 240000 ∧ wr.heap[w.heap.size]? = some (.cells #[.int .i64 a, .int .i64 b] 22 (0, 0)) ∧ Below w.heap.size w wr ∧ (j = 0 → L = 0) ∧ (j = 1 → Last1 s k a L)) (fun _ i _ => 2 - (intOf i).toNat)
  case atStart => exact ⟨0, 0, by omega, rfl, rfl, by omega, hn0, hb0, fun _ => rfl, fun h => absurd h (by omega)⟩
  case round =>
    obtain ⟨j, L, hj, rfl, rfl, hLm, hn, hb, hl0, hl1⟩ := hrel
    clear hn0 hb0
    rcases (by omega : j = 0 ∨ j = 1 ∨ j = 2) with rfl | rfl | rfl
    · have c0 := block_at (i := 0) hn rfl
      by_cases hg : NoCost s k a
      · have Hcb := Lib.hid fun W => cost_bad W s k a hs hg
        obtain rfl := hl0 rfl
        clear hl0 hl1
        rcases (by unfold NoCost at hg; omega : (2 : Int) < s ∨ (¬ (2 : Int) < s ∧ (3 : Int) < k) ∨ (¬ (2 : Int) < s ∧ ¬ (3 : Int) < k ∧ a < 0) ∨ (¬ (2 : Int) < s ∧ ¬ (3 : Int) < k ∧ ¬ a < 0 ∧ 1024 < a)) with t1 | ⟨t1, t2⟩ | ⟨t1, t2, t3⟩ | ⟨t1, t2, t3, t4⟩
        all_goals
          clear hg
          go_wp2_with fail
          refine (Hcb.out wr).mono ?_
          rintro e w1 ⟨rfl, b1⟩
          have hn1 := (b1.block _ (lt_of_block hn)).trans hn
          have c2 := block_at (i := 0) hn1 rfl
          have b1 := hb.trans (b1.mono hb.size)
          clear c0 hn hb Hcb
          go_wp2
          go_roundw
          case rel => exact ⟨1, 0, by omega, by go_num, rfl, by omega, hn1, b1, fun h => absurd h (by omega), fun _ => .inl rfl⟩
          case measure => simp [intOf]
      · obtain ⟨m, rfl⟩ : ∃ m : Nat, a = (m : Int) := ⟨a.toNat, by unfold NoCost at hg; omega⟩
        obtain rfl := hl0 rfl
        clear hl0 hl1
        have Hcc := Lib.hid fun W => cost_good W s k m (by unfold NoCost at hg; omega) (by unfold NoCost at hg; omega) (by unfold NoCost at hg; omega)
        have Hrc := Lib.hid fun W => refCost_any W s k m hs hk (by unfold NoCost at hg; omega)
        have hCl := costN_le s k (n := m) (by unfold NoCost at hg; omega)
        have t1 : ¬ (2 : Int) < (s : Int) := by unfold NoCost at hg; omega
        have t2 : ¬ (3 : Int) < (k : Int) := by unfold NoCost at hg; omega
        have t3 : ¬ (m : Int) < 0 := by omega
        have t4 : ¬ (1024 : Int) < (m : Int) := by unfold NoCost at hg; omega
        have hL := Lib.hid (show Last1 s k (m : Int) (costN s k m) from .inr ⟨hg, rfl⟩)
        generalize costN s k m = C at Hcc Hrc hCl hL
        go_wp2_with fail
        refine (Hcc.out wr).mono ?_
        rintro e w1 ⟨rfl, b1⟩
        have hn1 := (b1.block _ (lt_of_block hn)).trans hn
        have c2 := block_at (i := 0) hn1 rfl
        clear c0
        go_wp2_with fail
        refine (Hrc.out w1).mono ?_
        rintro e w2 ⟨rfl, b2⟩
        have hn2 := (b2.block _ (lt_of_block hn1)).trans hn1
        have b2 := hb.trans ((b1.trans (b2.mono b1.size)).mono hb.size)
        clear c2 Hcc Hrc
        go_wp2
        go_roundw
        case rel => exact ⟨1, C, by omega, by go_num, rfl, by omega, hn2, b2, fun h => absurd h (by omega), fun _ => hL.out⟩
        case measure => simp [intOf]
    · have c0 := block_at (i := 1) hn rfl
      by_cases hg : NoCost s k b
      · have Hcb := Lib.hid fun W => cost_bad W s k b hs hg
        clear hl0 hl1
        rcases (by unfold NoCost at hg; omega : (2 : Int) < s ∨ (¬ (2 : Int) < s ∧ (3 : Int) < k) ∨ (¬ (2 : Int) < s ∧ ¬ (3 : Int) < k ∧ b < 0) ∨ (¬ (2 : Int) < s ∧ ¬ (3 : Int) < k ∧ ¬ b < 0 ∧ 1024 < b)) with t1 | ⟨t1, t2⟩ | ⟨t1, t2, t3⟩ | ⟨t1, t2, t3, t4⟩
        all_goals
          clear hg
          go_wp2_with fail
          refine (Hcb.out wr).mono ?_
          rintro e w1 ⟨rfl, b1⟩
          have hn1 := (b1.block _ (lt_of_block hn)).trans hn
          have c2 := block_at (i := 1) hn1 rfl
          have b1 := hb.trans (b1.mono hb.size)
          clear c0 hn hb Hcb
          go_wp2
          go_roundw
          case rel => exact ⟨2, L, by omega, by go_num, rfl, hLm, hn1, b1, fun h => absurd h (by omega), fun h => absurd h (by omega)⟩
          case measure => simp [intOf]
      · obtain ⟨m, rfl⟩ : ∃ m : Nat, b = (m : Int) := ⟨b.toNat, by unfold NoCost at hg; omega⟩
        have Hcc := Lib.hid fun W => cost_good W s k m (by unfold NoCost at hg; omega) (by unfold NoCost at hg; omega) (by unfold NoCost at hg; omega)
        have Hrc := Lib.hid fun W => refCost_any W s k m hs hk (by unfold NoCost at hg; omega)
        have hCl := costN_le s k (n := m) (by unfold NoCost at hg; omega)
        have t1 : ¬ (2 : Int) < (s : Int) := by unfold NoCost at hg; omega
        have t2 : ¬ (3 : Int) < (k : Int) := by unfold NoCost at hg; omega
        have t3 : ¬ (m : Int) < 0 := by omega
        have t4 : ¬ (1024 : Int) < (m : Int) := by unfold NoCost at hg; omega
        have hmono := Lib.hid fun (h : a ≤ (m : Int)) (hLp : ¬ L = 0) => (show L ≤ costN s k m by
          rcases hl1 rfl with h0 | ⟨hg0, h1⟩
          · exact absurd h0 hLp
          · rw [h1]; exact costN_mono s k (by omega))
        generalize costN s k m = C at Hcc Hrc hCl hmono
        by_cases hL0 : L = 0
        · subst hL0
          go_wp2_with fail
          refine (Hcc.out wr).mono ?_
          rintro e w1 ⟨rfl, b1⟩
          have hn1 := (b1.block _ (lt_of_block hn)).trans hn
          have c2 := block_at (i := 1) hn1 rfl
          clear c0
          go_wp2_with fail
          refine (Hrc.out w1).mono ?_
          rintro e w2 ⟨rfl, b2⟩
          have hn2 := (b2.block _ (lt_of_block hn1)).trans hn1
          have b2 := hb.trans ((b1.trans (b2.mono b1.size)).mono hb.size)
          clear c2 Hcc Hrc
          go_wp2
          go_roundw
          case rel => exact ⟨2, C, by omega, by go_num, rfl, by omega, hn2, b2, fun h => absurd h (by omega), fun h => absurd h (by omega)⟩
          case measure => simp [intOf]
        · have hLp : (0 : Int) < (L : Int) := by omega
          by_cases hab : a ≤ (m : Int)
          · have hCL : ¬ (C : Int) < (L : Int) := by have := hmono.out hab hL0; omega
            clear hmono
            go_wp2_with fail
            refine (Hcc.out wr).mono ?_
            rintro e w1 ⟨rfl, b1⟩
            have hn1 := (b1.block _ (lt_of_block hn)).trans hn
            have c2 := block_at (i := 1) hn1 rfl
            clear c0
            go_wp2_with fail
            refine (Hrc.out w1).mono ?_
            rintro e w2 ⟨rfl, b2⟩
            have hn2 := (b2.block _ (lt_of_block hn1)).trans hn1
            have b2 := hb.trans ((b1.trans (b2.mono b1.size)).mono hb.size)
            clear c2 Hcc Hrc
            have d0 := block_at (i := 0) hn2 rfl
            have d1 := block_at (i := 1) hn2 rfl
            go_wp2
            go_roundw
            case rel => exact ⟨2, C, by omega, by go_num, rfl, by omega, hn2, b2, fun h => absurd h (by omega), fun h => absurd h (by omega)⟩
            case measure => simp [intOf]
          · clear hmono
            go_wp2_with fail
            refine (Hcc.out wr).mono ?_
            rintro e w1 ⟨rfl, b1⟩
            have hn1 := (b1.block _ (lt_of_block hn)).trans hn
            have c2 := block_at (i := 1) hn1 rfl
            clear c0
            go_wp2_with fail
            refine (Hrc.out w1).mono ?_
            rintro e w2 ⟨rfl, b2⟩
            have hn2 := (b2.block _ (lt_of_block hn1)).trans hn1
            have b2 := hb.trans ((b1.trans (b2.mono b1.size)).mono hb.size)
            clear c2 Hcc Hrc
            have d0 := block_at (i := 0) hn2 rfl
            have d1 := block_at (i := 1) hn2 rfl
            go_wp2
            go_roundw
            case rel => exact ⟨2, C, by omega, by go_num, rfl, by omega, hn2, b2, fun h => absurd h (by omega), fun h => absurd h (by omega)⟩
            case measure => simp [intOf]
    · clear hl0 hl1
      go_wp2_with fail
      refine (KL.out _).mono ?_
      rintro e w8 ⟨rfl, b8⟩
      go_wp2
      go_ret
      exact ⟨rfl, hb.trans (b8.mono hb.size)⟩

end Go.Proofs.Ytkmjemaajgdoiaa

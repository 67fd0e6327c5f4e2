/-
  Helper text: the reference's Period; no statement is proved here.
-/
import Derived.Test.YtochkonjfhhiiaaPer
namespace Go.Proofs.Ytochkonjfhhiiaa
open Go Go.RowKit

theorem perI_iso {m : Nat} (hm : m ≤ 15) : perI 1 1 ((m : Int) + 1) = 8 * min ((2 ^ m : Nat) : Int) 32 := by
  unfold perI
  rw [if_neg (by omega), if_pos ⟨rfl, rfl, by omega, by omega⟩, pw_succ]
theorem perI_high {k m : Nat} (hk : k = 1 ∨ k = 3) (hm : m ≤ 15) : perI 2 k ((m : Int) + 1) = min ((2 ^ m : Nat) : Int) 256 := by
  unfold perI
  rw [if_neg (by omega), if_neg (by omega), if_pos ⟨rfl, hk, by omega, by omega⟩, pw_succ]
set_option maxHeartbeats 1600000 in
theorem refPer_a (w : World) (m : Nat) (hm : m ≤ 15) (z : Int) (hz : RowKit.Hid (z = perI 1 1 ((m : Int) + 1))) :
    Calls Try.prog 9 #[.int .u8 1, .int .u8 1, .int .i64 ((m : Int) + 1)] w (Same w (.int .i64 z)) := by
    have hmm : (m : Int) ≤ 15 := by omega
    go_enter Try.func9, Try.ntmps9
    go_wp2
    go_loop [7, 8] (fun vn vi => ∃ j v : Nat, vn = .int .i64 (v : Int) ∧ vi = .int .i64 ((j : Int) + 1) ∧ RowKit.Hid (v = 2 ^ j) ∧ j ≤ m) (fun _ vi => (m + 1 - intOf vi).toNat)
    case atStart => exact ⟨0, 1, rfl, rfl, Lib.hid rfl, by omega⟩
    case round =>
      obtain ⟨j, v, rfl, rfl, hv, hj⟩ := hrel
      have hvb : 1 ≤ v ∧ v ≤ 32768 := by rw [hv.out]; exact pow_le (by omega)
      by_cases hlt : j < m
      · go_wp2
        go_round
        case rel => exact ⟨j + 1, v * 2, by simp, by simp, Lib.hid (by rw [hv.out, Nat.pow_succ]), by omega⟩
        case measure => simp [intOf]; omega
      · obtain rfl : j = m := by omega
        have hz2 := hz.out
        rw [perI_iso hm, ← hv.out] at hz2
        have Hz := Lib.hid hz2
        clear hz2
        by_cases hb : 32 < v
        · go_wp2
          go_ret
          exact ⟨by rw [show z = 256 by have := Hz.out; omega]; rfl, rfl⟩
        · go_wp2
          go_ret
          exact ⟨by rw [show z = 8 * (v : Int) by have := Hz.out; omega]; rfl, rfl⟩
set_option maxHeartbeats 1600000 in
theorem refPer_b (w : World) (m : Nat) (hm : m ≤ 15) (z : Int) (hz : RowKit.Hid (z = perI 2 1 ((m : Int) + 1))) :
    Calls Try.prog 9 #[.int .u8 2, .int .u8 1, .int .i64 ((m : Int) + 1)] w (Same w (.int .i64 z)) := by
    have hmm : (m : Int) ≤ 15 := by omega
    go_enter Try.func9, Try.ntmps9
    go_wp2
    go_loop [7, 8] (fun vn vi => ∃ j v : Nat, vn = .int .i64 (v : Int) ∧ vi = .int .i64 ((j : Int) + 1) ∧ RowKit.Hid (v = 2 ^ j) ∧ j ≤ m) (fun _ vi => (m + 1 - intOf vi).toNat)
    case atStart => exact ⟨0, 1, rfl, rfl, Lib.hid rfl, by omega⟩
    case round =>
      obtain ⟨j, v, rfl, rfl, hv, hj⟩ := hrel
      have hvb : 1 ≤ v ∧ v ≤ 32768 := by rw [hv.out]; exact pow_le (by omega)
      by_cases hlt : j < m
      · go_wp2
        go_round
        case rel => exact ⟨j + 1, v * 2, by simp, by simp, Lib.hid (by rw [hv.out, Nat.pow_succ]), by omega⟩
        case measure => simp [intOf]; omega
      · obtain rfl : j = m := by omega
        have hz2 := hz.out
        rw [perI_high (.inl rfl) hm, ← hv.out] at hz2
        have Hz := Lib.hid hz2
        clear hz2
        by_cases hb : 256 < v
        · go_wp2
          go_ret
          exact ⟨by rw [show z = 256 by have := Hz.out; omega]; rfl, rfl⟩
        · go_wp2
          go_ret
          exact ⟨by rw [show z = (v : Int) by have := Hz.out; omega]; rfl, rfl⟩
set_option maxHeartbeats 1600000 in
theorem refPer_c (w : World) (m : Nat) (hm : m ≤ 15) (z : Int) (hz : RowKit.Hid (z = perI 2 3 ((m : Int) + 1))) :
    Calls Try.prog 9 #[.int .u8 2, .int .u8 3, .int .i64 ((m : Int) + 1)] w (Same w (.int .i64 z)) := by
    have hmm : (m : Int) ≤ 15 := by omega
    go_enter Try.func9, Try.ntmps9
    go_wp2
    go_loop [7, 8] (fun vn vi => ∃ j v : Nat, vn = .int .i64 (v : Int) ∧ vi = .int .i64 ((j : Int) + 1) ∧ RowKit.Hid (v = 2 ^ j) ∧ j ≤ m) (fun _ vi => (m + 1 - intOf vi).toNat)
    case atStart => exact ⟨0, 1, rfl, rfl, Lib.hid rfl, by omega⟩
    case round =>
      obtain ⟨j, v, rfl, rfl, hv, hj⟩ := hrel
      have hvb : 1 ≤ v ∧ v ≤ 32768 := by rw [hv.out]; exact pow_le (by omega)
      by_cases hlt : j < m
      · go_wp2
        go_round
        case rel => exact ⟨j + 1, v * 2, by simp, by simp, Lib.hid (by rw [hv.out, Nat.pow_succ]), by omega⟩
        case measure => simp [intOf]; omega
      · obtain rfl : j = m := by omega
        have hz2 := hz.out
        rw [perI_high (.inr rfl) hm, ← hv.out] at hz2
        have Hz := Lib.hid hz2
        clear hz2
        by_cases hb : 256 < v
        · go_wp2
          go_ret
          exact ⟨by rw [show z = 256 by have := Hz.out; omega]; rfl, rfl⟩
        · go_wp2
          go_ret
          exact ⟨by rw [show z = (v : Int) by have := Hz.out; omega]; rfl, rfl⟩

set_option maxHeartbeats 1600000 in
theorem refPer_cnt (w : World) (s : Nat) (hs : s = 0 ∨ s = 1) (n : Int) (h1 : 1 ≤ n) (h2 : n ≤ 255) :
    Calls Try.prog 9 #[.int .u8 (s : Int), .int .u8 3, .int .i64 n] w (Same w (.int .i64 (8 * rp n))) := by
  rcases hs with rfl | rfl
  all_goals
    go_enter Try.func9, Try.ntmps9
    go_wp2
    go_loop [9] (fun v => ∃ g : Int, v = .int .i64 g ∧ RowKit.Hid (isPow g = true ∧ g ≤ 32 ∧ (g = 32 ∨ n < 2 * g))) (fun v => (intOf v).toNat)
    case atStart => exact ⟨32, rfl, Lib.hid ⟨by decide, by omega, .inl rfl⟩⟩
    case round =>
      obtain ⟨g, rfl, hg⟩ := hrel
      have hg1 := isPow_pos hg.out.1
      by_cases hlt : n < g
      · obtain ⟨q, hq⟩ : ∃ q, g.tdiv 2 = q := ⟨_, rfl⟩
        have hq2 : g.tdiv 2 = g / 2 := Int.tdiv_eq_ediv_of_nonneg (by omega)
        have hq3 : 2 * q = g := by
          have := isPow_iff.1 hg.out.1
          omega
        have hq5 : IntKind.i64.wrap q = q := by simp only [IntKind.wrap_i64]; omega
        clear hq2
        have Hq := Lib.hid hq3
        have hq0 : 1 ≤ q := by omega
        clear hq3
        go_wp2
        go_round
        case rel =>
          refine ⟨q, rfl, Lib.hid ⟨?_, ?_, ?_⟩⟩
          · have := isPow_iff.1 hg.out.1
            have := Hq.out
            apply isPow_iff.2
            omega
          · have := Hq.out
            have := hg.out.2.1
            omega
          · have := Hq.out
            omega
        case measure => simp [intOf]; have := Hq.out; omega
      · go_wp2
        go_ret
        refine ⟨?_, rfl⟩
        have hr : rp n = g := by
          have := hg.out.2.2
          have h3 := hg.out.2.1
          have h4 := isPow_iff.1 hg.out.1
          unfold rp
          repeat' split
          all_goals omega
        rw [hr]
        rfl

set_option maxHeartbeats 3200000 in
theorem refPer_bad (w : World) (s k : Nat) (n : Int) (h : perI s k n = 0) : Calls Try.prog 9 #[.int .u8 (s : Int), .int .u8 (k : Int), .int .i64 n] w (Same w (.int .i64 0)) := by
  have HH := Lib.hid (per_zero h)
  clear h
  have hs : s = 0 ∨ s = 1 ∨ s = 2 ∨ (2 < s ∧ ¬ (s : Int) = 0 ∧ ¬ (s : Int) = 1 ∧ ¬ (s : Int) = 2 ∧ ((s : Int) == 0) = false ∧ ((s : Int) == 1) = false ∧ ((s : Int) == 2) = false) := by simp only [beq_eq_false_iff_ne]; omega
  have hk : k = 1 ∨ k = 3 ∨ (¬ (k : Int) = 1 ∧ ¬ (k : Int) = 3 ∧ ((k : Int) == 1) = false ∧ ((k : Int) == 3) = false) := by simp only [beq_eq_false_iff_ne]; omega
  have hn : n < 1 ∨ (1 ≤ n ∧ n ≤ 16) ∨ (16 < n ∧ n ≤ 255) ∨ 255 < n := by omega
  rcases hs with rfl | rfl | rfl | ⟨s9, s0, s1, s2, s3, s4, s5⟩ <;> rcases hk with rfl | rfl | ⟨k0, k1, k2, k3⟩ <;> rcases hn with n1 | ⟨n1, n2⟩ | ⟨n1, n2⟩ | n1 <;>
    first
    | (exfalso; have := HH.out; omega)
    | (go_enter Try.func9, Try.ntmps9
       go_wp2
       go_ret
       exact ⟨rfl, rfl⟩)
/-- The reference's Period, for any arguments. -/
theorem refPer_any (w : World) (s k : Nat) (n : Int) : Calls Try.prog 9 #[.int .u8 (s : Int), .int .u8 (k : Int), .int .i64 n] w (Same w (.int .i64 (perI s k n))) := by
  by_cases h0 : perI s k n = 0
  · rw [h0]; exact refPer_bad w s k n h0
  · by_cases c1 : (s = 0 ∨ s = 1) ∧ k = 3 ∧ 1 ≤ n ∧ n ≤ 255
    · unfold perI
      rw [if_pos c1]
      obtain ⟨hs, rfl, h1, h2⟩ := c1
      exact refPer_cnt w s hs n h1 h2
    · by_cases c2 : s = 1 ∧ k = 1 ∧ 1 ≤ n ∧ n ≤ 16
      · obtain ⟨rfl, rfl, h1, h2⟩ := c2
        obtain ⟨m, rfl⟩ : ∃ m : Nat, n = (m : Int) + 1 := ⟨(n - 1).toNat, by omega⟩
        exact refPer_a w m (by omega) _ (Lib.hid rfl)
      · by_cases c3 : s = 2 ∧ (k = 1 ∨ k = 3) ∧ 1 ≤ n ∧ n ≤ 16
        · obtain ⟨rfl, hk, h1, h2⟩ := c3
          obtain ⟨m, rfl⟩ : ∃ m : Nat, n = (m : Int) + 1 := ⟨(n - 1).toNat, by omega⟩
          rcases hk with rfl | rfl
          · exact refPer_b w m (by omega) _ (Lib.hid rfl)
          · exact refPer_c w m (by omega) _ (Lib.hid rfl)
        · refine absurd ?_ h0
          unfold perI
          rw [if_neg c1, if_neg c2, if_neg c3]
end Go.Proofs.Ytochkonjfhhiiaa

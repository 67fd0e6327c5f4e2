/-
  Helper text: Period; no statement is proved here.
-/
import Derived.Test.YtochkonjfhhiiaaPer
namespace Go.Proofs.Ytochkonjfhhiiaa
open Go Go.RowKit

abbrev PerOk (w : World) (z : Int) (e : Ending) (w' : World) : Prop := e = .returned (.tuple #[.int .i64 z, .int .i64 0]) ∧ w' = w

set_option maxHeartbeats 1600000 in
theorem per_cnt (w : World) (s : Nat) (n : Int) (hs : s = 0 ∨ s = 1) (h1 : 1 ≤ n) (h2 : n ≤ 255) : Calls Try.prog 8 #[.int .u8 (s : Int), .int .u8 3, .int .i64 n] w (PerOk w (8 * rp n)) := by
  have K := Lib.hid fun W => gp_any W n h1 h2
  by_cases hn : n < 32
  · rcases hs with rfl | rfl
    · go_enter Try.func8, Try.ntmps8
      go_wp2_with (go_at_call 22; refine (K.out _).mono ?_; rintro e w' ⟨⟨g, rfl, hg⟩, e2⟩; rw [e2]; clear e2; have hg1 := isPow_pos hg.out.1; have hg2 : g < 32 := by { have := hg.out.2.1; omega })
      go_ret2
      exact ⟨by rw [show rp n = g by rw [← rp_of hg.out.1 hg.out.2.1 hg.out.2.2, if_pos (by omega)]]; rfl, rfl⟩
    · go_enter Try.func8, Try.ntmps8
      go_wp2_with (go_at_call 22; refine (K.out _).mono ?_; rintro e w' ⟨⟨g, rfl, hg⟩, e2⟩; rw [e2]; clear e2; have hg1 := isPow_pos hg.out.1; have hg2 : g < 32 := by { have := hg.out.2.1; omega })
      go_ret2
      exact ⟨by rw [show rp n = g by rw [← rp_of hg.out.1 hg.out.2.1 hg.out.2.2, if_pos (by omega)]]; rfl, rfl⟩
  · rcases hs with rfl | rfl
    · go_enter Try.func8, Try.ntmps8
      go_wp2_with (go_at_call 22; refine (K.out _).mono ?_; rintro e w' ⟨⟨g, rfl, hg⟩, e2⟩; rw [e2]; clear e2; have hg1 := isPow_pos hg.out.1; have hg2 : 32 ≤ g := by { have := isPow_iff.1 hg.out.1; have := hg.out.2; omega })
      all_goals go_ret2
      all_goals have hr : rp n = 32 := by unfold rp; rw [if_pos (by omega)]
      all_goals first | exact ⟨by rw [hr, show g = 32 by omega]; rfl, rfl⟩ | exact ⟨by rw [hr]; rfl, rfl⟩
    · go_enter Try.func8, Try.ntmps8
      go_wp2_with (go_at_call 22; refine (K.out _).mono ?_; rintro e w' ⟨⟨g, rfl, hg⟩, e2⟩; rw [e2]; clear e2; have hg1 := isPow_pos hg.out.1; have hg2 : 32 ≤ g := by { have := isPow_iff.1 hg.out.1; have := hg.out.2; omega })
      all_goals go_ret2
      all_goals have hr : rp n = 32 := by unfold rp; rw [if_pos (by omega)]
      all_goals first | exact ⟨by rw [hr, show g = 32 by omega]; rfl, rfl⟩ | exact ⟨by rw [hr]; rfl, rfl⟩

set_option maxHeartbeats 3200000 in
theorem per_iso (w : World) (m : Nat) (hm : m ≤ 15) : Calls Try.prog 8 #[.int .u8 1, .int .u8 1, .int .i64 ((m : Int) + 1)] w (PerOk w (8 * min ((2 ^ m : Nat) : Int) 32)) := by
  have hm' : m = 0 ∨ m = 1 ∨ m = 2 ∨ m = 3 ∨ m = 4 ∨ m = 5 ∨ m = 6 ∨ m = 7 ∨ m = 8 ∨ m = 9 ∨ m = 10 ∨ m = 11 ∨ m = 12 ∨ m = 13 ∨ m = 14 ∨ m = 15 := by omega
  rcases hm' with rfl | rfl | rfl | rfl | rfl | rfl | rfl | rfl | rfl | rfl | rfl | rfl | rfl | rfl | rfl | rfl <;>
    (go_enter Try.func8, Try.ntmps8
     go_wp2
     go_ret2
     exact ⟨rfl, rfl⟩)

set_option maxHeartbeats 3200000 in
theorem per_high (w : World) (k m : Nat) (hk : k = 1 ∨ k = 3) (hm : m ≤ 15) : Calls Try.prog 8 #[.int .u8 2, .int .u8 (k : Int), .int .i64 ((m : Int) + 1)] w (PerOk w (min ((2 ^ m : Nat) : Int) 256)) := by
  have hm' : m = 0 ∨ m = 1 ∨ m = 2 ∨ m = 3 ∨ m = 4 ∨ m = 5 ∨ m = 6 ∨ m = 7 ∨ m = 8 ∨ m = 9 ∨ m = 10 ∨ m = 11 ∨ m = 12 ∨ m = 13 ∨ m = 14 ∨ m = 15 := by omega
  rcases hk with rfl | rfl <;> rcases hm' with rfl | rfl | rfl | rfl | rfl | rfl | rfl | rfl | rfl | rfl | rfl | rfl | rfl | rfl | rfl | rfl <;>
    (go_enter Try.func8, Try.ntmps8
     go_wp2
     go_ret2
     exact ⟨rfl, rfl⟩)

/-- Period, for any arguments. -/
theorem per_any (w : World) (s k : Nat) (n : Int) : Calls Try.prog 8 #[.int .u8 (s : Int), .int .u8 (k : Int), .int .i64 n] w (PerPost w (perI s k n)) := by
  by_cases h0 : perI s k n = 0
  · rw [h0]; exact per_bad w s k n h0
  · have e0 : (if perI s k n = 0 then (1 : Int) else 0) = 0 := if_neg h0
    unfold PerPost
    rw [e0]
    unfold perI at h0 ⊢
    by_cases c1 : (s = 0 ∨ s = 1) ∧ k = 3 ∧ 1 ≤ n ∧ n ≤ 255
    · rw [if_pos c1]
      obtain ⟨hs, rfl, h1, h2⟩ := c1
      exact per_cnt w s n hs h1 h2
    · rw [if_neg c1] at h0 ⊢
      by_cases c2 : s = 1 ∧ k = 1 ∧ 1 ≤ n ∧ n ≤ 16
      · rw [if_pos c2]
        obtain ⟨rfl, rfl, h1, h2⟩ := c2
        obtain ⟨m, rfl⟩ : ∃ m : Nat, n = (m : Int) + 1 := ⟨(n - 1).toNat, by omega⟩
        rw [pw_succ]
        exact per_iso w m (by omega)
      · rw [if_neg c2] at h0 ⊢
        by_cases c3 : s = 2 ∧ (k = 1 ∨ k = 3) ∧ 1 ≤ n ∧ n ≤ 16
        · rw [if_pos c3]
          obtain ⟨rfl, hk, h1, h2⟩ := c3
          obtain ⟨m, rfl⟩ : ∃ m : Nat, n = (m : Int) + 1 := ⟨(n - 1).toNat, by omega⟩
          rw [pw_succ]
          exact per_high w k m hk (by omega)
        · rw [if_neg c3] at h0
          exact absurd rfl h0
end Go.Proofs.Ytochkonjfhhiiaa

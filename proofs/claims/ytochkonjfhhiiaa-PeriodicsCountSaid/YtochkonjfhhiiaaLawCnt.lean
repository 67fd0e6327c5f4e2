/-
  Helper text: the walk of the law PeriodicsCount; no statement is proved here.
-/
import Derived.Test.YtochkonjfhhiiaaLv10
import Derived.Deep.QuietTactic
import Derived.BigQuiet
namespace Go.Proofs.Ytochkonjfhhiiaa
open Go Go.RowKit

theorem cnt_nonneg (p f a b : Int) : 0 ≤ cntI p f a b := by
  unfold cntI
  split
  · rename_i h
    obtain ⟨h1, h2⟩ := h
    have key : ∀ n : Nat, dB p f a ≤ dB p f (a + n) := by
      intro n
      induction n with
      | zero => simp
      | succ n ih =>
        have := dB_succ h1 (a + n)
        have e : a + ((n + 1 : Nat) : Int) = a + n + 1 := by omega
        rw [e, this]
        split <;> omega
    have := key (b - a).toNat
    rw [show a + ((b - a).toNat : Int) = b by omega] at this
    omega
  · omega
theorem cnt_empty {p f a b : Int} (h : b ≤ a) : cntI p f a b = 0 := by
  unfold cntI
  rw [if_neg (by omega)]
theorem cnt_add {p f a b c : Int} (h1 : a ≤ b) (h2 : b ≤ c) : cntI p f a c = cntI p f a b + cntI p f b c := by
  unfold cntI
  cases hp : posB p f with
  | false => simp
  | true =>
    by_cases h3 : a < b
    · by_cases h4 : b < c
      · rw [if_pos ⟨rfl, by omega⟩, if_pos ⟨rfl, h3⟩, if_pos ⟨rfl, h4⟩]; omega
      · obtain rfl : b = c := by omega
        rw [if_pos ⟨rfl, h3⟩, if_neg (by omega)]; omega
    · obtain rfl : a = b := by omega
      rw [if_neg (c := true = true ∧ a < a) (by omega)]; omega

set_option maxHeartbeats 1600000 in
set_option maxRecDepth 100000 in
theorem lawCount_out (w : World) (p f a s c : Int) (h : a < -1099511627776 ∨ 1099511627776 < a ∨ c < -1099511627776 ∨ 1099511627776 < c) :
    Calls Try.prog 5 #[.int .i64 p, .int .i64 f, .agg #[.int .i64 a, .int .i64 s, .int .i64 c]] w (ResB w true) := by
  obtain ⟨S, hS⟩ : ∃ S, s.tmod 2000 = S := ⟨_, rfl⟩
  have hS1 : -2000 < S := by rw [← hS]; have := Int.lt_tmod_of_pos s (show (0 : Int) < 2000 by omega); omega
  have hS2 : S < 2000 := by rw [← hS]; exact Int.tmod_lt_of_pos s (by omega)
  have hSw : IntKind.i64.wrap S = S := by simp only [IntKind.wrap_i64]; omega
  have hb := (Below.refl w.heap.size w).alloc (Nat.le_refl _) (.cells #[.int .i64 a, .int .i64 s, .int .i64 c] 35)
  have hc : a < -1099511627776 ∨ (¬ a < -1099511627776 ∧ 1099511627776 < a) ∨ (¬ a < -1099511627776 ∧ ¬ 1099511627776 < a ∧ c < -1099511627776) ∨ (¬ a < -1099511627776 ∧ ¬ 1099511627776 < a ∧ ¬ c < -1099511627776 ∧ 1099511627776 < c) := by omega
  clear h
  go_enter Try.func5, Try.ntmps5
  go_wp2
  go_quiet (fail)
  have hB := below_drewN hb nq
  generalize (w.alloc (.cells #[.int .i64 a, .int .i64 s, .int .i64 c] 35)).drewN nq = W1 at hB ⊢
  clear hb
  rcases hc with h1 | ⟨h1, h2⟩ | ⟨h1, h2, h3⟩ | ⟨h1, h2, h3, h4⟩
  all_goals
    go_wp2
    go_ret
    exact ⟨rfl, hB⟩

set_option maxHeartbeats 1600000 in
set_option maxRecDepth 100000 in
theorem lawCount_in (w : World) (p f a s c : Int) (hp : p ≤ 9223372036854775807) (h1 : ¬ a < -1099511627776) (h2 : ¬ 1099511627776 < a) (h3 : ¬ c < -1099511627776) (h4 : ¬ 1099511627776 < c) :
    Calls Try.prog 5 #[.int .i64 p, .int .i64 f, .agg #[.int .i64 a, .int .i64 s, .int .i64 c]] w (ResB w true) := by
  obtain ⟨S, hS⟩ : ∃ S, s.tmod 2000 = S := ⟨_, rfl⟩
  have hS1 : -2000 < S := by rw [← hS]; have := Int.lt_tmod_of_pos s (show (0 : Int) < 2000 by omega); omega
  have hS2 : S < 2000 := by rw [← hS]; exact Int.tmod_lt_of_pos s (by omega)
  have hSw : IntKind.i64.wrap S = S := by simp only [IntKind.wrap_i64]; omega
  have hb := (Below.refl w.heap.size w).alloc (Nat.le_refl _) (.cells #[.int .i64 a, .int .i64 s, .int .i64 c] 35)
  have KL := Lib.hid lives_any
  obtain ⟨n1, hn1⟩ : ∃ n1, cntI p f a (a + S) = n1 := ⟨_, rfl⟩
  have KC := Lib.hid fun W x y hx hy => count_any W p f x y hp hx hy
  have KR := Lib.hid fun W x y hx hy => refCount_any W p f x y hp hx hy
  have hn0 := cnt_nonneg p f a (a + S)
  rw [hn1] at hn0
  have hnn : ¬ n1 < 0 := by omega
  have hnw : n1 ≤ 9223372036854775807 := by
    have ha := dB_bound (p := p) (f := f)
    rw [← hn1]
    unfold cntI
    split
    · rename_i h
      have q1 := ha h.1 a
      have q2 := ha h.1 (a + S)
      omega
    · omega
  by_cases hneg : S < 0 ∨ c < 0
  · have hz := cnt_empty (p := p) (f := f) (show a - 1 ≤ a by omega)
    clear hn0
    have hneg2 : S < 0 ∨ (¬ S < 0 ∧ c < 0) := by omega
    clear hneg
    go_enter Try.func5, Try.ntmps5
    go_wp2
    go_quiet (fail)
    have hB := below_drewN hb nq
    generalize (w.alloc (.cells #[.int .i64 a, .int .i64 s, .int .i64 c] 35)).drewN nq = W1 at hB ⊢
    clear hb
    rcases hneg2 with h5 | ⟨h5, h6⟩
    all_goals
      go_wp2_with (first | (go_at_call 13; refine (KC.out _ _ _ (by omega) (by omega)).mono ?_; rintro e w' ⟨rfl, e2⟩; rw [e2]; clear e2) | (go_at_call 14; refine (KR.out _ _ _ (by omega) (by omega)).mono ?_; rintro e w' ⟨rfl, e2⟩; rw [e2]; clear e2) | (go_at_call 10; refine (KL.out _).mono ?_; rintro e w' ⟨rfl, hb2⟩; have hb2 := Lib.hid (hB.trans (hb2.mono hB.size))))
      go_ret
      exact ⟨rfl, hb2.out⟩
  · have h5 : ¬ S < 0 := by omega
    have h6 : ¬ c < 0 := by omega
    obtain ⟨n2, hn2⟩ : ∃ n2, cntI p f (a + S) (a + S + c) = n2 := ⟨_, rfl⟩
    have hadd := cnt_add (p := p) (f := f) (show a ≤ a + S by omega) (show a + S ≤ a + S + c by omega)
    rw [hn1, hn2] at hadd
    have hn3 := cnt_nonneg p f (a + S) (a + S + c)
    have hnb : cntI p f a (a + S + c) ≤ 9223372036854775807 := by
      have ha := dB_bound (p := p) (f := f)
      unfold cntI
      split
      · rename_i h
        have q1 := ha h.1 a
        have q2 := ha h.1 (a + S + c)
        omega
      · omega
    rw [hn2] at hn3
    rw [hadd] at hnb
    have hw : IntKind.i64.wrap (n1 + n2) = n1 + n2 := by simp only [IntKind.wrap_i64]; omega
    clear hneg
    go_enter Try.func5, Try.ntmps5
    go_wp2
    go_quiet (fail)
    have hB := below_drewN hb nq
    generalize (w.alloc (.cells #[.int .i64 a, .int .i64 s, .int .i64 c] 35)).drewN nq = W1 at hB ⊢
    clear hb
    go_wp2_with (first | (go_at_call 13; refine (KC.out _ _ _ (by omega) (by omega)).mono ?_; rintro e w' ⟨rfl, e2⟩; rw [e2]; clear e2) | (go_at_call 14; refine (KR.out _ _ _ (by omega) (by omega)).mono ?_; rintro e w' ⟨rfl, e2⟩; rw [e2]; clear e2) | (go_at_call 10; refine (KL.out _).mono ?_; rintro e w' ⟨rfl, hb2⟩; have hb2 := Lib.hid (hB.trans (hb2.mono hB.size))))
    go_ret
    exact ⟨rfl, hb2.out⟩
theorem lawCount_any (w : World) (p f a s c : Int) (hp : p ≤ 9223372036854775807) :
    Calls Try.prog 5 #[.int .i64 p, .int .i64 f, .agg #[.int .i64 a, .int .i64 s, .int .i64 c]] w (ResB w true) := by
  by_cases h : a < -1099511627776 ∨ 1099511627776 < a ∨ c < -1099511627776 ∨ 1099511627776 < c
  · exact lawCount_out w p f a s c h
  · exact lawCount_in w p f a s c hp (by omega) (by omega) (by omega) (by omega)
end Go.Proofs.Ytochkonjfhhiiaa

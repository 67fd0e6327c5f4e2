/-
  Helper text: the walk of the law PeriodicsDue; no statement is proved here.
-/
import Derived.Test.YtochkonjfhhiiaaLv10
import Derived.Deep.QuietTactic
import Derived.BigQuiet
namespace Go.Proofs.Ytochkonjfhhiiaa
open Go Go.RowKit

set_option maxHeartbeats 1600000 in
set_option maxRecDepth 100000 in
theorem lawDue_early (w : World) (p f g t : Int) (hp : p ≤ 9223372036854775807) (ht0 : -9223372036854775808 ≤ t) (h : 4611686018427387904 < t ∨ (¬ 4611686018427387904 < t ∧ posB p f = false) ∨ (¬ 4611686018427387904 < t ∧ posB p f = true ∧ t < 0)) :
    Calls Try.prog 4 #[.int .i64 p, .agg #[.int .i64 f, .int .i64 g], .int .i64 t] w (ResB w true) := by
  have hb := (Below.refl w.heap.size w).alloc (Nat.le_refl _) (.cells #[.int .i64 f, .int .i64 g] 22)
  have KL := Lib.hid lives_any
  have KC := Lib.hid fun W x y hx hy => count_any W p f x y hp hx hy
  have KD := Lib.hid fun W x y => due_any W p x y hp
  have KP := Lib.hid fun W => possible_any W p f hp
  rcases h with h | ⟨h, hq⟩ | ⟨h, hq, hn⟩
  · go_enter Try.func4, Try.ntmps4
    go_wp2
    go_ret
    exact ⟨rfl, hb⟩
  · have e1 : dueB p f t = false := by simp [dueB, hq]
    have e2 : cntI p f t (t + 1000) = 0 := by simp [cntI, hq]
    go_enter Try.func4, Try.ntmps4
    go_wp2_with (first | (go_at_call 11; refine (KP.out _).mono ?_; rintro e w' ⟨rfl, e3⟩; rw [e3]; clear e3) | (go_at_call 12; refine (KD.out _ _ _).mono ?_; rintro e w' ⟨rfl, e3⟩; rw [e3]; clear e3) | (go_at_call 13; refine (KC.out _ _ _ (by omega) (by omega)).mono ?_; rintro e w' ⟨rfl, e3⟩; rw [e3]; clear e3) | (go_at_call 10; refine (KL.out _).mono ?_; rintro e w' ⟨rfl, hb2⟩; have hb2 := Lib.hid (hb.trans (hb2.mono (by simp)))))
    go_ret
    exact ⟨rfl, hb2.out⟩
  · have e1 : dueB p f t = false := by simp [dueB, isDue]; omega
    go_enter Try.func4, Try.ntmps4
    go_wp2_with (first | (go_at_call 11; refine (KP.out _).mono ?_; rintro e w' ⟨rfl, e3⟩; rw [e3]; clear e3) | (go_at_call 12; refine (KD.out _ _ _).mono ?_; rintro e w' ⟨rfl, e3⟩; rw [e3]; clear e3) | (go_at_call 10; refine (KL.out _).mono ?_; rintro e w' ⟨rfl, hb2⟩; have hb2 := Lib.hid (hb.trans (hb2.mono (by simp)))))
    go_ret
    exact ⟨rfl, hb2.out⟩

set_option maxHeartbeats 3200000 in
set_option maxRecDepth 100000 in
theorem lawDue_loop (w : World) (p f g t : Int) (hp : p ≤ 256) (hp1 : 1 ≤ p) (ht0 : 0 ≤ t) (ht1 : ¬ 4611686018427387904 < t) (hq : posB p f = true) :
    Calls Try.prog 4 #[.int .i64 p, .agg #[.int .i64 f, .int .i64 g], .int .i64 t] w (ResB w true) := by
  have KL := Lib.hid lives_any
  have KC := Lib.hid fun W x y hx hy => count_any W p f x y (by omega) hx hy
  have KD := Lib.hid fun W x y => due_any W p x y (show p ≤ 9223372036854775807 by omega)
  have KP := Lib.hid fun W => by have := possible_any W p f (show p ≤ 9223372036854775807 by omega); rwa [hq] at this
  have Hq := Lib.hid hq
  clear hq
  have hbox := heap_alloc_new w (.cells #[.int .i64 f, .int .i64 g] 22)
  have hb := (Below.refl w.heap.size w).alloc (Nat.le_refl _) (.cells #[.int .i64 f, .int .i64 g] 22)
  obtain ⟨B, hB⟩ : ∃ B, w.heap.size = B := ⟨_, rfl⟩
  go_enter Try.func4, Try.ntmps4
  go_wp2_with (go_at_call 11; refine (KP.out _).mono ?_; rintro e w' ⟨rfl, e3⟩; rw [e3]; clear e3)
  have c0 : (w.alloc (.cells #[.int .i64 f, .int .i64 g] 22)).cell? ⟨w.heap.size, 0, none⟩ = some (.int .i64 f) := Ev.cell_row hbox 0
  have c1 : (w.alloc (.cells #[.int .i64 f, .int .i64 g] 22)).cell? ⟨w.heap.size, 1, none⟩ = some (.int .i64 g) := Ev.cell_row hbox 1
  generalize w.alloc (.cells #[.int .i64 f, .int .i64 g] 22) = W1 at *
  rw [hB] at c0 c1
  go_loopw [7, 8] (fun vn vi wr => ∃ n i : Int, vn = .int .i64 n ∧ vi = .int .i64 i ∧ 0 ≤ i ∧ i ≤ p ∧ RowKit.Hid (n = dB p f (t + i) - dB p f t) ∧ wr.cell? ⟨B, 0, none⟩ = some (.int .i64 f) ∧ wr.cell? ⟨B, 1, none⟩ = some (.int .i64 g) ∧ Below w.heap.size w wr) (fun _ vi _ => (p - intOf vi).toNat)
  case atStart => exact ⟨0, 0, rfl, rfl, Int.le_refl _, by omega, Lib.hid (by simp), c0, c1, hb⟩
  case round =>
    obtain ⟨n, i, rfl, rfl, hi0, hip, hn, k0, k1, hW⟩ := hrel
    have hti : IntKind.i64.wrap (t + i) = t + i := by simp only [IntKind.wrap_i64]; omega
    by_cases hlt : i < p
    · have em : (t + i).tmod p = (t + i) % p := Int.tmod_eq_emod_of_nonneg (by omega)
      have hp0 : ¬ p = 0 := by omega
      obtain ⟨m, hm⟩ : ∃ m, (t + i) % p = m := ⟨_, rfl⟩
      rw [hm] at em
      have hm1 := Int.emod_nonneg (t + i) hp0
      have hm2 := Int.emod_lt_of_pos (t + i) (show 0 < p by omega)
      rw [hm] at hm1 hm2
      have hmw : IntKind.i64.wrap m = m := by simp only [IntKind.wrap_i64]; omega
      have hs := dB_succ Hq.out (t + i)
      by_cases hmf : m = f
      · subst hmf
        have hA : dueB p m (t + i) = true := by simp [dueB, Hq.out, isDue, hm]; omega
        rw [if_pos (by simp [isDue, hm]; omega)] at hs
        replace hs := Lib.hid hs
        replace hm := Lib.hid hm
        have hnb : n < 9223372036854775807 ∧ -9223372036854775808 ≤ n := by
          have q1 := dB_bound Hq.out t
          have q2 := dB_bound Hq.out (t + i)
          have := hn.out
          omega
        have hnw : IntKind.i64.wrap (n + 1) = n + 1 := by simp only [IntKind.wrap_i64]; omega
        by_cases hg : g = m
        · subst hg
          go_wp2
          go_quiet ((go_at_call 12; refine Calls.quiet_of_same (KD.out _ _ _)))
          rw [hA]
          have q0 : (wr.drewN nq).cell? ⟨B, 0, none⟩ = some _ := k0
          have q1 : (wr.drewN nq).cell? ⟨B, 1, none⟩ = some _ := k1
          have hW2 := below_drewN hW nq
          generalize wr.drewN nq = W2 at q0 q1 hW2 ⊢
          go_wp2
          go_quiet (fail)
          have r0 : (W2.drewN nq).cell? ⟨B, 0, none⟩ = some _ := q0
          have r1 : (W2.drewN nq).cell? ⟨B, 1, none⟩ = some _ := q1
          have hW3 := below_drewN hW2 nq
          generalize W2.drewN nq = W3 at r0 r1 hW3 ⊢
          go_wp2
          go_round
          case rel =>
            refine ⟨n + 1, i + 1, rfl, rfl, by omega, by omega, Lib.hid ?_, r0, r1, hW3⟩
            have := hs.out; have := hn.out; rw [show t + (i + 1) = t + i + 1 by omega]; omega
          case measure => simp [intOf]; omega
        · have hBv : dueB p g (t + i) = false := by
            simp [dueB, isDue, hm.out]
            intro _ _ e
            exact absurd e.symm hg
          go_wp2
          go_quiet ((go_at_call 12; refine Calls.quiet_of_same (KD.out _ _ _)))
          rw [hA, hBv]
          have q0 : (wr.drewN nq).cell? ⟨B, 0, none⟩ = some _ := k0
          have q1 : (wr.drewN nq).cell? ⟨B, 1, none⟩ = some _ := k1
          have hW2 := below_drewN hW nq
          generalize wr.drewN nq = W2 at q0 q1 hW2 ⊢
          go_wp2
          go_quiet (fail)
          have r0 : (W2.drewN nq).cell? ⟨B, 0, none⟩ = some _ := q0
          have r1 : (W2.drewN nq).cell? ⟨B, 1, none⟩ = some _ := q1
          have hW3 := below_drewN hW2 nq
          generalize W2.drewN nq = W3 at r0 r1 hW3 ⊢
          go_wp2
          go_round
          case rel =>
            refine ⟨n + 1, i + 1, rfl, rfl, by omega, by omega, Lib.hid ?_, r0, r1, hW3⟩
            have := hs.out; have := hn.out; rw [show t + (i + 1) = t + i + 1 by omega]; omega
          case measure => simp [intOf]; omega
      · have hA : dueB p f (t + i) = false := by simp [dueB, isDue, hm, hmf]
        rw [if_neg (by simp [isDue, hm, hmf])] at hs
        replace hs := Lib.hid hs
        replace hm := Lib.hid hm
        have hmf2 : (m == f) = false := by rw [beq_eq_false_iff_ne]; exact hmf
        go_wp2
        go_quiet ((go_at_call 12; refine Calls.quiet_of_same (KD.out _ _ _)))
        rw [hA]
        generalize dueB p g (t + i) = bb
        have q0 : (wr.drewN nq).cell? ⟨B, 0, none⟩ = some _ := k0
        have q1 : (wr.drewN nq).cell? ⟨B, 1, none⟩ = some _ := k1
        have hW2 := below_drewN hW nq
        generalize wr.drewN nq = W2 at q0 q1 hW2 ⊢
        go_wp2
        go_quiet (fail)
        have r0 : (W2.drewN nq).cell? ⟨B, 0, none⟩ = some _ := q0
        have r1 : (W2.drewN nq).cell? ⟨B, 1, none⟩ = some _ := q1
        have hW3 := below_drewN hW2 nq
        generalize W2.drewN nq = W3 at r0 r1 hW3 ⊢
        go_wp2
        go_round
        case rel =>
          refine ⟨n, i + 1, rfl, rfl, by omega, by omega, Lib.hid ?_, r0, r1, hW3⟩
          have := hs.out; have := hn.out; rw [show t + (i + 1) = t + i + 1 by omega]; omega
        case measure => simp [intOf]; omega
    · have hie : i = p := by omega
      subst hie
      have hn1 : n = 1 := by
        have := hn.out
        rw [dB_period Hq.out ht0] at this
        omega
      subst hn1
      have hc : cntI i f t (t + i) = 1 := by
        unfold cntI
        rw [if_pos ⟨Hq.out, by omega⟩, dB_period Hq.out ht0]
        omega
      go_wp2_with (first | (go_at_call 13; refine (KC.out _ _ _ (by omega) (by omega)).mono ?_; rintro e w' ⟨rfl, e3⟩; rw [e3]; clear e3) | (go_at_call 10; refine (KL.out _).mono ?_; rintro e w' ⟨rfl, hb2⟩; have hb2 := Lib.hid (hW.trans (hb2.mono hW.size))))
      go_ret
      exact ⟨rfl, hb2.out⟩

theorem lawDue_any (w : World) (p f g t : Int) (hp : p ≤ 9223372036854775807) (ht0 : -9223372036854775808 ≤ t) :
    Calls Try.prog 4 #[.int .i64 p, .agg #[.int .i64 f, .int .i64 g], .int .i64 t] w (ResB w true) := by
  by_cases h1 : 4611686018427387904 < t
  · exact lawDue_early w p f g t hp ht0 (.inl h1)
  · cases hq : posB p f with
    | false => exact lawDue_early w p f g t hp ht0 (.inr (.inl ⟨h1, hq⟩))
    | true =>
      by_cases h2 : t < 0
      · exact lawDue_early w p f g t hp ht0 (.inr (.inr ⟨h1, hq, h2⟩))
      · have hpp := isPow_pos (posB_iff.1 hq).1
        exact lawDue_loop w p f g t hpp.2 hpp.1 (by omega) h1 hq
end Go.Proofs.Ytochkonjfhhiiaa

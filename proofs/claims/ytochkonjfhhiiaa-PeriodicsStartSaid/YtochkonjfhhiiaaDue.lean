/-
  Helper text: the ticks that are due, and how many; no statement is proved here.
-/
import Derived.Test.YtochkonjfhhiiaaPos
namespace Go.Proofs.Ytochkonjfhhiiaa
open Go Go.RowKit

/-- How many of the ticks below t are due. -/
def dB (p f t : Int) : Int := if t ≤ f then 0 else (t - 1 - f) / p + 1
def isDue (p f t : Int) : Bool := decide (0 ≤ t) && decide (t % p = f)
def dueB (p f t : Int) : Bool := posB p f && isDue p f t
theorem dB_succ {p f : Int} (h : posB p f = true) (t : Int) : dB p f (t + 1) = dB p f t + (if isDue p f t then 1 else 0) := by
  obtain ⟨h1, h2, h3⟩ := posB_iff.1 h
  have hd : isDue p f t = true ↔ 0 ≤ t ∧ t % p = f := by simp [isDue]
  unfold dB
  by_cases hi : isDue p f t = true
  · rw [if_pos hi]
    have hi' := hd.1 hi
    rcases isPow_iff.1 h1 with rfl | rfl | rfl | rfl | rfl | rfl | rfl | rfl | rfl <;> (split <;> split <;> omega)
  · rw [if_neg hi]
    have hi' : ¬ (0 ≤ t ∧ t % p = f) := fun e => hi (hd.2 e)
    rcases isPow_iff.1 h1 with rfl | rfl | rfl | rfl | rfl | rfl | rfl | rfl | rfl <;> (split <;> split <;> omega)
theorem dB_bound {p f : Int} (h : posB p f = true) (t : Int) : 0 ≤ dB p f t ∧ (dB p f t ≤ t ∨ dB p f t = 0) := by
  obtain ⟨h1, h2, h3⟩ := posB_iff.1 h
  unfold dB
  split
  · omega
  · rcases isPow_iff.1 h1 with rfl | rfl | rfl | rfl | rfl | rfl | rfl | rfl | rfl <;> omega
theorem dB_period {p f : Int} (h : posB p f = true) {t : Int} (ht : 0 ≤ t) : dB p f (t + p) = dB p f t + 1 := by
  obtain ⟨h1, h2, h3⟩ := posB_iff.1 h
  unfold dB
  rcases isPow_iff.1 h1 with rfl | rfl | rfl | rfl | rfl | rfl | rfl | rfl | rfl <;> (split <;> split <;> omega)

set_option maxHeartbeats 800000 in
theorem dueBelow_any (w : World) (p f t : Int) (h : posB p f = true) (ht : t ≤ 9223372036854775807) : Calls Try.prog 24 #[.int .i64 p, .int .i64 f, .int .i64 t] w (Same w (.int .i64 (dB p f t))) := by
  obtain ⟨h1, h2, h3⟩ := posB_iff.1 h
  have hp := isPow_pos h1
  have hb := dB_bound h t
  by_cases hlt : t ≤ f
  · have e : dB p f t = 0 := by unfold dB; rw [if_pos hlt]
    rw [e]
    clear hb e
    go_enter Try.func24, Try.ntmps24
    go_wp2
    go_ret
    exact ⟨rfl, rfl⟩
  · have e : dB p f t = (t - 1 - f) / p + 1 := by unfold dB; rw [if_neg hlt]
    have eq1 : (t - 1 - f).tdiv p = (t - 1 - f) / p := Int.tdiv_eq_ediv_of_nonneg (by omega)
    have hp0 : ¬ p = 0 := by omega
    rw [e] at hb ⊢
    have hq : (t - 1 - f) / p ≤ t := by omega
    have hq0 : 0 ≤ (t - 1 - f) / p := Int.ediv_nonneg (by omega) (by omega)
    generalize (t - 1 - f) / p = q at eq1 hb hq hq0 ⊢
    have e1 : IntKind.i64.wrap (t - 1) = t - 1 := by simp only [IntKind.wrap_i64]; omega
    have e2 : IntKind.i64.wrap (t - 1 - f) = t - 1 - f := by simp only [IntKind.wrap_i64]; omega
    have e3 : IntKind.i64.wrap q = q := by simp only [IntKind.wrap_i64]; omega
    have e4 : IntKind.i64.wrap (q + 1) = q + 1 := by simp only [IntKind.wrap_i64]; omega
    clear e hb
    go_enter Try.func24, Try.ntmps24
    go_wp2
    go_ret
    exact ⟨rfl, rfl⟩

set_option maxHeartbeats 800000 in
theorem due_any (w : World) (p f t : Int) (hp : p ≤ 9223372036854775807) : Calls Try.prog 12 #[.int .i64 p, .int .i64 f, .int .i64 t] w (Same w (.bool (dueB p f t))) := by
  have K := Lib.hid fun W => isPossible_any W p f hp
  cases hb : posB p f with
  | false =>
    rw [hb] at K
    have e : dueB p f t = false := by simp [dueB, hb]
    rw [e]
    clear e hb
    go_enter Try.func12, Try.ntmps12
    go_wp2_with (go_at_call 23; refine (K.out _).mono ?_; rintro e w' ⟨rfl, e2⟩; rw [e2]; clear e2)
    go_ret
    exact ⟨rfl, rfl⟩
  | true =>
    rw [hb] at K
    obtain ⟨h1, h2, h3⟩ := posB_iff.1 hb
    have hp1 := isPow_pos h1
    by_cases ht : 0 ≤ t
    · have e : dueB p f t = decide (t % p = f) := by simp [dueB, hb, isDue, ht]
      have em : t.tmod p = t % p := Int.tmod_eq_emod_of_nonneg ht
      have hp0 : ¬ p = 0 := by omega
      have hm := Int.emod_nonneg t hp0
      have hm2 := Int.emod_lt_of_pos t (show 0 < p by omega)
      rw [e]
      generalize t % p = m at em hm hm2 ⊢
      have ew : IntKind.i64.wrap m = m := by simp only [IntKind.wrap_i64]; omega
      have e9 : (m == f) = decide (m = f) := rfl
      clear e hb h1 hp1
      by_cases hmf : m = f
      · subst hmf
        go_enter Try.func12, Try.ntmps12
        go_wp2_with (go_at_call 23; refine (K.out _).mono ?_; rintro e w' ⟨rfl, e2⟩; rw [e2]; clear e2)
        go_ret
        exact ⟨by simp, rfl⟩
      · go_enter Try.func12, Try.ntmps12
        go_wp2_with (go_at_call 23; refine (K.out _).mono ?_; rintro e w' ⟨rfl, e2⟩; rw [e2]; clear e2)
        go_ret
        exact ⟨by simp [hmf], rfl⟩
    · have e : dueB p f t = false := by simp [dueB, isDue, ht]
      rw [e]
      clear e hb
      go_enter Try.func12, Try.ntmps12
      go_wp2_with (go_at_call 23; refine (K.out _).mono ?_; rintro e w' ⟨rfl, e2⟩; rw [e2]; clear e2)
      go_ret
      exact ⟨rfl, rfl⟩

/-- How many ticks from one on, below another one, are due. -/
def cntI (p f a b : Int) : Int := if posB p f = true ∧ a < b then dB p f b - dB p f a else 0
set_option maxHeartbeats 800000 in
theorem count_any (w : World) (p f a b : Int) (hp : p ≤ 9223372036854775807) (ha : a ≤ 9223372036854775807) (hb : b ≤ 9223372036854775807) : Calls Try.prog 13 #[.int .i64 p, .int .i64 f, .int .i64 a, .int .i64 b] w (Same w (.int .i64 (cntI p f a b))) := by
  have K := Lib.hid fun W => isPossible_any W p f hp
  cases hps : posB p f with
  | false =>
    rw [hps] at K
    have e : cntI p f a b = 0 := by simp [cntI, hps]
    rw [e]
    clear e hps
    go_enter Try.func13, Try.ntmps13
    go_wp2_with (go_at_call 23; refine (K.out _).mono ?_; rintro e w' ⟨rfl, e2⟩; rw [e2]; clear e2)
    go_ret
    exact ⟨rfl, rfl⟩
  | true =>
    rw [hps] at K
    by_cases hab : a < b
    · have e : cntI p f a b = dB p f b - dB p f a := by unfold cntI; rw [if_pos ⟨hps, hab⟩]
      rw [e]
      have Ka := Lib.hid fun W => dueBelow_any W p f a hps ha
      have Kb := Lib.hid fun W => dueBelow_any W p f b hps hb
      have ba := dB_bound hps a
      have bb := dB_bound hps b
      generalize dB p f a = x at Ka ba ⊢
      generalize dB p f b = y at Kb bb ⊢
      have ew : IntKind.i64.wrap (y - x) = y - x := by simp only [IntKind.wrap_i64]; omega
      have hx : 0 ≤ x := ba.1
      have hy : 0 ≤ y := bb.1
      have hx2 : x ≤ 9223372036854775807 := by omega
      have hy2 : y ≤ 9223372036854775807 := by omega
      have hn : ¬ b ≤ a := by omega
      clear e hps ba bb
      go_enter Try.func13, Try.ntmps13
      go_wp2_with (first | (go_at_call 23; refine (K.out _).mono ?_; rintro e w' ⟨rfl, e2⟩; rw [e2]; clear e2) | (go_at_call 24; refine (Kb.out _).mono ?_; rintro e w' ⟨rfl, e2⟩; rw [e2]; clear e2; replace Kb := Lib.hid True.intro) | (go_at_call 24; refine (Ka.out _).mono ?_; rintro e w' ⟨rfl, e2⟩; rw [e2]; clear e2))
      go_ret
      exact ⟨rfl, rfl⟩
    · have e : cntI p f a b = 0 := by unfold cntI; rw [if_neg (fun h => hab h.2)]
      have hn : b ≤ a := by omega
      rw [e]
      clear e hps
      go_enter Try.func13, Try.ntmps13
      go_wp2_with (go_at_call 23; refine (K.out _).mono ?_; rintro e w' ⟨rfl, e2⟩; rw [e2]; clear e2)
      go_ret
      exact ⟨rfl, rfl⟩
end Go.Proofs.Ytochkonjfhhiiaa

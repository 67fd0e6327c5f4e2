/-
  Helper text: the reference's Possible and Count; no statement is proved here.
-/
import Derived.Test.YtochkonjfhhiiaaDue
namespace Go.Proofs.Ytochkonjfhhiiaa
open Go Go.RowKit

set_option maxHeartbeats 1600000 in
theorem possible_any (w : World) (p f : Int) (hp : p ≤ 9223372036854775807) : Calls Try.prog 11 #[.int .i64 p, .int .i64 f] w (Same w (.bool (posB p f))) := by
  go_enter Try.func11, Try.ntmps11
  go_wp2
  go_loop [5] (fun v => ∃ n : Int, v = .int .i64 n ∧ RowKit.Hid (isPow n = true ∧ (isPow p = true → n ≤ p))) (fun v => (256 - intOf v).toNat)
  case atStart => exact ⟨1, rfl, Lib.hid ⟨by decide, fun h => (isPow_pos h).1⟩⟩
  case round =>
    obtain ⟨n, rfl, hn⟩ := hrel
    have hnp := isPow_pos hn.out.1
    by_cases hlt : n < 256
    · by_cases he : n = p
      · subst he
        have hv : posB n f = (decide (0 ≤ f) && decide (f < n)) := by simp [posB, hn.out.1]
        have Hv := Lib.hid hv
        clear hv
        by_cases h0 : 0 ≤ f
        · by_cases h1 : f < n
          · have e1 : decide (f < n) = true := decide_eq_true h1
            have e0 : decide (0 ≤ f) = true := decide_eq_true h0
            go_wp2
            go_ret
            exact ⟨by rw [Hv.out]; simp [h0, h1], rfl⟩
          · have e1 : decide (f < n) = false := decide_eq_false h1
            go_wp2
            go_ret
            exact ⟨by rw [Hv.out]; simp [h1], rfl⟩
        · go_wp2
          go_ret
          exact ⟨by rw [Hv.out, decide_eq_false (show ¬ 0 ≤ f by omega)]; rfl, rfl⟩
      · have he2 : (n == p) = false := by rw [beq_eq_false_iff_ne]; exact he
        have he3 : (n != p) = true := by simp [he]
        go_wp2
        go_round
        case rel =>
          refine ⟨n * 2, rfl, Lib.hid ⟨?_, fun h => ?_⟩⟩
          · have := isPow_iff.1 hn.out.1
            apply isPow_iff.2
            omega
          · have h1 := hn.out.2 h
            have h2 := isPow_iff.1 hn.out.1
            have h3 := isPow_iff.1 h
            omega
        case measure => simp [intOf]; omega
    · have h256 : n = 256 := by omega
      subst h256
      by_cases he : (256 : Int) = p
      · subst he
        have hv : posB 256 f = (decide (0 ≤ f) && decide (f < 256)) := by simp [posB, hn.out.1]
        have Hv := Lib.hid hv
        clear hv
        by_cases h0 : 0 ≤ f
        · by_cases h1 : f < 256
          · go_wp2
            go_ret
            exact ⟨by rw [Hv.out]; simp [h0, h1], rfl⟩
          · go_wp2
            go_ret
            exact ⟨by rw [Hv.out]; simp [h1], rfl⟩
        · go_wp2
          go_ret
          exact ⟨by rw [Hv.out, decide_eq_false (show ¬ 0 ≤ f by omega)]; rfl, rfl⟩
      · have hv : posB p f = false := by
          cases h : posB p f with
          | false => rfl
          | true =>
            have h3 := (posB_iff.1 h).1
            have h4 := hn.out.2 h3
            have h5 := isPow_pos h3
            omega
        have Hv := Lib.hid hv
        clear hv
        have he2 : ((256 : Int) == p) = false := by rw [beq_eq_false_iff_ne]; exact he
        go_wp2
        go_ret
        exact ⟨by rw [Hv.out]; rfl, rfl⟩

set_option maxHeartbeats 1600000 in
theorem refCount_any (w : World) (p f a b : Int) (hp : p ≤ 9223372036854775807) (ha : -4611686018427387904 ≤ a) (hb : b ≤ 4611686018427387904) : Calls Try.prog 14 #[.int .i64 p, .int .i64 f, .int .i64 a, .int .i64 b] w (Same w (.int .i64 (cntI p f a b))) := by
  have K := Lib.hid fun W => possible_any W p f hp
  cases hps : posB p f with
  | false =>
    rw [hps] at K
    have e : cntI p f a b = 0 := by simp [cntI, hps]
    rw [e]
    clear e hps
    go_enter Try.func14, Try.ntmps14
    go_wp2_with (go_at_call 11; refine (K.out _).mono ?_; rintro e w' ⟨rfl, e2⟩; rw [e2]; clear e2)
    go_ret
    exact ⟨rfl, rfl⟩
  | true =>
    rw [hps] at K
    have hps' := Lib.hid hps
    clear hps
    have hp1 := isPow_pos (posB_iff.1 hps'.out).1
    go_enter Try.func14, Try.ntmps14
    go_wp2_with (go_at_call 11; refine (K.out _).mono ?_; rintro e w' ⟨rfl, e2⟩; rw [e2]; clear e2)
    go_loop [9, 10] (fun vn vt => ∃ n t : Int, vn = .int .i64 n ∧ vt = .int .i64 t ∧ a ≤ t ∧ RowKit.Hid (t ≤ b ∨ t = a) ∧ RowKit.Hid (n = dB p f t - dB p f a)) (fun _ v => (b - intOf v).toNat)
    case atStart => exact ⟨0, a, rfl, rfl, Int.le_refl _, Lib.hid (.inr rfl), Lib.hid (by omega)⟩
    case round =>
      obtain ⟨n, t, rfl, rfl, h1, h2, hn⟩ := hrel
      by_cases hlt : t < b
      · have hs := Lib.hid (dB_succ hps'.out t)
        have ba := dB_bound hps'.out a
        have bt := dB_bound hps'.out t
        have hnn := hn.out
        have hn1 : -4611686018427387905 ≤ n := by omega
        have hn2 : n ≤ 4611686018427387905 := by omega
        clear hnn ba bt
        by_cases ht : 0 ≤ t
        · have em : t.tmod p = t % p := Int.tmod_eq_emod_of_nonneg ht
          have hp0 : ¬ p = 0 := by omega
          have hm := Int.emod_nonneg t hp0
          have hm2 := Int.emod_lt_of_pos t (show 0 < p by omega)
          by_cases hd : t % p = f
          · have hi : isDue p f t = true := by simp [isDue, ht, hd]
            have hs2 := hs.out
            rw [if_pos hi] at hs2
            have hs3 := Lib.hid hs2
            generalize t % p = m at em hm hm2 hd
            have ew : IntKind.i64.wrap m = m := by simp only [IntKind.wrap_i64]; omega
            subst hd
            clear hs hs2 hi
            go_wp2
            go_round
            case rel => exact ⟨n + 1, t + 1, rfl, rfl, by omega, Lib.hid (.inl (by omega)), Lib.hid (by have := hs3.out; have := hn.out; omega)⟩
            case measure => simp [intOf]; omega
          · have hi : ¬ isDue p f t = true := by simp [isDue, hd]
            have hs2 := hs.out
            rw [if_neg hi] at hs2
            have hs3 := Lib.hid hs2
            generalize t % p = m at em hm hm2 hd
            have ew : IntKind.i64.wrap m = m := by simp only [IntKind.wrap_i64]; omega
            have hd2 : (m == f) = false := by rw [beq_eq_false_iff_ne]; exact hd
            clear hs hs2 hi
            go_wp2
            go_round
            case rel => exact ⟨n, t + 1, rfl, rfl, by omega, Lib.hid (.inl (by omega)), Lib.hid (by have := hs3.out; have := hn.out; omega)⟩
            case measure => simp [intOf]; omega
        · have hi : ¬ isDue p f t = true := by simp [isDue, ht]
          have hs2 := hs.out
          rw [if_neg hi] at hs2
          have hs3 := Lib.hid hs2
          clear hs hs2 hi
          go_wp2
          go_round
          case rel => exact ⟨n, t + 1, rfl, rfl, by omega, Lib.hid (.inl (by omega)), Lib.hid (by have := hs3.out; have := hn.out; omega)⟩
          case measure => simp [intOf]; omega
      · have hv : cntI p f a b = n := by
          have := hn.out
          unfold cntI
          rcases h2.out with h | h
          · have : t = b := by omega
            subst this
            split
            · omega
            · rename_i h3
              have : ¬ a < t := fun h4 => h3 ⟨hps'.out, h4⟩
              have : a = t := by omega
              subst this
              omega
          · subst h
            rw [if_neg (fun h => hlt h.2)]
            omega
        have Hv := Lib.hid hv
        clear hv
        go_wp2
        go_ret
        exact ⟨by rw [Hv.out]; rfl, rfl⟩
end Go.Proofs.Ytochkonjfhhiiaa

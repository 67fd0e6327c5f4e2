/-
  Helper text: the walk of the law PeriodicsAll; no statement is proved here.
-/
import Derived.Test.YtochkonjfhhiiaaLv10
import Derived.Deep.QuietTactic
import Derived.BigQuiet
namespace Go.Proofs.Ytochkonjfhhiiaa
open Go Go.RowKit

theorem dB_up {p f : Int} (h : posB p f = true) (T : Int) : T ≤ f + dB p f T * p := by
  obtain ⟨h1, h2, h3⟩ := posB_iff.1 h
  unfold dB
  rcases isPow_iff.1 h1 with rfl | rfl | rfl | rfl | rfl | rfl | rfl | rfl | rfl <;> (split <;> omega)
theorem dB_dn {p f : Int} (h : posB p f = true) (T : Int) (hd : 1 ≤ dB p f T) : f + dB p f T * p < T + p := by
  obtain ⟨h1, h2, h3⟩ := posB_iff.1 h
  unfold dB at hd ⊢
  rcases isPow_iff.1 h1 with rfl | rfl | rfl | rfl | rfl | rfl | rfl | rfl | rfl <;> (split at hd <;> omega)
theorem dB_at {p f : Int} (h : posB p f = true) {T : Int} (hd : isDue p f T = true) : T = f + dB p f T * p := by
  obtain ⟨h1, h2, h3⟩ := posB_iff.1 h
  simp [isDue] at hd
  unfold dB
  rcases isPow_iff.1 h1 with rfl | rfl | rfl | rfl | rfl | rfl | rfl | rfl | rfl <;> (split <;> omega)

theorem all_start {p f a : Int} (h : posB p f = true) : dB p f (min (if a < 0 then 0 else a) 1048576) = dB p f (min a 1048576) := by
  obtain ⟨h1, h2, h3⟩ := posB_iff.1 h
  split
  · have e : min a 1048576 = a := by omega
    rw [e]
    unfold dB
    rw [if_pos (by omega), if_pos (by omega)]
  · rfl
theorem all_at {p f a t : Int} {N k : Nat} {ys : List Int} (h : posB p f = true) (hy : FstT p f a N ys) (hk : dB p f (min t 1048576) = dB p f (min a 1048576) + k) (ht : t < 1048576) (hkN : k < N) (hd : isDue p f t = true) : k < ys.length ∧ ys.getD k 0 = t := by
  obtain ⟨h1, _, h2⟩ := hy
  obtain ⟨h3, h4⟩ := h2 h
  have e : min t 1048576 = t := by omega
  rw [e] at hk
  have ha := dB_at h hd
  rw [hk] at ha
  have hp := isPow_pos (posB_iff.1 h).1
  have h5 : T0 p f a + k * p = t := by unfold T0; rw [ha, Int.add_mul]; omega
  have h6 : k < ys.length := by
    rcases h4 with h4 | h4
    · omega
    · rcases Nat.lt_or_ge k ys.length with h7 | h7
      · exact h7
      · have : (ys.length : Int) * p ≤ k * p := Int.mul_le_mul_of_nonneg_right (by omega) (by omega)
        omega
  refine ⟨h6, ?_⟩
  rw [← h5, ← (h3 k h6).1, List.getD_eq_getElem?_getD]
theorem all_end {p f a t : Int} {N k : Nat} {ys : List Int} (h : posB p f = true) (hy : FstT p f a N ys) (hk : dB p f (min t 1048576) = dB p f (min a 1048576) + k) (hkN : k ≤ N) (ht : 1048576 ≤ t ∨ k = N) : ys.length = k := by
  obtain ⟨h1, _, h2⟩ := hy
  obtain ⟨h3, h4⟩ := h2 h
  have hp := isPow_pos (posB_iff.1 h).1
  have hb := dB_bound h (min a 1048576)
  have hup := dB_up h (min t 1048576)
  have hdn := dB_dn h (min t 1048576)
  have hmt : min t 1048576 ≤ 1048576 := by omega
  have e0 : T0 p f a = f + dB p f (min a 1048576) * p := rfl
  rw [hk] at hup hdn
  have e1 : (dB p f (min a 1048576) + k) * p = dB p f (min a 1048576) * p + k * p := Int.add_mul _ _ _
  rw [e1] at hup hdn
  have up : ys.length ≤ k := by
    rcases Nat.lt_or_ge k ys.length with h7 | h7
    · have h8 := (h3 k h7).2
      rcases ht with ht | ht
      · have : min t 1048576 = 1048576 := by omega
        omega
      · omega
    · exact h7
  rcases Nat.lt_or_ge ys.length k with h7 | h7
  · exfalso
    have h8 : ((ys.length : Int) + 1) * p ≤ k * p := Int.mul_le_mul_of_nonneg_right (by omega) (by omega)
    have e2 : ((ys.length : Int) + 1) * p = ys.length * p + p := by rw [Int.add_mul]; omega
    have := hdn (by omega)
    omega
  · omega
theorem fst_uniq {p f a : Int} {N : Nat} {ys zs : List Int} (hy : FstT p f a N ys) (hz : FstT p f a N zs) : zs = ys := by
  cases h : posB p f with
  | false => rw [hy.2.1 h, hz.2.1 h]
  | true =>
    obtain ⟨a1, _, a2⟩ := hy
    obtain ⟨b1, _, b2⟩ := hz
    obtain ⟨a3, a4⟩ := a2 h
    obtain ⟨b3, b4⟩ := b2 h
    have hl : zs.length = ys.length := by
      rcases Nat.lt_trichotomy zs.length ys.length with h1 | h1 | h1
      · have := (a3 _ h1).2
        omega
      · exact h1
      · have := (b3 _ h1).2
        omega
    apply List.ext_getElem hl
    intro j h1 h2
    have q1 := (a3 j h2).1
    have q2 := (b3 j h1).1
    rw [List.getElem?_eq_getElem h1] at q2
    rw [List.getElem?_eq_getElem h2] at q1
    simp at q1 q2
    rw [q1, q2]

set_option maxHeartbeats 3200000 in
set_option maxRecDepth 100000 in
theorem lawAll_core (w : World) (p f a m : Int) (N : Nat) (hp : p ≤ 9223372036854775807) (ha0 : -9223372036854775808 ≤ a) (ha9 : a ≤ 9223372036854775807) (hN : N ≤ 19) (hm : m.tmod 20 = (N : Int) ∨ (m.tmod 20 = -(N : Int) ∧ 0 < (N : Int))) (hq : posB p f = true) :
    Calls Try.prog 6 #[.int .i64 p, .int .i64 f, .agg #[.int .i64 a, .int .i64 m]] w (ResB w true) := by
  have KL := Lib.hid lives_any
  have KF := Lib.hid fun W => first_any W p f a hp N (by omega)
  have KP := Lib.hid fun W => by have := possible_any W p f hp; rwa [hq] at this
  have Hq := Lib.hid hq
  have hpp := isPow_pos (posB_iff.1 hq).1
  have hp0 : 0 < p := by omega
  have hp0' : ¬ p = 0 := by omega
  have hp256 : p ≤ 256 := by omega
  clear hq hpp
  have hbox := Lib.hid (heap_alloc_new w (.cells #[.int .i64 a, .int .i64 m] 22))
  have hb := Lib.hid ((Below.refl w.heap.size w).alloc (Nat.le_refl _) (.cells #[.int .i64 a, .int .i64 m] 22))
  by_cases haz : a < 0 <;> rcases hm with hm | ⟨hm, hm0⟩
  all_goals
    go_enter Try.func6, Try.ntmps6
    go_wp2_with fail
    refine (KF.out _).mono ?_
    rintro e w2 ⟨A, c, ys, rfl, hy, hr, hb2⟩
    have hblk : w2.heap[w.heap.size]? = _ := (hb2.block _ (by simp)).trans hbox.out
    have c0 : w2.cell? ⟨w.heap.size, 0, none⟩ = some (.int .i64 a) := Ev.cell_row hblk 0
    have hB2 := hb.out.trans (hb2.mono (by simp))
    have hz2 : w.heap.size < w2.heap.size := by have := hb2.size; simp at this; omega
    replace hblk := Lib.hid hblk
    replace hB2 := Lib.hid hB2
    replace hy := Lib.hid hy
    clear hb2
    go_wp2_with fail
    refine (KP.out _).mono ?_
    rintro e w' ⟨rfl, e2⟩
    rw [e2]
    clear e2
    go_wp2_with fail
    go_loop [10, 11] (fun vn vt => ∃ (k : Nat) (t : Int), vn = .int .i64 (k : Int) ∧ vt = .int .i64 t ∧ 0 ≤ t ∧ t ≤ 9223372036854775807 ∧ k ≤ N ∧ RowKit.Hid (dB p f (min t 1048576) = dB p f (min a 1048576) + k)) (fun _ vt => (1048576 - intOf vt).toNat)
    case atStart =>
      have hs := all_start (a := a) Hq.out
      first
      | (rw [if_pos haz] at hs; exact ⟨0, 0, rfl, rfl, Int.le_refl _, (by omega), Nat.zero_le _, Lib.hid (by rw [hs]; simp)⟩)
      | (rw [if_neg haz] at hs; exact ⟨0, a, rfl, rfl, (by omega), ha9, Nat.zero_le _, Lib.hid (by rw [hs]; simp)⟩)
      | (rw [if_neg (by omega)] at hs; exact ⟨0, a, rfl, rfl, (by omega), ha9, Nat.zero_le _, Lib.hid (by rw [hs]; simp)⟩)
    case round =>
      obtain ⟨k, t, rfl, rfl, ht0, ht9, hkN, hk⟩ := hrel
      by_cases hgo : t < 1048576 ∧ k < N
      · obtain ⟨hlt, hkl⟩ := hgo
        have hkl2 : (k : Int) < (N : Int) := by omega
        have em : t.tmod p = t % p := Int.tmod_eq_emod_of_nonneg ht0
        have hm1 := Int.emod_nonneg t hp0'
        have hm2 := Int.emod_lt_of_pos t hp0
        have hsu := dB_succ Hq.out t
        have e1 : min t 1048576 = t := by omega
        have e2 : min (t + 1) 1048576 = t + 1 := by omega
        by_cases hd : t % p = f
        · have hdue : isDue p f t = true := by simp [isDue, ht0, hd]
          obtain ⟨hkl3, hget⟩ := all_at Hq.out hy.out hk.out hlt hkl hdue
          rw [if_pos hdue] at hsu
          have Hk1 := Lib.hid (show dB p f (min (t + 1) 1048576) = dB p f (min a 1048576) + ((k + 1 : Nat) : Int) by have := hk.out; rw [e1] at this; rw [e2, hsu, this]; omega)
          obtain ⟨bk, off, hA, hbk, hcell⟩ := hr.at_ hkl3
          rw [hget] at hcell
          subst hA
          have hkl4 : (k : Int) < (ys.length : Int) := by omega
          clear hsu e1 e2 hdue hget
          generalize t % p = q at em hm1 hm2 hd
          have hqw : IntKind.i64.wrap q = q := by simp only [IntKind.wrap_i64]; omega
          subst hd
          go_wp2_with fail
          go_round
          case rel => exact ⟨k + 1, t + 1, by simp, rfl, by omega, by omega, by omega, Hk1⟩
          case measure => simp [intOf]; omega
        · have hdue : ¬ isDue p f t = true := by simp [isDue, hd]
          rw [if_neg hdue] at hsu
          have Hk1 := Lib.hid (show dB p f (min (t + 1) 1048576) = dB p f (min a 1048576) + (k : Int) by have := hk.out; rw [e1] at this; rw [e2, hsu, this]; omega)
          clear hsu e1 e2 hdue
          generalize t % p = q at em hm1 hm2 hd
          have hqw : IntKind.i64.wrap q = q := by simp only [IntKind.wrap_i64]; omega
          have hqf : (q == f) = false := by rw [beq_eq_false_iff_ne]; exact hd
          go_wp2_with fail
          go_round
          case rel => exact ⟨k, t + 1, rfl, rfl, by omega, by omega, by omega, Hk1⟩
          case measure => simp [intOf]; omega
      · have hlen := all_end Hq.out hy.out hk.out hkN (by omega)
        have hcase : ¬ t < 1048576 ∨ (t < 1048576 ∧ ¬ (k : Int) < (N : Int)) := by omega
        clear hgo hk
        subst hlen
        rcases hcase with hx | ⟨hx, hx2⟩
        all_goals
          go_wp2_with fail
          refine (KF.out _).mono ?_
          rintro e w3 ⟨A2, c2, zs, rfl, hz, hr3, hb3⟩
          obtain rfl := fst_uniq hy.out hz
          have hr2 := hr.below hb3
          have hB3 := hB2.out.trans (hb3.mono (by omega))
          clear hz hr hb3 hx
          replace hr2 := Lib.hid hr2
          replace hr3 := Lib.hid hr3
          replace hB3 := Lib.hid hB3
          go_wp2_with fail
          go_loopw [13] (fun vi wr => ∃ i : Nat, vi = .int .i64 (i : Int) ∧ i ≤ zs.length ∧ RowKit.Hid (RdI wr w2.heap.size A c zs) ∧ RowKit.Hid (RdI wr w3.heap.size A2 c2 zs) ∧ RowKit.Hid (Below w.heap.size w wr)) (fun vi _ => (zs.length - (intOf vi).toNat))
          case atStart => exact ⟨0, rfl, Nat.zero_le _, hr2, hr3, hB3⟩
          case round =>
            obtain ⟨i, rfl, hi, q2, q3, qB⟩ := hrel
            by_cases hil : i < zs.length
            · obtain ⟨b2, o2, rfl, _, cell2⟩ := q2.out.at_ hil
              obtain ⟨b3, o3, rfl, _, cell3⟩ := q3.out.at_ hil
              have hil2 : (i : Int) < (zs.length : Int) := by omega
              generalize zs.getD i 0 = z at cell2 cell3
              go_wp2_with fail
              go_quiet (fail)
              have s2 : RdI (wr.drewN nq) w2.heap.size _ c zs := q2.out.keep fun _ _ => rfl
              have s3 : RdI (wr.drewN nq) w3.heap.size _ c2 zs := q3.out.keep fun _ _ => rfl
              have sB := below_drewN qB.out nq
              generalize wr.drewN nq = W4 at s2 s3 sB ⊢
              clear cell2 cell3
              replace s2 := Lib.hid s2
              replace s3 := Lib.hid s3
              replace sB := Lib.hid sB
              go_wp2_with fail
              go_round
              case rel => exact ⟨i + 1, by simp, by omega, s2, s3, sB⟩
              case measure => simp [intOf]; omega
            · have hie : i = zs.length := by omega
              subst hie
              go_wp2_with (go_at_call 10; refine (KL.out _).mono ?_; rintro e w' ⟨rfl, hb9⟩; have hb9 := Lib.hid (qB.out.trans (hb9.mono qB.out.size)))
              go_ret
              exact ⟨rfl, hb9.out⟩

set_option maxHeartbeats 3200000 in
set_option maxRecDepth 100000 in
theorem lawAll_none (w : World) (p f a m : Int) (N : Nat) (hp : p ≤ 9223372036854775807) (hN : N ≤ 19) (hm : m.tmod 20 = (N : Int) ∨ (m.tmod 20 = -(N : Int) ∧ 0 < (N : Int))) (hq : posB p f = false) :
    Calls Try.prog 6 #[.int .i64 p, .int .i64 f, .agg #[.int .i64 a, .int .i64 m]] w (ResB w true) := by
  have KL := Lib.hid lives_any
  have KF : RowKit.Hid (∀ W, Calls Try.prog 15 #[.int .i64 p, .int .i64 f, .int .i64 a, .int .i64 (N : Int)] W fun e w' => (∃ A c, e = .returned (.slice A 0 c)) ∧ Below W.heap.size W w') := fun W => (first_any W p f a hp N (by omega)).mono (by
    rintro e w' ⟨A, c, ys, rfl, hy, _, hb⟩
    have := hy.2.1 hq
    subst this
    exact ⟨⟨A, c, rfl⟩, hb⟩)
  have KP := Lib.hid fun W => by have := possible_any W p f hp; rwa [hq] at this
  clear hq
  have hbox := Lib.hid (heap_alloc_new w (.cells #[.int .i64 a, .int .i64 m] 22))
  have hb := Lib.hid ((Below.refl w.heap.size w).alloc (Nat.le_refl _) (.cells #[.int .i64 a, .int .i64 m] 22))
  by_cases haz : a < 0 <;> rcases hm with hm | ⟨hm, hm0⟩
  all_goals
    go_enter Try.func6, Try.ntmps6
    go_wp2_with fail
    refine (KF.out _).mono ?_
    rintro e w2 ⟨⟨A, c, rfl⟩, hb2⟩
    have hblk : w2.heap[w.heap.size]? = _ := (hb2.block _ (by simp)).trans hbox.out
    have c0 : w2.cell? ⟨w.heap.size, 0, none⟩ = some (.int .i64 a) := Ev.cell_row hblk 0
    have hB2 := hb.out.trans (hb2.mono (by simp))
    have hz2 : w.heap.size < w2.heap.size := by have := hb2.size; simp at this; omega
    replace hblk := Lib.hid hblk
    replace hB2 := Lib.hid hB2
    clear hb2
    go_wp2_with fail
    refine (KP.out _).mono ?_
    rintro e w' ⟨rfl, e2⟩
    rw [e2]
    clear e2
    go_wp2_with fail
    refine (KF.out _).mono ?_
    rintro e w3 ⟨⟨A2, c2, rfl⟩, hb3⟩
    have hB3 := hB2.out.trans (hb3.mono (by omega))
    clear hb3
    replace hB3 := Lib.hid hB3
    go_wp2_with fail
    go_loop [13] (fun vi => vi = .int .i64 0) (fun _ => 0)
    case atStart => rfl
    case round =>
      obtain rfl := hrel
      go_wp2_with (go_at_call 10; refine (KL.out _).mono ?_; rintro e w' ⟨rfl, hb9⟩; have hb9 := Lib.hid (hB3.out.trans (hb9.mono hB3.out.size)))
      go_ret
      exact ⟨rfl, hb9.out⟩

theorem lawAll_any (w : World) (p f a m : Int) (hp : p ≤ 9223372036854775807) (ha0 : -9223372036854775808 ≤ a) (ha9 : a ≤ 9223372036854775807) :
    Calls Try.prog 6 #[.int .i64 p, .int .i64 f, .agg #[.int .i64 a, .int .i64 m]] w (ResB w true) := by
  have h1 := Int.lt_tmod_of_pos m (show (0 : Int) < 20 by omega)
  have h2 := Int.tmod_lt_of_pos m (show (0 : Int) < 20 by omega)
  have hm : m.tmod 20 = ((m.tmod 20).natAbs : Int) ∨ (m.tmod 20 = -((m.tmod 20).natAbs : Int) ∧ 0 < ((m.tmod 20).natAbs : Int)) := by omega
  cases hq : posB p f with
  | false => exact lawAll_none w p f a m _ hp (by omega) hm hq
  | true => exact lawAll_core w p f a m _ hp ha0 ha9 (by omega) hm hq
end Go.Proofs.Ytochkonjfhhiiaa

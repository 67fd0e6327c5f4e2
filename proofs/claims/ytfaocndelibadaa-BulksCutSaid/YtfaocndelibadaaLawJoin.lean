/-
  Helper text: the walk of the law BulksJoin; no statement is proved here.
-/
import Derived.Test.YtfaocndelibadaaJoR
import Derived.Test.YtfaocndelibadaaLv9
namespace Go.Proofs.Ytfaocndelibadaa
open Go Go.RowKit

theorem joinP_lim (w : World) (A : Option Addr) (c : Nat) (ps : List (List UInt8)) (max : Int) (hr : Rds w w.heap.size A c ps) (hm1 : 1 ≤ max) (hm2 : max ≤ 1024) (ha : anyLong max ps = true) :
    Calls Try.prog 7 #[.slice A ps.length c, .int .i64 max] w fun e w' => e = .returned (.tuple #[.slice none 0 0, .slice none 0 0, .int .i64 3]) ∧ Below w.heap.size w w' := by
  have hb0 := (Below.refl w.heap.size w).alloc (Nat.le_refl _) (.cells #[.int .i64 max] 3)
  have hr0 := hr.belowTop hb0
  have hx0 := heap_alloc_new w (.cells #[.int .i64 max] 3)
  have KC := contains_any _ w.heap.size max A c ps hr0 (block_at (i := 0) hx0 rfl)
  rw [ha] at KC
  have KP := possible_any (w.alloc (.cells #[.int .i64 max] 3)) max
  rw [decide_eq_true (show 1 ≤ max ∧ max ≤ 1024 from ⟨hm1, hm2⟩)] at KP
  replace KC := Lib.hid KC
  replace KP := Lib.hid KP
  replace hb0 := Lib.hid hb0
  clear hr hr0 hx0 ha
  go_enter Try.func7, Try.ntmps7
  go_wp2_with fail
  refine KP.out.mono ?_
  rintro e w' ⟨rfl, rfl⟩
  go_wp2_with fail
  refine KC.out.mono ?_
  rintro e w' ⟨rfl, e2⟩
  rw [e2]
  clear e2 KC KP
  go_wp2_with fail
  go_ret3
  exact ⟨rfl, hb0.out⟩

theorem next_all {P : Nat → Prop} {k : Nat} (h1 : ∀ j, j < k → P j) (h2 : P k) : ∀ j, j < k + 1 → P j := fun j hj => by
  rcases Nat.lt_or_ge j k with h | h
  · exact h1 j h
  · obtain rfl : j = k := by omega
    exact h2

set_option maxHeartbeats 1600000 in
theorem lawJoin_any (w : World) (A : Option Addr) (c : Nat) (ps : List (List UInt8)) (m : Nat) (hm : m < 256) (hr : Rds w w.heap.size A c ps) :
    Calls Try.prog 4 #[.slice A ps.length c, .int .u8 (m : Int)] w fun e w' => e = .returned (.bool true) ∧ Below w.heap.size w w' := by
  have hr0 := Lib.hid hr
  clear hr
  by_cases h40 : (40 : Int) < (ps.length : Int)
  · go_enter Try.func4, Try.ntmps4
    go_wp2_with fail
    go_ret
    exact ⟨rfl, Below.refl _ _⟩
  · have hq1 : wrap64 (m : Int) = m := by unfold wrap64; omega
    have hq2 : (m : Int).tmod 64 = ((m % 64 : Nat) : Int) := by rw [Int.tmod_eq_emod_of_nonneg (by omega)]; omega
    have hq3 : wrap64 (1 + ((m % 64 : Nat) : Int)) = 1 + ((m % 64 : Nat) : Int) := by unfold wrap64; omega
    have hn1 : 1 ≤ 1 + (m : Int) % 64 := by omega
    have hn2 : 1 + (m : Int) % 64 ≤ 64 := by omega
    go_enter Try.func4, Try.ntmps4
    go_wp2_with fail
    clear hq1 hq2 hq3
    generalize 1 + (m : Int) % 64 = n at hn1 hn2 ⊢
    go_loopg [6, 7] ps.length (fun g v i wr => ∃ (k : Nat) (b : Bool), k + g = ps.length ∧ i = .int .i64 k ∧ v = .int .i64 (if b then 3 else 0) ∧ RowKit.Hid (b = true → anyLong n ps = true) ∧ RowKit.Hid (b = false → ∀ j, j < k → ((ps.getD j []).length : Int) ≤ n) ∧ RowKit.Hid (∀ j, j < k → (ps.getD j []).length ≤ 60) ∧ w = wr)
    case atStart => exact ⟨0, false, by omega, rfl, rfl, Lib.hid fun h => by simp at h, Lib.hid fun _ j hj => absurd hj (by omega), Lib.hid fun j hj => absurd hj (by omega), rfl⟩
    case round =>
      obtain ⟨k, b, hkg, rfl, rfl, hb1, hb2, hb3, rfl⟩ := hrel
      by_cases hk : k < ps.length
      · obtain ⟨bb, off, A1, c1, rfl, hlt, hc1, _⟩ := hr0.out.at_ hk
        have hki : (k : Int) < (ps.length : Int) := by omega
        cases b with
        | true =>
          by_cases h60 : (60 : Int) < ((ps.getD k []).length : Int)
          · generalize (ps.getD k []).length = l at hc1 h60
            go_wp2_with fail
            go_ret
            exact ⟨rfl, Below.refl _ _⟩
          · have hb3' := Lib.hid (next_all (P := fun j => (ps.getD j []).length ≤ 60) hb3.out (by omega))
            by_cases hl : n < ((ps.getD k []).length : Int)
            · have hany := Lib.hid (anyLong_at hk hl)
              generalize (ps.getD k []).length = l at hc1 h60 hl
              go_wp2_with fail
              go_roundg (gk - 1)
              case measure => omega
              case rel => exact ⟨k + 1, true, by omega, by go_num, rfl, Lib.hid fun _ => hany.out, Lib.hid fun h => by simp at h, hb3', rfl⟩
            · have hb2' : RowKit.Hid (true = false → ∀ j, j < k + 1 → ((ps.getD j []).length : Int) ≤ n) := Lib.hid fun h => next_all (P := fun j => ((ps.getD j []).length : Int) ≤ n) (hb2.out h) (by omega)
              generalize (ps.getD k []).length = l at hc1 h60 hl
              go_wp2_with fail
              go_roundg (gk - 1)
              case measure => omega
              case rel => exact ⟨k + 1, true, by omega, by go_num, rfl, Lib.hid fun _ => hb1.out (by trivial), Lib.hid fun h => by simp at h, hb3', rfl⟩
        | false =>
          by_cases h60 : (60 : Int) < ((ps.getD k []).length : Int)
          · generalize (ps.getD k []).length = l at hc1 h60
            go_wp2_with fail
            go_ret
            exact ⟨rfl, Below.refl _ _⟩
          · have hb3' := Lib.hid (next_all (P := fun j => (ps.getD j []).length ≤ 60) hb3.out (by omega))
            by_cases hl : n < ((ps.getD k []).length : Int)
            · have hany := Lib.hid (anyLong_at hk hl)
              generalize (ps.getD k []).length = l at hc1 h60 hl
              go_wp2_with fail
              go_roundg (gk - 1)
              case measure => omega
              case rel => exact ⟨k + 1, true, by omega, by go_num, rfl, Lib.hid fun _ => hany.out, Lib.hid fun h => by simp at h, hb3', rfl⟩
            · have hb2' : RowKit.Hid (false = false → ∀ j, j < k + 1 → ((ps.getD j []).length : Int) ≤ n) := Lib.hid fun h => next_all (P := fun j => ((ps.getD j []).length : Int) ≤ n) (hb2.out h) (by omega)
              generalize (ps.getD k []).length = l at hc1 h60 hl
              go_wp2_with fail
              go_roundg (gk - 1)
              case measure => omega
              case rel => exact ⟨k + 1, false, by omega, by go_num, rfl, Lib.hid fun h => by simp at h, Lib.hid fun _ => hb2'.out (by trivial), hb3', rfl⟩
      · obtain rfl : k = ps.length := by omega
        cases b with
        | true =>
          have ha := hb1.out rfl
          have KJ := Lib.hid (joinP_lim w A c ps n hr0.out hn1 (by omega) ha)
          go_wp2_with fail
          refine KJ.out.mono ?_
          rintro e w1 ⟨rfl, hB1⟩
          go_wp2_with fail
          refine (lives_any _).mono ?_
          rintro e w2 ⟨rfl, hB2⟩
          go_wp2_with fail
          go_ret
          exact ⟨rfl, hB1.trans (hB2.mono hB1.size)⟩
        | false =>
          have ha := anyLong_none (hb2.out rfl)
          have hs : ∀ j, j < ps.length → (ps.getD j []).length ≤ 1000 := fun j hj => by have := hb3.out j hj; omega
          have hpn : ps.length ≤ 1000 := by omega
          have KJ := Lib.hid (joinP_any w A c ps n hr0.out hn1 (by omega) ha hpn hs)
          have KR := Lib.hid (fun W h => refJ_any W A c ps n h hpn hs)
          have hJl := (jS_le n ps ps.length).2
          have hRl := Lib.hid (part_le hs ps.length (jS n ps ps.length).2)
          go_wp2_with fail
          refine KJ.out.mono ?_
          rintro e w1 ⟨A1, A2, rfl, hd1, hz1, hB1⟩
          have hr1 := Lib.hid (hr0.out.belowTop hB1)
          generalize (jS n ps ps.length).1 = d at hd1 hJl KR
          have hR2 : (jR n ps ps.length).length ≤ ps.length * 1000 := hRl.out
          generalize jR n ps ps.length = z at hz1 hR2 KR
          clear hRl KJ hb1 hb2 hb3 ha hs
          go_wp2_with fail
          refine (KR.out w1 hr1.out).mono ?_
          rintro e w2 ⟨A3, c3, A4, c4, rfl, hd2, hz2, hB2⟩
          have hdl : d.length ≤ 1000000 := by omega
          have KL := Lib.hid (lists_any w2 A1 A3 d.length c3 d (hd1.belowTop hB2) hd2 hdl)
          have hBB := hB1.trans (hB2.mono hB1.size)
          replace hBB := Lib.hid hBB
          have hz3 := Lib.hid (hz1.belowTop hB2)
          replace hz2 := Lib.hid hz2
          clear hd1 hd2 hB1 hB2 hr1 KR
          go_wp2_with fail
          refine KL.out.mono ?_
          rintro e w3 ⟨rfl, hB3⟩
          have q1 := (hz3.out.belowTop hB3).cv
          have q2 := (hz2.out.belowTop hB3).cv
          have hBC := Lib.hid (hBB.out.trans (hB3.mono hBB.out.size))
          go_wp2_with fail
          refine (lives_any _).mono ?_
          rintro e w4 ⟨rfl, hB4⟩
          go_wp2_with fail
          go_ret
          exact ⟨rfl, hBC.out.trans (hB4.mono hBC.out.size)⟩
end Go.Proofs.Ytfaocndelibadaa

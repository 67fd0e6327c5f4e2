/-
  Helper text: the walk of the law FramesNew; no statement is proved here.
-/
import Derived.Test.YtgihpgdjkanodaaGreatDoorFrB
import Derived.Test.YtgihpgdjkanodaaGreatDoorLives
namespace Go.Proofs.YtgihpgdjkanodaaGreatDoor
open Go Go.RowKit

set_option maxRecDepth 100000 in
/-- The rounds over a nil and a zero bus, and the examples. -/
theorem new_any (w : World) (hL : Laid w) (hLN : 0 < w.heap.size) (sp : Nat) (hs : sp < 256) (A : Option Addr) (n c : Nat) :
    Calls Tryz.prog 3 #[.int .u8 (sp : Int), .slice A n c] w (ResB w true) := by
  by_cases hl : (20 : Int) < (n : Int)
  · go_enter Tryz.func3, Tryz.ntmps3
    go_wp2
    go_ret
    exact ⟨rfl, Below.refl _ _⟩
  have HL := Lib.hid hL
  have HLN := Lib.hid hLN
  clear hL hLN
  by_cases h12 : sp = 1 ∨ sp = 2
  · have KN := Lib.hid (new_good w sp h12 .nilIface .nilIface (.inl rfl) (.inl rfl))
    have hb : ∀ x : Bool, ((sp : Int) == 1) = x → ((sp : Int) == 2) = !x := by rcases h12 with rfl | rfl <;> intro x hx <;> revert hx <;> cases x <;> decide
    obtain ⟨x, hx⟩ : ∃ x, ((sp : Int) == 1) = x := ⟨_, rfl⟩
    have hx2 := hb x hx
    have hne : sp ≠ 0 := by omega
    have g0 := alloc1 w (busC sp .nilIface .nilIface 0 none 0 0)
    have Kt := Lib.hid (ticks_any _ _ sp hne _ _ _ _ _ _ g0)
    have Kn := Lib.hid (numb_any _ _ sp hne _ _ _ (by omega) _ _ _ g0)
    have Kr := Lib.hid (trace_empty _ _ sp hne _ _ _ _ _ g0)
    have B0 := Lib.hid ((Below.refl w.heap.size w).alloc (Nat.le_refl _) (busC sp .nilIface .nilIface 0 none 0 0))
    clear g0 hb h12 hs hne
    cases x
    all_goals
      simp only [Bool.not_false, Bool.not_true] at hx2
      go_enter Tryz.func3, Tryz.ntmps3
      go_wp2_with fail
      refine KN.out.mono ?_
      rintro e w1 ⟨rfl, rfl⟩
      generalize w.alloc (busC sp .nilIface .nilIface 0 none 0 0) = y at Kt Kn Kr B0 ⊢
      go_wp2_with fail
      refine Kt.out.mono ?_
      rintro e w1 ⟨rfl, rfl⟩
      go_wp2_with fail
      refine Kn.out.mono ?_
      rintro e w1 ⟨rfl, rfl⟩
      go_wp2_with fail
      refine Kr.out.mono ?_
      rintro e w1 ⟨rfl, rfl⟩
      clear Kt Kn Kr KN hx hx2
      go_wp2
      have HB0 := B0
      go_loopw [7, 8, 9, 10] (fun i _ _ _ W => ∃ k : Nat, k ≤ 2 ∧ i = .int .i64 k ∧ Below w.heap.size w W) (fun i _ _ _ _ => 2 - (intOf i).toNat)
      case atStart => exact ⟨0, by omega, rfl, HB0.out⟩
      case round =>
        obtain ⟨k, hk, rfl, hbb⟩ := hrel
        have HB := Lib.hid hbb
        clear hbb HB0
        have hk3 : k = 0 ∨ k = 1 ∨ k = 2 := by omega
        rcases hk3 with rfl | rfl | rfl
        · go_wp2_with fail
          refine (frame_nil _ A n c 60000).mono ?_
          rintro e w1 ⟨rfl, rfl⟩
          go_wp2_with fail
          refine (ticks_nil _).mono ?_
          rintro e w1 ⟨rfl, rfl⟩
          go_wp2_with fail
          refine (numb_nil _).mono ?_
          rintro e w1 ⟨rfl, rfl⟩
          go_wp2_with fail
          refine (trace_nil _).mono ?_
          rintro e w1 ⟨rfl, rfl⟩
          go_wp2
          go_roundw
          case rel => exact ⟨1, by omega, rfl, HB.out⟩
          case measure => simp [intOf]
        · have g0 := alloc1 wr (busC 0 .nilIface .nilIface 0 none 0 0)
          have Kf := Lib.hid (frame_zero _ A n c 60000 _ _ _ _ _ _ _ g0)
          have Kt := Lib.hid (ticks_zero _ _ _ _ _ _ _ _ g0)
          have Kn := Lib.hid (numb_zero _ _ _ _ _ _ _ _ g0)
          have Kr := Lib.hid (trace_zero _ _ _ _ _ _ _ _ g0)
          have HB1 := Lib.hid (HB.out.alloc HB.out.size (busC 0 .nilIface .nilIface 0 none 0 0))
          clear g0
          go_wp2_with fail
          refine Kf.out.mono ?_
          rintro e w1 ⟨rfl, rfl⟩
          generalize wr.alloc (busC 0 .nilIface .nilIface 0 none 0 0) = y2 at Kt Kn Kr HB1 ⊢
          go_wp2_with fail
          refine Kt.out.mono ?_
          rintro e w1 ⟨rfl, rfl⟩
          go_wp2_with fail
          refine Kn.out.mono ?_
          rintro e w1 ⟨rfl, rfl⟩
          go_wp2_with fail
          refine Kr.out.mono ?_
          rintro e w1 ⟨rfl, rfl⟩
          go_wp2
          go_roundw
          case rel => exact ⟨2, by omega, rfl, HB1.out⟩
          case measure => simp [intOf]
        · go_wp2_with fail
          refine (lives_any _ (HL.out.below HB.out)).mono ?_
          rintro e w1 ⟨rfl, hb2⟩
          have hb3 := Lib.hid (HB.out.trans (hb2.mono HB.out.size))
          clear hb2
          go_wp2
          go_ret
          exact ⟨rfl, hb3.out⟩
  · have KN := Lib.hid (new_bad w sp (by omega))
    have h1 : ((sp : Int) == 1) = false := beq_eq_false_iff_ne.2 (by omega)
    have h2 : ((sp : Int) == 2) = false := beq_eq_false_iff_ne.2 (by omega)
    clear h12 hs
    go_enter Tryz.func3, Tryz.ntmps3
    go_wp2_with fail
    refine KN.out.mono ?_
    rintro e w1 ⟨rfl, rfl⟩
    clear KN
    go_wp2
    clear h1 h2
    have HB0 := Lib.hid (Below.refl w.heap.size w)
    go_loopw [7, 8, 9, 10] (fun i _ _ _ W => ∃ k : Nat, k ≤ 2 ∧ i = .int .i64 k ∧ Below w.heap.size w W) (fun i _ _ _ _ => 2 - (intOf i).toNat)
    case atStart => exact ⟨0, by omega, rfl, HB0.out⟩
    case round =>
      obtain ⟨k, hk, rfl, hbb⟩ := hrel
      have HB := Lib.hid hbb
      clear hbb HB0
      have hk3 : k = 0 ∨ k = 1 ∨ k = 2 := by omega
      rcases hk3 with rfl | rfl | rfl
      · go_wp2_with fail
        refine (frame_nil _ A n c 60000).mono ?_
        rintro e w1 ⟨rfl, rfl⟩
        go_wp2_with fail
        refine (ticks_nil _).mono ?_
        rintro e w1 ⟨rfl, rfl⟩
        go_wp2_with fail
        refine (numb_nil _).mono ?_
        rintro e w1 ⟨rfl, rfl⟩
        go_wp2_with fail
        refine (trace_nil _).mono ?_
        rintro e w1 ⟨rfl, rfl⟩
        go_wp2
        go_roundw
        case rel => exact ⟨1, by omega, rfl, HB.out⟩
        case measure => simp [intOf]
      · have g0 := alloc1 wr (busC 0 .nilIface .nilIface 0 none 0 0)
        have Kf := Lib.hid (frame_zero _ A n c 60000 _ _ _ _ _ _ _ g0)
        have Kt := Lib.hid (ticks_zero _ _ _ _ _ _ _ _ g0)
        have Kn := Lib.hid (numb_zero _ _ _ _ _ _ _ _ g0)
        have Kr := Lib.hid (trace_zero _ _ _ _ _ _ _ _ g0)
        have HB1 := Lib.hid (HB.out.alloc HB.out.size (busC 0 .nilIface .nilIface 0 none 0 0))
        clear g0
        go_wp2_with fail
        refine Kf.out.mono ?_
        rintro e w1 ⟨rfl, rfl⟩
        generalize wr.alloc (busC 0 .nilIface .nilIface 0 none 0 0) = y2 at Kt Kn Kr HB1 ⊢
        go_wp2_with fail
        refine Kt.out.mono ?_
        rintro e w1 ⟨rfl, rfl⟩
        go_wp2_with fail
        refine Kn.out.mono ?_
        rintro e w1 ⟨rfl, rfl⟩
        go_wp2_with fail
        refine Kr.out.mono ?_
        rintro e w1 ⟨rfl, rfl⟩
        go_wp2
        go_roundw
        case rel => exact ⟨2, by omega, rfl, HB1.out⟩
        case measure => simp [intOf]
      · go_wp2_with fail
        refine (lives_any _ (HL.out.below HB.out)).mono ?_
        rintro e w1 ⟨rfl, hb2⟩
        have hb3 := Lib.hid (HB.out.trans (hb2.mono HB.out.size))
        clear hb2
        go_wp2
        go_ret
        exact ⟨rfl, hb3.out⟩
end Go.Proofs.YtgihpgdjkanodaaGreatDoor

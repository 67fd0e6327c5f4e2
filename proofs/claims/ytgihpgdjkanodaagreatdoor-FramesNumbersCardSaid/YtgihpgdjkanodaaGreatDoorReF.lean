/-
  Helper text: the reference's identifiers; no statement is proved here.
-/
import Derived.Test.YtgihpgdjkanodaaGreatDoorChk
namespace Go.Proofs.YtgihpgdjkanodaaGreatDoor
open Go Go.RowKit

set_option maxRecDepth 100000 in
theorem tok_ref (w : World) (p : Nat) : Calls Tryz.prog 56 #[.int .u8 (p : Int)] w fun e w' => e = .returned (.bool (p == 1 || p == 9 || p == 13)) ∧ w' = w := by
  by_cases h1 : p = 1
  · subst h1
    go_enter Tryz.func56, Tryz.ntmps56
    go_wp2
    go_ret
    exact ⟨rfl, rfl⟩
  by_cases h9 : p = 9
  · subst h9
    go_enter Tryz.func56, Tryz.ntmps56
    go_wp2
    go_ret
    exact ⟨rfl, rfl⟩
  by_cases h13 : p = 13
  · subst h13
    go_enter Tryz.func56, Tryz.ntmps56
    go_wp2
    go_ret
    exact ⟨rfl, rfl⟩
  have e : (p == 1 || p == 9 || p == 13) = false := by simp [h1, h9, h13]
  rw [e]
  have g1 : ((p : Int) == 1) = false := beq_eq_false_iff_ne.2 (by omega)
  have g9 : ((p : Int) == 9) = false := beq_eq_false_iff_ne.2 (by omega)
  have g13 : ((p : Int) == 13) = false := beq_eq_false_iff_ne.2 (by omega)
  clear e h1 h9 h13
  go_enter Tryz.func56, Tryz.ntmps56
  go_wp2
  go_ret
  exact ⟨rfl, rfl⟩
set_option maxRecDepth 100000 in
theorem hasD_ref (w : World) (p : Nat) : Calls Tryz.prog 57 #[.int .u8 (p : Int)] w fun e w' => e = .returned (.bool (p == 3 || p == 11)) ∧ w' = w := by
  by_cases h3 : p = 3
  · subst h3
    go_enter Tryz.func57, Tryz.ntmps57
    go_wp2
    go_ret
    exact ⟨rfl, rfl⟩
  by_cases h11 : p = 11
  · subst h11
    go_enter Tryz.func57, Tryz.ntmps57
    go_wp2
    go_ret
    exact ⟨rfl, rfl⟩
  have e : (p == 3 || p == 11) = false := by simp [h3, h11]
  rw [e]
  have g3 : ((p : Int) == 3) = false := beq_eq_false_iff_ne.2 (by omega)
  have g11 : ((p : Int) == 11) = false := beq_eq_false_iff_ne.2 (by omega)
  clear e h3 h11
  go_enter Tryz.func57, Tryz.ntmps57
  go_wp2
  go_ret
  exact ⟨rfl, rfl⟩
set_option maxRecDepth 100000 in
theorem known_ref (w : World) (p : Nat) : Calls Tryz.prog 55 #[.int .u8 (p : Int)] w fun e w' => e = .returned (.bool (p == 1 || p == 2 || p == 3 || p == 5 || p == 6 || p == 8 || p == 9 || p == 10 || p == 11 || p == 13 || p == 14)) ∧ w' = w := by
  by_cases h1 : p = 1
  · subst h1
    go_enter Tryz.func55, Tryz.ntmps55
    go_wp2
    go_ret
    exact ⟨rfl, rfl⟩
  by_cases h2 : p = 2
  · subst h2
    go_enter Tryz.func55, Tryz.ntmps55
    go_wp2
    go_ret
    exact ⟨rfl, rfl⟩
  by_cases h3 : p = 3
  · subst h3
    go_enter Tryz.func55, Tryz.ntmps55
    go_wp2
    go_ret
    exact ⟨rfl, rfl⟩
  by_cases h5 : p = 5
  · subst h5
    go_enter Tryz.func55, Tryz.ntmps55
    go_wp2
    go_ret
    exact ⟨rfl, rfl⟩
  by_cases h6 : p = 6
  · subst h6
    go_enter Tryz.func55, Tryz.ntmps55
    go_wp2
    go_ret
    exact ⟨rfl, rfl⟩
  by_cases h8 : p = 8
  · subst h8
    go_enter Tryz.func55, Tryz.ntmps55
    go_wp2
    go_ret
    exact ⟨rfl, rfl⟩
  by_cases h9 : p = 9
  · subst h9
    go_enter Tryz.func55, Tryz.ntmps55
    go_wp2
    go_ret
    exact ⟨rfl, rfl⟩
  by_cases h10 : p = 10
  · subst h10
    go_enter Tryz.func55, Tryz.ntmps55
    go_wp2
    go_ret
    exact ⟨rfl, rfl⟩
  by_cases h11 : p = 11
  · subst h11
    go_enter Tryz.func55, Tryz.ntmps55
    go_wp2
    go_ret
    exact ⟨rfl, rfl⟩
  by_cases h13 : p = 13
  · subst h13
    go_enter Tryz.func55, Tryz.ntmps55
    go_wp2
    go_ret
    exact ⟨rfl, rfl⟩
  by_cases h14 : p = 14
  · subst h14
    go_enter Tryz.func55, Tryz.ntmps55
    go_wp2
    go_ret
    exact ⟨rfl, rfl⟩
  have e : (p == 1 || p == 2 || p == 3 || p == 5 || p == 6 || p == 8 || p == 9 || p == 10 || p == 11 || p == 13 || p == 14) = false := by simp [h1, h2, h3, h5, h6, h8, h9, h10, h11, h13, h14]
  rw [e]
  have g1 : ((p : Int) == 1) = false := beq_eq_false_iff_ne.2 (by omega)
  have g2 : ((p : Int) == 2) = false := beq_eq_false_iff_ne.2 (by omega)
  have g3 : ((p : Int) == 3) = false := beq_eq_false_iff_ne.2 (by omega)
  have g5 : ((p : Int) == 5) = false := beq_eq_false_iff_ne.2 (by omega)
  have g6 : ((p : Int) == 6) = false := beq_eq_false_iff_ne.2 (by omega)
  have g8 : ((p : Int) == 8) = false := beq_eq_false_iff_ne.2 (by omega)
  have g9 : ((p : Int) == 9) = false := beq_eq_false_iff_ne.2 (by omega)
  have g10 : ((p : Int) == 10) = false := beq_eq_false_iff_ne.2 (by omega)
  have g11 : ((p : Int) == 11) = false := beq_eq_false_iff_ne.2 (by omega)
  have g13 : ((p : Int) == 13) = false := beq_eq_false_iff_ne.2 (by omega)
  have g14 : ((p : Int) == 14) = false := beq_eq_false_iff_ne.2 (by omega)
  clear e h1 h2 h3 h5 h6 h8 h9 h10 h11 h13 h14
  go_enter Tryz.func55, Tryz.ntmps55
  go_wp2
  go_ret
  exact ⟨rfl, rfl⟩

end Go.Proofs.YtgihpgdjkanodaaGreatDoor

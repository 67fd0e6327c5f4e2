/-
  Helper text: whether a packet is too long; packets in memory of their own; no statement is proved here.
-/
import Derived.Test.YtfaocndelibadaaJn
namespace Go.Proofs.Ytfaocndelibadaa
open Go Go.RowKit

abbrev Same (w : World) (v : Value) : Ending → World → Prop := fun e w' => e = .returned v ∧ w' = w
def anyLong (max : Int) (ps : List (List UInt8)) : Bool := ps.any fun p => decide (max < (p.length : Int))
theorem anyLong_at {max : Int} {ps : List (List UInt8)} {k : Nat} (hk : k < ps.length) (h : max < ((ps.getD k []).length : Int)) : anyLong max ps = true := by
  refine List.any_eq_true.2 ⟨ps.getD k [], ?_, decide_eq_true h⟩
  rw [List.getD_eq_getElem?_getD, List.getElem?_eq_getElem hk]
  exact List.getElem_mem hk
theorem anyLong_none {max : Int} {ps : List (List UInt8)} (h : ∀ j, j < ps.length → ((ps.getD j []).length : Int) ≤ max) : anyLong max ps = false := by
  refine List.any_eq_false.2 fun p hp => ?_
  obtain ⟨j, hj, rfl⟩ := List.getElem_of_mem hp
  have := h j hj
  rw [List.getD_eq_getElem?_getD, List.getElem?_eq_getElem hj] at this
  simpa using this

abbrev longV (B : Nat) : Value := .func (.func 24) #[] #[.pointer (some ⟨B, 0, none⟩)]
theorem long_any (w : World) (B : Nat) (max : Int) (A : Option Addr) (n c : Nat) (h : w.cell? ⟨B, 0, none⟩ = some (.int .i64 max)) :
    Calls Try.prog 24 #[.slice A n c, .pointer (some ⟨B, 0, none⟩)] w (Same w (.bool (decide (max < (n : Int))))) := by
  go_enter Try.func24, Try.ntmps24
  go_wp2
  go_ret
  exact ⟨rfl, rfl⟩

set_option maxHeartbeats 1600000 in
theorem index_any (w : World) (B : Nat) (max : Int) (A : Option Addr) (c : Nat) (ps : List (List UInt8)) (hr : Rds w w.heap.size A c ps) (h : w.cell? ⟨B, 0, none⟩ = some (.int .i64 max)) :
    Calls Try.prog 39 #[.slice A ps.length c, longV B] w fun e w' => (∃ z : Int, e = .returned (.int .i64 z) ∧ RowKit.Hid (decide (0 ≤ z) = anyLong max ps)) ∧ w' = w := by
  have hle := hr.le
  have hcap := hr.cap
  have KL := Lib.hid fun A n c => long_any w B max A n c h
  clear h
  go_enter Try.func39, Try.ntmps39
  go_wp2_with fail
  go_loop [8] (fun v => ∃ k : Nat, v = .int .i64 (k : Int) ∧ k ≤ ps.length ∧ RowKit.Hid (∀ j, j < k → ((ps.getD j []).length : Int) ≤ max)) (fun v => ps.length - (intOf v).toNat)
  case atStart => exact ⟨0, rfl, Nat.zero_le _, Lib.hid fun j hj => absurd hj (by omega)⟩
  case round =>
    obtain ⟨k, rfl, hk, hno⟩ := hrel
    by_cases hlt : k < ps.length
    · obtain ⟨b, off, A', c', rfl, _, hcell, _⟩ := hr.at_ hlt
      have hlt2 : (k : Int) < (ps.length : Int) := by omega
      by_cases hl : max < ((ps.getD k []).length : Int)
      · have hany := Lib.hid (anyLong_at hlt hl)
        generalize (ps.getD k []).length = m at hcell hl
        have hld : decide (max < (m : Int)) = true := decide_eq_true hl
        go_wp2_with fail
        refine (KL.out _ _ _).mono ?_
        rintro e w' ⟨rfl, e2⟩
        rw [e2]
        clear e2
        go_wp2_with fail
        go_ret
        exact ⟨⟨k, rfl, Lib.hid (by rw [hany.out]; simp)⟩, rfl⟩
      · have hno2 : RowKit.Hid (∀ j, j < k + 1 → ((ps.getD j []).length : Int) ≤ max) := Lib.hid fun j hj => by
          rcases Nat.lt_or_ge j k with h1 | h1
          · exact hno.out j h1
          · obtain rfl : j = k := by omega
            omega
        generalize (ps.getD k []).length = m at hcell hl
        have hld : decide (max < (m : Int)) = false := decide_eq_false hl
        go_wp2_with fail
        refine (KL.out _ _ _).mono ?_
        rintro e w' ⟨rfl, e2⟩
        rw [e2]
        clear e2
        go_wp2_with fail
        go_round
        case rel => exact ⟨k + 1, by simp, by omega, hno2⟩
        case measure => simp [intOf]; omega
    · have hke : k = ps.length := by omega
      subst hke
      go_wp2_with fail
      go_ret
      exact ⟨⟨-1, rfl, Lib.hid (by rw [anyLong_none hno.out]; rfl)⟩, rfl⟩

set_option maxHeartbeats 800000 in
theorem contains_any (w : World) (B : Nat) (max : Int) (A : Option Addr) (c : Nat) (ps : List (List UInt8)) (hr : Rds w w.heap.size A c ps) (h : w.cell? ⟨B, 0, none⟩ = some (.int .i64 max)) :
    Calls Try.prog 25 #[.slice A ps.length c, longV B] w (Same w (.bool (anyLong max ps))) := by
  have K := Lib.hid (index_any w B max A c ps hr h)
  clear hr h
  go_enter Try.func25, Try.ntmps25
  go_wp2_with fail
  refine K.out.mono ?_
  rintro e w' ⟨⟨z, rfl, hz⟩, e2⟩
  rw [e2]
  clear e2
  go_wp2_with fail
  go_ret
  exact ⟨by rw [← hz.out]; rfl, rfl⟩
end Go.Proofs.Ytfaocndelibadaa

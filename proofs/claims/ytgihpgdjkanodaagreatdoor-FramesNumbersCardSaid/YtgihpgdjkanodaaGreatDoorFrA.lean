/-
  Helper text: the small functions of buses; no statement is proved here.
-/
import Derived.Test.YtgihpgdjkanodaaGreatDoorBox
namespace Go.Proofs.YtgihpgdjkanodaaGreatDoor
open Go Go.RowKit

/-- The cells of a bus. -/
abbrev busC (sp : Nat) (dv wv : Value) (tk : Nat) (A : Option Addr) (n c : Nat) : Obj := .cells #[.int .u8 (sp : Int), dv, wv, .int .i64 (tk : Int), .slice A n c] 40 (0, 0)
theorem flatBus : Flat Tryz.prog 40 5 := ⟨_, Tryz.underlying40, by kernel_rfl⟩

theorem none_nil (w : World) : Calls Tryz.prog 20 #[.pointer none] w fun e w' => e = .returned (.bool true) ∧ w = w' := by
  go_enter Tryz.func20, Tryz.ntmps20
  go_wp2
  go_ret
  exact ⟨rfl, rfl⟩
theorem none_zero (w : World) (b : Nat) (dv wv : Value) (tk : Nat) (A : Option Addr) (n c : Nat) (h : w.heap[b]? = some (busC 0 dv wv tk A n c)) : Calls Tryz.prog 20 #[.pointer (some ⟨b, 0, none⟩)] w fun e w' => e = .returned (.bool true) ∧ w = w' := by
  have c0 := block_at h (i := 0) rfl
  clear h
  go_enter Tryz.func20, Tryz.ntmps20
  go_wp2
  go_ret
  exact ⟨rfl, rfl⟩
theorem none_no (w : World) (b sp : Nat) (hsp : sp ≠ 0) (dv wv : Value) (tk : Nat) (A : Option Addr) (n c : Nat) (h : w.heap[b]? = some (busC sp dv wv tk A n c)) : Calls Tryz.prog 20 #[.pointer (some ⟨b, 0, none⟩)] w fun e w' => e = .returned (.bool false) ∧ w = w' := by
  have c0 := block_at h (i := 0) rfl
  have h0 : ((sp : Int) == 0) = false := beq_eq_false_iff_ne.2 (by omega)
  clear h
  go_enter Tryz.func20, Tryz.ntmps20
  go_wp2
  go_ret
  exact ⟨rfl, rfl⟩
theorem number_any (w : World) (t : Nat) (ht : t ≤ 1048576) : Calls Tryz.prog 21 #[.int .i64 (t : Int)] w fun e w' => e = .returned (.int .u16 ((t / 8 % 2048 : Nat) : Int)) ∧ w = w' := by
  obtain ⟨q, hq⟩ : ∃ q, t / 8 = q := ⟨_, rfl⟩
  obtain ⟨r, hr⟩ : ∃ r, q % 2048 = r := ⟨_, rfl⟩
  rw [hq, hr]
  have hr2 : r < 2048 := by rw [← hr]; exact Nat.mod_lt _ (by omega)
  have hq2 : q ≤ 131072 := by omega
  have e1 : (t : Int).tdiv 8 = (q : Int) := by rw [← hq]; rfl
  have e2 : (q : Int).tmod 2048 = (r : Int) := by rw [← hr]; rfl
  have e4 : (q : Int) % 2048 = (r : Int) := by rw [← hr]; rfl
  have e5 : (t : Int) / 8 = (q : Int) := by rw [← hq]; rfl
  have e3 : (IntKind.u16).wrap (r : Int) = (r : Int) := by rw [show (IntKind.u16).wrap (r : Int) = (r : Int) % 65536 from rfl]; omega
  have e6 : (r : Int) % 65536 = (r : Int) := by omega
  clear hq hr
  go_enter Tryz.func21, Tryz.ntmps21
  go_wp2
  go_ret
  exact ⟨rfl, rfl⟩
theorem speed_any (w : World) (hi : Bool) : Calls Tryz.prog 13 #[.bool hi] w fun e w' => e = .returned (.int .u8 ((if hi then 2 else 1 : Nat) : Int)) ∧ w = w' := by
  cases hi
  all_goals
    go_enter Tryz.func13, Tryz.ntmps13
    go_wp2
    go_ret
    exact ⟨rfl, rfl⟩
theorem ticks_nil (w : World) : Calls Tryz.prog 7 #[.pointer none] w fun e w' => e = .returned (.int .i64 0) ∧ w = w' := by
  go_enter Tryz.func7, Tryz.ntmps7
  go_wp2_with fail
  refine (none_nil w).mono ?_
  rintro e w1 ⟨rfl, rfl⟩
  go_wp2
  go_ret
  exact ⟨rfl, rfl⟩
theorem ticks_any (w : World) (b sp : Nat) (hsp : sp ≠ 0) (dv wv : Value) (tk : Nat) (A : Option Addr) (n c : Nat) (h : w.heap[b]? = some (busC sp dv wv tk A n c)) : Calls Tryz.prog 7 #[.pointer (some ⟨b, 0, none⟩)] w fun e w' => e = .returned (.int .i64 (tk : Int)) ∧ w = w' := by
  have K := Lib.hid (none_no w b sp hsp dv wv tk A n c h)
  have c2 := block_at h (i := 3) rfl
  clear h
  go_enter Tryz.func7, Tryz.ntmps7
  go_wp2_with fail
  refine K.out.mono ?_
  rintro e w1 ⟨rfl, rfl⟩
  go_wp2
  go_ret
  exact ⟨rfl, rfl⟩
/-- The number of the frame of the last tick. -/
def numN (tk : Nat) : Nat := if tk = 0 then 0 else (tk - 1) / 8 % 2048
theorem numb_any (w : World) (b sp : Nat) (hsp : sp ≠ 0) (dv wv : Value) (tk : Nat) (htk : tk ≤ 1048576) (A : Option Addr) (n c : Nat) (h : w.heap[b]? = some (busC sp dv wv tk A n c)) : Calls Tryz.prog 8 #[.pointer (some ⟨b, 0, none⟩)] w fun e w' => e = .returned (.int .u16 (numN tk : Int)) ∧ w = w' := by
  have K := Lib.hid (none_no w b sp hsp dv wv tk A n c h)
  have c2 := block_at h (i := 3) rfl
  clear h
  rcases Nat.eq_zero_or_pos tk with h0 | h0
  · subst h0
    go_enter Tryz.func8, Tryz.ntmps8
    go_wp2_with fail
    refine K.out.mono ?_
    rintro e w1 ⟨rfl, rfl⟩
    go_wp2
    go_ret
    exact ⟨rfl, rfl⟩
  · have hne : ((tk : Int) == 0) = false := beq_eq_false_iff_ne.2 (by omega)
    have KN := Lib.hid (number_any w (tk - 1) (by omega))
    rw [show ((tk - 1 : Nat) : Int) = (tk : Int) - 1 by omega] at KN
    have hs : numN tk = (tk - 1) / 8 % 2048 := if_neg (by omega)
    rw [hs]
    generalize (tk - 1) / 8 % 2048 = r at KN ⊢
    have hb1 : (1 : Int) ≤ (tk : Int) := by omega
    have hb2 : (tk : Int) ≤ 1048576 := by omega
    clear h0 htk hs
    go_enter Tryz.func8, Tryz.ntmps8
    go_wp2_with fail
    refine K.out.mono ?_
    rintro e w1 ⟨rfl, rfl⟩
    go_wp2_with fail
    refine KN.out.mono ?_
    rintro e w1 ⟨rfl, rfl⟩
    go_wp2
    go_ret
    exact ⟨rfl, rfl⟩
/-- How many ticks a frame has. -/
def stepN (sp : Nat) : Nat := if sp = 2 then 1 else 8
theorem begin_any (w : World) (b sp : Nat) (hsp : sp = 1 ∨ sp = 2) (dv wv : Value) (tk : Nat) (htk : tk ≤ 1048576) (A : Option Addr) (n c : Nat) (h : w.heap[b]? = some (busC sp dv wv tk A n c)) :
    Calls Tryz.prog 28 #[.pointer (some ⟨b, 0, none⟩)] w fun e w' => e = .returned (.int .u16 ((tk / 8 % 2048 : Nat) : Int)) ∧ w' = w.setCell ⟨b, 3, none⟩ (.int .i64 ((tk + stepN sp : Nat) : Int)) := by
  have c0 := block_at h (i := 0) rfl
  have c2 := block_at h (i := 3) rfl
  have f2 := block_free h 3
  have KN := Lib.hid fun W => number_any W tk htk
  generalize tk / 8 % 2048 = r at KN ⊢
  have hb1 : (0 : Int) ≤ (tk : Int) := by omega
  have hb2 : (tk : Int) ≤ 1048576 := by omega
  clear h htk
  rcases hsp with rfl | rfl
  · rw [show ((tk + stepN 1 : Nat) : Int) = (tk : Int) + 8 by show ((tk + 8 : Nat) : Int) = _; omega]
    go_enter Tryz.func28, Tryz.ntmps28
    go_wp2_with fail
    refine (KN.out _).mono ?_
    rintro e w1 ⟨rfl, rfl⟩
    go_wp2
    go_ret
    exact ⟨rfl, rfl⟩
  · rw [show ((tk + stepN 2 : Nat) : Int) = (tk : Int) + 1 by show ((tk + 1 : Nat) : Int) = _; omega]
    go_enter Tryz.func28, Tryz.ntmps28
    go_wp2_with fail
    refine (KN.out _).mono ?_
    rintro e w1 ⟨rfl, rfl⟩
    go_wp2
    go_ret
    exact ⟨rfl, rfl⟩
theorem new_bad (w : World) (sp : Nat) (h : sp ≠ 1 ∧ sp ≠ 2) : Calls Tryz.prog 6 #[.int .u8 (sp : Int), .nilIface, .nilIface] w fun e w' => e = .returned (.tuple #[.pointer none, .int .i64 1]) ∧ w = w' := by
  have h1 : ((sp : Int) != 1) = true := by rw [bne_iff_ne]; omega
  have h2 : ((sp : Int) != 2) = true := by rw [bne_iff_ne]; omega
  have h3 : ((sp : Int) == 1) = false := beq_eq_false_iff_ne.2 (by omega)
  have h4 : ((sp : Int) == 2) = false := beq_eq_false_iff_ne.2 (by omega)
  have h5 : ¬ (sp : Int) = 1 := by omega
  have h6 : ¬ (sp : Int) = 2 := by omega
  clear h
  go_enter Tryz.func6, Tryz.ntmps6
  go_wp2
  go_ret2
  exact ⟨rfl, rfl⟩
theorem new_good (w : World) (sp : Nat) (h : sp = 1 ∨ sp = 2) (dv wv : Value) (h1 : dv = .nilIface ∨ ∃ T u, dv = .iface T u) (h2 : wv = .nilIface ∨ ∃ T u, wv = .iface T u) : Calls Tryz.prog 6 #[.int .u8 (sp : Int), dv, wv] w
    fun e w' => e = .returned (.tuple #[.pointer (some ⟨w.heap.size, 0, none⟩), .int .i64 0]) ∧ w' = w.alloc (busC sp dv wv 0 none 0 0) := by
  rcases h with rfl | rfl <;> rcases h1 with rfl | ⟨T, u, rfl⟩ <;> rcases h2 with rfl | ⟨T2, u2, rfl⟩
  all_goals
    go_enter Tryz.func6, Tryz.ntmps6
    go_wp2
    go_ret2
    exact ⟨rfl, rfl⟩
end Go.Proofs.YtgihpgdjkanodaaGreatDoor

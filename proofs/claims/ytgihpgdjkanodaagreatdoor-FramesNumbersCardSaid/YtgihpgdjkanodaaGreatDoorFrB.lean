/-
  Helper text: nil and zero buses, and a bus that has sent nothing; no statement is proved here.
-/
import Derived.Test.YtgihpgdjkanodaaGreatDoorFrA
namespace Go.Proofs.YtgihpgdjkanodaaGreatDoor
open Go Go.RowKit

theorem ticks_zero (w : World) (b : Nat) (dv wv : Value) (tk : Nat) (A : Option Addr) (n c : Nat) (h : w.heap[b]? = some (busC 0 dv wv tk A n c)) : Calls Tryz.prog 7 #[.pointer (some ⟨b, 0, none⟩)] w fun e w' => e = .returned (.int .i64 0) ∧ w = w' := by
  have K := Lib.hid (none_zero w b dv wv tk A n c h)
  clear h
  go_enter Tryz.func7, Tryz.ntmps7
  go_wp2_with fail
  refine K.out.mono ?_
  rintro e w1 ⟨rfl, rfl⟩
  go_wp2
  go_ret
  exact ⟨rfl, rfl⟩
theorem numb_nil (w : World) : Calls Tryz.prog 8 #[.pointer none] w fun e w' => e = .returned (.int .u16 0) ∧ w = w' := by
  go_enter Tryz.func8, Tryz.ntmps8
  go_wp2_with fail
  refine (none_nil w).mono ?_
  rintro e w1 ⟨rfl, rfl⟩
  go_wp2
  go_ret
  exact ⟨rfl, rfl⟩
theorem numb_zero (w : World) (b : Nat) (dv wv : Value) (tk : Nat) (A : Option Addr) (n c : Nat) (h : w.heap[b]? = some (busC 0 dv wv tk A n c)) : Calls Tryz.prog 8 #[.pointer (some ⟨b, 0, none⟩)] w fun e w' => e = .returned (.int .u16 0) ∧ w = w' := by
  have K := Lib.hid (none_zero w b dv wv tk A n c h)
  clear h
  go_enter Tryz.func8, Tryz.ntmps8
  go_wp2_with fail
  refine K.out.mono ?_
  rintro e w1 ⟨rfl, rfl⟩
  go_wp2
  go_ret
  exact ⟨rfl, rfl⟩
theorem trace_nil (w : World) : Calls Tryz.prog 9 #[.pointer none] w fun e w' => e = .returned (.slice none 0 0) ∧ w = w' := by
  go_enter Tryz.func9, Tryz.ntmps9
  go_wp2_with fail
  refine (none_nil w).mono ?_
  rintro e w1 ⟨rfl, rfl⟩
  go_wp2
  go_ret
  exact ⟨rfl, rfl⟩
theorem trace_zero (w : World) (b : Nat) (dv wv : Value) (tk : Nat) (A : Option Addr) (n c : Nat) (h : w.heap[b]? = some (busC 0 dv wv tk A n c)) : Calls Tryz.prog 9 #[.pointer (some ⟨b, 0, none⟩)] w fun e w' => e = .returned (.slice none 0 0) ∧ w = w' := by
  have K := Lib.hid (none_zero w b dv wv tk A n c h)
  clear h
  go_enter Tryz.func9, Tryz.ntmps9
  go_wp2_with fail
  refine K.out.mono ?_
  rintro e w1 ⟨rfl, rfl⟩
  go_wp2
  go_ret
  exact ⟨rfl, rfl⟩
theorem slice3_nil (W : World) : (Instr.slice 31 (.slice none 0 0) none (some (.int .i64 0)) (some (.int .i64 0))).run Tryz.prog W = .ok (.slice none 0 0) W := by kernel_rfl
set_option maxRecDepth 100000 in
theorem trace_empty (w : World) (b sp : Nat) (hsp : sp ≠ 0) (dv wv : Value) (tk : Nat) (A : Option Addr) (c : Nat) (h : w.heap[b]? = some (busC sp dv wv tk A 0 c)) : Calls Tryz.prog 9 #[.pointer (some ⟨b, 0, none⟩)] w fun e w' => e = .returned (.slice none 0 0) ∧ w = w' := by
  have K := Lib.hid (none_no w b sp hsp dv wv tk A 0 c h)
  have c4 := block_at h (i := 4) rfl
  have q := slice3_nil
  clear h
  go_enter Tryz.func9, Tryz.ntmps9
  go_wp2_with fail
  refine K.out.mono ?_
  rintro e w1 ⟨rfl, rfl⟩
  go_wp2
  go_loopw [3, 13] (fun t i W => t = .slice none 0 0 ∧ i = .int .i64 0 ∧ W = w) (fun _ _ _ => 0)
  case atStart => exact ⟨rfl, rfl, rfl⟩
  case round =>
    obtain ⟨rfl, rfl, rfl⟩ := hrel
    go_wp2

    go_ret
    exact ⟨rfl, rfl⟩
theorem frame_nil (w : World) (A : Option Addr) (n c : Nat) (z : Int) : Calls Tryz.prog 10 #[.pointer none, .slice A n c, .int .i64 z] w fun e w' => e = .returned (.tuple #[.slice none 0 0, .int .i64 0]) ∧ w = w' := by
  go_enter Tryz.func10, Tryz.ntmps10
  go_wp2_with fail
  refine (none_nil w).mono ?_
  rintro e w1 ⟨rfl, rfl⟩
  go_wp2
  go_ret2
  exact ⟨rfl, rfl⟩
theorem frame_zero (w : World) (A : Option Addr) (n c : Nat) (z : Int) (b : Nat) (dv wv : Value) (tk : Nat) (A1 : Option Addr) (n1 c1 : Nat) (h : w.heap[b]? = some (busC 0 dv wv tk A1 n1 c1)) :
    Calls Tryz.prog 10 #[.pointer (some ⟨b, 0, none⟩), .slice A n c, .int .i64 z] w fun e w' => e = .returned (.tuple #[.slice none 0 0, .int .i64 0]) ∧ w = w' := by
  have K := Lib.hid (none_zero w b dv wv tk A1 n1 c1 h)
  clear h
  go_enter Tryz.func10, Tryz.ntmps10
  go_wp2_with fail
  refine K.out.mono ?_
  rintro e w1 ⟨rfl, rfl⟩
  go_wp2
  go_ret2
  exact ⟨rfl, rfl⟩
set_option maxRecDepth 100000 in
/-- Behind MaxTicks no further frame is performed. -/
theorem frame_over (w : World) (A : Option Addr) (n c : Nat) (z : Int) (b sp : Nat) (hsp : sp ≠ 0) (dv wv : Value) (tk : Nat) (htk : 1048576 ≤ tk) (A1 : Option Addr) (n1 c1 : Nat) (h : w.heap[b]? = some (busC sp dv wv tk A1 n1 c1)) :
    Calls Tryz.prog 10 #[.pointer (some ⟨b, 0, none⟩), .slice A n c, .int .i64 z] w fun e w' => e = .returned (.tuple #[.slice none 0 0, .int .i64 0]) ∧ w = w' := by
  have K := Lib.hid (none_no w b sp hsp dv wv tk A1 n1 c1 h)
  have c3 := block_at h (i := 3) rfl
  have h1 : (1048576 : Int) ≤ (tk : Int) := by omega
  clear h htk
  go_enter Tryz.func10, Tryz.ntmps10
  go_wp2_with fail
  refine K.out.mono ?_
  rintro e w1 ⟨rfl, rfl⟩
  go_wp2
  go_ret2
  exact ⟨rfl, rfl⟩
end Go.Proofs.YtgihpgdjkanodaaGreatDoor

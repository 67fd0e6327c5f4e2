/-
  Helper text, several in one; no statement is proved here.
-/
import Derived.Test.YtfaocndelibadaaStart
namespace Go.Proofs.Ytfaocndelibadaa
open Go Go.RowKit Go.Shelf
attribute [local go_sem] Oper.semAt_some

set_option maxHeartbeats 1000000 in
theorem toggle_any (w : World) (inn : Bool) (endp : Nat) (max len : Int) (A : Option Addr) (n c : Nat) (R : Option Addr) (tog : Bool) (act mis : Int) (over : Bool) (e : Int) :
    Calls Try.prog 18 #[trV inn endp max len A n c R tog act mis over e] w fun r w' => r = .returned (.bool tog) ∧ Below w.heap.size w w' := by
  go_enter Try.func18, Try.ntmps18
  go_wp2
  go_ret
  exact ⟨rfl, (Below.refl _ w).alloc (Nat.le_refl _) _⟩
set_option maxHeartbeats 1000000 in
theorem errors_any (w : World) (inn : Bool) (endp : Nat) (max len : Int) (A : Option Addr) (n c : Nat) (R : Option Addr) (tog : Bool) (act mis : Int) (over : Bool) (e : Int) :
    Calls Try.prog 19 #[trV inn endp max len A n c R tog act mis over e] w fun r w' => r = .returned (.int .i64 mis) ∧ Below w.heap.size w w' := by
  go_enter Try.func19, Try.ntmps19
  go_wp2
  go_ret
  exact ⟨rfl, (Below.refl _ w).alloc (Nat.le_refl _) _⟩
set_option maxHeartbeats 1000000 in
theorem under_zero (w : World) :
    Calls Try.prog 31 #[trZ] w fun r w' => r = .returned (.bool false) ∧ w' = w.alloc (.cells #[.bool false, .int .u8 0, .int .i64 0, .int .i64 0, .slice none 0 0, .pointer none, .bool false, .int .i64 0, .int .i64 0, .bool false, .int .i64 0] 42) := by
  go_enter Try.func31, Try.ntmps31
  go_wp2
  go_ret
  exact ⟨rfl, rfl⟩
set_option maxHeartbeats 1000000 in
theorem under_any (w : World) (inn : Bool) (endp : Nat) (max len : Int) (A : Option Addr) (n c : Nat) (R : Option Addr) (tog : Bool) (act mis : Int) (over : Bool) (e : Int) (hm : ¬ max = 0) :
    Calls Try.prog 31 #[trV inn endp max len A n c R tog act mis over e] w fun r w' => r = .returned (.bool (!over)) ∧ w' = w.alloc (.cells #[.bool inn, .int .u8 endp, .int .i64 max, .int .i64 len, .slice A n c, .pointer R, .bool tog, .int .i64 act, .int .i64 mis, .bool over, .int .i64 e] 42) := by
  go_enter Try.func31, Try.ntmps31
  go_wp2
  go_ret
  refine ⟨?_, rfl⟩
  show Ending.returned (.bool (max != 0 && !over)) = _
  simp [hm]
set_option maxHeartbeats 2000000 in
theorem answer_zero (w : World) (o : Int) (A : Option Addr) (n c : Nat) :
    Calls Try.prog 14 #[trZ, .agg #[.int .u8 o, .slice A n c]] w fun r w' => r = .returned trZ ∧ Below w.heap.size w w' := by
  go_enter Try.func14, Try.ntmps14
  go_wp2_with (go_at_call 31; refine (under_zero _).mono ?_; rintro r w1 ⟨rfl, rfl⟩)
  refine bodyPost_ret (results_cell_row rfl _ _ (w.heap.size + 1 + 1) _ _ _ _ rfl (heapN (by have := heap_alloc_new ((w.alloc (.cells #[.bool false, .int .u8 0, .int .i64 0, .int .i64 0, .slice none 0 0, .pointer none, .bool false, .int .i64 0, .int .i64 0, .bool false, .int .i64 0] 42)).alloc (.cells #[.int .u8 o, .slice A n c] 48)) (.cells #[.bool false, .int .u8 0, .int .i64 0, .int .i64 0, .slice none 0 0, .pointer none, .bool false, .int .i64 0, .int .i64 0, .bool false, .int .i64 0] 42); simpa using this) _ (by first | (simp; done) | (simp; omega))) Try.underlying42 rfl (by kernel_rfl)) rfl ?_
  exact ⟨rfl, ((((Below.refl _ w).alloc (Nat.le_refl _) _).alloc (by first | (simp; done) | (simp; omega)) _).alloc (by first | (simp; done) | (simp; omega)) _).alloc (by first | (simp; done) | (simp; omega)) _⟩
set_option maxHeartbeats 2000000 in
theorem next_zero (w : World) :
    Calls Try.prog 16 #[trZ] w fun r w' => r = .returned (.tuple #[.agg #[.int .u8 0, .int .u8 0, .int .u8 0, .bool false, .bool false, .int .i64 0, .slice none 0 0], .bool false]) ∧ Below w.heap.size w w' := by
  go_enter Try.func16, Try.ntmps16
  go_wp2_with (go_at_call 31; refine (under_zero _).mono ?_; rintro r w1 ⟨rfl, rfl⟩)
  refine bodyPost_ret (results_cell_row_tmp rfl _ _ (w.heap.size + 1) _ _ _ _ rfl (heap3 w _ _ _) Try.underlying52 rfl (by kernel_rfl)) rfl ?_
  exact ⟨rfl, (((Below.refl _ w).alloc (Nat.le_refl _) _).alloc (by first | (simp; done) | (simp; omega)) _).alloc (by first | (simp; done) | (simp; omega)) _⟩
set_option maxHeartbeats 2000000 in
theorem end_not (w : World) (inn : Bool) (endp : Nat) (max len : Int) (A : Option Addr) (n c : Nat) (R : Option Addr) (tog : Bool) (act mis : Int) (e : Int) :
    Calls Try.prog 17 #[trV inn endp max len A n c R tog act mis false e] w fun r w' => r = .returned (.tuple #[.agg #[.int .i64 0, .slice none 0 0, .int .i64 0], .bool false]) ∧ Below w.heap.size w w' := by
  go_enter Try.func17, Try.ntmps17
  go_wp2
  refine bodyPost_ret (results_cell_row_tmp rfl _ _ (w.heap.size + 1) _ _ _ _ rfl (heap_alloc2_new w _ _) Try.underlying56 rfl (by kernel_rfl)) rfl ?_
  exact ⟨rfl, ((Below.refl _ w).alloc (Nat.le_refl _) _).alloc (by first | (simp; done) | (simp; omega)) _⟩
end Go.Proofs.Ytfaocndelibadaa

namespace Go.Proofs.Ytfaocndelibadaa
noncomputable section
open Go Go.RowKit Go.Proofs.Ytfaocndelibadaa.Ev

def okM (chk : AV → Bool) : Option (AV × Hp × Nat) → Bool
  | some (v, _, _) => chk v
  | none => false
/-- A call that our machine runs over an empty memory. -/
theorem by_mach {f : FuncId} {args : List AV} {chk : AV → Bool} (h : okM chk (aCallY Try.prog plugs 60 f args (tables tabs) 1000) = true) (w : World) (ys : List Value) (hv : VL (σ₀ w) args ys) :
    Calls Try.prog f ⟨ys⟩ w fun e w' => ∃ y τ v, e = .returned y ∧ V τ v y ∧ chk v = true ∧ Below w.heap.size w w' := by
  unfold okM at h
  split at h
  · rename_i v h' nx' he
    have hc := (aCallY_ok (noNum_of noNum) mixed plugs_ok 60 _ _ _ _ _ _ _ he)
    have hheld : Held w tabs := fun g cs hm => by simp [tabs] at hm
    refine (hc.2.2 (σ₀ w) w ys (held_HR hheld) hv (fun id h1 h2 => by unfold σ₀; rw [if_neg (by omega)]) (by omega) (fun g hg => ⟨_, by simp only [σ₀]; rw [if_pos hg]⟩)).mono ?_
    rintro e w' ⟨y, τ, rfl, h1, h2, h3, h4⟩
    refine ⟨y, τ, v, rfl, h1, h, h3.os, h3.tape, h3.output, h3.size, fun k hk => h3.keep k hk ?_⟩
    rintro ⟨id, blk, p, q1, q2, q3, q4⟩
    obtain ⟨cs, hm, _⟩ := tables_ok q1
    simp [tabs] at hm
  · simp at h

abbrev trA (inn : Bool) (endp max len : Int) (tog over : Bool) : AV := .agg [.bool inn, .int .u8 endp, .int .i64 max, .int .i64 len, .nilsl, .nilp, .bool tog, .int .i64 0, .int .i64 0, .bool over, .int .i64 0]
def isEnd : AV → Bool
  | .tup [.agg [.int .i64 0, _, .int .i64 0], .bool true] => true
  | _ => false
def isNext : AV → Bool
  | .tup [_, .bool true] => true
  | _ => false
def isOut : AV → Bool
  | .agg [.int .u8 _, .sl _ _ _ _] => true
  | _ => false
set_option maxRecDepth 100000 in
theorem endM (endp max : Int) (tog : Bool) : okM isEnd (aCallY Try.prog plugs 60 17 [trA true endp max 0 tog true] (tables tabs) 1000) = true := by kernel_rfl
set_option maxRecDepth 100000 in
theorem doneM : okM isOut (aCallY Try.prog plugs 60 15 [.int .i64 1] (tables tabs) 1000) = true := by kernel_rfl
end
end Go.Proofs.Ytfaocndelibadaa


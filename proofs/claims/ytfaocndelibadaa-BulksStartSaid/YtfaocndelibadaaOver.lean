/-
  Helper text: a transfer that is over at its start; no statement is proved here.
-/
import Derived.Test.YtfaocndelibadaaNext
import Derived.Test.YtfaocndelibadaaApiM
namespace Go.Proofs.Ytfaocndelibadaa
open Go Go.RowKit Go.Shelf
attribute [local go_sem] Oper.semAt_some

def isEndS : Ev.AV → Bool
  | .tup [.agg [.int .i64 0, .sl _ _ _ _, .int .i64 0], .bool true] => true
  | .tup [.agg [.int .i64 0, .nilsl, .int .i64 0], .bool true] => true
  | .tup [.agg [.int .i64 0, .nsl, .int .i64 0], .bool true] => true
  | .tup [.agg [.int .i64 0, .esl, .int .i64 0], .bool true] => true
  | _ => false
set_option maxRecDepth 100000 in
theorem endMS (endp max : Int) (tog : Bool) : okM isEndS (Ev.aCallY Try.prog plugs 60 17 [trA true endp max 0 tog true] (Ev.tables tabs) 1000) = true := by kernel_rfl
theorem endS_of {τ : Ev.Sg} {v : Ev.AV} {y : Value} (h : isEndS v = true) (hv : Ev.V τ v y) : ∃ A n c, y = .tuple #[.agg #[.int .i64 0, .slice A n c, .int .i64 0], .bool true] := by
  unfold isEndS at h
  split at h
  · obtain ⟨l, ⟨v1, l1, rfl, ⟨l2, ⟨u1, m1, rfl, h1, u2, m2, rfl, h2, u3, m3, rfl, h3, rfl⟩, rfl⟩, v2, l3, rfl, h4, rfl⟩, rfl⟩ := hv
    obtain rfl := h1
    obtain rfl := h3
    obtain rfl := h4
    obtain ⟨b, o, n, _, k, rfl, _⟩ := h2
    exact ⟨_, _, _, rfl⟩
  · obtain ⟨l, ⟨v1, l1, rfl, ⟨l2, ⟨u1, m1, rfl, h1, u2, m2, rfl, h2, u3, m3, rfl, h3, rfl⟩, rfl⟩, v2, l3, rfl, h4, rfl⟩, rfl⟩ := hv
    obtain rfl := h1
    obtain rfl := h3
    obtain rfl := h4
    obtain rfl := h2
    exact ⟨_, _, _, rfl⟩
  · obtain ⟨l, ⟨v1, l1, rfl, ⟨l2, ⟨u1, m1, rfl, h1, u2, m2, rfl, h2, u3, m3, rfl, h3, rfl⟩, rfl⟩, v2, l3, rfl, h4, rfl⟩, rfl⟩ := hv
    obtain rfl := h1
    obtain rfl := h3
    obtain rfl := h4
    obtain ⟨a, k, rfl⟩ := h2
    exact ⟨_, _, _, rfl⟩
  · obtain ⟨l, ⟨v1, l1, rfl, ⟨l2, ⟨u1, m1, rfl, h1, u2, m2, rfl, h2, u3, m3, rfl, h3, rfl⟩, rfl⟩, v2, l3, rfl, h4, rfl⟩, rfl⟩ := hv
    obtain rfl := h1
    obtain rfl := h3
    obtain rfl := h4
    obtain ⟨a, k, rfl⟩ := h2
    exact ⟨_, _, _, rfl⟩
  · simp at h
theorem end_over (w : World) (endp : Nat) (max : Int) (tog : Bool) : Calls Try.prog 17 #[trV true endp max 0 none 0 0 none tog 0 0 true 0] w fun r w' => (∃ A n c, r = .returned (.tuple #[.agg #[.int .i64 0, .slice A n c, .int .i64 0], .bool true])) ∧ Below w.heap.size w w' := by
  refine (by_mach (endMS endp max tog) w [trV true endp max 0 none 0 0 none tog 0 0 true 0] ⟨_, _, rfl, by simp [trA, Ev.V, Ev.VL], rfl⟩).mono ?_
  rintro e w' ⟨y, τ, v, rfl, h1, h2, h3⟩
  obtain ⟨A, n, c, rfl⟩ := endS_of h2 h1
  exact ⟨⟨A, n, c, rfl⟩, h3⟩
set_option maxHeartbeats 2000000 in
theorem next_over (w : World) (inn : Bool) (endp : Nat) (max len : Int) (A : Option Addr) (n c : Nat) (R : Option Addr) (tog : Bool) (act mis : Int) (e : Int) (hm : ¬ max = 0) :
    Calls Try.prog 16 #[trV inn endp max len A n c R tog act mis true e] w fun r w' => r = .returned (.tuple #[.agg #[.int .u8 0, .int .u8 0, .int .u8 0, .bool false, .bool false, .int .i64 0, .slice none 0 0], .bool false]) ∧ Below w.heap.size w w' := by
  go_enter Try.func16, Try.ntmps16
  go_wp2_with (go_at_call 31; refine (under_any _ _ _ _ _ _ _ _ _ _ _ _ _ _ hm).mono ?_; rintro r w1 ⟨rfl, rfl⟩)
  refine bodyPost_ret (results_cell_row_tmp rfl _ _ (w.heap.size + 1) _ _ _ _ rfl (heap3 w _ _ _) Try.underlying52 rfl (by kernel_rfl)) rfl ?_
  exact ⟨rfl, (((Below.refl _ w).alloc (Nat.le_refl _) _).alloc (by first | (simp; done) | (simp; omega)) _).alloc (by first | (simp; done) | (simp; omega)) _⟩
end Go.Proofs.Ytfaocndelibadaa

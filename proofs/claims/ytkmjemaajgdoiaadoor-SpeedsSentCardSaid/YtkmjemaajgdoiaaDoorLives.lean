/-
  Helper text: the function that tries the examples of the chapter; no statement is proved here.
-/
import Derived.Test.YtkmjemaajgdoiaaDoorFit
namespace Go.Proofs.YtkmjemaajgdoiaaDoor
open Go Go.RowKit

theorem l_fit3' (w : World) (o : Obj) (e : TypeId) : Calls Tryd.prog 19 #[.int .i64 10, .slice (some ⟨w.heap.size + 1, 0, none⟩) 3 3] ((w.alloc o).alloc (.cells #[.int .i64 4, .int .i64 (-1), .int .i64 2] e)) fun r w' => r = .returned (.int .i64 1) ∧ w' = (w.alloc o).alloc (.cells #[.int .i64 4, .int .i64 (-1), .int .i64 2] e) := by
  have h := l_fit3 (w.alloc o) e
  rw [show (w.alloc o).heap.size = w.heap.size + 1 by simp] at h
  exact h

set_option maxHeartbeats 1600000 in
set_option maxRecDepth 100000 in
theorem lives_any (w : World) : Calls Tryd.prog 7 #[] w (ResB w true) := by
  go_enter Tryd.func7, Tryd.ntmps7
  go_wp2_with fail
  refine (l_worst _).mono ?_
  rintro e w1 ⟨rfl, b1⟩
  go_wp2_with fail
  refine (l_cost1 _).mono ?_
  rintro e w2 ⟨rfl, b2⟩
  have b2 := b1.trans (b2.mono b1.size)
  clear b1
  go_wp2_with fail
  refine (l_cost2 _).mono ?_
  rintro e w3 ⟨rfl, b3⟩
  have b3 := b2.trans (b3.mono b2.size)
  clear b2
  go_wp2_with fail
  refine (l_cost3 _).mono ?_
  rintro e w4 ⟨rfl, b4⟩
  have b4 := b3.trans (b4.mono b3.size)
  clear b3
  go_wp2_with fail
  refine (l_start _).mono ?_
  rintro e w5 ⟨rfl, b5⟩
  have b5 := b4.trans (b5.mono b4.size)
  clear b4
  go_wp2_with fail
  refine (l_compl _).mono ?_
  rintro e w6 ⟨rfl, b6⟩
  have b6 := b5.trans (b6.mono b5.size)
  clear b5
  go_wp2_with fail
  refine (l_none _).mono ?_
  rintro e w7 ⟨rfl, b7⟩
  have b7 := b6.trans (b7.mono b6.size)
  clear b6
  go_wp2_with fail
  refine (l_most _).mono ?_
  rintro e w8 ⟨rfl, b8⟩
  have b8 := b7.trans (b8.mono b7.size)
  clear b7
  go_wp2_with fail
  refine (l_share _).mono ?_
  rintro e w9 ⟨rfl, rfl⟩
  go_wp2_with fail
  refine (l_budget _).mono ?_
  rintro e wa ⟨rfl, rfl⟩
  go_wp2_with fail
  refine (l_fit4 _ _).mono ?_
  rintro e wb ⟨rfl, rfl⟩
  have bb := b8.alloc b8.size (.cells #[.int .i64 4, .int .i64 6, .int .i64 0, .int .i64 1] 3)
  go_wp2_with fail
  refine (l_fit3' _ _ _).mono ?_
  rintro e wc ⟨rfl, rfl⟩
  have bc := bb.alloc bb.size (.cells #[.int .i64 4, .int .i64 (-1), .int .i64 2] 3)
  go_wp2
  go_ret
  exact ⟨rfl, bc⟩

end Go.Proofs.YtkmjemaajgdoiaaDoor

/-
  Helper text: Fit, and the function that tries the examples of the chapter; no statement is proved here.
-/
import Derived.Test.YtkmjemaajgdoiaaDoorSpf
import Derived.Test.YtkmjemaajgdoiaaDoorInts
namespace Go.Proofs.YtkmjemaajgdoiaaDoor
open Go Go.RowKit

/-- How many of the costs fit into a budget. -/
def fitN (b : Int) : List Int → Nat
  | [] => 0
  | z :: zs => if z < 0 ∨ b < z then 0 else fitN (b - z) zs + 1
theorem fitN_mono (zs : List Int) : ∀ b b' : Int, b ≤ b' → fitN b zs ≤ fitN b' zs := by
  induction zs with
  | nil => intro _ _ _; exact Nat.le_refl _
  | cons z zs ih =>
    intro b b' h
    simp only [fitN]
    by_cases h1 : z < 0 ∨ b < z
    · rw [if_pos h1]; exact Nat.zero_le _
    · rw [if_neg h1, if_neg (by omega)]
      have := ih (b - z) (b' - z) (by omega)
      omega
theorem fitN_stop {b z : Int} {zs : List Int} (h : z < 0 ∨ b < z) : fitN b (z :: zs) = 0 := by simp only [fitN]; rw [if_pos h]
theorem fitN_go {b z : Int} {zs : List Int} (h : ¬ (z < 0 ∨ b < z)) : fitN b (z :: zs) = fitN (b - z) zs + 1 := by simp only [fitN]; rw [if_neg h]
theorem drop_at (zs : List Int) {k : Nat} (h : k < zs.length) : zs.drop k = zs.getD k 0 :: zs.drop (k + 1) := by
  rw [List.drop_eq_getElem_cons h]
  simp [List.getD, List.getElem?_eq_getElem h]

set_option maxHeartbeats 800000 in
set_option maxRecDepth 100000 in
theorem fit_any (w : World) (b : Int) (hb1 : -9223372036854775808 ≤ b) (hb2 : b ≤ 9223372036854775807) (B : Nat) (A : Option Addr) (c : Nat) (zs : List Int) (h : RdI w B A c zs) :
    Calls Tryd.prog 19 #[.int .i64 b, .slice A zs.length c] w fun e w' => e = .returned (.int .i64 (fitN b zs : Int)) ∧ w' = w := by
  have hcap := h.cap
  have hle := h.le
  go_enter Tryd.func19, Tryd.ntmps19
  go_wp2
  go_loop [5, 11] (fun l i => ∃ (k : Nat) (L : Int), k ≤ zs.length ∧ i = .int .i64 k ∧ l = .int .i64 L ∧ fitN b zs = k + fitN L (zs.drop k) ∧ L ≤ b ∧ (L = b ∨ 0 ≤ L)) (fun _ i => zs.length - (intOf i).toNat)
  case atStart => exact ⟨0, b, Nat.zero_le _, rfl, rfl, by simp, by omega, .inl rfl⟩
  case round =>
    obtain ⟨k, L, hk, rfl, rfl, hf, hL1, hL2⟩ := hrel
    by_cases hlt : k < zs.length
    · obtain ⟨bk, off, rfl, hbB, hcell0⟩ := h.at_ hlt
      have hcell : w.cell? ⟨bk, off + k, none⟩ = some (.int .i64 (zs.getD k 0)) := hcell0
      clear hcell0
      rw [drop_at zs hlt] at hf
      generalize zs.getD k 0 = z at hcell hf
      have Hf := Lib.hid hf
      clear hf
      by_cases hz : z < 0
      · clear hL2
        go_wp2
        go_ret
        refine ⟨?_, rfl⟩
        rw [Hf.out, fitN_stop (.inl hz)]
        rfl
      · by_cases hz2 : L < z
        · clear hL2
          go_wp2
          go_ret
          refine ⟨?_, rfl⟩
          rw [Hf.out, fitN_stop (.inr hz2)]
          rfl
        · have h0 : 0 ≤ L - z := by omega
          have h1 : L - z ≤ b := by omega
          clear hL2
          go_wp2
          go_round
          case rel => exact ⟨k + 1, L - z, by omega, by go_num, rfl, by rw [Hf.out, fitN_go (by omega)]; omega, h1, .inr h0⟩
          case measure => simp [intOf]; omega
    · have hk9 : k = zs.length := by omega
      subst hk9
      have Hf := Lib.hid hf
      clear hf hL2
      go_wp2
      go_ret
      refine ⟨?_, rfl⟩
      have := Hf.out
      rw [List.drop_length] at this
      rw [this]
      rfl

theorem l_worst (w : World) : Calls Tryd.prog 5 #[.int .i64 67] w fun r w' => r = .returned (.tuple #[.int .i64 636, .int .i64 0]) ∧ Below w.heap.size w w' := worst_good w 67 (by omega) (by omega)
theorem l_cost1 (w : World) : Calls Tryd.prog 11 #[.int .u8 1, .int .u8 2, .int .i64 64] w fun r w' => r = .returned (.tuple #[.int .i64 719, .int .i64 0]) ∧ Below w.heap.size w w' := cost_good w 1 2 64 (by omega) (by omega) (by omega)
theorem l_cost2 (w : World) : Calls Tryd.prog 11 #[.int .u8 0, .int .u8 3, .int .i64 8] w fun r w' => r = .returned (.tuple #[.int .i64 1568, .int .i64 0]) ∧ Below w.heap.size w w' := cost_good w 0 3 8 (by omega) (by omega) (by omega)
theorem l_cost3 (w : World) : Calls Tryd.prog 11 #[.int .u8 2, .int .u8 1, .int .i64 1024] w fun r w' => r = .returned (.tuple #[.int .i64 9651, .int .i64 0]) ∧ Below w.heap.size w w' := cost_good w 2 1 1024 (by omega) (by omega) (by omega)
theorem l_start (w : World) : Calls Tryd.prog 14 #[.int .u8 2, .bool false, .int .i64 64] w fun r w' => r = .returned (.tuple #[.int .i64 775, .int .i64 0]) ∧ Below w.heap.size w w' := Start_good w 2 false 64 (by omega) (by omega)
theorem l_compl (w : World) : Calls Tryd.prog 15 #[.int .u8 2, .bool true, .int .i64 64] w fun r w' => r = .returned (.tuple #[.int .i64 775, .int .i64 0]) ∧ Below w.heap.size w w' := Compl_good w 2 true 64 (by omega) (by omega) (by simp)
theorem l_none (w : World) : Calls Tryd.prog 15 #[.int .u8 1, .bool false, .int .i64 64] w fun r w' => r = .returned (.tuple #[.int .i64 0, .int .i64 1]) ∧ Below w.heap.size w w' := Compl_bad w 1 false 64 (by omega) (.inr ⟨rfl, rfl⟩)
theorem l_most (w : World) : Calls Tryd.prog 16 #[.int .u8 1, .int .u8 2, .int .i64 64, .int .i64 12000] w fun r w' => r = .returned (.tuple #[.int .i64 1024, .int .i64 0]) ∧ Below w.heap.size w w' := Most_good w 1 2 64 12000 (by omega) (by omega) (by omega) (by omega) (by omega)
theorem l_share (w : World) : Calls Tryd.prog 17 #[.int .u8 2] w fun e w' => e = .returned (.int .i64 48000) ∧ w' = w := share_any w 2 (by omega)
theorem l_budget (w : World) : Calls Tryd.prog 18 #[.int .u8 0] w fun e w' => e = .returned (.int .i64 12000) ∧ w' = w := budget_any w 0 (by omega)
theorem rdI_top (w : World) (e : TypeId) (zs : List Int) (hl : zs.length ≤ 1000000000) : RdI (w.alloc (.cells (zs.map iv).toArray e)) (w.heap.size + 1) (some ⟨w.heap.size, 0, none⟩) zs.length zs := by
  obtain ⟨A, c, e1, h⟩ := RdI.of_own (ownI_built w e zs hl)
  injection e1 with e2 e3 e4
  subst e2; subst e4
  simpa using h
theorem l_fit4 (w : World) (e : TypeId) : Calls Tryd.prog 19 #[.int .i64 10, .slice (some ⟨w.heap.size, 0, none⟩) 4 4] (w.alloc (.cells #[.int .i64 4, .int .i64 6, .int .i64 0, .int .i64 1] e)) fun r w' => r = .returned (.int .i64 3) ∧ w' = w.alloc (.cells #[.int .i64 4, .int .i64 6, .int .i64 0, .int .i64 1] e) :=
  fit_any _ 10 (by omega) (by omega) _ _ _ [4, 6, 0, 1] (rdI_top w e [4, 6, 0, 1] (by decide))
theorem l_fit3 (w : World) (e : TypeId) : Calls Tryd.prog 19 #[.int .i64 10, .slice (some ⟨w.heap.size, 0, none⟩) 3 3] (w.alloc (.cells #[.int .i64 4, .int .i64 (-1), .int .i64 2] e)) fun r w' => r = .returned (.int .i64 1) ∧ w' = w.alloc (.cells #[.int .i64 4, .int .i64 (-1), .int .i64 2] e) :=
  fit_any _ 10 (by omega) (by omega) _ _ _ [4, -1, 2] (rdI_top w e [4, -1, 2] (by decide))

end Go.Proofs.YtkmjemaajgdoiaaDoor

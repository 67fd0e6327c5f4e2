/-
  Helper text: the next transaction of a transfer; no statement is proved here.
-/
import Derived.Laws.EntriesVeiled
import Derived.Test.YtfaocndelibadaaApiM
import Derived.Test.YtfaocndelibadaaStartO
namespace Go.Proofs.Ytfaocndelibadaa
open Go Go.RowKit Go.Shelf
attribute [local go_sem] Oper.semAt_some

set_option maxHeartbeats 1000000 in
theorem dir_in (w : World) (endp : Nat) (max len : Int) (A : Option Addr) (n c : Nat) (R : Option Addr) (tog : Bool) (act mis : Int) (over : Bool) (e : Int) :
    Calls Try.prog 34 #[trV true endp max len A n c R tog act mis over e] w fun r w' => r = .returned (.agg #[.func (.func 42) #[] #[], .func (.func 43) #[] #[]]) ∧ Below w.heap.size w w' := by
  go_enter Try.func34, Try.ntmps34
  go_wp2
  refine bodyPost_ret (results_cell_row rfl _ _ (w.heap.size + 1) _ _ _ _ rfl (heap_alloc2_new w _ _) Try.underlying80 rfl (by kernel_rfl)) rfl ?_
  exact ⟨rfl, ((Below.refl _ w).alloc (Nat.le_refl _) _).alloc (by first | (simp; done) | (simp; omega)) _⟩
set_option maxHeartbeats 1000000 in
theorem dir_out (w : World) (endp : Nat) (max len : Int) (A : Option Addr) (n c : Nat) (R : Option Addr) (tog : Bool) (act mis : Int) (over : Bool) (e : Int) :
    Calls Try.prog 34 #[trV false endp max len A n c R tog act mis over e] w fun r w' => r = .returned (.agg #[.func (.func 44) #[] #[], .func (.func 45) #[] #[]]) ∧ Below w.heap.size w w' := by
  go_enter Try.func34, Try.ntmps34
  go_wp2
  refine bodyPost_ret (results_cell_row rfl _ _ (w.heap.size + 1) _ _ _ _ rfl (heap_alloc2_new w _ _) Try.underlying80 rfl (by kernel_rfl)) rfl ?_
  exact ⟨rfl, ((Below.refl _ w).alloc (Nat.le_refl _) _).alloc (by first | (simp; done) | (simp; omega)) _⟩
set_option maxHeartbeats 1000000 in
theorem read_any (w : World) (endp : Nat) (max len : Int) (A : Option Addr) (n c : Nat) (R : Option Addr) (tog : Bool) (act mis : Int) (over : Bool) (e : Int) :
    Calls Try.prog 42 #[trV true endp max len A n c R tog act mis over e] w fun r w' => (∃ a b k d i m A n c, r = .returned (.agg #[.int .u8 a, .int .u8 b, .int .u8 k, .bool d, .bool i, .int .i64 m, .slice A n c])) ∧ Below w.heap.size w w' := by
  go_enter Try.func42, Try.ntmps42
  go_wp2
  refine bodyPost_ret (results_cell_row rfl _ _ (w.heap.size + 1) _ _ _ _ rfl (heap_alloc2_new w _ _) Try.underlying52 rfl (by kernel_rfl)) rfl ?_
  exact ⟨⟨_, _, _, _, _, _, _, _, _, rfl⟩, ((Below.refl _ w).alloc (Nat.le_refl _) _).alloc (by first | (simp; done) | (simp; omega)) _⟩
set_option maxHeartbeats 1000000 in
theorem write_any (w : World) (endp : Nat) (max len : Int) (A : Option Addr) (c : Nat) (pss : List (List UInt8)) (R : Option Addr) (tog : Bool) (act mis : Int) (over : Bool) (e : Int) (hr : Rds w w.heap.size A c pss) (h0 : 0 < pss.length) (hl : (pss.getD 0 []).length ≤ 1000000) :
    Calls Try.prog 44 #[trV false endp max len A pss.length c R tog act mis over e] w fun r w' => (∃ a b k d i m A n c, r = .returned (.agg #[.int .u8 a, .int .u8 b, .int .u8 k, .bool d, .bool i, .int .i64 m, .slice A n c])) ∧ Below w.heap.size w w' := by
  obtain ⟨b, off, rfl, hb, hcell⟩ := hr.cells h0
  obtain ⟨A', c', hc0, hrd⟩ := hcell 0 h0
  have hrd := Lib.hid hrd
  clear hcell hr
  generalize hq : pss.getD 0 [] = ps at hc0 hrd hl
  clear hq
  generalize pss.length = n at *
  go_enter Try.func44, Try.ntmps44
  go_wp2
  have hB : Below w.heap.size w ((w.alloc (.cells #[.bool false, .int .u8 endp, .int .i64 max, .int .i64 len, .slice (some ⟨b, off, none⟩) n c, .pointer R, .bool tog, .int .i64 act, .int .i64 mis, .bool over, .int .i64 e] 42)).alloc (.cells #[.int .u8 0, .int .u8 0, .int .u8 0, .bool false, .bool false, .int .i64 0, .slice none 0 0] 52)) := ((Below.refl _ w).alloc (Nat.le_refl _) _).alloc (by first | (simp; done) | (simp; omega)) _
  have hS : ((w.alloc (.cells #[.bool false, .int .u8 endp, .int .i64 max, .int .i64 len, .slice (some ⟨b, off, none⟩) n c, .pointer R, .bool tog, .int .i64 act, .int .i64 mis, .bool over, .int .i64 e] 42)).alloc (.cells #[.int .u8 0, .int .u8 0, .int .u8 0, .bool false, .bool false, .int .i64 0, .slice none 0 0] 52)).heap.size = w.heap.size + 2 := by simp
  have hR := heap_alloc2_new w (.cells #[.bool false, .int .u8 endp, .int .i64 max, .int .i64 len, .slice (some ⟨b, off, none⟩) n c, .pointer R, .bool tog, .int .i64 act, .int .i64 mis, .bool over, .int .i64 e] 42) (.cells #[.int .u8 0, .int .u8 0, .int .u8 0, .bool false, .bool false, .int .i64 0, .slice none 0 0] 52)
  have hP : ((w.alloc (.cells #[.bool false, .int .u8 endp, .int .i64 max, .int .i64 len, .slice (some ⟨b, off, none⟩) n c, .pointer R, .bool tog, .int .i64 act, .int .i64 mis, .bool over, .int .i64 e] 42)).alloc (.cells #[.int .u8 0, .int .u8 0, .int .u8 0, .bool false, .bool false, .int .i64 0, .slice none 0 0] 52)).heap[w.heap.size]? = some (.cells #[.bool false, .int .u8 endp, .int .i64 max, .int .i64 len, .slice (some ⟨b, off, none⟩) n c, .pointer R, .bool tog, .int .i64 act, .int .i64 mis, .bool over, .int .i64 e] 42 (0, 0)) := heapN (heap_alloc_new w _) _ (by first | (simp; done) | (simp; omega))
  have hrd2 := Lib.hid ((hrd.out.below hB).more (Nat.le_of_lt (by rw [hS]; omega : w.heap.size < ((w.alloc (.cells #[.bool false, .int .u8 endp, .int .i64 max, .int .i64 len, .slice (some ⟨b, off, none⟩) n c, .pointer R, .bool tog, .int .i64 act, .int .i64 mis, .bool over, .int .i64 e] 42)).alloc (.cells #[.int .u8 0, .int .u8 0, .int .u8 0, .bool false, .bool false, .int .i64 0, .slice none 0 0] 52)).heap.size)))
  generalize (w.alloc (.cells #[.bool false, .int .u8 endp, .int .i64 max, .int .i64 len, .slice (some ⟨b, off, none⟩) n c, .pointer R, .bool tog, .int .i64 act, .int .i64 mis, .bool over, .int .i64 e] 42)).alloc (.cells #[.int .u8 0, .int .u8 0, .int .u8 0, .bool false, .bool false, .int .i64 0, .slice none 0 0] 52) = W0 at *
  have hc1 : W0.drew.cell? ⟨b, off, none⟩ = some (.slice A' ps.length c') := (hB.cell (p := ⟨b, off, none⟩) hb).trans hc0
  replace hB := Lib.hid hB
  refine startT (S := fun a => a.block ≤ w.heap.size) (T := [10]) 11 (l := #[false, false, false, false, false, false, false, false, false, false, false]) (by kernel_rfl) rfl rfl ?_
  have c1 : W0.drew.cell? ⟨w.heap.size, 1, none⟩ = some (.int .u8 endp) := Ev.cell_row hP 1
  have c6 : W0.drew.cell? ⟨w.heap.size, 6, none⟩ = some (.bool tog) := Ev.cell_row hP 6
  have c4 : W0.drew.cell? ⟨w.heap.size, 4, none⟩ = some (.slice (some ⟨b, off, none⟩) n c) := Ev.cell_row hP 4
  have hble : b ≤ w.heap.size := Nat.le_of_lt hb
  ((first | (refine takeT 0 (v := ?_) rfl (by decide +kernel) (by decide +kernel) (by decide +kernel) (fun _ _ _ h => h) (by decide +kernel) (Or.inl ⟨by rfl, ?_⟩) ?_; rotate_left 1; (focus (intro W hW; have hcW := hW.at; (try dsimp only at hcW); go_simp; first | done | with_reducible rfl)); try simp only [Act.put, List.setIfInBounds_toArray, List.set_cons_zero, List.set_cons_succ]) | (refine takeW 0 (v := ?_) rfl (by decide +kernel) (by decide +kernel) (by decide +kernel) (fun _ _ _ h => h) (Or.inl ⟨by rfl, ?_⟩) ?_; rotate_left 1; (focus (intro W hW; go_simp; first | done | with_reducible rfl)); try simp only [Act.put, List.setIfInBounds_toArray, List.set_cons_zero, List.set_cons_succ]) | (refine takeW 0 rfl (by decide +kernel) (by decide +kernel) (by decide +kernel) (fun _ _ _ h => h) (Or.inr ⟨by rfl, rfl⟩) ?_; try simp only [Act.put, List.setIfInBounds_toArray, List.set_cons_zero, List.set_cons_succ]) | skip); (first | (refine takeT 1 (v := ?_) rfl (by decide +kernel) (by decide +kernel) (by decide +kernel) (fun _ _ _ h => h) (by decide +kernel) (Or.inl ⟨by rfl, ?_⟩) ?_; rotate_left 1; (focus (intro W hW; have hcW := hW.at; (try dsimp only at hcW); go_simp; first | done | with_reducible rfl)); try simp only [Act.put, List.setIfInBounds_toArray, List.set_cons_zero, List.set_cons_succ]) | (refine takeW 1 (v := ?_) rfl (by decide +kernel) (by decide +kernel) (by decide +kernel) (fun _ _ _ h => h) (Or.inl ⟨by rfl, ?_⟩) ?_; rotate_left 1; (focus (intro W hW; go_simp; first | done | with_reducible rfl)); try simp only [Act.put, List.setIfInBounds_toArray, List.set_cons_zero, List.set_cons_succ]) | (refine takeW 1 rfl (by decide +kernel) (by decide +kernel) (by decide +kernel) (fun _ _ _ h => h) (Or.inr ⟨by rfl, rfl⟩) ?_; try simp only [Act.put, List.setIfInBounds_toArray, List.set_cons_zero, List.set_cons_succ]) | skip); (first | (refine takeT 2 (v := ?_) rfl (by decide +kernel) (by decide +kernel) (by decide +kernel) (fun _ _ _ h => h) (by decide +kernel) (Or.inl ⟨by rfl, ?_⟩) ?_; rotate_left 1; (focus (intro W hW; have hcW := hW.at; (try dsimp only at hcW); go_simp; first | done | with_reducible rfl)); try simp only [Act.put, List.setIfInBounds_toArray, List.set_cons_zero, List.set_cons_succ]) | (refine takeW 2 (v := ?_) rfl (by decide +kernel) (by decide +kernel) (by decide +kernel) (fun _ _ _ h => h) (Or.inl ⟨by rfl, ?_⟩) ?_; rotate_left 1; (focus (intro W hW; go_simp; first | done | with_reducible rfl)); try simp only [Act.put, List.setIfInBounds_toArray, List.set_cons_zero, List.set_cons_succ]) | (refine takeW 2 rfl (by decide +kernel) (by decide +kernel) (by decide +kernel) (fun _ _ _ h => h) (Or.inr ⟨by rfl, rfl⟩) ?_; try simp only [Act.put, List.setIfInBounds_toArray, List.set_cons_zero, List.set_cons_succ]) | skip); (first | (refine takeT 3 (v := ?_) rfl (by decide +kernel) (by decide +kernel) (by decide +kernel) (fun _ _ _ h => h) (by decide +kernel) (Or.inl ⟨by rfl, ?_⟩) ?_; rotate_left 1; (focus (intro W hW; have hcW := hW.at; (try dsimp only at hcW); go_simp; first | done | with_reducible rfl)); try simp only [Act.put, List.setIfInBounds_toArray, List.set_cons_zero, List.set_cons_succ]) | (refine takeW 3 (v := ?_) rfl (by decide +kernel) (by decide +kernel) (by decide +kernel) (fun _ _ _ h => h) (Or.inl ⟨by rfl, ?_⟩) ?_; rotate_left 1; (focus (intro W hW; go_simp; first | done | with_reducible rfl)); try simp only [Act.put, List.setIfInBounds_toArray, List.set_cons_zero, List.set_cons_succ]) | (refine takeW 3 rfl (by decide +kernel) (by decide +kernel) (by decide +kernel) (fun _ _ _ h => h) (Or.inr ⟨by rfl, rfl⟩) ?_; try simp only [Act.put, List.setIfInBounds_toArray, List.set_cons_zero, List.set_cons_succ]) | skip); (first | (refine takeT 4 (v := ?_) rfl (by decide +kernel) (by decide +kernel) (by decide +kernel) (fun _ _ _ h => h) (by decide +kernel) (Or.inl ⟨by rfl, ?_⟩) ?_; rotate_left 1; (focus (intro W hW; have hcW := hW.at; (try dsimp only at hcW); go_simp; first | done | with_reducible rfl)); try simp only [Act.put, List.setIfInBounds_toArray, List.set_cons_zero, List.set_cons_succ]) | (refine takeW 4 (v := ?_) rfl (by decide +kernel) (by decide +kernel) (by decide +kernel) (fun _ _ _ h => h) (Or.inl ⟨by rfl, ?_⟩) ?_; rotate_left 1; (focus (intro W hW; go_simp; first | done | with_reducible rfl)); try simp only [Act.put, List.setIfInBounds_toArray, List.set_cons_zero, List.set_cons_succ]) | (refine takeW 4 rfl (by decide +kernel) (by decide +kernel) (by decide +kernel) (fun _ _ _ h => h) (Or.inr ⟨by rfl, rfl⟩) ?_; try simp only [Act.put, List.setIfInBounds_toArray, List.set_cons_zero, List.set_cons_succ]) | skip); (first | (refine takeT 5 (v := ?_) rfl (by decide +kernel) (by decide +kernel) (by decide +kernel) (fun _ _ _ h => h) (by decide +kernel) (Or.inl ⟨by rfl, ?_⟩) ?_; rotate_left 1; (focus (intro W hW; have hcW := hW.at; (try dsimp only at hcW); go_simp; first | done | with_reducible rfl)); try simp only [Act.put, List.setIfInBounds_toArray, List.set_cons_zero, List.set_cons_succ]) | (refine takeW 5 (v := ?_) rfl (by decide +kernel) (by decide +kernel) (by decide +kernel) (fun _ _ _ h => h) (Or.inl ⟨by rfl, ?_⟩) ?_; rotate_left 1; (focus (intro W hW; go_simp; first | done | with_reducible rfl)); try simp only [Act.put, List.setIfInBounds_toArray, List.set_cons_zero, List.set_cons_succ]) | (refine takeW 5 rfl (by decide +kernel) (by decide +kernel) (by decide +kernel) (fun _ _ _ h => h) (Or.inr ⟨by rfl, rfl⟩) ?_; try simp only [Act.put, List.setIfInBounds_toArray, List.set_cons_zero, List.set_cons_succ]) | skip); (first | (refine takeT 6 (v := ?_) rfl (by decide +kernel) (by decide +kernel) (by decide +kernel) (fun _ _ _ h => h) (by decide +kernel) (Or.inl ⟨by rfl, ?_⟩) ?_; rotate_left 1; (focus (intro W hW; have hcW := hW.at; (try dsimp only at hcW); go_simp; first | done | with_reducible rfl)); try simp only [Act.put, List.setIfInBounds_toArray, List.set_cons_zero, List.set_cons_succ]) | (refine takeW 6 (v := ?_) rfl (by decide +kernel) (by decide +kernel) (by decide +kernel) (fun _ _ _ h => h) (Or.inl ⟨by rfl, ?_⟩) ?_; rotate_left 1; (focus (intro W hW; go_simp; first | done | with_reducible rfl)); try simp only [Act.put, List.setIfInBounds_toArray, List.set_cons_zero, List.set_cons_succ]) | (refine takeW 6 rfl (by decide +kernel) (by decide +kernel) (by decide +kernel) (fun _ _ _ h => h) (Or.inr ⟨by rfl, rfl⟩) ?_; try simp only [Act.put, List.setIfInBounds_toArray, List.set_cons_zero, List.set_cons_succ]) | skip); (first | (refine takeT 7 (v := ?_) rfl (by decide +kernel) (by decide +kernel) (by decide +kernel) (fun _ _ _ h => h) (by decide +kernel) (Or.inl ⟨by rfl, ?_⟩) ?_; rotate_left 1; (focus (intro W hW; have hcW := hW.at; (try dsimp only at hcW); go_simp; first | done | with_reducible rfl)); try simp only [Act.put, List.setIfInBounds_toArray, List.set_cons_zero, List.set_cons_succ]) | (refine takeW 7 (v := ?_) rfl (by decide +kernel) (by decide +kernel) (by decide +kernel) (fun _ _ _ h => h) (Or.inl ⟨by rfl, ?_⟩) ?_; rotate_left 1; (focus (intro W hW; go_simp; first | done | with_reducible rfl)); try simp only [Act.put, List.setIfInBounds_toArray, List.set_cons_zero, List.set_cons_succ]) | (refine takeW 7 rfl (by decide +kernel) (by decide +kernel) (by decide +kernel) (fun _ _ _ h => h) (Or.inr ⟨by rfl, rfl⟩) ?_; try simp only [Act.put, List.setIfInBounds_toArray, List.set_cons_zero, List.set_cons_succ]) | skip))
  clear c1 c6 c4 hc1
  refine stepT 8 rfl (by decide +kernel) (by rfl) (fun K hK => ?_)
  go_simp
  refine (own_any W0.drew A' c' ps hrd2.out.drew hl).mono ?_
  rintro r w2 ⟨v, rfl, hba, b2⟩
  obtain ⟨A1, rfl, _, _⟩ := rd_bytesAt hba hl
  replace b2 : Below W0.heap.size W0 w2 := below_undrew b2
  refine hK _ _ (.inr fun a ha => b2.cell (by have : a.block ≤ w.heap.size := ha; omega)) ?_
  clear hK K hba
  try simp only [Act.put, List.setIfInBounds_toArray, List.set_cons_zero, List.set_cons_succ]
  have hR3 : w2.heap[w.heap.size + 1]? = some _ := (b2.block _ (by omega)).trans hR
  have hb3 : Below w.heap.size w w2 := hB.out.trans (b2.mono (by omega))
  clear hR hP b2 hB
  have hF := putAll_same [.int .u8 0, .int .u8 endp, .int .u8 1, .bool tog, .bool false, .int .i64 0, .slice A1 ps.length ps.length] 0 w2 _ hR3
  have hG := putAll_below (B := w.heap.size + 1) (by omega) [.int .u8 0, .int .u8 endp, .int .u8 1, .bool tog, .bool false, .int .i64 0, .slice A1 ps.length ps.length] 0 w2 hb3
  simp only [putAll, setAll, Nat.zero_add, Nat.reduceAdd, List.setIfInBounds_toArray, List.set_cons_zero, List.set_cons_succ] at hF hG
  replace hF := Lib.hid hF
  replace hG := Lib.hid hG
  have r0 : w2.cell? ⟨w.heap.size + 1, 0, none⟩ = some (.int .u8 0) := Ev.cell_row hR3 0
  have r1 : w2.cell? ⟨w.heap.size + 1, 1, none⟩ = some (.int .u8 0) := Ev.cell_row hR3 1
  have r2 : w2.cell? ⟨w.heap.size + 1, 2, none⟩ = some (.int .u8 0) := Ev.cell_row hR3 2
  have r3 : w2.cell? ⟨w.heap.size + 1, 3, none⟩ = some (.bool false) := Ev.cell_row hR3 3
  have r4 : w2.cell? ⟨w.heap.size + 1, 4, none⟩ = some (.bool false) := Ev.cell_row hR3 4
  have r5 : w2.cell? ⟨w.heap.size + 1, 5, none⟩ = some (.int .i64 0) := Ev.cell_row hR3 5
  have r6 : w2.cell? ⟨w.heap.size + 1, 6, none⟩ = some (.slice none 0 0) := Ev.cell_row hR3 6
  have fR : ∀ i, w2.frozen? ⟨w.heap.size + 1, i, none⟩ = false := fun i => by simp [World.frozen?, hR3]
  clear hR3 hb3
  ((first | (refine takeT 9 (v := ?_) rfl (by decide +kernel) (by decide +kernel) (by decide +kernel) (fun _ _ _ h => h) (by decide +kernel) (Or.inl ⟨by rfl, ?_⟩) ?_; rotate_left 1; (focus (intro W hW; have hcW := hW.at; (try dsimp only at hcW); go_simp; first | done | with_reducible rfl)); try simp only [Act.put, List.setIfInBounds_toArray, List.set_cons_zero, List.set_cons_succ]) | (refine takeW 9 (v := ?_) rfl (by decide +kernel) (by decide +kernel) (by decide +kernel) (fun _ _ _ h => h) (Or.inl ⟨by rfl, ?_⟩) ?_; rotate_left 1; (focus (intro W hW; go_simp; first | done | with_reducible rfl)); try simp only [Act.put, List.setIfInBounds_toArray, List.set_cons_zero, List.set_cons_succ]) | (refine takeW 9 rfl (by decide +kernel) (by decide +kernel) (by decide +kernel) (fun _ _ _ h => h) (Or.inr ⟨by rfl, rfl⟩) ?_; try simp only [Act.put, List.setIfInBounds_toArray, List.set_cons_zero, List.set_cons_succ]) | skip))
  refine stepT 10 rfl (by decide +kernel) (by rfl) (fun K hK => ?_)
  go_simp
  refine hK _ _ (.inl (by simp)) ?_
  clear hK K
  try simp only [Act.put, List.setIfInBounds_toArray, List.set_cons_zero, List.set_cons_succ]
  refine doneT (by kernel_rfl) ?_
  go_wp2
  refine bodyPost_ret (results_cell_row rfl _ _ (w.heap.size + 1) _ _ _ _ rfl hF.out Try.underlying52 rfl (by kernel_rfl)) rfl ?_
  exact ⟨⟨_, _, _, _, _, _, _, _, _, rfl⟩, hG.out⟩
set_option maxHeartbeats 1000000 in
theorem next_in (w : World) (endp : Nat) (max len : Int) (A : Option Addr) (n c : Nat) (R : Option Addr) (tog : Bool) (act mis : Int) (e : Int) (hm : ¬ max = 0) :
    Calls Try.prog 16 #[trV true endp max len A n c R tog act mis false e] w fun r w' => (∃ a b k d i m A n c, r = .returned (.tuple #[.agg #[.int .u8 a, .int .u8 b, .int .u8 k, .bool d, .bool i, .int .i64 m, .slice A n c], .bool true])) ∧ Below w.heap.size w w' := by
  go_enter Try.func16, Try.ntmps16
  go_wp2_with (go_at_call 31; refine (under_any _ _ _ _ _ _ _ _ _ _ _ _ _ _ hm).mono ?_; rintro r w1 ⟨rfl, rfl⟩)
  have hB : Below w.heap.size w (((w.alloc (.cells #[.bool true, .int .u8 endp, .int .i64 max, .int .i64 len, .slice A n c, .pointer R, .bool tog, .int .i64 act, .int .i64 mis, .bool false, .int .i64 e] 42)).alloc (.cells #[.int .u8 0, .int .u8 0, .int .u8 0, .bool false, .bool false, .int .i64 0, .slice none 0 0] 52)).alloc (.cells #[.bool true, .int .u8 endp, .int .i64 max, .int .i64 len, .slice A n c, .pointer R, .bool tog, .int .i64 act, .int .i64 mis, .bool false, .int .i64 e] 42)) := (((Below.refl _ w).alloc (Nat.le_refl _) _).alloc (by first | (simp; done) | (simp; omega)) _).alloc (by first | (simp; done) | (simp; omega)) _
  have hS : (((w.alloc (.cells #[.bool true, .int .u8 endp, .int .i64 max, .int .i64 len, .slice A n c, .pointer R, .bool tog, .int .i64 act, .int .i64 mis, .bool false, .int .i64 e] 42)).alloc (.cells #[.int .u8 0, .int .u8 0, .int .u8 0, .bool false, .bool false, .int .i64 0, .slice none 0 0] 52)).alloc (.cells #[.bool true, .int .u8 endp, .int .i64 max, .int .i64 len, .slice A n c, .pointer R, .bool tog, .int .i64 act, .int .i64 mis, .bool false, .int .i64 e] 42)).heap.size = w.heap.size + 3 := by simp
  have hR := heap3 w (.cells #[.bool true, .int .u8 endp, .int .i64 max, .int .i64 len, .slice A n c, .pointer R, .bool tog, .int .i64 act, .int .i64 mis, .bool false, .int .i64 e] 42) (.cells #[.int .u8 0, .int .u8 0, .int .u8 0, .bool false, .bool false, .int .i64 0, .slice none 0 0] 52) (.cells #[.bool true, .int .u8 endp, .int .i64 max, .int .i64 len, .slice A n c, .pointer R, .bool tog, .int .i64 act, .int .i64 mis, .bool false, .int .i64 e] 42)
  have hP : (((w.alloc (.cells #[.bool true, .int .u8 endp, .int .i64 max, .int .i64 len, .slice A n c, .pointer R, .bool tog, .int .i64 act, .int .i64 mis, .bool false, .int .i64 e] 42)).alloc (.cells #[.int .u8 0, .int .u8 0, .int .u8 0, .bool false, .bool false, .int .i64 0, .slice none 0 0] 52)).alloc (.cells #[.bool true, .int .u8 endp, .int .i64 max, .int .i64 len, .slice A n c, .pointer R, .bool tog, .int .i64 act, .int .i64 mis, .bool false, .int .i64 e] 42)).heap[w.heap.size]? = some (.cells #[.bool true, .int .u8 endp, .int .i64 max, .int .i64 len, .slice A n c, .pointer R, .bool tog, .int .i64 act, .int .i64 mis, .bool false, .int .i64 e] 42 (0, 0)) := heapN (heapN (heap_alloc_new w _) _ (by first | (simp; done) | (simp; omega))) _ (by first | (simp; done) | (simp; omega))
  generalize ((w.alloc (.cells #[.bool true, .int .u8 endp, .int .i64 max, .int .i64 len, .slice A n c, .pointer R, .bool tog, .int .i64 act, .int .i64 mis, .bool false, .int .i64 e] 42)).alloc (.cells #[.int .u8 0, .int .u8 0, .int .u8 0, .bool false, .bool false, .int .i64 0, .slice none 0 0] 52)).alloc (.cells #[.bool true, .int .u8 endp, .int .i64 max, .int .i64 len, .slice A n c, .pointer R, .bool tog, .int .i64 act, .int .i64 mis, .bool false, .int .i64 e] 42) = W0 at *
  replace hB := Lib.hid hB
  refine startT (S := fun a => a.block = w.heap.size) (T := [5]) 7 (l := #[false, false, false, false, false, false, false]) (by kernel_rfl) rfl rfl ?_
  have c0 : W0.drew.cell? ⟨w.heap.size, 0, none⟩ = some (.bool true) := Ev.cell_row hP 0
  have c1 : W0.drew.cell? ⟨w.heap.size, 1, none⟩ = some (.int .u8 endp) := Ev.cell_row hP 1
  have c2 : W0.drew.cell? ⟨w.heap.size, 2, none⟩ = some (.int .i64 max) := Ev.cell_row hP 2
  have c3 : W0.drew.cell? ⟨w.heap.size, 3, none⟩ = some (.int .i64 len) := Ev.cell_row hP 3
  have c4 : W0.drew.cell? ⟨w.heap.size, 4, none⟩ = some (.slice A n c) := Ev.cell_row hP 4
  have c5 : W0.drew.cell? ⟨w.heap.size, 5, none⟩ = some (.pointer R) := Ev.cell_row hP 5
  have c6 : W0.drew.cell? ⟨w.heap.size, 6, none⟩ = some (.bool tog) := Ev.cell_row hP 6
  have c7 : W0.drew.cell? ⟨w.heap.size, 7, none⟩ = some (.int .i64 act) := Ev.cell_row hP 7
  have c8 : W0.drew.cell? ⟨w.heap.size, 8, none⟩ = some (.int .i64 mis) := Ev.cell_row hP 8
  have c9 : W0.drew.cell? ⟨w.heap.size, 9, none⟩ = some (.bool false) := Ev.cell_row hP 9
  have c10 : W0.drew.cell? ⟨w.heap.size, 10, none⟩ = some (.int .i64 e) := Ev.cell_row hP 10
  ((first | (refine takeT 0 (v := ?_) rfl (by decide +kernel) (by decide +kernel) (by decide +kernel) (fun _ _ _ h => h) (by decide +kernel) (Or.inl ⟨by rfl, ?_⟩) ?_; rotate_left 1; (focus (intro W hW; have hcW := hW.at; (try dsimp only at hcW); go_simp; first | done | with_reducible rfl)); try simp only [Act.put, List.setIfInBounds_toArray, List.set_cons_zero, List.set_cons_succ]) | (refine takeW 0 (v := ?_) rfl (by decide +kernel) (by decide +kernel) (by decide +kernel) (fun _ _ _ h => h) (Or.inl ⟨by rfl, ?_⟩) ?_; rotate_left 1; (focus (intro W hW; go_simp; first | done | with_reducible rfl)); try simp only [Act.put, List.setIfInBounds_toArray, List.set_cons_zero, List.set_cons_succ]) | (refine takeW 0 rfl (by decide +kernel) (by decide +kernel) (by decide +kernel) (fun _ _ _ h => h) (Or.inr ⟨by rfl, rfl⟩) ?_; try simp only [Act.put, List.setIfInBounds_toArray, List.set_cons_zero, List.set_cons_succ]) | skip); (first | (refine takeT 3 (v := ?_) rfl (by decide +kernel) (by decide +kernel) (by decide +kernel) (fun _ _ _ h => h) (by decide +kernel) (Or.inl ⟨by rfl, ?_⟩) ?_; rotate_left 1; (focus (intro W hW; have hcW := hW.at; (try dsimp only at hcW); go_simp; first | done | with_reducible rfl)); try simp only [Act.put, List.setIfInBounds_toArray, List.set_cons_zero, List.set_cons_succ]) | (refine takeW 3 (v := ?_) rfl (by decide +kernel) (by decide +kernel) (by decide +kernel) (fun _ _ _ h => h) (Or.inl ⟨by rfl, ?_⟩) ?_; rotate_left 1; (focus (intro W hW; go_simp; first | done | with_reducible rfl)); try simp only [Act.put, List.setIfInBounds_toArray, List.set_cons_zero, List.set_cons_succ]) | (refine takeW 3 rfl (by decide +kernel) (by decide +kernel) (by decide +kernel) (fun _ _ _ h => h) (Or.inr ⟨by rfl, rfl⟩) ?_; try simp only [Act.put, List.setIfInBounds_toArray, List.set_cons_zero, List.set_cons_succ]) | skip))
  clear c0 c1 c2 c3 c4 c5 c6 c7 c8 c9 c10
  refine stepT 1 rfl (by decide +kernel) (by rfl) (fun K hK => ?_)
  go_simp
  refine (dir_in W0.drew _ _ _ _ _ _ _ _ _ _ _ _).mono ?_
  rintro r w2 ⟨rfl, b2⟩
  replace b2 : Below W0.heap.size W0 w2 := below_undrew b2
  refine hK _ _ (.inr fun a ha => b2.cell (by have : a.block = w.heap.size := ha; omega)) ?_
  clear hK K
  try simp only [Act.put, List.setIfInBounds_toArray, List.set_cons_zero, List.set_cons_succ]
  have z2 : w.heap.size + 3 ≤ w2.heap.size := by have := b2.size; omega
  replace b2 := Lib.hid b2
  refine stepT 2 rfl (by decide +kernel) (by rfl) (fun K hK => ?_)
  go_simp
  refine hK _ _ (.inr (Sm.refl _ _)) ?_
  clear hK K
  try simp only [Act.put, List.setIfInBounds_toArray, List.set_cons_zero, List.set_cons_succ]
  refine stepT 4 rfl (by decide +kernel) (by rfl) (fun K hK => ?_)
  go_simp
  refine (read_any w2 _ _ _ _ _ _ _ _ _ _ _ _).mono ?_
  rintro r w3 ⟨⟨q1, q2, q3, q4, q5, q6, q7, q8, q9, rfl⟩, b3⟩
  refine hK _ _ (.inr fun a ha => b3.cell (by have : a.block = w.heap.size := ha; omega)) ?_
  clear hK K
  try simp only [Act.put, List.setIfInBounds_toArray, List.set_cons_zero, List.set_cons_succ]
  have hR3 : w3.heap[w.heap.size + 1]? = some _ := (b3.block _ (by omega)).trans ((b2.out.block _ (by omega)).trans hR)
  have hb3 : Below w.heap.size w w3 := hB.out.trans ((b2.out.mono (by omega)).trans (b3.mono (by omega)))
  clear hR hP b3 b2 hB
  have hF := putAll_same [.int .u8 q1, .int .u8 q2, .int .u8 q3, .bool q4, .bool q5, .int .i64 q6, .slice q7 q8 q9] 0 w3 _ hR3
  have hG := putAll_below (B := w.heap.size + 1) (by omega) [.int .u8 q1, .int .u8 q2, .int .u8 q3, .bool q4, .bool q5, .int .i64 q6, .slice q7 q8 q9] 0 w3 hb3
  simp only [putAll, setAll, Nat.zero_add, Nat.reduceAdd, List.setIfInBounds_toArray, List.set_cons_zero, List.set_cons_succ] at hF hG
  replace hF := Lib.hid hF
  replace hG := Lib.hid hG
  have r0 : w3.cell? ⟨w.heap.size + 1, 0, none⟩ = some (.int .u8 0) := Ev.cell_row hR3 0
  have r1 : w3.cell? ⟨w.heap.size + 1, 1, none⟩ = some (.int .u8 0) := Ev.cell_row hR3 1
  have r2 : w3.cell? ⟨w.heap.size + 1, 2, none⟩ = some (.int .u8 0) := Ev.cell_row hR3 2
  have r3 : w3.cell? ⟨w.heap.size + 1, 3, none⟩ = some (.bool false) := Ev.cell_row hR3 3
  have r4 : w3.cell? ⟨w.heap.size + 1, 4, none⟩ = some (.bool false) := Ev.cell_row hR3 4
  have r5 : w3.cell? ⟨w.heap.size + 1, 5, none⟩ = some (.int .i64 0) := Ev.cell_row hR3 5
  have r6 : w3.cell? ⟨w.heap.size + 1, 6, none⟩ = some (.slice none 0 0) := Ev.cell_row hR3 6
  have fR : ∀ i, w3.frozen? ⟨w.heap.size + 1, i, none⟩ = false := fun i => by simp [World.frozen?, hR3]
  clear hR3 hb3
  refine stepT 5 rfl (by decide +kernel) (by rfl) (fun K hK => ?_)
  go_simp
  refine hK _ _ (.inl (by simp)) ?_
  clear hK K
  try simp only [Act.put, List.setIfInBounds_toArray, List.set_cons_zero, List.set_cons_succ]
  refine stepT 6 rfl (by decide +kernel) (by rfl) (fun K hK => ?_)
  go_simp
  refine hK _ _ (.inr (Sm.refl _ _)) ?_
  clear hK K
  try simp only [Act.put, List.setIfInBounds_toArray, List.set_cons_zero, List.set_cons_succ]
  refine doneT (by kernel_rfl) ?_
  go_wp2
  refine bodyPost_ret (results_cell_row_tmp rfl _ _ (w.heap.size + 1) _ _ _ _ rfl hF.out Try.underlying52 rfl (by kernel_rfl)) rfl ?_
  exact ⟨⟨_, _, _, _, _, _, _, _, _, rfl⟩, hG.out⟩
set_option maxHeartbeats 1000000 in
theorem next_out (w : World) (endp : Nat) (max len : Int) (A : Option Addr) (c : Nat) (pss : List (List UInt8)) (R : Option Addr) (tog : Bool) (act mis : Int) (e : Int) (hm : ¬ max = 0) (hrds : Rds w w.heap.size A c pss) (h0 : 0 < pss.length) (hlen : (pss.getD 0 []).length ≤ 1000000) :
    Calls Try.prog 16 #[trV false endp max len A pss.length c R tog act mis false e] w fun r w' => (∃ a b k d i m A n c, r = .returned (.tuple #[.agg #[.int .u8 a, .int .u8 b, .int .u8 k, .bool d, .bool i, .int .i64 m, .slice A n c], .bool true])) ∧ Below w.heap.size w w' := by
  replace hrds := Lib.hid hrds
  replace h0 := Lib.hid h0
  replace hlen := Lib.hid hlen
  go_enter Try.func16, Try.ntmps16
  go_wp2_with (go_at_call 31; refine (under_any _ _ _ _ _ _ _ _ _ _ _ _ _ _ hm).mono ?_; rintro r w1 ⟨rfl, rfl⟩)
  have hB : Below w.heap.size w (((w.alloc (.cells #[.bool false, .int .u8 endp, .int .i64 max, .int .i64 len, .slice A pss.length c, .pointer R, .bool tog, .int .i64 act, .int .i64 mis, .bool false, .int .i64 e] 42)).alloc (.cells #[.int .u8 0, .int .u8 0, .int .u8 0, .bool false, .bool false, .int .i64 0, .slice none 0 0] 52)).alloc (.cells #[.bool false, .int .u8 endp, .int .i64 max, .int .i64 len, .slice A pss.length c, .pointer R, .bool tog, .int .i64 act, .int .i64 mis, .bool false, .int .i64 e] 42)) := (((Below.refl _ w).alloc (Nat.le_refl _) _).alloc (by first | (simp; done) | (simp; omega)) _).alloc (by first | (simp; done) | (simp; omega)) _
  have hS : (((w.alloc (.cells #[.bool false, .int .u8 endp, .int .i64 max, .int .i64 len, .slice A pss.length c, .pointer R, .bool tog, .int .i64 act, .int .i64 mis, .bool false, .int .i64 e] 42)).alloc (.cells #[.int .u8 0, .int .u8 0, .int .u8 0, .bool false, .bool false, .int .i64 0, .slice none 0 0] 52)).alloc (.cells #[.bool false, .int .u8 endp, .int .i64 max, .int .i64 len, .slice A pss.length c, .pointer R, .bool tog, .int .i64 act, .int .i64 mis, .bool false, .int .i64 e] 42)).heap.size = w.heap.size + 3 := by simp
  have hR := heap3 w (.cells #[.bool false, .int .u8 endp, .int .i64 max, .int .i64 len, .slice A pss.length c, .pointer R, .bool tog, .int .i64 act, .int .i64 mis, .bool false, .int .i64 e] 42) (.cells #[.int .u8 0, .int .u8 0, .int .u8 0, .bool false, .bool false, .int .i64 0, .slice none 0 0] 52) (.cells #[.bool false, .int .u8 endp, .int .i64 max, .int .i64 len, .slice A pss.length c, .pointer R, .bool tog, .int .i64 act, .int .i64 mis, .bool false, .int .i64 e] 42)
  have hP : (((w.alloc (.cells #[.bool false, .int .u8 endp, .int .i64 max, .int .i64 len, .slice A pss.length c, .pointer R, .bool tog, .int .i64 act, .int .i64 mis, .bool false, .int .i64 e] 42)).alloc (.cells #[.int .u8 0, .int .u8 0, .int .u8 0, .bool false, .bool false, .int .i64 0, .slice none 0 0] 52)).alloc (.cells #[.bool false, .int .u8 endp, .int .i64 max, .int .i64 len, .slice A pss.length c, .pointer R, .bool tog, .int .i64 act, .int .i64 mis, .bool false, .int .i64 e] 42)).heap[w.heap.size]? = some (.cells #[.bool false, .int .u8 endp, .int .i64 max, .int .i64 len, .slice A pss.length c, .pointer R, .bool tog, .int .i64 act, .int .i64 mis, .bool false, .int .i64 e] 42 (0, 0)) := heapN (heapN (heap_alloc_new w _) _ (by first | (simp; done) | (simp; omega))) _ (by first | (simp; done) | (simp; omega))
  generalize ((w.alloc (.cells #[.bool false, .int .u8 endp, .int .i64 max, .int .i64 len, .slice A pss.length c, .pointer R, .bool tog, .int .i64 act, .int .i64 mis, .bool false, .int .i64 e] 42)).alloc (.cells #[.int .u8 0, .int .u8 0, .int .u8 0, .bool false, .bool false, .int .i64 0, .slice none 0 0] 52)).alloc (.cells #[.bool false, .int .u8 endp, .int .i64 max, .int .i64 len, .slice A pss.length c, .pointer R, .bool tog, .int .i64 act, .int .i64 mis, .bool false, .int .i64 e] 42) = W0 at *
  replace hB := Lib.hid hB
  refine startT (S := fun a => a.block = w.heap.size) (T := [5]) 7 (l := #[false, false, false, false, false, false, false]) (by kernel_rfl) rfl rfl ?_
  have c0 : W0.drew.cell? ⟨w.heap.size, 0, none⟩ = some (.bool false) := Ev.cell_row hP 0
  have c1 : W0.drew.cell? ⟨w.heap.size, 1, none⟩ = some (.int .u8 endp) := Ev.cell_row hP 1
  have c2 : W0.drew.cell? ⟨w.heap.size, 2, none⟩ = some (.int .i64 max) := Ev.cell_row hP 2
  have c3 : W0.drew.cell? ⟨w.heap.size, 3, none⟩ = some (.int .i64 len) := Ev.cell_row hP 3
  have c4 : W0.drew.cell? ⟨w.heap.size, 4, none⟩ = some (.slice A pss.length c) := Ev.cell_row hP 4
  have c5 : W0.drew.cell? ⟨w.heap.size, 5, none⟩ = some (.pointer R) := Ev.cell_row hP 5
  have c6 : W0.drew.cell? ⟨w.heap.size, 6, none⟩ = some (.bool tog) := Ev.cell_row hP 6
  have c7 : W0.drew.cell? ⟨w.heap.size, 7, none⟩ = some (.int .i64 act) := Ev.cell_row hP 7
  have c8 : W0.drew.cell? ⟨w.heap.size, 8, none⟩ = some (.int .i64 mis) := Ev.cell_row hP 8
  have c9 : W0.drew.cell? ⟨w.heap.size, 9, none⟩ = some (.bool false) := Ev.cell_row hP 9
  have c10 : W0.drew.cell? ⟨w.heap.size, 10, none⟩ = some (.int .i64 e) := Ev.cell_row hP 10
  ((first | (refine takeT 0 (v := ?_) rfl (by decide +kernel) (by decide +kernel) (by decide +kernel) (fun _ _ _ h => h) (by decide +kernel) (Or.inl ⟨by rfl, ?_⟩) ?_; rotate_left 1; (focus (intro W hW; have hcW := hW.at; (try dsimp only at hcW); go_simp; first | done | with_reducible rfl)); try simp only [Act.put, List.setIfInBounds_toArray, List.set_cons_zero, List.set_cons_succ]) | (refine takeW 0 (v := ?_) rfl (by decide +kernel) (by decide +kernel) (by decide +kernel) (fun _ _ _ h => h) (Or.inl ⟨by rfl, ?_⟩) ?_; rotate_left 1; (focus (intro W hW; go_simp; first | done | with_reducible rfl)); try simp only [Act.put, List.setIfInBounds_toArray, List.set_cons_zero, List.set_cons_succ]) | (refine takeW 0 rfl (by decide +kernel) (by decide +kernel) (by decide +kernel) (fun _ _ _ h => h) (Or.inr ⟨by rfl, rfl⟩) ?_; try simp only [Act.put, List.setIfInBounds_toArray, List.set_cons_zero, List.set_cons_succ]) | skip); (first | (refine takeT 3 (v := ?_) rfl (by decide +kernel) (by decide +kernel) (by decide +kernel) (fun _ _ _ h => h) (by decide +kernel) (Or.inl ⟨by rfl, ?_⟩) ?_; rotate_left 1; (focus (intro W hW; have hcW := hW.at; (try dsimp only at hcW); go_simp; first | done | with_reducible rfl)); try simp only [Act.put, List.setIfInBounds_toArray, List.set_cons_zero, List.set_cons_succ]) | (refine takeW 3 (v := ?_) rfl (by decide +kernel) (by decide +kernel) (by decide +kernel) (fun _ _ _ h => h) (Or.inl ⟨by rfl, ?_⟩) ?_; rotate_left 1; (focus (intro W hW; go_simp; first | done | with_reducible rfl)); try simp only [Act.put, List.setIfInBounds_toArray, List.set_cons_zero, List.set_cons_succ]) | (refine takeW 3 rfl (by decide +kernel) (by decide +kernel) (by decide +kernel) (fun _ _ _ h => h) (Or.inr ⟨by rfl, rfl⟩) ?_; try simp only [Act.put, List.setIfInBounds_toArray, List.set_cons_zero, List.set_cons_succ]) | skip))
  clear c0 c1 c2 c3 c4 c5 c6 c7 c8 c9 c10
  refine stepT 1 rfl (by decide +kernel) (by rfl) (fun K hK => ?_)
  go_simp
  refine (dir_out W0.drew _ _ _ _ _ _ _ _ _ _ _ _).mono ?_
  rintro r w2 ⟨rfl, b2⟩
  replace b2 : Below W0.heap.size W0 w2 := below_undrew b2
  refine hK _ _ (.inr fun a ha => b2.cell (by have : a.block = w.heap.size := ha; omega)) ?_
  clear hK K
  try simp only [Act.put, List.setIfInBounds_toArray, List.set_cons_zero, List.set_cons_succ]
  have z2 : w.heap.size + 3 ≤ w2.heap.size := by have := b2.size; omega
  replace b2 := Lib.hid b2
  refine stepT 2 rfl (by decide +kernel) (by rfl) (fun K hK => ?_)
  go_simp
  refine hK _ _ (.inr (Sm.refl _ _)) ?_
  clear hK K
  try simp only [Act.put, List.setIfInBounds_toArray, List.set_cons_zero, List.set_cons_succ]
  refine stepT 4 rfl (by decide +kernel) (by rfl) (fun K hK => ?_)
  go_simp
  refine (write_any w2 _ _ _ _ _ _ _ _ _ _ _ _ ((hrds.out.below (hB.out.trans (b2.out.mono (by omega)))).more (by omega)) h0.out hlen.out).mono ?_
  rintro r w3 ⟨⟨q1, q2, q3, q4, q5, q6, q7, q8, q9, rfl⟩, b3⟩
  refine hK _ _ (.inr fun a ha => b3.cell (by have : a.block = w.heap.size := ha; omega)) ?_
  clear hK K
  try simp only [Act.put, List.setIfInBounds_toArray, List.set_cons_zero, List.set_cons_succ]
  have hR3 : w3.heap[w.heap.size + 1]? = some _ := (b3.block _ (by omega)).trans ((b2.out.block _ (by omega)).trans hR)
  have hb3 : Below w.heap.size w w3 := hB.out.trans ((b2.out.mono (by omega)).trans (b3.mono (by omega)))
  clear hR hP b3 b2 hB
  have hF := putAll_same [.int .u8 q1, .int .u8 q2, .int .u8 q3, .bool q4, .bool q5, .int .i64 q6, .slice q7 q8 q9] 0 w3 _ hR3
  have hG := putAll_below (B := w.heap.size + 1) (by omega) [.int .u8 q1, .int .u8 q2, .int .u8 q3, .bool q4, .bool q5, .int .i64 q6, .slice q7 q8 q9] 0 w3 hb3
  simp only [putAll, setAll, Nat.zero_add, Nat.reduceAdd, List.setIfInBounds_toArray, List.set_cons_zero, List.set_cons_succ] at hF hG
  replace hF := Lib.hid hF
  replace hG := Lib.hid hG
  have r0 : w3.cell? ⟨w.heap.size + 1, 0, none⟩ = some (.int .u8 0) := Ev.cell_row hR3 0
  have r1 : w3.cell? ⟨w.heap.size + 1, 1, none⟩ = some (.int .u8 0) := Ev.cell_row hR3 1
  have r2 : w3.cell? ⟨w.heap.size + 1, 2, none⟩ = some (.int .u8 0) := Ev.cell_row hR3 2
  have r3 : w3.cell? ⟨w.heap.size + 1, 3, none⟩ = some (.bool false) := Ev.cell_row hR3 3
  have r4 : w3.cell? ⟨w.heap.size + 1, 4, none⟩ = some (.bool false) := Ev.cell_row hR3 4
  have r5 : w3.cell? ⟨w.heap.size + 1, 5, none⟩ = some (.int .i64 0) := Ev.cell_row hR3 5
  have r6 : w3.cell? ⟨w.heap.size + 1, 6, none⟩ = some (.slice none 0 0) := Ev.cell_row hR3 6
  have fR : ∀ i, w3.frozen? ⟨w.heap.size + 1, i, none⟩ = false := fun i => by simp [World.frozen?, hR3]
  clear hR3 hb3
  refine stepT 5 rfl (by decide +kernel) (by rfl) (fun K hK => ?_)
  go_simp
  refine hK _ _ (.inl (by simp)) ?_
  clear hK K
  try simp only [Act.put, List.setIfInBounds_toArray, List.set_cons_zero, List.set_cons_succ]
  refine stepT 6 rfl (by decide +kernel) (by rfl) (fun K hK => ?_)
  go_simp
  refine hK _ _ (.inr (Sm.refl _ _)) ?_
  clear hK K
  try simp only [Act.put, List.setIfInBounds_toArray, List.set_cons_zero, List.set_cons_succ]
  refine doneT (by kernel_rfl) ?_
  go_wp2
  refine bodyPost_ret (results_cell_row_tmp rfl _ _ (w.heap.size + 1) _ _ _ _ rfl hF.out Try.underlying52 rfl (by kernel_rfl)) rfl ?_
  exact ⟨⟨_, _, _, _, _, _, _, _, _, rfl⟩, hG.out⟩
end Go.Proofs.Ytfaocndelibadaa

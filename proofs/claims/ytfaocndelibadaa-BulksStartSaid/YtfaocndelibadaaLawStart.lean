/-
  Helper text: BulksStart; no statement is proved here.
-/
import Derived.Test.YtfaocndelibadaaNext
import Derived.Test.YtfaocndelibadaaApiM
namespace Go.Proofs.Ytfaocndelibadaa
open Go Go.RowKit Go.Shelf
attribute [local go_sem] Oper.semAt_some

set_option maxHeartbeats 1000000 in
/-- More than 300 bytes. -/
theorem law_long (w : World) (inn : Bool) (endp : Nat) (max : Int) (tog : Bool) (A : Option Addr) (n c : Nat) (zero : Bool) (len : Int) (more : Nat) (h : 300 < (n : Int)) :
    Calls Try.prog 5 #[planV inn endp max tog A n c zero len, .int .u16 more] w fun r w' => r = .returned (.bool true) ∧ Below w.heap.size w w' := by
  go_enter Try.func5, Try.ntmps5
  go_wp2
  go_ret
  exact ⟨rfl, (Below.refl _ w).alloc (Nat.le_refl _) _⟩
theorem out_of {τ : Ev.Sg} {v : Ev.AV} {y : Value} (h : isOut v = true) (hv : Ev.V τ v y) : ∃ o A n c, y = .agg #[.int .u8 o, .slice A n c] := by
  unfold isOut at h
  split at h
  · obtain ⟨l, ⟨v1, l1, rfl, h1, v2, l2, rfl, h2, h3⟩, rfl⟩ := hv
    obtain rfl := h1
    obtain rfl := h3
    obtain ⟨b, o, n, _, k, rfl, _⟩ := h2
    exact ⟨_, _, _, _, rfl⟩
  · simp at h
theorem done_any (w : World) : Calls Try.prog 15 #[.int .i64 1] w fun r w' => (∃ o A n c, r = .returned (.agg #[.int .u8 o, .slice A n c])) ∧ Below w.heap.size w w' := by
  refine (by_mach doneM w [.int .i64 1] ⟨_, _, rfl, rfl, rfl⟩).mono ?_
  rintro e w' ⟨y, τ, v, rfl, h1, h2, h3⟩
  obtain ⟨o, A, n, c, rfl⟩ := out_of h2 h1
  exact ⟨⟨o, A, n, c, rfl⟩, h3⟩

set_option maxHeartbeats 2000000 in
/-- An error. -/
theorem law_err (w : World) (inn : Bool) (endp : Nat) (max : Int) (tog : Bool) (A : Option Addr) (n c : Nat) (zero : Bool) (len : Int) (more : Nat) (h : ¬ 300 < (n : Int)) (hm : ¬ (more : Int) % 8 = 0) (hv : okP inn endp max n zero len = false) :
    Calls Try.prog 5 #[planV inn endp max tog A n c zero len, .int .u16 more] w fun r w' => r = .returned (.bool true) ∧ Below w.heap.size w w' := by
  have he : errS inn endp max n zero len = 1 := by simp [errS, hv]
  have hE := fun (W : World) => refErr_any W inn endp max tog A n c zero len
  rw [he] at hE
  replace hE := Lib.hid hE
  replace hv := Lib.hid hv
  clear he
  go_enter Try.func5, Try.ntmps5
  have hS := Lib.hid fun (W : World) => start1 W inn zero endp max tog A n c len hv.out
  go_wp2_with (first
    | (go_at_call 12; refine (hE.out _).mono ?_; rintro r w1 ⟨rfl, hb1⟩; have hP1 := (hb1.block w.heap.size (by simp)).trans (heap_alloc_new w _); have p0 : w1.cell? ⟨w.heap.size, 0, none⟩ = some (.bool inn) := Ev.cell_row hP1 0; have p1 : w1.cell? ⟨w.heap.size, 1, none⟩ = some (.int .u8 endp) := Ev.cell_row hP1 1; have p2 : w1.cell? ⟨w.heap.size, 2, none⟩ = some (.int .i64 max) := Ev.cell_row hP1 2; have p3 : w1.cell? ⟨w.heap.size, 3, none⟩ = some (.bool tog) := Ev.cell_row hP1 3; have p4 : w1.cell? ⟨w.heap.size, 4, none⟩ = some (.slice A n c) := Ev.cell_row hP1 4; have p5 : w1.cell? ⟨w.heap.size, 5, none⟩ = some (.bool zero) := Ev.cell_row hP1 5; have p6 : w1.cell? ⟨w.heap.size, 6, none⟩ = some (.int .i64 len) := Ev.cell_row hP1 6; replace hb1 := Lib.hid hb1; replace hP1 := Lib.hid hP1)
    | (go_at_call 13; refine (hS.out _).mono ?_; rintro r w2 ⟨rfl, hb2⟩; replace hb2 := Lib.hid hb2; clear p0 p1 p2 p3 p4 p5 p6))
  have hz1 := hb1.out.size
  simp only [World.size_alloc] at hz1
  have hw2 : Below w.heap.size w w2 := ((Below.refl _ w).alloc (Nat.le_refl _) _).trans ((hb1.out.mono (by simp)).trans (hb2.out.mono (by omega)))
  have hz2 : w.heap.size ≤ w2.heap.size := hw2.size
  have hT := heap_alloc_new w2 (.cells #[.bool false, .int .u8 0, .int .i64 0, .int .i64 0, .slice none 0 0, .pointer none, .bool false, .int .i64 0, .int .i64 0, .bool false, .int .i64 0] 42)
  have hB4 : Below w.heap.size w (w2.alloc (.cells #[.bool false, .int .u8 0, .int .i64 0, .int .i64 0, .slice none 0 0, .pointer none, .bool false, .int .i64 0, .int .i64 0, .bool false, .int .i64 0] 42)) := Below.alloc (hw2) (hz2) _
  have hS4 : (w2.alloc (.cells #[.bool false, .int .u8 0, .int .i64 0, .int .i64 0, .slice none 0 0, .pointer none, .bool false, .int .i64 0, .int .i64 0, .bool false, .int .i64 0] 42)).heap.size = w2.heap.size + 1 := by simp
  generalize hg : w2.heap.size = g at hT hS4 ⊢
  have hg0 : w.heap.size ≤ g := by rw [← hg]; exact (hz2)
  generalize w2.alloc (.cells #[.bool false, .int .u8 0, .int .i64 0, .int .i64 0, .slice none 0 0, .pointer none, .bool false, .int .i64 0, .int .i64 0, .bool false, .int .i64 0] 42) = W4 at *
  replace hB4 := Lib.hid hB4
  replace hg0 := Lib.hid hg0
  refine startT (S := fun a => a.block = g) (T := [3]) 4 (l := #[false, false, false, false]) (by kernel_rfl) rfl rfl ?_
  have c0 : W4.drew.cell? ⟨g, 0, none⟩ = some (.bool false) := Ev.cell_row hT 0
  have c1 : W4.drew.cell? ⟨g, 1, none⟩ = some (.int .u8 0) := Ev.cell_row hT 1
  have c2 : W4.drew.cell? ⟨g, 2, none⟩ = some (.int .i64 0) := Ev.cell_row hT 2
  have c3 : W4.drew.cell? ⟨g, 3, none⟩ = some (.int .i64 0) := Ev.cell_row hT 3
  have c4 : W4.drew.cell? ⟨g, 4, none⟩ = some (.slice none 0 0) := Ev.cell_row hT 4
  have c5 : W4.drew.cell? ⟨g, 5, none⟩ = some (.pointer none) := Ev.cell_row hT 5
  have c6 : W4.drew.cell? ⟨g, 6, none⟩ = some (.bool false) := Ev.cell_row hT 6
  have c7 : W4.drew.cell? ⟨g, 7, none⟩ = some (.int .i64 0) := Ev.cell_row hT 7
  have c8 : W4.drew.cell? ⟨g, 8, none⟩ = some (.int .i64 0) := Ev.cell_row hT 8
  have c9 : W4.drew.cell? ⟨g, 9, none⟩ = some (.bool false) := Ev.cell_row hT 9
  have c10 : W4.drew.cell? ⟨g, 10, none⟩ = some (.int .i64 0) := Ev.cell_row hT 10
  ((first | (refine takeT 0 (v := ?_) rfl (by decide +kernel) (by decide +kernel) (by decide +kernel) (fun _ _ _ h => h) (by decide +kernel) (Or.inl ⟨by rfl, ?_⟩) ?_; rotate_left 1; (focus (intro W hW; have hcW := hW.at; (try dsimp only at hcW); go_simp; first | done | with_reducible rfl)); try simp only [Act.put, List.setIfInBounds_toArray, List.set_cons_zero, List.set_cons_succ]) | (refine takeW 0 (v := ?_) rfl (by decide +kernel) (by decide +kernel) (by decide +kernel) (fun _ _ _ h => h) (Or.inl ⟨by rfl, ?_⟩) ?_; rotate_left 1; (focus (intro W hW; go_simp; first | done | with_reducible rfl)); try simp only [Act.put, List.setIfInBounds_toArray, List.set_cons_zero, List.set_cons_succ]) | (refine takeW 0 rfl (by decide +kernel) (by decide +kernel) (by decide +kernel) (fun _ _ _ h => h) (Or.inr ⟨by rfl, rfl⟩) ?_; try simp only [Act.put, List.setIfInBounds_toArray, List.set_cons_zero, List.set_cons_succ]) | skip))
  clear c0 c1 c2 c3 c4 c5 c6 c7 c8 c9 c10
  refine stepT 1 rfl (by decide +kernel) (by rfl) (fun K hK => ?_)
  go_simp
  refine (done_any W4.drew).mono ?_
  rintro r w5 ⟨⟨o5, A5, n5, k5, rfl⟩, hb5⟩
  replace hb5 : Below W4.heap.size W4 w5 := below_undrew hb5
  have hz5 : g + 1 ≤ w5.heap.size := by have := hb5.size; omega
  refine hK _ _ (.inr fun a ha => hb5.cell (by have : a.block = g := ha; omega)) ?_
  clear hK K
  try simp only [Act.put, List.setIfInBounds_toArray, List.set_cons_zero, List.set_cons_succ]
  refine stepT 2 rfl (by decide +kernel) (by rfl) (fun K hK => ?_)
  go_simp
  refine (answer_zero w5 o5 A5 n5 k5).mono ?_
  rintro r w6 ⟨rfl, hb6⟩
  refine hK _ _ (.inr fun a ha => hb6.cell (by have : a.block = g := ha; omega)) ?_
  clear hK K
  try simp only [Act.put, List.setIfInBounds_toArray, List.set_cons_zero, List.set_cons_succ]
  have hT6 : w6.heap[g]? = some _ := (hb6.block _ (by omega)).trans ((hb5.block _ (by omega)).trans hT)
  have hb46 : Below w.heap.size w w6 := hB4.out.trans ((hb5.mono (by have := hg0.out; omega)).trans (hb6.mono (by have := hg0.out; omega)))
  have hz6 : g + 1 ≤ w6.heap.size := by have := hb6.size; omega
  have hF := putAll_same [.bool false, .int .u8 0, .int .i64 0, .int .i64 0, .slice none 0 0, .pointer none, .bool false, .int .i64 0, .int .i64 0, .bool false, .int .i64 0] 0 w6 _ hT6
  have hG := putAll_below hg0.out [.bool false, .int .u8 0, .int .i64 0, .int .i64 0, .slice none 0 0, .pointer none, .bool false, .int .i64 0, .int .i64 0, .bool false, .int .i64 0] 0 w6 hb46
  have hZ := putAll_size (B := g) [.bool false, .int .u8 0, .int .i64 0, .int .i64 0, .slice none 0 0, .pointer none, .bool false, .int .i64 0, .int .i64 0, .bool false, .int .i64 0] 0 w6
  simp only [putAll, setAll, Nat.zero_add, Nat.reduceAdd, List.setIfInBounds_toArray, List.set_cons_zero, List.set_cons_succ] at hF hG hZ
  replace hF := Lib.hid hF
  replace hG := Lib.hid hG
  replace hZ := Lib.hid hZ
  have r0 : w6.cell? ⟨g, 0, none⟩ = some (.bool false) := Ev.cell_row hT6 0
  have r1 : w6.cell? ⟨g, 1, none⟩ = some (.int .u8 0) := Ev.cell_row hT6 1
  have r2 : w6.cell? ⟨g, 2, none⟩ = some (.int .i64 0) := Ev.cell_row hT6 2
  have r3 : w6.cell? ⟨g, 3, none⟩ = some (.int .i64 0) := Ev.cell_row hT6 3
  have r4 : w6.cell? ⟨g, 4, none⟩ = some (.slice none 0 0) := Ev.cell_row hT6 4
  have r5 : w6.cell? ⟨g, 5, none⟩ = some (.pointer none) := Ev.cell_row hT6 5
  have r6 : w6.cell? ⟨g, 6, none⟩ = some (.bool false) := Ev.cell_row hT6 6
  have r7 : w6.cell? ⟨g, 7, none⟩ = some (.int .i64 0) := Ev.cell_row hT6 7
  have r8 : w6.cell? ⟨g, 8, none⟩ = some (.int .i64 0) := Ev.cell_row hT6 8
  have r9 : w6.cell? ⟨g, 9, none⟩ = some (.bool false) := Ev.cell_row hT6 9
  have r10 : w6.cell? ⟨g, 10, none⟩ = some (.int .i64 0) := Ev.cell_row hT6 10

  have fR : ∀ i, w6.frozen? ⟨g, i, none⟩ = false := fun i => by simp [World.frozen?, hT6]
  clear hT6 hb46 hb5 hb6 hT
  refine stepT 3 rfl (by decide +kernel) (by rfl) (fun K hK => ?_)
  go_simp
  refine hK _ _ (.inl (by simp)) ?_
  clear hK K r0 r1 r2 r3 r4 r5 r6 r7 r8 r9 r10 fR
  try simp only [Act.put, List.setIfInBounds_toArray, List.set_cons_zero, List.set_cons_succ]
  refine doneT (by kernel_rfl) ?_
  generalize hW7 : (((((((((((w6).setCell ⟨g, 0, none⟩ (.bool false)).setCell ⟨g, 1, none⟩ (.int .u8 0)).setCell ⟨g, 2, none⟩ (.int .i64 0)).setCell ⟨g, 3, none⟩ (.int .i64 0)).setCell ⟨g, 4, none⟩ (.slice none 0 0)).setCell ⟨g, 5, none⟩ (.pointer none)).setCell ⟨g, 6, none⟩ (.bool false)).setCell ⟨g, 7, none⟩ (.int .i64 0)).setCell ⟨g, 8, none⟩ (.int .i64 0)).setCell ⟨g, 9, none⟩ (.bool false)).setCell ⟨g, 10, none⟩ (.int .i64 0) = W7 at hF hG hZ ⊢
  clear hW7
  have z7 : g < W7.heap.size := by have := hZ.out; omega
  have tW70 : W7.cell? ⟨g, 0, none⟩ = some (.bool false) := Ev.cell_row hF.out 0
  have tW71 : W7.cell? ⟨g, 1, none⟩ = some (.int .u8 0) := Ev.cell_row hF.out 1
  have tW72 : W7.cell? ⟨g, 2, none⟩ = some (.int .i64 0) := Ev.cell_row hF.out 2
  have tW73 : W7.cell? ⟨g, 3, none⟩ = some (.int .i64 0) := Ev.cell_row hF.out 3
  have tW74 : W7.cell? ⟨g, 4, none⟩ = some (.slice none 0 0) := Ev.cell_row hF.out 4
  have tW75 : W7.cell? ⟨g, 5, none⟩ = some (.pointer none) := Ev.cell_row hF.out 5
  have tW76 : W7.cell? ⟨g, 6, none⟩ = some (.bool false) := Ev.cell_row hF.out 6
  have tW77 : W7.cell? ⟨g, 7, none⟩ = some (.int .i64 0) := Ev.cell_row hF.out 7
  have tW78 : W7.cell? ⟨g, 8, none⟩ = some (.int .i64 0) := Ev.cell_row hF.out 8
  have tW79 : W7.cell? ⟨g, 9, none⟩ = some (.bool false) := Ev.cell_row hF.out 9
  have tW710 : W7.cell? ⟨g, 10, none⟩ = some (.int .i64 0) := Ev.cell_row hF.out 10
  go_wp2_with (first
    | (go_at_call 16; refine (next_zero _).mono ?_; rintro r w8 ⟨rfl, hb8⟩; have h8 := (hb8.block g (by first | omega | (simp; omega))).trans (by first | exact hF.out | exact (Below.heap_alloc _ _ g z7).trans hF.out); have z8 : g < w8.heap.size := Nat.lt_of_lt_of_le z7 (by have := hb8.size; first | omega | (simp at this; omega)); have tw80 : w8.cell? ⟨g, 0, none⟩ = some (.bool false) := Ev.cell_row (h8) 0; have tw81 : w8.cell? ⟨g, 1, none⟩ = some (.int .u8 0) := Ev.cell_row (h8) 1; have tw82 : w8.cell? ⟨g, 2, none⟩ = some (.int .i64 0) := Ev.cell_row (h8) 2; have tw83 : w8.cell? ⟨g, 3, none⟩ = some (.int .i64 0) := Ev.cell_row (h8) 3; have tw84 : w8.cell? ⟨g, 4, none⟩ = some (.slice none 0 0) := Ev.cell_row (h8) 4; have tw85 : w8.cell? ⟨g, 5, none⟩ = some (.pointer none) := Ev.cell_row (h8) 5; have tw86 : w8.cell? ⟨g, 6, none⟩ = some (.bool false) := Ev.cell_row (h8) 6; have tw87 : w8.cell? ⟨g, 7, none⟩ = some (.int .i64 0) := Ev.cell_row (h8) 7; have tw88 : w8.cell? ⟨g, 8, none⟩ = some (.int .i64 0) := Ev.cell_row (h8) 8; have tw89 : w8.cell? ⟨g, 9, none⟩ = some (.bool false) := Ev.cell_row (h8) 9; have tw810 : w8.cell? ⟨g, 10, none⟩ = some (.int .i64 0) := Ev.cell_row (h8) 10; replace hb8 := Lib.hid hb8; replace h8 := Lib.hid h8)
    | (go_at_call 17; refine (end_not _ _ _ _ _ _ _ _ _ _ _ _ _).mono ?_; rintro r w9 ⟨rfl, hb9⟩; have h9 := (hb9.block g (by first | omega | (simp; omega))).trans (by first | exact h8.out | exact (Below.heap_alloc _ _ g z8).trans h8.out); have z9 : g < w9.heap.size := Nat.lt_of_lt_of_le z8 (by have := hb9.size; first | omega | (simp at this; omega)); have tw90 : w9.cell? ⟨g, 0, none⟩ = some (.bool false) := Ev.cell_row (h9) 0; have tw91 : w9.cell? ⟨g, 1, none⟩ = some (.int .u8 0) := Ev.cell_row (h9) 1; have tw92 : w9.cell? ⟨g, 2, none⟩ = some (.int .i64 0) := Ev.cell_row (h9) 2; have tw93 : w9.cell? ⟨g, 3, none⟩ = some (.int .i64 0) := Ev.cell_row (h9) 3; have tw94 : w9.cell? ⟨g, 4, none⟩ = some (.slice none 0 0) := Ev.cell_row (h9) 4; have tw95 : w9.cell? ⟨g, 5, none⟩ = some (.pointer none) := Ev.cell_row (h9) 5; have tw96 : w9.cell? ⟨g, 6, none⟩ = some (.bool false) := Ev.cell_row (h9) 6; have tw97 : w9.cell? ⟨g, 7, none⟩ = some (.int .i64 0) := Ev.cell_row (h9) 7; have tw98 : w9.cell? ⟨g, 8, none⟩ = some (.int .i64 0) := Ev.cell_row (h9) 8; have tw99 : w9.cell? ⟨g, 9, none⟩ = some (.bool false) := Ev.cell_row (h9) 9; have tw910 : w9.cell? ⟨g, 10, none⟩ = some (.int .i64 0) := Ev.cell_row (h9) 10; replace hb9 := Lib.hid hb9; replace h9 := Lib.hid h9)
    | (go_at_call 18; refine (toggle_any _ _ _ _ _ _ _ _ _ _ _ _ _ _).mono ?_; rintro r w10 ⟨rfl, hb10⟩; have h10 := (hb10.block g (by first | omega | (simp; omega))).trans (by first | exact h9.out | exact (Below.heap_alloc _ _ g z9).trans h9.out); have z10 : g < w10.heap.size := Nat.lt_of_lt_of_le z9 (by have := hb10.size; first | omega | (simp at this; omega)); have tw100 : w10.cell? ⟨g, 0, none⟩ = some (.bool false) := Ev.cell_row (h10) 0; have tw101 : w10.cell? ⟨g, 1, none⟩ = some (.int .u8 0) := Ev.cell_row (h10) 1; have tw102 : w10.cell? ⟨g, 2, none⟩ = some (.int .i64 0) := Ev.cell_row (h10) 2; have tw103 : w10.cell? ⟨g, 3, none⟩ = some (.int .i64 0) := Ev.cell_row (h10) 3; have tw104 : w10.cell? ⟨g, 4, none⟩ = some (.slice none 0 0) := Ev.cell_row (h10) 4; have tw105 : w10.cell? ⟨g, 5, none⟩ = some (.pointer none) := Ev.cell_row (h10) 5; have tw106 : w10.cell? ⟨g, 6, none⟩ = some (.bool false) := Ev.cell_row (h10) 6; have tw107 : w10.cell? ⟨g, 7, none⟩ = some (.int .i64 0) := Ev.cell_row (h10) 7; have tw108 : w10.cell? ⟨g, 8, none⟩ = some (.int .i64 0) := Ev.cell_row (h10) 8; have tw109 : w10.cell? ⟨g, 9, none⟩ = some (.bool false) := Ev.cell_row (h10) 9; have tw1010 : w10.cell? ⟨g, 10, none⟩ = some (.int .i64 0) := Ev.cell_row (h10) 10; replace hb10 := Lib.hid hb10; replace h10 := Lib.hid h10)
    | (go_at_call 19; refine (errors_any _ _ _ _ _ _ _ _ _ _ _ _ _ _).mono ?_; rintro r w11 ⟨rfl, hb11⟩; replace hb11 := Lib.hid hb11)
    | (go_at_call 8; refine (lives_any _).mono ?_; rintro r w12 ⟨rfl, hb12⟩; replace hb12 := Lib.hid hb12))
  go_ret
  have e8 : Below w.heap.size w w8 := hG.out.trans (hb8.out.mono (by have := hG.out.size; omega))
  have e9 : Below w.heap.size w w9 := by
    have := e8.size
    first
      | exact (e8.alloc this _).trans (hb9.out.mono (by simp; omega))
      | exact e8.trans (hb9.out.mono this)
  have e10 : Below w.heap.size w w10 := by
    have := e9.size
    first
      | exact (e9.alloc this _).trans (hb10.out.mono (by simp; omega))
      | exact e9.trans (hb10.out.mono this)
  have e11 : Below w.heap.size w w11 := e10.trans (hb11.out.mono e10.size)
  exact ⟨rfl, e11.trans (hb12.out.mono e11.size)⟩
set_option maxHeartbeats 2000000 in
/-- An error. -/
theorem law_lim (w : World) (inn : Bool) (endp : Nat) (max : Int) (tog : Bool) (A : Option Addr) (n c : Nat) (zero : Bool) (len : Int) (more : Nat) (h : ¬ 300 < (n : Int)) (hm : ¬ (more : Int) % 8 = 0) (hv : okP inn endp max n zero len = true) (hl : 65536 < len) :
    Calls Try.prog 5 #[planV inn endp max tog A n c zero len, .int .u16 more] w fun r w' => r = .returned (.bool true) ∧ Below w.heap.size w w' := by
  have he : errS inn endp max n zero len = 3 := by (simp [errS, hv]; omega)
  have hE := fun (W : World) => refErr_any W inn endp max tog A n c zero len
  rw [he] at hE
  replace hE := Lib.hid hE
  replace hv := Lib.hid hv
  clear he
  go_enter Try.func5, Try.ntmps5
  have hS := Lib.hid fun (W : World) => start3 W inn zero endp max tog A n c len hv.out (by omega) hl
  go_wp2_with (first
    | (go_at_call 12; refine (hE.out _).mono ?_; rintro r w1 ⟨rfl, hb1⟩; have hP1 := (hb1.block w.heap.size (by simp)).trans (heap_alloc_new w _); have p0 : w1.cell? ⟨w.heap.size, 0, none⟩ = some (.bool inn) := Ev.cell_row hP1 0; have p1 : w1.cell? ⟨w.heap.size, 1, none⟩ = some (.int .u8 endp) := Ev.cell_row hP1 1; have p2 : w1.cell? ⟨w.heap.size, 2, none⟩ = some (.int .i64 max) := Ev.cell_row hP1 2; have p3 : w1.cell? ⟨w.heap.size, 3, none⟩ = some (.bool tog) := Ev.cell_row hP1 3; have p4 : w1.cell? ⟨w.heap.size, 4, none⟩ = some (.slice A n c) := Ev.cell_row hP1 4; have p5 : w1.cell? ⟨w.heap.size, 5, none⟩ = some (.bool zero) := Ev.cell_row hP1 5; have p6 : w1.cell? ⟨w.heap.size, 6, none⟩ = some (.int .i64 len) := Ev.cell_row hP1 6; replace hb1 := Lib.hid hb1; replace hP1 := Lib.hid hP1)
    | (go_at_call 13; refine (hS.out _).mono ?_; rintro r w2 ⟨rfl, hb2⟩; replace hb2 := Lib.hid hb2; clear p0 p1 p2 p3 p4 p5 p6))
  have hz1 := hb1.out.size
  simp only [World.size_alloc] at hz1
  have hw2 : Below w.heap.size w w2 := ((Below.refl _ w).alloc (Nat.le_refl _) _).trans ((hb1.out.mono (by simp)).trans (hb2.out.mono (by omega)))
  have hz2 : w.heap.size ≤ w2.heap.size := hw2.size
  have hT := heap_alloc_new w2 (.cells #[.bool false, .int .u8 0, .int .i64 0, .int .i64 0, .slice none 0 0, .pointer none, .bool false, .int .i64 0, .int .i64 0, .bool false, .int .i64 0] 42)
  have hB4 : Below w.heap.size w (w2.alloc (.cells #[.bool false, .int .u8 0, .int .i64 0, .int .i64 0, .slice none 0 0, .pointer none, .bool false, .int .i64 0, .int .i64 0, .bool false, .int .i64 0] 42)) := Below.alloc (hw2) (hz2) _
  have hS4 : (w2.alloc (.cells #[.bool false, .int .u8 0, .int .i64 0, .int .i64 0, .slice none 0 0, .pointer none, .bool false, .int .i64 0, .int .i64 0, .bool false, .int .i64 0] 42)).heap.size = w2.heap.size + 1 := by simp
  generalize hg : w2.heap.size = g at hT hS4 ⊢
  have hg0 : w.heap.size ≤ g := by rw [← hg]; exact (hz2)
  generalize w2.alloc (.cells #[.bool false, .int .u8 0, .int .i64 0, .int .i64 0, .slice none 0 0, .pointer none, .bool false, .int .i64 0, .int .i64 0, .bool false, .int .i64 0] 42) = W4 at *
  replace hB4 := Lib.hid hB4
  replace hg0 := Lib.hid hg0
  refine startT (S := fun a => a.block = g) (T := [3]) 4 (l := #[false, false, false, false]) (by kernel_rfl) rfl rfl ?_
  have c0 : W4.drew.cell? ⟨g, 0, none⟩ = some (.bool false) := Ev.cell_row hT 0
  have c1 : W4.drew.cell? ⟨g, 1, none⟩ = some (.int .u8 0) := Ev.cell_row hT 1
  have c2 : W4.drew.cell? ⟨g, 2, none⟩ = some (.int .i64 0) := Ev.cell_row hT 2
  have c3 : W4.drew.cell? ⟨g, 3, none⟩ = some (.int .i64 0) := Ev.cell_row hT 3
  have c4 : W4.drew.cell? ⟨g, 4, none⟩ = some (.slice none 0 0) := Ev.cell_row hT 4
  have c5 : W4.drew.cell? ⟨g, 5, none⟩ = some (.pointer none) := Ev.cell_row hT 5
  have c6 : W4.drew.cell? ⟨g, 6, none⟩ = some (.bool false) := Ev.cell_row hT 6
  have c7 : W4.drew.cell? ⟨g, 7, none⟩ = some (.int .i64 0) := Ev.cell_row hT 7
  have c8 : W4.drew.cell? ⟨g, 8, none⟩ = some (.int .i64 0) := Ev.cell_row hT 8
  have c9 : W4.drew.cell? ⟨g, 9, none⟩ = some (.bool false) := Ev.cell_row hT 9
  have c10 : W4.drew.cell? ⟨g, 10, none⟩ = some (.int .i64 0) := Ev.cell_row hT 10
  ((first | (refine takeT 0 (v := ?_) rfl (by decide +kernel) (by decide +kernel) (by decide +kernel) (fun _ _ _ h => h) (by decide +kernel) (Or.inl ⟨by rfl, ?_⟩) ?_; rotate_left 1; (focus (intro W hW; have hcW := hW.at; (try dsimp only at hcW); go_simp; first | done | with_reducible rfl)); try simp only [Act.put, List.setIfInBounds_toArray, List.set_cons_zero, List.set_cons_succ]) | (refine takeW 0 (v := ?_) rfl (by decide +kernel) (by decide +kernel) (by decide +kernel) (fun _ _ _ h => h) (Or.inl ⟨by rfl, ?_⟩) ?_; rotate_left 1; (focus (intro W hW; go_simp; first | done | with_reducible rfl)); try simp only [Act.put, List.setIfInBounds_toArray, List.set_cons_zero, List.set_cons_succ]) | (refine takeW 0 rfl (by decide +kernel) (by decide +kernel) (by decide +kernel) (fun _ _ _ h => h) (Or.inr ⟨by rfl, rfl⟩) ?_; try simp only [Act.put, List.setIfInBounds_toArray, List.set_cons_zero, List.set_cons_succ]) | skip))
  clear c0 c1 c2 c3 c4 c5 c6 c7 c8 c9 c10
  refine stepT 1 rfl (by decide +kernel) (by rfl) (fun K hK => ?_)
  go_simp
  refine (done_any W4.drew).mono ?_
  rintro r w5 ⟨⟨o5, A5, n5, k5, rfl⟩, hb5⟩
  replace hb5 : Below W4.heap.size W4 w5 := below_undrew hb5
  have hz5 : g + 1 ≤ w5.heap.size := by have := hb5.size; omega
  refine hK _ _ (.inr fun a ha => hb5.cell (by have : a.block = g := ha; omega)) ?_
  clear hK K
  try simp only [Act.put, List.setIfInBounds_toArray, List.set_cons_zero, List.set_cons_succ]
  refine stepT 2 rfl (by decide +kernel) (by rfl) (fun K hK => ?_)
  go_simp
  refine (answer_zero w5 o5 A5 n5 k5).mono ?_
  rintro r w6 ⟨rfl, hb6⟩
  refine hK _ _ (.inr fun a ha => hb6.cell (by have : a.block = g := ha; omega)) ?_
  clear hK K
  try simp only [Act.put, List.setIfInBounds_toArray, List.set_cons_zero, List.set_cons_succ]
  have hT6 : w6.heap[g]? = some _ := (hb6.block _ (by omega)).trans ((hb5.block _ (by omega)).trans hT)
  have hb46 : Below w.heap.size w w6 := hB4.out.trans ((hb5.mono (by have := hg0.out; omega)).trans (hb6.mono (by have := hg0.out; omega)))
  have hz6 : g + 1 ≤ w6.heap.size := by have := hb6.size; omega
  have hF := putAll_same [.bool false, .int .u8 0, .int .i64 0, .int .i64 0, .slice none 0 0, .pointer none, .bool false, .int .i64 0, .int .i64 0, .bool false, .int .i64 0] 0 w6 _ hT6
  have hG := putAll_below hg0.out [.bool false, .int .u8 0, .int .i64 0, .int .i64 0, .slice none 0 0, .pointer none, .bool false, .int .i64 0, .int .i64 0, .bool false, .int .i64 0] 0 w6 hb46
  have hZ := putAll_size (B := g) [.bool false, .int .u8 0, .int .i64 0, .int .i64 0, .slice none 0 0, .pointer none, .bool false, .int .i64 0, .int .i64 0, .bool false, .int .i64 0] 0 w6
  simp only [putAll, setAll, Nat.zero_add, Nat.reduceAdd, List.setIfInBounds_toArray, List.set_cons_zero, List.set_cons_succ] at hF hG hZ
  replace hF := Lib.hid hF
  replace hG := Lib.hid hG
  replace hZ := Lib.hid hZ
  have r0 : w6.cell? ⟨g, 0, none⟩ = some (.bool false) := Ev.cell_row hT6 0
  have r1 : w6.cell? ⟨g, 1, none⟩ = some (.int .u8 0) := Ev.cell_row hT6 1
  have r2 : w6.cell? ⟨g, 2, none⟩ = some (.int .i64 0) := Ev.cell_row hT6 2
  have r3 : w6.cell? ⟨g, 3, none⟩ = some (.int .i64 0) := Ev.cell_row hT6 3
  have r4 : w6.cell? ⟨g, 4, none⟩ = some (.slice none 0 0) := Ev.cell_row hT6 4
  have r5 : w6.cell? ⟨g, 5, none⟩ = some (.pointer none) := Ev.cell_row hT6 5
  have r6 : w6.cell? ⟨g, 6, none⟩ = some (.bool false) := Ev.cell_row hT6 6
  have r7 : w6.cell? ⟨g, 7, none⟩ = some (.int .i64 0) := Ev.cell_row hT6 7
  have r8 : w6.cell? ⟨g, 8, none⟩ = some (.int .i64 0) := Ev.cell_row hT6 8
  have r9 : w6.cell? ⟨g, 9, none⟩ = some (.bool false) := Ev.cell_row hT6 9
  have r10 : w6.cell? ⟨g, 10, none⟩ = some (.int .i64 0) := Ev.cell_row hT6 10

  have fR : ∀ i, w6.frozen? ⟨g, i, none⟩ = false := fun i => by simp [World.frozen?, hT6]
  clear hT6 hb46 hb5 hb6 hT
  refine stepT 3 rfl (by decide +kernel) (by rfl) (fun K hK => ?_)
  go_simp
  refine hK _ _ (.inl (by simp)) ?_
  clear hK K r0 r1 r2 r3 r4 r5 r6 r7 r8 r9 r10 fR
  try simp only [Act.put, List.setIfInBounds_toArray, List.set_cons_zero, List.set_cons_succ]
  refine doneT (by kernel_rfl) ?_
  generalize hW7 : (((((((((((w6).setCell ⟨g, 0, none⟩ (.bool false)).setCell ⟨g, 1, none⟩ (.int .u8 0)).setCell ⟨g, 2, none⟩ (.int .i64 0)).setCell ⟨g, 3, none⟩ (.int .i64 0)).setCell ⟨g, 4, none⟩ (.slice none 0 0)).setCell ⟨g, 5, none⟩ (.pointer none)).setCell ⟨g, 6, none⟩ (.bool false)).setCell ⟨g, 7, none⟩ (.int .i64 0)).setCell ⟨g, 8, none⟩ (.int .i64 0)).setCell ⟨g, 9, none⟩ (.bool false)).setCell ⟨g, 10, none⟩ (.int .i64 0) = W7 at hF hG hZ ⊢
  clear hW7
  have z7 : g < W7.heap.size := by have := hZ.out; omega
  have tW70 : W7.cell? ⟨g, 0, none⟩ = some (.bool false) := Ev.cell_row hF.out 0
  have tW71 : W7.cell? ⟨g, 1, none⟩ = some (.int .u8 0) := Ev.cell_row hF.out 1
  have tW72 : W7.cell? ⟨g, 2, none⟩ = some (.int .i64 0) := Ev.cell_row hF.out 2
  have tW73 : W7.cell? ⟨g, 3, none⟩ = some (.int .i64 0) := Ev.cell_row hF.out 3
  have tW74 : W7.cell? ⟨g, 4, none⟩ = some (.slice none 0 0) := Ev.cell_row hF.out 4
  have tW75 : W7.cell? ⟨g, 5, none⟩ = some (.pointer none) := Ev.cell_row hF.out 5
  have tW76 : W7.cell? ⟨g, 6, none⟩ = some (.bool false) := Ev.cell_row hF.out 6
  have tW77 : W7.cell? ⟨g, 7, none⟩ = some (.int .i64 0) := Ev.cell_row hF.out 7
  have tW78 : W7.cell? ⟨g, 8, none⟩ = some (.int .i64 0) := Ev.cell_row hF.out 8
  have tW79 : W7.cell? ⟨g, 9, none⟩ = some (.bool false) := Ev.cell_row hF.out 9
  have tW710 : W7.cell? ⟨g, 10, none⟩ = some (.int .i64 0) := Ev.cell_row hF.out 10
  go_wp2_with (first
    | (go_at_call 16; refine (next_zero _).mono ?_; rintro r w8 ⟨rfl, hb8⟩; have h8 := (hb8.block g (by first | omega | (simp; omega))).trans (by first | exact hF.out | exact (Below.heap_alloc _ _ g z7).trans hF.out); have z8 : g < w8.heap.size := Nat.lt_of_lt_of_le z7 (by have := hb8.size; first | omega | (simp at this; omega)); have tw80 : w8.cell? ⟨g, 0, none⟩ = some (.bool false) := Ev.cell_row (h8) 0; have tw81 : w8.cell? ⟨g, 1, none⟩ = some (.int .u8 0) := Ev.cell_row (h8) 1; have tw82 : w8.cell? ⟨g, 2, none⟩ = some (.int .i64 0) := Ev.cell_row (h8) 2; have tw83 : w8.cell? ⟨g, 3, none⟩ = some (.int .i64 0) := Ev.cell_row (h8) 3; have tw84 : w8.cell? ⟨g, 4, none⟩ = some (.slice none 0 0) := Ev.cell_row (h8) 4; have tw85 : w8.cell? ⟨g, 5, none⟩ = some (.pointer none) := Ev.cell_row (h8) 5; have tw86 : w8.cell? ⟨g, 6, none⟩ = some (.bool false) := Ev.cell_row (h8) 6; have tw87 : w8.cell? ⟨g, 7, none⟩ = some (.int .i64 0) := Ev.cell_row (h8) 7; have tw88 : w8.cell? ⟨g, 8, none⟩ = some (.int .i64 0) := Ev.cell_row (h8) 8; have tw89 : w8.cell? ⟨g, 9, none⟩ = some (.bool false) := Ev.cell_row (h8) 9; have tw810 : w8.cell? ⟨g, 10, none⟩ = some (.int .i64 0) := Ev.cell_row (h8) 10; replace hb8 := Lib.hid hb8; replace h8 := Lib.hid h8)
    | (go_at_call 17; refine (end_not _ _ _ _ _ _ _ _ _ _ _ _ _).mono ?_; rintro r w9 ⟨rfl, hb9⟩; have h9 := (hb9.block g (by first | omega | (simp; omega))).trans (by first | exact h8.out | exact (Below.heap_alloc _ _ g z8).trans h8.out); have z9 : g < w9.heap.size := Nat.lt_of_lt_of_le z8 (by have := hb9.size; first | omega | (simp at this; omega)); have tw90 : w9.cell? ⟨g, 0, none⟩ = some (.bool false) := Ev.cell_row (h9) 0; have tw91 : w9.cell? ⟨g, 1, none⟩ = some (.int .u8 0) := Ev.cell_row (h9) 1; have tw92 : w9.cell? ⟨g, 2, none⟩ = some (.int .i64 0) := Ev.cell_row (h9) 2; have tw93 : w9.cell? ⟨g, 3, none⟩ = some (.int .i64 0) := Ev.cell_row (h9) 3; have tw94 : w9.cell? ⟨g, 4, none⟩ = some (.slice none 0 0) := Ev.cell_row (h9) 4; have tw95 : w9.cell? ⟨g, 5, none⟩ = some (.pointer none) := Ev.cell_row (h9) 5; have tw96 : w9.cell? ⟨g, 6, none⟩ = some (.bool false) := Ev.cell_row (h9) 6; have tw97 : w9.cell? ⟨g, 7, none⟩ = some (.int .i64 0) := Ev.cell_row (h9) 7; have tw98 : w9.cell? ⟨g, 8, none⟩ = some (.int .i64 0) := Ev.cell_row (h9) 8; have tw99 : w9.cell? ⟨g, 9, none⟩ = some (.bool false) := Ev.cell_row (h9) 9; have tw910 : w9.cell? ⟨g, 10, none⟩ = some (.int .i64 0) := Ev.cell_row (h9) 10; replace hb9 := Lib.hid hb9; replace h9 := Lib.hid h9)
    | (go_at_call 18; refine (toggle_any _ _ _ _ _ _ _ _ _ _ _ _ _ _).mono ?_; rintro r w10 ⟨rfl, hb10⟩; have h10 := (hb10.block g (by first | omega | (simp; omega))).trans (by first | exact h9.out | exact (Below.heap_alloc _ _ g z9).trans h9.out); have z10 : g < w10.heap.size := Nat.lt_of_lt_of_le z9 (by have := hb10.size; first | omega | (simp at this; omega)); have tw100 : w10.cell? ⟨g, 0, none⟩ = some (.bool false) := Ev.cell_row (h10) 0; have tw101 : w10.cell? ⟨g, 1, none⟩ = some (.int .u8 0) := Ev.cell_row (h10) 1; have tw102 : w10.cell? ⟨g, 2, none⟩ = some (.int .i64 0) := Ev.cell_row (h10) 2; have tw103 : w10.cell? ⟨g, 3, none⟩ = some (.int .i64 0) := Ev.cell_row (h10) 3; have tw104 : w10.cell? ⟨g, 4, none⟩ = some (.slice none 0 0) := Ev.cell_row (h10) 4; have tw105 : w10.cell? ⟨g, 5, none⟩ = some (.pointer none) := Ev.cell_row (h10) 5; have tw106 : w10.cell? ⟨g, 6, none⟩ = some (.bool false) := Ev.cell_row (h10) 6; have tw107 : w10.cell? ⟨g, 7, none⟩ = some (.int .i64 0) := Ev.cell_row (h10) 7; have tw108 : w10.cell? ⟨g, 8, none⟩ = some (.int .i64 0) := Ev.cell_row (h10) 8; have tw109 : w10.cell? ⟨g, 9, none⟩ = some (.bool false) := Ev.cell_row (h10) 9; have tw1010 : w10.cell? ⟨g, 10, none⟩ = some (.int .i64 0) := Ev.cell_row (h10) 10; replace hb10 := Lib.hid hb10; replace h10 := Lib.hid h10)
    | (go_at_call 19; refine (errors_any _ _ _ _ _ _ _ _ _ _ _ _ _ _).mono ?_; rintro r w11 ⟨rfl, hb11⟩; replace hb11 := Lib.hid hb11)
    | (go_at_call 8; refine (lives_any _).mono ?_; rintro r w12 ⟨rfl, hb12⟩; replace hb12 := Lib.hid hb12))
  go_ret
  have e8 : Below w.heap.size w w8 := hG.out.trans (hb8.out.mono (by have := hG.out.size; omega))
  have e9 : Below w.heap.size w w9 := by
    have := e8.size
    first
      | exact (e8.alloc this _).trans (hb9.out.mono (by simp; omega))
      | exact e8.trans (hb9.out.mono this)
  have e10 : Below w.heap.size w w10 := by
    have := e9.size
    first
      | exact (e9.alloc this _).trans (hb10.out.mono (by simp; omega))
      | exact e9.trans (hb10.out.mono this)
  have e11 : Below w.heap.size w w11 := e10.trans (hb11.out.mono e10.size)
  exact ⟨rfl, e11.trans (hb12.out.mono e11.size)⟩
end Go.Proofs.Ytfaocndelibadaa

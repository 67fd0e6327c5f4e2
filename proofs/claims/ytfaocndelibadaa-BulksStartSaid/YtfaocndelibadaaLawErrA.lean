/-
  Helper text: BulksStart, many zeros more, and Start fails; no statement is proved here.
-/
import Derived.Test.YtfaocndelibadaaLawOutA
import Derived.Test.YtfaocndelibadaaLawStart
namespace Go.Proofs.Ytfaocndelibadaa
open Go Go.RowKit Go.Shelf
attribute [local go_sem] Oper.semAt_some

set_option maxHeartbeats 4000000 in
theorem law_errA (w : World) (inn : Bool) (endp : Nat) (max : Int) (tog : Bool) (A : Option Addr) (c : Nat) (xs : List UInt8) (zero : Bool) (len : Int) (more : Nat) (hmb : more < 65536) (hr : Rd w w.heap.size A c xs) (h : ¬ 300 < (xs.length : Int)) (hm : (more : Int) % 8 = 0) (hv : ∀ n, 65400 ≤ n → okP inn endp max n zero len = false) :
    Calls Try.prog 5 #[planV inn endp max tog A xs.length c zero len, .int .u16 more] w fun r w' => r = .returned (.bool true) ∧ Below w.heap.size w w' := by
  obtain ⟨q, hq⟩ : ∃ q : Nat, (more : Int) / 8 = (q : Int) := ⟨more / 8, by omega⟩
  obtain ⟨r3, hr3⟩ : ∃ r : Nat, (q : Int) % 300 = (r : Int) := ⟨q % 300, by omega⟩
  have hr3b : r3 < 300 := by omega
  have hqb : q < 65536 := by omega
  obtain ⟨K, hK⟩ : ∃ K : Nat, 65400 + (r3 : Int) = (K : Int) := ⟨65400 + r3, by omega⟩
  have hKb : K < 65700 ∧ 65400 ≤ K := by omega
  obtain ⟨ys, hys⟩ : ∃ ys, xs ++ List.replicate K (0 : UInt8) = ys := ⟨_, rfl⟩
  have hyl : ys.length = xs.length + K := by rw [← hys]; simp
  have hyb : 65400 ≤ ys.length ∧ ys.length ≤ 66000 := by omega
  have hv2 := hv ys.length (by omega)
  have he : errS inn endp max ys.length zero len = 1 := by simp [errS, hv2]
  have hE := fun (W : World) (A : Option Addr) (c : Nat) => refErr_any W inn endp max tog A ys.length c zero len
  rw [he] at hE
  replace hE := Lib.hid hE
  have hS := Lib.hid fun (W : World) (A : Option Addr) (c : Nat) => start1 W inn zero endp max tog A ys.length c len hv2
  replace hv2 := Lib.hid hv2
  clear he hv
  have ho : ((w.alloc (.cells #[.bool inn, .int .u8 endp, .int .i64 max, .bool tog, .slice A xs.length c, .bool zero, .int .i64 len] 37)).alloc (.cells #[] 5)).ownsRow (w.heap.size + 1) 5 1 (.slice (some ⟨w.heap.size + 1, 0, none⟩) 0 0) 0 (([] : List UInt8).map bv) := by
    have := own_built (w.alloc (.cells #[.bool inn, .int .u8 endp, .int .i64 max, .bool tog, .slice A xs.length c, .bool zero, .int .i64 len] 37)) 5 [] (by simp)
    simpa using this
  have hr1 : Rd ((w.alloc (.cells #[.bool inn, .int .u8 endp, .int .i64 max, .bool tog, .slice A xs.length c, .bool zero, .int .i64 len] 37)).alloc (.cells #[] 5)) w.heap.size A c xs := (hr.alloc (Nat.le_refl _) _).alloc (by simp) _
  have hb0 : Below w.heap.size w ((w.alloc (.cells #[.bool inn, .int .u8 endp, .int .i64 max, .bool tog, .slice A xs.length c, .bool zero, .int .i64 len] 37)).alloc (.cells #[] 5)) := ((Below.refl _ w).alloc (Nat.le_refl _) _).alloc (by simp) _
  have hPb : ((w.alloc (.cells #[.bool inn, .int .u8 endp, .int .i64 max, .bool tog, .slice A xs.length c, .bool zero, .int .i64 len] 37)).alloc (.cells #[] 5)).heap[w.heap.size]? = some (.cells #[.bool inn, .int .u8 endp, .int .i64 max, .bool tog, .slice A xs.length c, .bool zero, .int .i64 len] 37 (0, 0)) := heapN (heap_alloc_new w _) _ (by simp)
  replace hb0 := Lib.hid hb0
  replace hPb := Lib.hid hPb
  replace hyl := Lib.hid hyl
  replace hys := Lib.hid hys
  go_enter Try.func5, Try.ntmps5
  go_wp2_with (first
    | (at_builtin; refine wpl_appendN Try.underlying22 Try.infoU rfl (.tmp 23) (.tmp 25) rfl (w.heap.size + 1) _ [] rfl ho _ _ _ xs hr1 rfl (by simp; omega) (by simp) ?_; intro v1 u1 own1 hbu1; rw [List.nil_append] at own1; obtain ⟨A1, c1, rfl, hrd1⟩ := Rd.of_own own1; clear hrd1; have zu1 : w.heap.size + 2 ≤ u1.heap.size := (by have := hbu1.size; simp at this; omega); replace own1 := Lib.hid own1; replace hbu1 := Lib.hid hbu1; clear ho hr1)
    | (at_builtin; refine wpl_appendZeros Try.underlying22 Try.underlying3 Try.infoU rfl (.tmp 26) (.tmp 31) rfl (w.heap.size + 1) _ xs rfl own1.out K rfl (by omega) (by omega) ?_; intro v2 u2 own2 hbu2; rw [hys.out] at own2; obtain ⟨A2, kc2, rfl, hrd2⟩ := Rd.of_own own2; have hPu := (hbu2.block w.heap.size (by omega)).trans ((hbu1.out.block w.heap.size (by simp)).trans hPb.out); have pu0 : u2.cell? ⟨w.heap.size, 0, none⟩ = some (.bool inn) := Ev.cell_row hPu 0; have pu1 : u2.cell? ⟨w.heap.size, 1, none⟩ = some (.int .u8 endp) := Ev.cell_row hPu 1; have pu2 : u2.cell? ⟨w.heap.size, 2, none⟩ = some (.int .i64 max) := Ev.cell_row hPu 2; have pu3 : u2.cell? ⟨w.heap.size, 3, none⟩ = some (.bool tog) := Ev.cell_row hPu 3; have pu4 : u2.cell? ⟨w.heap.size, 4, none⟩ = some (.slice A xs.length c) := Ev.cell_row hPu 4; have pu5 : u2.cell? ⟨w.heap.size, 5, none⟩ = some (.bool zero) := Ev.cell_row hPu 5; have pu6 : u2.cell? ⟨w.heap.size, 6, none⟩ = some (.int .i64 len) := Ev.cell_row hPu 6; have fu : ∀ i, u2.frozen? ⟨w.heap.size, i, none⟩ = false := (fun i => by simp [World.frozen?, hPu]); have zu2 : w.heap.size + 2 ≤ u2.heap.size := Nat.le_trans zu1 hbu2.size; have hP0 := putAll_same [.slice A2 ys.length kc2] 4 u2 _ hPu; have hB0 := putAll_below (Nat.le_refl w.heap.size) [.slice A2 ys.length kc2] 4 u2 ((hb0.out.trans (hbu1.out.mono (by simp))).trans (hbu2.mono (by omega))); have hZ0 := putAll_size (B := w.heap.size) [.slice A2 ys.length kc2] 4 u2; have hD0 := hrd2; replace hD0 : Rd (u2.setCell ⟨w.heap.size, 4, none⟩ (.slice A2 ys.length kc2)) u2.heap.size A2 kc2 ys := rd_setOwn own2 (by omega) (by decide) _; simp only [putAll, setAll, List.setIfInBounds_toArray, List.set_cons_zero, List.set_cons_succ] at hP0 hB0 hZ0; replace hP0 := Lib.hid hP0; replace hB0 := Lib.hid hB0; replace hZ0 := Lib.hid hZ0; replace hD0 := Lib.hid hD0; replace hbu2 := Lib.hid hbu2; clear hrd2 own2 hPu)
    | (go_at_call 12; refine (hE.out _ _ _).mono ?_; rintro r w1 ⟨rfl, hb1⟩; clear pu0 pu1 pu2 pu3 pu4 pu5 pu6 fu; have hP1 := (hb1.block w.heap.size (by have := hZ0.out; omega)).trans hP0.out; have yp1 : w.heap.size < w1.heap.size := (by have := hb1.size; have := hZ0.out; omega); have p0 : w1.cell? ⟨w.heap.size, 0, none⟩ = some (.bool inn) := Ev.cell_row hP1 0; have p1 : w1.cell? ⟨w.heap.size, 1, none⟩ = some (.int .u8 endp) := Ev.cell_row hP1 1; have p2 : w1.cell? ⟨w.heap.size, 2, none⟩ = some (.int .i64 max) := Ev.cell_row hP1 2; have p3 : w1.cell? ⟨w.heap.size, 3, none⟩ = some (.bool tog) := Ev.cell_row hP1 3; have p4 : w1.cell? ⟨w.heap.size, 4, none⟩ = some (.slice A2 ys.length kc2) := Ev.cell_row hP1 4; have p5 : w1.cell? ⟨w.heap.size, 5, none⟩ = some (.bool zero) := Ev.cell_row hP1 5; have p6 : w1.cell? ⟨w.heap.size, 6, none⟩ = some (.int .i64 len) := Ev.cell_row hP1 6; replace hb1 := Lib.hid hb1; replace hP1 := Lib.hid hP1)
    | (go_at_call 13; refine (hS.out _ _ _).mono ?_; rintro r w2 ⟨rfl, hb2⟩; replace hb2 := Lib.hid hb2; clear p0 p1 p2 p3 p4 p5 p6))
  have hw2 : Below w.heap.size w w2 := (hB0.out.trans (hb1.out.mono (by have := hZ0.out; omega))).trans (hb2.out.mono (Nat.le_of_lt yp1))
  have hz2 : w.heap.size ≤ w2.heap.size := hw2.size
  have hT := heap_alloc_new w2 (.cells #[.bool false, .int .u8 0, .int .i64 0, .int .i64 0, .slice none 0 0, .pointer none, .bool false, .int .i64 0, .int .i64 0, .bool false, .int .i64 0] 42)
  have hB4 : Below w.heap.size w (w2.alloc (.cells #[.bool false, .int .u8 0, .int .i64 0, .int .i64 0, .slice none 0 0, .pointer none, .bool false, .int .i64 0, .int .i64 0, .bool false, .int .i64 0] 42)) := Below.alloc (hw2) (hz2) _
  have hS4 : (w2.alloc (.cells #[.bool false, .int .u8 0, .int .i64 0, .int .i64 0, .slice none 0 0, .pointer none, .bool false, .int .i64 0, .int .i64 0, .bool false, .int .i64 0] 42)).heap.size = w2.heap.size + 1 := by simp
  generalize hg : w2.heap.size = g at hT hS4 ⊢
  have hg0 : w.heap.size ≤ g := by rw [← hg]; exact (hz2)
  generalize w2.alloc (.cells #[.bool false, .int .u8 0, .int .i64 0, .int .i64 0, .slice none 0 0, .pointer none, .bool false, .int .i64 0, .int .i64 0, .bool false, .int .i64 0] 42) = W4 at *
  replace hB4 := Lib.hid hB4
  replace hg0 := Lib.hid hg0
  refine startT (S := fun a => a.block = g) (T := [3]) 4 (l := #[false, false, false, false]) (by kernel_rfl) rfl rfl ?_
  have c0 : W4.drew.cell? ⟨g, 0, none⟩ = some (.bool false) := Ev.cell_row hT 0
  have c1 : W4.drew.cell? ⟨g, 1, none⟩ = some (.int .u8 0) := Ev.cell_row hT 1
  have c2 : W4.drew.cell? ⟨g, 2, none⟩ = some (.int .i64 0) := Ev.cell_row hT 2
  have c3 : W4.drew.cell? ⟨g, 3, none⟩ = some (.int .i64 0) := Ev.cell_row hT 3
  have c4 : W4.drew.cell? ⟨g, 4, none⟩ = some (.slice none 0 0) := Ev.cell_row hT 4
  have c5 : W4.drew.cell? ⟨g, 5, none⟩ = some (.pointer none) := Ev.cell_row hT 5
  have c6 : W4.drew.cell? ⟨g, 6, none⟩ = some (.bool false) := Ev.cell_row hT 6
  have c7 : W4.drew.cell? ⟨g, 7, none⟩ = some (.int .i64 0) := Ev.cell_row hT 7
  have c8 : W4.drew.cell? ⟨g, 8, none⟩ = some (.int .i64 0) := Ev.cell_row hT 8
  have c9 : W4.drew.cell? ⟨g, 9, none⟩ = some (.bool false) := Ev.cell_row hT 9
  have c10 : W4.drew.cell? ⟨g, 10, none⟩ = some (.int .i64 0) := Ev.cell_row hT 10
  ((first | (refine takeT 0 (v := ?_) rfl (by decide +kernel) (by decide +kernel) (by decide +kernel) (fun _ _ _ h => h) (by decide +kernel) (Or.inl ⟨by rfl, ?_⟩) ?_; rotate_left 1; (focus (intro W hW; have hcW := hW.at; (try dsimp only at hcW); go_simp; first | done | with_reducible rfl)); try simp only [Act.put, List.setIfInBounds_toArray, List.set_cons_zero, List.set_cons_succ]) | (refine takeW 0 (v := ?_) rfl (by decide +kernel) (by decide +kernel) (by decide +kernel) (fun _ _ _ h => h) (Or.inl ⟨by rfl, ?_⟩) ?_; rotate_left 1; (focus (intro W hW; go_simp; first | done | with_reducible rfl)); try simp only [Act.put, List.setIfInBounds_toArray, List.set_cons_zero, List.set_cons_succ]) | (refine takeW 0 rfl (by decide +kernel) (by decide +kernel) (by decide +kernel) (fun _ _ _ h => h) (Or.inr ⟨by rfl, rfl⟩) ?_; try simp only [Act.put, List.setIfInBounds_toArray, List.set_cons_zero, List.set_cons_succ]) | skip))
  clear c0 c1 c2 c3 c4 c5 c6 c7 c8 c9 c10
  refine stepT 1 rfl (by decide +kernel) (by rfl) (fun K hK => ?_)
  go_simp
  refine (done_any W4.drew).mono ?_
  rintro r w5 ⟨⟨o5, A5, n5, k5, rfl⟩, hb5⟩
  replace hb5 : Below W4.heap.size W4 w5 := below_undrew hb5
  have hz5 : g + 1 ≤ w5.heap.size := by have := hb5.size; omega
  refine hK _ _ (.inr fun a ha => hb5.cell (by have : a.block = g := ha; omega)) ?_
  clear hK K
  try simp only [Act.put, List.setIfInBounds_toArray, List.set_cons_zero, List.set_cons_succ]
  refine stepT 2 rfl (by decide +kernel) (by rfl) (fun K hK => ?_)
  go_simp
  refine (answer_zero w5 o5 A5 n5 k5).mono ?_
  rintro r w6 ⟨rfl, hb6⟩
  refine hK _ _ (.inr fun a ha => hb6.cell (by have : a.block = g := ha; omega)) ?_
  clear hK K
  try simp only [Act.put, List.setIfInBounds_toArray, List.set_cons_zero, List.set_cons_succ]
  have hT6 : w6.heap[g]? = some _ := (hb6.block _ (by omega)).trans ((hb5.block _ (by omega)).trans hT)
  have hb46 : Below w.heap.size w w6 := hB4.out.trans ((hb5.mono (by have := hg0.out; omega)).trans (hb6.mono (by have := hg0.out; omega)))
  have hz6 : g + 1 ≤ w6.heap.size := by have := hb6.size; omega
  have hF := putAll_same [.bool false, .int .u8 0, .int .i64 0, .int .i64 0, .slice none 0 0, .pointer none, .bool false, .int .i64 0, .int .i64 0, .bool false, .int .i64 0] 0 w6 _ hT6
  have hG := putAll_below hg0.out [.bool false, .int .u8 0, .int .i64 0, .int .i64 0, .slice none 0 0, .pointer none, .bool false, .int .i64 0, .int .i64 0, .bool false, .int .i64 0] 0 w6 hb46
  have hZ := putAll_size (B := g) [.bool false, .int .u8 0, .int .i64 0, .int .i64 0, .slice none 0 0, .pointer none, .bool false, .int .i64 0, .int .i64 0, .bool false, .int .i64 0] 0 w6
  simp only [putAll, setAll, Nat.zero_add, Nat.reduceAdd, List.setIfInBounds_toArray, List.set_cons_zero, List.set_cons_succ] at hF hG hZ
  replace hF := Lib.hid hF
  replace hG := Lib.hid hG
  replace hZ := Lib.hid hZ
  have r0 : w6.cell? ⟨g, 0, none⟩ = some (.bool false) := Ev.cell_row hT6 0
  have r1 : w6.cell? ⟨g, 1, none⟩ = some (.int .u8 0) := Ev.cell_row hT6 1
  have r2 : w6.cell? ⟨g, 2, none⟩ = some (.int .i64 0) := Ev.cell_row hT6 2
  have r3 : w6.cell? ⟨g, 3, none⟩ = some (.int .i64 0) := Ev.cell_row hT6 3
  have r4 : w6.cell? ⟨g, 4, none⟩ = some (.slice none 0 0) := Ev.cell_row hT6 4
  have r5 : w6.cell? ⟨g, 5, none⟩ = some (.pointer none) := Ev.cell_row hT6 5
  have r6 : w6.cell? ⟨g, 6, none⟩ = some (.bool false) := Ev.cell_row hT6 6
  have r7 : w6.cell? ⟨g, 7, none⟩ = some (.int .i64 0) := Ev.cell_row hT6 7
  have r8 : w6.cell? ⟨g, 8, none⟩ = some (.int .i64 0) := Ev.cell_row hT6 8
  have r9 : w6.cell? ⟨g, 9, none⟩ = some (.bool false) := Ev.cell_row hT6 9
  have r10 : w6.cell? ⟨g, 10, none⟩ = some (.int .i64 0) := Ev.cell_row hT6 10

  have fR : ∀ i, w6.frozen? ⟨g, i, none⟩ = false := fun i => by simp [World.frozen?, hT6]
  clear hT6 hb46 hb5 hb6 hT
  refine stepT 3 rfl (by decide +kernel) (by rfl) (fun K hK => ?_)
  go_simp
  refine hK _ _ (.inl (by simp)) ?_
  clear hK K r0 r1 r2 r3 r4 r5 r6 r7 r8 r9 r10 fR
  try simp only [Act.put, List.setIfInBounds_toArray, List.set_cons_zero, List.set_cons_succ]
  refine doneT (by kernel_rfl) ?_
  generalize hW7 : (((((((((((w6).setCell ⟨g, 0, none⟩ (.bool false)).setCell ⟨g, 1, none⟩ (.int .u8 0)).setCell ⟨g, 2, none⟩ (.int .i64 0)).setCell ⟨g, 3, none⟩ (.int .i64 0)).setCell ⟨g, 4, none⟩ (.slice none 0 0)).setCell ⟨g, 5, none⟩ (.pointer none)).setCell ⟨g, 6, none⟩ (.bool false)).setCell ⟨g, 7, none⟩ (.int .i64 0)).setCell ⟨g, 8, none⟩ (.int .i64 0)).setCell ⟨g, 9, none⟩ (.bool false)).setCell ⟨g, 10, none⟩ (.int .i64 0) = W7 at hF hG hZ ⊢
  clear hW7
  have z7 : g < W7.heap.size := by have := hZ.out; omega
  have tW70 : W7.cell? ⟨g, 0, none⟩ = some (.bool false) := Ev.cell_row hF.out 0
  have tW71 : W7.cell? ⟨g, 1, none⟩ = some (.int .u8 0) := Ev.cell_row hF.out 1
  have tW72 : W7.cell? ⟨g, 2, none⟩ = some (.int .i64 0) := Ev.cell_row hF.out 2
  have tW73 : W7.cell? ⟨g, 3, none⟩ = some (.int .i64 0) := Ev.cell_row hF.out 3
  have tW74 : W7.cell? ⟨g, 4, none⟩ = some (.slice none 0 0) := Ev.cell_row hF.out 4
  have tW75 : W7.cell? ⟨g, 5, none⟩ = some (.pointer none) := Ev.cell_row hF.out 5
  have tW76 : W7.cell? ⟨g, 6, none⟩ = some (.bool false) := Ev.cell_row hF.out 6
  have tW77 : W7.cell? ⟨g, 7, none⟩ = some (.int .i64 0) := Ev.cell_row hF.out 7
  have tW78 : W7.cell? ⟨g, 8, none⟩ = some (.int .i64 0) := Ev.cell_row hF.out 8
  have tW79 : W7.cell? ⟨g, 9, none⟩ = some (.bool false) := Ev.cell_row hF.out 9
  have tW710 : W7.cell? ⟨g, 10, none⟩ = some (.int .i64 0) := Ev.cell_row hF.out 10
  go_wp2_with (first
    | (go_at_call 16; refine (next_zero _).mono ?_; rintro r w8 ⟨rfl, hb8⟩; have h8 := (hb8.block g (by first | omega | (simp; omega))).trans (by first | exact hF.out | exact (Below.heap_alloc _ _ g z7).trans hF.out); have z8 : g < w8.heap.size := Nat.lt_of_lt_of_le z7 (by have := hb8.size; first | omega | (simp at this; omega)); have tw80 : w8.cell? ⟨g, 0, none⟩ = some (.bool false) := Ev.cell_row (h8) 0; have tw81 : w8.cell? ⟨g, 1, none⟩ = some (.int .u8 0) := Ev.cell_row (h8) 1; have tw82 : w8.cell? ⟨g, 2, none⟩ = some (.int .i64 0) := Ev.cell_row (h8) 2; have tw83 : w8.cell? ⟨g, 3, none⟩ = some (.int .i64 0) := Ev.cell_row (h8) 3; have tw84 : w8.cell? ⟨g, 4, none⟩ = some (.slice none 0 0) := Ev.cell_row (h8) 4; have tw85 : w8.cell? ⟨g, 5, none⟩ = some (.pointer none) := Ev.cell_row (h8) 5; have tw86 : w8.cell? ⟨g, 6, none⟩ = some (.bool false) := Ev.cell_row (h8) 6; have tw87 : w8.cell? ⟨g, 7, none⟩ = some (.int .i64 0) := Ev.cell_row (h8) 7; have tw88 : w8.cell? ⟨g, 8, none⟩ = some (.int .i64 0) := Ev.cell_row (h8) 8; have tw89 : w8.cell? ⟨g, 9, none⟩ = some (.bool false) := Ev.cell_row (h8) 9; have tw810 : w8.cell? ⟨g, 10, none⟩ = some (.int .i64 0) := Ev.cell_row (h8) 10; replace hb8 := Lib.hid hb8; replace h8 := Lib.hid h8)
    | (go_at_call 17; refine (end_not _ _ _ _ _ _ _ _ _ _ _ _ _).mono ?_; rintro r w9 ⟨rfl, hb9⟩; have h9 := (hb9.block g (by first | omega | (simp; omega))).trans (by first | exact h8.out | exact (Below.heap_alloc _ _ g z8).trans h8.out); have z9 : g < w9.heap.size := Nat.lt_of_lt_of_le z8 (by have := hb9.size; first | omega | (simp at this; omega)); have tw90 : w9.cell? ⟨g, 0, none⟩ = some (.bool false) := Ev.cell_row (h9) 0; have tw91 : w9.cell? ⟨g, 1, none⟩ = some (.int .u8 0) := Ev.cell_row (h9) 1; have tw92 : w9.cell? ⟨g, 2, none⟩ = some (.int .i64 0) := Ev.cell_row (h9) 2; have tw93 : w9.cell? ⟨g, 3, none⟩ = some (.int .i64 0) := Ev.cell_row (h9) 3; have tw94 : w9.cell? ⟨g, 4, none⟩ = some (.slice none 0 0) := Ev.cell_row (h9) 4; have tw95 : w9.cell? ⟨g, 5, none⟩ = some (.pointer none) := Ev.cell_row (h9) 5; have tw96 : w9.cell? ⟨g, 6, none⟩ = some (.bool false) := Ev.cell_row (h9) 6; have tw97 : w9.cell? ⟨g, 7, none⟩ = some (.int .i64 0) := Ev.cell_row (h9) 7; have tw98 : w9.cell? ⟨g, 8, none⟩ = some (.int .i64 0) := Ev.cell_row (h9) 8; have tw99 : w9.cell? ⟨g, 9, none⟩ = some (.bool false) := Ev.cell_row (h9) 9; have tw910 : w9.cell? ⟨g, 10, none⟩ = some (.int .i64 0) := Ev.cell_row (h9) 10; replace hb9 := Lib.hid hb9; replace h9 := Lib.hid h9)
    | (go_at_call 18; refine (toggle_any _ _ _ _ _ _ _ _ _ _ _ _ _ _).mono ?_; rintro r w10 ⟨rfl, hb10⟩; have h10 := (hb10.block g (by first | omega | (simp; omega))).trans (by first | exact h9.out | exact (Below.heap_alloc _ _ g z9).trans h9.out); have z10 : g < w10.heap.size := Nat.lt_of_lt_of_le z9 (by have := hb10.size; first | omega | (simp at this; omega)); have tw100 : w10.cell? ⟨g, 0, none⟩ = some (.bool false) := Ev.cell_row (h10) 0; have tw101 : w10.cell? ⟨g, 1, none⟩ = some (.int .u8 0) := Ev.cell_row (h10) 1; have tw102 : w10.cell? ⟨g, 2, none⟩ = some (.int .i64 0) := Ev.cell_row (h10) 2; have tw103 : w10.cell? ⟨g, 3, none⟩ = some (.int .i64 0) := Ev.cell_row (h10) 3; have tw104 : w10.cell? ⟨g, 4, none⟩ = some (.slice none 0 0) := Ev.cell_row (h10) 4; have tw105 : w10.cell? ⟨g, 5, none⟩ = some (.pointer none) := Ev.cell_row (h10) 5; have tw106 : w10.cell? ⟨g, 6, none⟩ = some (.bool false) := Ev.cell_row (h10) 6; have tw107 : w10.cell? ⟨g, 7, none⟩ = some (.int .i64 0) := Ev.cell_row (h10) 7; have tw108 : w10.cell? ⟨g, 8, none⟩ = some (.int .i64 0) := Ev.cell_row (h10) 8; have tw109 : w10.cell? ⟨g, 9, none⟩ = some (.bool false) := Ev.cell_row (h10) 9; have tw1010 : w10.cell? ⟨g, 10, none⟩ = some (.int .i64 0) := Ev.cell_row (h10) 10; replace hb10 := Lib.hid hb10; replace h10 := Lib.hid h10)
    | (go_at_call 19; refine (errors_any _ _ _ _ _ _ _ _ _ _ _ _ _ _).mono ?_; rintro r w11 ⟨rfl, hb11⟩; replace hb11 := Lib.hid hb11)
    | (go_at_call 8; refine (lives_any _).mono ?_; rintro r w12 ⟨rfl, hb12⟩; replace hb12 := Lib.hid hb12))
  go_ret
  have e8 : Below w.heap.size w w8 := hG.out.trans (hb8.out.mono (by have := hG.out.size; omega))
  have e9 : Below w.heap.size w w9 := by
    have := e8.size
    first
      | exact (e8.alloc this _).trans (hb9.out.mono (by simp; omega))
      | exact e8.trans (hb9.out.mono this)
  have e10 : Below w.heap.size w w10 := by
    have := e9.size
    first
      | exact (e9.alloc this _).trans (hb10.out.mono (by simp; omega))
      | exact e9.trans (hb10.out.mono this)
  have e11 : Below w.heap.size w w11 := e10.trans (hb11.out.mono e10.size)
  exact ⟨rfl, e11.trans (hb12.out.mono e11.size)⟩
set_option maxHeartbeats 4000000 in
theorem law_limA (w : World) (inn : Bool) (endp : Nat) (max : Int) (tog : Bool) (A : Option Addr) (c : Nat) (xs : List UInt8) (zero : Bool) (len : Int) (more : Nat) (hmb : more < 65536) (hr : Rd w w.heap.size A c xs) (h : ¬ 300 < (xs.length : Int)) (hm : (more : Int) % 8 = 0) (hv : ∀ n, 65400 ≤ n → okP inn endp max n zero len = true) (hlim : 65536 < 65400 + (more / 8) % 300 + xs.length) :
    Calls Try.prog 5 #[planV inn endp max tog A xs.length c zero len, .int .u16 more] w fun r w' => r = .returned (.bool true) ∧ Below w.heap.size w w' := by
  obtain ⟨q, hq⟩ : ∃ q : Nat, (more : Int) / 8 = (q : Int) := ⟨more / 8, by omega⟩
  obtain ⟨r3, hr3⟩ : ∃ r : Nat, (q : Int) % 300 = (r : Int) := ⟨q % 300, by omega⟩
  have hr3b : r3 < 300 := by omega
  have hqb : q < 65536 := by omega
  obtain ⟨K, hK⟩ : ∃ K : Nat, 65400 + (r3 : Int) = (K : Int) := ⟨65400 + r3, by omega⟩
  have hKb : K < 65700 ∧ 65400 ≤ K := by omega
  obtain ⟨ys, hys⟩ : ∃ ys, xs ++ List.replicate K (0 : UInt8) = ys := ⟨_, rfl⟩
  have hyl : ys.length = xs.length + K := by rw [← hys]; simp
  have hyb : 65400 ≤ ys.length ∧ ys.length ≤ 66000 := by omega
  have hv2 := hv ys.length (by omega)
  have he : errS inn endp max ys.length zero len = 3 := by simp [errS, hv2]; omega
  have hE := fun (W : World) (A : Option Addr) (c : Nat) => refErr_any W inn endp max tog A ys.length c zero len
  rw [he] at hE
  replace hE := Lib.hid hE
  have hS := Lib.hid fun (W : World) (A : Option Addr) (c : Nat) => start2 W inn zero endp max tog A ys.length c len hv2 (by omega)
  replace hv2 := Lib.hid hv2
  clear he hv
  have ho : ((w.alloc (.cells #[.bool inn, .int .u8 endp, .int .i64 max, .bool tog, .slice A xs.length c, .bool zero, .int .i64 len] 37)).alloc (.cells #[] 5)).ownsRow (w.heap.size + 1) 5 1 (.slice (some ⟨w.heap.size + 1, 0, none⟩) 0 0) 0 (([] : List UInt8).map bv) := by
    have := own_built (w.alloc (.cells #[.bool inn, .int .u8 endp, .int .i64 max, .bool tog, .slice A xs.length c, .bool zero, .int .i64 len] 37)) 5 [] (by simp)
    simpa using this
  have hr1 : Rd ((w.alloc (.cells #[.bool inn, .int .u8 endp, .int .i64 max, .bool tog, .slice A xs.length c, .bool zero, .int .i64 len] 37)).alloc (.cells #[] 5)) w.heap.size A c xs := (hr.alloc (Nat.le_refl _) _).alloc (by simp) _
  have hb0 : Below w.heap.size w ((w.alloc (.cells #[.bool inn, .int .u8 endp, .int .i64 max, .bool tog, .slice A xs.length c, .bool zero, .int .i64 len] 37)).alloc (.cells #[] 5)) := ((Below.refl _ w).alloc (Nat.le_refl _) _).alloc (by simp) _
  have hPb : ((w.alloc (.cells #[.bool inn, .int .u8 endp, .int .i64 max, .bool tog, .slice A xs.length c, .bool zero, .int .i64 len] 37)).alloc (.cells #[] 5)).heap[w.heap.size]? = some (.cells #[.bool inn, .int .u8 endp, .int .i64 max, .bool tog, .slice A xs.length c, .bool zero, .int .i64 len] 37 (0, 0)) := heapN (heap_alloc_new w _) _ (by simp)
  replace hb0 := Lib.hid hb0
  replace hPb := Lib.hid hPb
  replace hyl := Lib.hid hyl
  replace hys := Lib.hid hys
  go_enter Try.func5, Try.ntmps5
  go_wp2_with (first
    | (at_builtin; refine wpl_appendN Try.underlying22 Try.infoU rfl (.tmp 23) (.tmp 25) rfl (w.heap.size + 1) _ [] rfl ho _ _ _ xs hr1 rfl (by simp; omega) (by simp) ?_; intro v1 u1 own1 hbu1; rw [List.nil_append] at own1; obtain ⟨A1, c1, rfl, hrd1⟩ := Rd.of_own own1; clear hrd1; have zu1 : w.heap.size + 2 ≤ u1.heap.size := (by have := hbu1.size; simp at this; omega); replace own1 := Lib.hid own1; replace hbu1 := Lib.hid hbu1; clear ho hr1)
    | (at_builtin; refine wpl_appendZeros Try.underlying22 Try.underlying3 Try.infoU rfl (.tmp 26) (.tmp 31) rfl (w.heap.size + 1) _ xs rfl own1.out K rfl (by omega) (by omega) ?_; intro v2 u2 own2 hbu2; rw [hys.out] at own2; obtain ⟨A2, kc2, rfl, hrd2⟩ := Rd.of_own own2; have hPu := (hbu2.block w.heap.size (by omega)).trans ((hbu1.out.block w.heap.size (by simp)).trans hPb.out); have pu0 : u2.cell? ⟨w.heap.size, 0, none⟩ = some (.bool inn) := Ev.cell_row hPu 0; have pu1 : u2.cell? ⟨w.heap.size, 1, none⟩ = some (.int .u8 endp) := Ev.cell_row hPu 1; have pu2 : u2.cell? ⟨w.heap.size, 2, none⟩ = some (.int .i64 max) := Ev.cell_row hPu 2; have pu3 : u2.cell? ⟨w.heap.size, 3, none⟩ = some (.bool tog) := Ev.cell_row hPu 3; have pu4 : u2.cell? ⟨w.heap.size, 4, none⟩ = some (.slice A xs.length c) := Ev.cell_row hPu 4; have pu5 : u2.cell? ⟨w.heap.size, 5, none⟩ = some (.bool zero) := Ev.cell_row hPu 5; have pu6 : u2.cell? ⟨w.heap.size, 6, none⟩ = some (.int .i64 len) := Ev.cell_row hPu 6; have fu : ∀ i, u2.frozen? ⟨w.heap.size, i, none⟩ = false := (fun i => by simp [World.frozen?, hPu]); have zu2 : w.heap.size + 2 ≤ u2.heap.size := Nat.le_trans zu1 hbu2.size; have hP0 := putAll_same [.slice A2 ys.length kc2] 4 u2 _ hPu; have hB0 := putAll_below (Nat.le_refl w.heap.size) [.slice A2 ys.length kc2] 4 u2 ((hb0.out.trans (hbu1.out.mono (by simp))).trans (hbu2.mono (by omega))); have hZ0 := putAll_size (B := w.heap.size) [.slice A2 ys.length kc2] 4 u2; have hD0 := hrd2; replace hD0 : Rd (u2.setCell ⟨w.heap.size, 4, none⟩ (.slice A2 ys.length kc2)) u2.heap.size A2 kc2 ys := rd_setOwn own2 (by omega) (by decide) _; simp only [putAll, setAll, List.setIfInBounds_toArray, List.set_cons_zero, List.set_cons_succ] at hP0 hB0 hZ0; replace hP0 := Lib.hid hP0; replace hB0 := Lib.hid hB0; replace hZ0 := Lib.hid hZ0; replace hD0 := Lib.hid hD0; replace hbu2 := Lib.hid hbu2; clear hrd2 own2 hPu)
    | (go_at_call 12; refine (hE.out _ _ _).mono ?_; rintro r w1 ⟨rfl, hb1⟩; clear pu0 pu1 pu2 pu3 pu4 pu5 pu6 fu; have hP1 := (hb1.block w.heap.size (by have := hZ0.out; omega)).trans hP0.out; have yp1 : w.heap.size < w1.heap.size := (by have := hb1.size; have := hZ0.out; omega); have p0 : w1.cell? ⟨w.heap.size, 0, none⟩ = some (.bool inn) := Ev.cell_row hP1 0; have p1 : w1.cell? ⟨w.heap.size, 1, none⟩ = some (.int .u8 endp) := Ev.cell_row hP1 1; have p2 : w1.cell? ⟨w.heap.size, 2, none⟩ = some (.int .i64 max) := Ev.cell_row hP1 2; have p3 : w1.cell? ⟨w.heap.size, 3, none⟩ = some (.bool tog) := Ev.cell_row hP1 3; have p4 : w1.cell? ⟨w.heap.size, 4, none⟩ = some (.slice A2 ys.length kc2) := Ev.cell_row hP1 4; have p5 : w1.cell? ⟨w.heap.size, 5, none⟩ = some (.bool zero) := Ev.cell_row hP1 5; have p6 : w1.cell? ⟨w.heap.size, 6, none⟩ = some (.int .i64 len) := Ev.cell_row hP1 6; replace hb1 := Lib.hid hb1; replace hP1 := Lib.hid hP1)
    | (go_at_call 13; refine (hS.out _ _ _).mono ?_; rintro r w2 ⟨rfl, hb2⟩; replace hb2 := Lib.hid hb2; clear p0 p1 p2 p3 p4 p5 p6))
  have hw2 : Below w.heap.size w w2 := (hB0.out.trans (hb1.out.mono (by have := hZ0.out; omega))).trans (hb2.out.mono (Nat.le_of_lt yp1))
  have hz2 : w.heap.size ≤ w2.heap.size := hw2.size
  have hT := heap_alloc_new w2 (.cells #[.bool false, .int .u8 0, .int .i64 0, .int .i64 0, .slice none 0 0, .pointer none, .bool false, .int .i64 0, .int .i64 0, .bool false, .int .i64 0] 42)
  have hB4 : Below w.heap.size w (w2.alloc (.cells #[.bool false, .int .u8 0, .int .i64 0, .int .i64 0, .slice none 0 0, .pointer none, .bool false, .int .i64 0, .int .i64 0, .bool false, .int .i64 0] 42)) := Below.alloc (hw2) (hz2) _
  have hS4 : (w2.alloc (.cells #[.bool false, .int .u8 0, .int .i64 0, .int .i64 0, .slice none 0 0, .pointer none, .bool false, .int .i64 0, .int .i64 0, .bool false, .int .i64 0] 42)).heap.size = w2.heap.size + 1 := by simp
  generalize hg : w2.heap.size = g at hT hS4 ⊢
  have hg0 : w.heap.size ≤ g := by rw [← hg]; exact (hz2)
  generalize w2.alloc (.cells #[.bool false, .int .u8 0, .int .i64 0, .int .i64 0, .slice none 0 0, .pointer none, .bool false, .int .i64 0, .int .i64 0, .bool false, .int .i64 0] 42) = W4 at *
  replace hB4 := Lib.hid hB4
  replace hg0 := Lib.hid hg0
  refine startT (S := fun a => a.block = g) (T := [3]) 4 (l := #[false, false, false, false]) (by kernel_rfl) rfl rfl ?_
  have c0 : W4.drew.cell? ⟨g, 0, none⟩ = some (.bool false) := Ev.cell_row hT 0
  have c1 : W4.drew.cell? ⟨g, 1, none⟩ = some (.int .u8 0) := Ev.cell_row hT 1
  have c2 : W4.drew.cell? ⟨g, 2, none⟩ = some (.int .i64 0) := Ev.cell_row hT 2
  have c3 : W4.drew.cell? ⟨g, 3, none⟩ = some (.int .i64 0) := Ev.cell_row hT 3
  have c4 : W4.drew.cell? ⟨g, 4, none⟩ = some (.slice none 0 0) := Ev.cell_row hT 4
  have c5 : W4.drew.cell? ⟨g, 5, none⟩ = some (.pointer none) := Ev.cell_row hT 5
  have c6 : W4.drew.cell? ⟨g, 6, none⟩ = some (.bool false) := Ev.cell_row hT 6
  have c7 : W4.drew.cell? ⟨g, 7, none⟩ = some (.int .i64 0) := Ev.cell_row hT 7
  have c8 : W4.drew.cell? ⟨g, 8, none⟩ = some (.int .i64 0) := Ev.cell_row hT 8
  have c9 : W4.drew.cell? ⟨g, 9, none⟩ = some (.bool false) := Ev.cell_row hT 9
  have c10 : W4.drew.cell? ⟨g, 10, none⟩ = some (.int .i64 0) := Ev.cell_row hT 10
  ((first | (refine takeT 0 (v := ?_) rfl (by decide +kernel) (by decide +kernel) (by decide +kernel) (fun _ _ _ h => h) (by decide +kernel) (Or.inl ⟨by rfl, ?_⟩) ?_; rotate_left 1; (focus (intro W hW; have hcW := hW.at; (try dsimp only at hcW); go_simp; first | done | with_reducible rfl)); try simp only [Act.put, List.setIfInBounds_toArray, List.set_cons_zero, List.set_cons_succ]) | (refine takeW 0 (v := ?_) rfl (by decide +kernel) (by decide +kernel) (by decide +kernel) (fun _ _ _ h => h) (Or.inl ⟨by rfl, ?_⟩) ?_; rotate_left 1; (focus (intro W hW; go_simp; first | done | with_reducible rfl)); try simp only [Act.put, List.setIfInBounds_toArray, List.set_cons_zero, List.set_cons_succ]) | (refine takeW 0 rfl (by decide +kernel) (by decide +kernel) (by decide +kernel) (fun _ _ _ h => h) (Or.inr ⟨by rfl, rfl⟩) ?_; try simp only [Act.put, List.setIfInBounds_toArray, List.set_cons_zero, List.set_cons_succ]) | skip))
  clear c0 c1 c2 c3 c4 c5 c6 c7 c8 c9 c10
  refine stepT 1 rfl (by decide +kernel) (by rfl) (fun K hK => ?_)
  go_simp
  refine (done_any W4.drew).mono ?_
  rintro r w5 ⟨⟨o5, A5, n5, k5, rfl⟩, hb5⟩
  replace hb5 : Below W4.heap.size W4 w5 := below_undrew hb5
  have hz5 : g + 1 ≤ w5.heap.size := by have := hb5.size; omega
  refine hK _ _ (.inr fun a ha => hb5.cell (by have : a.block = g := ha; omega)) ?_
  clear hK K
  try simp only [Act.put, List.setIfInBounds_toArray, List.set_cons_zero, List.set_cons_succ]
  refine stepT 2 rfl (by decide +kernel) (by rfl) (fun K hK => ?_)
  go_simp
  refine (answer_zero w5 o5 A5 n5 k5).mono ?_
  rintro r w6 ⟨rfl, hb6⟩
  refine hK _ _ (.inr fun a ha => hb6.cell (by have : a.block = g := ha; omega)) ?_
  clear hK K
  try simp only [Act.put, List.setIfInBounds_toArray, List.set_cons_zero, List.set_cons_succ]
  have hT6 : w6.heap[g]? = some _ := (hb6.block _ (by omega)).trans ((hb5.block _ (by omega)).trans hT)
  have hb46 : Below w.heap.size w w6 := hB4.out.trans ((hb5.mono (by have := hg0.out; omega)).trans (hb6.mono (by have := hg0.out; omega)))
  have hz6 : g + 1 ≤ w6.heap.size := by have := hb6.size; omega
  have hF := putAll_same [.bool false, .int .u8 0, .int .i64 0, .int .i64 0, .slice none 0 0, .pointer none, .bool false, .int .i64 0, .int .i64 0, .bool false, .int .i64 0] 0 w6 _ hT6
  have hG := putAll_below hg0.out [.bool false, .int .u8 0, .int .i64 0, .int .i64 0, .slice none 0 0, .pointer none, .bool false, .int .i64 0, .int .i64 0, .bool false, .int .i64 0] 0 w6 hb46
  have hZ := putAll_size (B := g) [.bool false, .int .u8 0, .int .i64 0, .int .i64 0, .slice none 0 0, .pointer none, .bool false, .int .i64 0, .int .i64 0, .bool false, .int .i64 0] 0 w6
  simp only [putAll, setAll, Nat.zero_add, Nat.reduceAdd, List.setIfInBounds_toArray, List.set_cons_zero, List.set_cons_succ] at hF hG hZ
  replace hF := Lib.hid hF
  replace hG := Lib.hid hG
  replace hZ := Lib.hid hZ
  have r0 : w6.cell? ⟨g, 0, none⟩ = some (.bool false) := Ev.cell_row hT6 0
  have r1 : w6.cell? ⟨g, 1, none⟩ = some (.int .u8 0) := Ev.cell_row hT6 1
  have r2 : w6.cell? ⟨g, 2, none⟩ = some (.int .i64 0) := Ev.cell_row hT6 2
  have r3 : w6.cell? ⟨g, 3, none⟩ = some (.int .i64 0) := Ev.cell_row hT6 3
  have r4 : w6.cell? ⟨g, 4, none⟩ = some (.slice none 0 0) := Ev.cell_row hT6 4
  have r5 : w6.cell? ⟨g, 5, none⟩ = some (.pointer none) := Ev.cell_row hT6 5
  have r6 : w6.cell? ⟨g, 6, none⟩ = some (.bool false) := Ev.cell_row hT6 6
  have r7 : w6.cell? ⟨g, 7, none⟩ = some (.int .i64 0) := Ev.cell_row hT6 7
  have r8 : w6.cell? ⟨g, 8, none⟩ = some (.int .i64 0) := Ev.cell_row hT6 8
  have r9 : w6.cell? ⟨g, 9, none⟩ = some (.bool false) := Ev.cell_row hT6 9
  have r10 : w6.cell? ⟨g, 10, none⟩ = some (.int .i64 0) := Ev.cell_row hT6 10

  have fR : ∀ i, w6.frozen? ⟨g, i, none⟩ = false := fun i => by simp [World.frozen?, hT6]
  clear hT6 hb46 hb5 hb6 hT
  refine stepT 3 rfl (by decide +kernel) (by rfl) (fun K hK => ?_)
  go_simp
  refine hK _ _ (.inl (by simp)) ?_
  clear hK K r0 r1 r2 r3 r4 r5 r6 r7 r8 r9 r10 fR
  try simp only [Act.put, List.setIfInBounds_toArray, List.set_cons_zero, List.set_cons_succ]
  refine doneT (by kernel_rfl) ?_
  generalize hW7 : (((((((((((w6).setCell ⟨g, 0, none⟩ (.bool false)).setCell ⟨g, 1, none⟩ (.int .u8 0)).setCell ⟨g, 2, none⟩ (.int .i64 0)).setCell ⟨g, 3, none⟩ (.int .i64 0)).setCell ⟨g, 4, none⟩ (.slice none 0 0)).setCell ⟨g, 5, none⟩ (.pointer none)).setCell ⟨g, 6, none⟩ (.bool false)).setCell ⟨g, 7, none⟩ (.int .i64 0)).setCell ⟨g, 8, none⟩ (.int .i64 0)).setCell ⟨g, 9, none⟩ (.bool false)).setCell ⟨g, 10, none⟩ (.int .i64 0) = W7 at hF hG hZ ⊢
  clear hW7
  have z7 : g < W7.heap.size := by have := hZ.out; omega
  have tW70 : W7.cell? ⟨g, 0, none⟩ = some (.bool false) := Ev.cell_row hF.out 0
  have tW71 : W7.cell? ⟨g, 1, none⟩ = some (.int .u8 0) := Ev.cell_row hF.out 1
  have tW72 : W7.cell? ⟨g, 2, none⟩ = some (.int .i64 0) := Ev.cell_row hF.out 2
  have tW73 : W7.cell? ⟨g, 3, none⟩ = some (.int .i64 0) := Ev.cell_row hF.out 3
  have tW74 : W7.cell? ⟨g, 4, none⟩ = some (.slice none 0 0) := Ev.cell_row hF.out 4
  have tW75 : W7.cell? ⟨g, 5, none⟩ = some (.pointer none) := Ev.cell_row hF.out 5
  have tW76 : W7.cell? ⟨g, 6, none⟩ = some (.bool false) := Ev.cell_row hF.out 6
  have tW77 : W7.cell? ⟨g, 7, none⟩ = some (.int .i64 0) := Ev.cell_row hF.out 7
  have tW78 : W7.cell? ⟨g, 8, none⟩ = some (.int .i64 0) := Ev.cell_row hF.out 8
  have tW79 : W7.cell? ⟨g, 9, none⟩ = some (.bool false) := Ev.cell_row hF.out 9
  have tW710 : W7.cell? ⟨g, 10, none⟩ = some (.int .i64 0) := Ev.cell_row hF.out 10
  go_wp2_with (first
    | (go_at_call 16; refine (next_zero _).mono ?_; rintro r w8 ⟨rfl, hb8⟩; have h8 := (hb8.block g (by first | omega | (simp; omega))).trans (by first | exact hF.out | exact (Below.heap_alloc _ _ g z7).trans hF.out); have z8 : g < w8.heap.size := Nat.lt_of_lt_of_le z7 (by have := hb8.size; first | omega | (simp at this; omega)); have tw80 : w8.cell? ⟨g, 0, none⟩ = some (.bool false) := Ev.cell_row (h8) 0; have tw81 : w8.cell? ⟨g, 1, none⟩ = some (.int .u8 0) := Ev.cell_row (h8) 1; have tw82 : w8.cell? ⟨g, 2, none⟩ = some (.int .i64 0) := Ev.cell_row (h8) 2; have tw83 : w8.cell? ⟨g, 3, none⟩ = some (.int .i64 0) := Ev.cell_row (h8) 3; have tw84 : w8.cell? ⟨g, 4, none⟩ = some (.slice none 0 0) := Ev.cell_row (h8) 4; have tw85 : w8.cell? ⟨g, 5, none⟩ = some (.pointer none) := Ev.cell_row (h8) 5; have tw86 : w8.cell? ⟨g, 6, none⟩ = some (.bool false) := Ev.cell_row (h8) 6; have tw87 : w8.cell? ⟨g, 7, none⟩ = some (.int .i64 0) := Ev.cell_row (h8) 7; have tw88 : w8.cell? ⟨g, 8, none⟩ = some (.int .i64 0) := Ev.cell_row (h8) 8; have tw89 : w8.cell? ⟨g, 9, none⟩ = some (.bool false) := Ev.cell_row (h8) 9; have tw810 : w8.cell? ⟨g, 10, none⟩ = some (.int .i64 0) := Ev.cell_row (h8) 10; replace hb8 := Lib.hid hb8; replace h8 := Lib.hid h8)
    | (go_at_call 17; refine (end_not _ _ _ _ _ _ _ _ _ _ _ _ _).mono ?_; rintro r w9 ⟨rfl, hb9⟩; have h9 := (hb9.block g (by first | omega | (simp; omega))).trans (by first | exact h8.out | exact (Below.heap_alloc _ _ g z8).trans h8.out); have z9 : g < w9.heap.size := Nat.lt_of_lt_of_le z8 (by have := hb9.size; first | omega | (simp at this; omega)); have tw90 : w9.cell? ⟨g, 0, none⟩ = some (.bool false) := Ev.cell_row (h9) 0; have tw91 : w9.cell? ⟨g, 1, none⟩ = some (.int .u8 0) := Ev.cell_row (h9) 1; have tw92 : w9.cell? ⟨g, 2, none⟩ = some (.int .i64 0) := Ev.cell_row (h9) 2; have tw93 : w9.cell? ⟨g, 3, none⟩ = some (.int .i64 0) := Ev.cell_row (h9) 3; have tw94 : w9.cell? ⟨g, 4, none⟩ = some (.slice none 0 0) := Ev.cell_row (h9) 4; have tw95 : w9.cell? ⟨g, 5, none⟩ = some (.pointer none) := Ev.cell_row (h9) 5; have tw96 : w9.cell? ⟨g, 6, none⟩ = some (.bool false) := Ev.cell_row (h9) 6; have tw97 : w9.cell? ⟨g, 7, none⟩ = some (.int .i64 0) := Ev.cell_row (h9) 7; have tw98 : w9.cell? ⟨g, 8, none⟩ = some (.int .i64 0) := Ev.cell_row (h9) 8; have tw99 : w9.cell? ⟨g, 9, none⟩ = some (.bool false) := Ev.cell_row (h9) 9; have tw910 : w9.cell? ⟨g, 10, none⟩ = some (.int .i64 0) := Ev.cell_row (h9) 10; replace hb9 := Lib.hid hb9; replace h9 := Lib.hid h9)
    | (go_at_call 18; refine (toggle_any _ _ _ _ _ _ _ _ _ _ _ _ _ _).mono ?_; rintro r w10 ⟨rfl, hb10⟩; have h10 := (hb10.block g (by first | omega | (simp; omega))).trans (by first | exact h9.out | exact (Below.heap_alloc _ _ g z9).trans h9.out); have z10 : g < w10.heap.size := Nat.lt_of_lt_of_le z9 (by have := hb10.size; first | omega | (simp at this; omega)); have tw100 : w10.cell? ⟨g, 0, none⟩ = some (.bool false) := Ev.cell_row (h10) 0; have tw101 : w10.cell? ⟨g, 1, none⟩ = some (.int .u8 0) := Ev.cell_row (h10) 1; have tw102 : w10.cell? ⟨g, 2, none⟩ = some (.int .i64 0) := Ev.cell_row (h10) 2; have tw103 : w10.cell? ⟨g, 3, none⟩ = some (.int .i64 0) := Ev.cell_row (h10) 3; have tw104 : w10.cell? ⟨g, 4, none⟩ = some (.slice none 0 0) := Ev.cell_row (h10) 4; have tw105 : w10.cell? ⟨g, 5, none⟩ = some (.pointer none) := Ev.cell_row (h10) 5; have tw106 : w10.cell? ⟨g, 6, none⟩ = some (.bool false) := Ev.cell_row (h10) 6; have tw107 : w10.cell? ⟨g, 7, none⟩ = some (.int .i64 0) := Ev.cell_row (h10) 7; have tw108 : w10.cell? ⟨g, 8, none⟩ = some (.int .i64 0) := Ev.cell_row (h10) 8; have tw109 : w10.cell? ⟨g, 9, none⟩ = some (.bool false) := Ev.cell_row (h10) 9; have tw1010 : w10.cell? ⟨g, 10, none⟩ = some (.int .i64 0) := Ev.cell_row (h10) 10; replace hb10 := Lib.hid hb10; replace h10 := Lib.hid h10)
    | (go_at_call 19; refine (errors_any _ _ _ _ _ _ _ _ _ _ _ _ _ _).mono ?_; rintro r w11 ⟨rfl, hb11⟩; replace hb11 := Lib.hid hb11)
    | (go_at_call 8; refine (lives_any _).mono ?_; rintro r w12 ⟨rfl, hb12⟩; replace hb12 := Lib.hid hb12))
  go_ret
  have e8 : Below w.heap.size w w8 := hG.out.trans (hb8.out.mono (by have := hG.out.size; omega))
  have e9 : Below w.heap.size w w9 := by
    have := e8.size
    first
      | exact (e8.alloc this _).trans (hb9.out.mono (by simp; omega))
      | exact e8.trans (hb9.out.mono this)
  have e10 : Below w.heap.size w w10 := by
    have := e9.size
    first
      | exact (e9.alloc this _).trans (hb10.out.mono (by simp; omega))
      | exact e9.trans (hb10.out.mono this)
  have e11 : Below w.heap.size w w11 := e10.trans (hb11.out.mono e10.size)
  exact ⟨rfl, e11.trans (hb12.out.mono e11.size)⟩
end Go.Proofs.Ytfaocndelibadaa
